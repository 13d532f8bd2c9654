/-
  FOR THE LAWS OF LAYER 12: an argument of type api.Event, by value, opened; numbers without sign, modulo another one. Conditions: as they stand.
-/
import Derived.Test.YtkfcglgikemefaaDoorWs
import Derived.Deep.Slices
import Derived.Deep.Fields
import Derived.Carry
namespace Go.Proofs.YtkfcglgikemefaaDoor
set_option maxRecDepth 100000
open Go.ChangeShapes Go.WideShapes Go.RowKit Go.Deep
set_option linter.unusedVariables false
section
variable {H : Type} {enc : TypeId × Value → H} {w : World} {base : Nat} {spare : Nat → Bool} {held : Bool}
theorem wf_u8W {n : Int} (h : (Lit.int .u8 n).wf = true) : 0 ≤ n ∧ n ≤ 255 := by simpa [Lit.wf, IntKind.min, IntKind.max, IntKind.signed, IntKind.bits] using h
theorem wf_i64W {n : Int} (h : (Lit.int .i64 n).wf = true) : -9223372036854775808 ≤ n ∧ n ≤ 9223372036854775807 := by simpa [Lit.wf, IntKind.min, IntKind.max, IntKind.signed, IntKind.bits] using h
theorem one_ofW {α : Type} {cs : List α} {j n : Nat} (hl : cs.length = n) (h : j < n) : ∃ v, (cs.drop j).take 1 = [v] ∧ cs[j]? = some v := by
  refine ⟨cs[j]'(by omega), ?_, List.getElem?_eq_getElem (by omega)⟩
  rw [List.drop_eq_getElem_cons (by omega)]
  rfl
theorem ev_cellsW : Tryd.prog.cellsOf 46 = 7 := by kernel_rfl
theorem cells_u8W : Tryd.prog.cellsOf 5 = 1 := by kernel_rfl
theorem cells_i64W : Tryd.prog.cellsOf 2 = 1 := by kernel_rfl
theorem cells_intW : Tryd.prog.cellsOf 3 = 1 := by kernel_rfl
/-- The seven cells of an event. -/
theorem open_cellsW {n : Nat} {cs : List Value} {x : DataW H × List MemPlace} (hl : cs.length = 7) (h : DataW.trod enc Tryd.prog w base spare held n 46 cs = some x) : ∃ e : Ev, EvOk e ∧ cs = [.int .u8 e.kd, .int .i64 e.th, .int .i64 e.tx, .int .i64 e.pl, .int .i64 e.v, .int .i64 e.x, .int .u8 e.why] := by
  obtain ⟨xs, m, _, _, _, hxl, hf⟩ := DataW.trod_struct Tryd.underlying46 h
  obtain ⟨v0, t0, g0⟩ := one_ofW hl (show 0 < 7 by omega)
  obtain ⟨v1, t1, g1⟩ := one_ofW hl (show 1 < 7 by omega)
  obtain ⟨v2, t2, g2⟩ := one_ofW hl (show 2 < 7 by omega)
  obtain ⟨v3, t3, g3⟩ := one_ofW hl (show 3 < 7 by omega)
  obtain ⟨v4, t4, g4⟩ := one_ofW hl (show 4 < 7 by omega)
  obtain ⟨v5, t5, g5⟩ := one_ofW hl (show 5 < 7 by omega)
  obtain ⟨v6, t6, g6⟩ := one_ofW hl (show 6 < 7 by omega)
  have hx : xs.length = 7 := hxl
  obtain ⟨y0, _, z0⟩ := one_ofW hx (show 0 < 7 by omega)
  obtain ⟨y1, _, z1⟩ := one_ofW hx (show 1 < 7 by omega)
  obtain ⟨y2, _, z2⟩ := one_ofW hx (show 2 < 7 by omega)
  obtain ⟨y3, _, z3⟩ := one_ofW hx (show 3 < 7 by omega)
  obtain ⟨y4, _, z4⟩ := one_ofW hx (show 4 < 7 by omega)
  obtain ⟨y5, _, z5⟩ := one_ofW hx (show 5 < 7 by omega)
  obtain ⟨y6, _, z6⟩ := one_ofW hx (show 6 < 7 by omega)
  have h0 : DataW.trod enc Tryd.prog w base spare held m 5 ((cs.drop 0).take (Tryd.prog.cellsOf 5)) = xs[0]? := hf 0 _ rfl
  have h1 : DataW.trod enc Tryd.prog w base spare held m 3 ((cs.drop 1).take (Tryd.prog.cellsOf 3)) = xs[1]? := hf 1 _ rfl
  have h2 : DataW.trod enc Tryd.prog w base spare held m 3 ((cs.drop 2).take (Tryd.prog.cellsOf 3)) = xs[2]? := hf 2 _ rfl
  have h3 : DataW.trod enc Tryd.prog w base spare held m 3 ((cs.drop 3).take (Tryd.prog.cellsOf 3)) = xs[3]? := hf 3 _ rfl
  have h4 : DataW.trod enc Tryd.prog w base spare held m 3 ((cs.drop 4).take (Tryd.prog.cellsOf 3)) = xs[4]? := hf 4 _ rfl
  have h5 : DataW.trod enc Tryd.prog w base spare held m 2 ((cs.drop 5).take (Tryd.prog.cellsOf 2)) = xs[5]? := hf 5 _ rfl
  have h6 : DataW.trod enc Tryd.prog w base spare held m 5 ((cs.drop 6).take (Tryd.prog.cellsOf 5)) = xs[6]? := hf 6 _ rfl
  simp only [cells_u8W, cells_i64W, cells_intW, t0, t1, t2, t3, t4, t5, t6, z0, z1, z2, z3, z4, z5, z6] at h0 h1 h2 h3 h4 h5 h6
  obtain ⟨a0, e0, _, w0⟩ := DataW.trod_int Tryd.underlying5 h0
  obtain ⟨a1, e1, _, w1⟩ := DataW.trod_int Tryd.underlying3 h1
  obtain ⟨a2, e2, _, w2⟩ := DataW.trod_int Tryd.underlying3 h2
  obtain ⟨a3, e3, _, w3⟩ := DataW.trod_int Tryd.underlying3 h3
  obtain ⟨a4, e4, _, w4⟩ := DataW.trod_int Tryd.underlying3 h4
  obtain ⟨a5, e5, _, w5⟩ := DataW.trod_int Tryd.underlying2 h5
  obtain ⟨a6, e6, _, w6⟩ := DataW.trod_int Tryd.underlying5 h6
  cases e0; cases e1; cases e2; cases e3; cases e4; cases e5; cases e6
  have b0 := wf_u8W w0
  have b1 := wf_i64W w1
  have b2 := wf_i64W w2
  have b3 := wf_i64W w3
  have b4 := wf_i64W w4
  have b5 := wf_i64W w5
  have b6 := wf_u8W w6
  refine ⟨⟨a0, a1, a2, a3, a4, a5, a6⟩, ⟨b0.1, b0.2, b6.1, b6.2, b1.1, b1.2, b2.1, b2.2, b3.1, b3.2, b4.1, b4.2, b5.1, b5.2⟩, ?_⟩
  apply List.ext_getElem?
  intro j
  match j with
  | 0 => exact g0
  | 1 => exact g1
  | 2 => exact g2
  | 3 => exact g3
  | 4 => exact g4
  | 5 => exact g5
  | 6 => exact g6
  | j + 7 => rw [List.getElem?_eq_none (by omega), List.getElem?_eq_none (by simp)]
/-- An argument of type api.Event, by value. -/
theorem open_event {r : Reach} {b0 : Nat} {v : Value} {d : DataW H} {ps : List MemPlace} (hv : Value.okWide Tryd.prog w r b0 46 v) (h : DataW.Trod enc Tryd.prog w base spare held 46 v d ps) : ∃ e : Ev, EvOk e ∧ v = evV e := by
  obtain ⟨fuel, hf⟩ := h
  have hu := Tryd.underlying46
  simp only [Value.okWide, hu] at hv
  obtain ⟨cs, rfl, h2, _⟩ := hv
  have h7 : cs.size = 7 := h2.trans (by kernel_rfl)
  obtain ⟨e, ok, hs⟩ := open_cellsW (cs := cs.toList) (by simpa using h7) hf
  exact ⟨e, ok, congrArg Value.agg (Array.toList_inj.1 hs)⟩
end
/-- The cells of an event that lies at g. -/
theorem evat {w : World} {g : Nat} {a b c d e f k : Value} {t : TypeId} (h : w.heap[g]? = some (.cells #[a, b, c, d, e, f, k] t (0, 0))) : w.cell? ⟨g, 0, none⟩ = some a ∧ w.cell? ⟨g, 1, none⟩ = some b ∧ w.cell? ⟨g, 2, none⟩ = some c ∧ w.cell? ⟨g, 3, none⟩ = some d ∧ w.cell? ⟨g, 4, none⟩ = some e ∧ w.cell? ⟨g, 5, none⟩ = some f ∧ w.cell? ⟨g, 6, none⟩ = some k :=
  ⟨cell_of_row w g 0 _ _ _ h, cell_of_row w g 1 _ _ _ h, cell_of_row w g 2 _ _ _ h, cell_of_row w g 3 _ _ _ h, cell_of_row w g 4 _ _ _ h, cell_of_row w g 5 _ _ _ h, cell_of_row w g 6 _ _ _ h⟩
theorem row_stays {W w : World} {g : Nat} {o : Obj} (h : W.heap[g]? = some o) (b : Below W.heap.size W w) : w.heap[g]? = some o := (b.block g (Array.getElem?_eq_some_iff.1 h).1).trans h
theorem row_staysN {W w : World} {n g : Nat} {o : Obj} (h : W.heap[g]? = some o) (b : Below n W w) (hg : g < n) : w.heap[g]? = some o := (b.block g hg).trans h
def modW (y n : Int) : Int := (y % 18446744073709551616) % n
theorem modW_wrap (y n : Int) (h1 : 1 ≤ n) (h2 : n < 9223372036854775808) : wrap64 ((IntKind.u64.wrap y).tmod n) = modW y n ∧ 0 ≤ modW y n ∧ modW y n < n := by
  have e2 : IntKind.u64.wrap y = y % 18446744073709551616 := by simp [IntKind.wrap, IntKind.bits, IntKind.signed]
  have h3 : 0 ≤ modW y n := Int.emod_nonneg _ (by omega)
  have h4 : modW y n < n := Int.emod_lt_of_pos _ (by omega)
  refine ⟨?_, h3, h4⟩
  rw [e2, Int.tmod_eq_emod_of_nonneg (Int.emod_nonneg _ (by omega))]
  show wrap64 (modW y n) = modW y n
  unfold wrap64
  omega
theorem modW_wrap8 (y n : Int) (h1 : 1 ≤ n) (h2 : n < 256) : IntKind.u8.wrap ((IntKind.u64.wrap y).tmod n) = modW y n := by
  have e2 : IntKind.u64.wrap y = y % 18446744073709551616 := by simp [IntKind.wrap, IntKind.bits, IntKind.signed]
  have h3 : 0 ≤ modW y n := Int.emod_nonneg _ (by omega)
  have h4 : modW y n < n := Int.emod_lt_of_pos _ (by omega)
  rw [e2, Int.tmod_eq_emod_of_nonneg (Int.emod_nonneg _ (by omega))]
  show IntKind.u8.wrap (modW y n) = modW y n
  simp [IntKind.wrap, IntKind.bits, IntKind.signed]
  omega
theorem MayK.mono {e : Ev} {V S V' S' : Int} (h : MayK e V S) (h1 : V ≤ V') (h2 : S ≤ S') : MayK e V' S' := by
  unfold MayK at h ⊢
  rcases h with h | h | h | h | h | h | h | h
  · exact .inl h
  · exact .inr (.inl ⟨h.1, h.2.1, ⟨h.2.2.1.1, by omega⟩, h.2.2.2⟩)
  · exact .inr (.inr (.inl ⟨h.1, h.2.1, ⟨h.2.2.1.1, by omega⟩, h.2.2.2⟩))
  · exact .inr (.inr (.inr (.inl ⟨h.1, h.2.1, ⟨h.2.2.1.1, by omega⟩, h.2.2.2⟩)))
  · exact .inr (.inr (.inr (.inr (.inl h))))
  · exact .inr (.inr (.inr (.inr (.inr (.inl h)))))
  · exact .inr (.inr (.inr (.inr (.inr (.inr (.inl ⟨h.1, h.2.1, ⟨h.2.2.1.1, by omega⟩, h.2.2.2⟩))))))
  · exact .inr (.inr (.inr (.inr (.inr (.inr (.inr h))))))
theorem may_more {e : Ev} {T V S a b c : Int} (h : mayB e T V S = true) (ha : T ≤ a) (ha2 : a ≤ 6) (hb : V ≤ b) (hb2 : b ≤ 32) (hc : S ≤ c) (hc2 : c ≤ b) : mayB e a V S = true ∧ mayB e T b S = true ∧ mayB e a b c = true := by
  rw [may_iff] at h
  obtain ⟨h1, h2, h3⟩ := h
  simp only [sizesB, Bool.and_eq_true, decide_eq_true_eq] at h1
  refine ⟨(may_iff _ _ _ _).2 ⟨?_, by omega, h3⟩, (may_iff _ _ _ _).2 ⟨?_, by omega, ?_⟩, (may_iff _ _ _ _).2 ⟨?_, by omega, ?_⟩⟩
  · simp only [sizesB, Bool.and_eq_true, decide_eq_true_eq]; omega
  · simp only [sizesB, Bool.and_eq_true, decide_eq_true_eq]; omega
  · exact h3.mono (by omega) (by omega)
  · simp only [sizesB, Bool.and_eq_true, decide_eq_true_eq]; omega
  · exact h3.mono (by omega) (by omega)
end Go.Proofs.YtkfcglgikemefaaDoor
