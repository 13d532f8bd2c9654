/-
  STEPS (layer 2's statements): a slice of steps as it lies in memory, opened out of an argument; and the statements' own helpers 'large' and 'write'. No condition.
-/
import Derived.Test.YtieaacenobgdjaaBk
import Derived.Deep.Slices
import Derived.Deep.Fields
import Derived.Carry
import Derived.LoopTactic
namespace Go.Proofs.Ytieaacenobgdjaa
open Go.ChangeShapes Go.WideShapes Go.RowKit Go.Deep
set_option linter.unusedVariables false

structure StepV where
  kind : Nat
  n : Nat
  x : Int
  s : ByteArray
  k : Int
instance : Inhabited StepV := ⟨⟨0, 0, 0, ⟨#[]⟩, 0⟩⟩
structure StepV.Ok (st : StepV) : Prop where
  kind : st.kind < 256
  n : st.n < 18446744073709551616
  x0 : -9223372036854775808 ≤ st.x
  x1 : st.x < 9223372036854775808
  s : st.s.size ≤ 9223372036854775807
  k0 : -9223372036854775808 ≤ st.k
  k1 : st.k < 9223372036854775808
/-- Step number i. -/
def nth (L : List StepV) (i : Nat) : StepV := L.getD i default
/-- At p lies a step. -/
structure StepAt (w : World) (p : Addr) (st : StepV) : Prop where
  c0 : w.cell? p = some (.int .u8 st.kind)
  c1 : w.cell? ⟨p.block, p.off + 1, none⟩ = some (.int .u64 st.n)
  c2 : w.cell? ⟨p.block, p.off + 2, none⟩ = some (.int .i64 st.x)
  c3 : w.cell? ⟨p.block, p.off + 3, none⟩ = some (.string st.s)
  c4 : w.cell? ⟨p.block, p.off + 4, none⟩ = some (.int .i64 st.k)
  ok : st.Ok
/-- At A lie these steps, below block B. -/
def Steps (w : World) (B : Nat) (A : Option Addr) (L : List StepV) : Prop := ∀ i, i < L.length → ∃ a, A = some a ∧ a.block < B ∧ StepAt w (a.add (i * 5)) (nth L i)

theorem add_block (a : Addr) (n : Nat) : (a.add n).block = a.block := by unfold Addr.add; split <;> rfl
theorem StepAt.below {w w' : World} {B : Nat} {p : Addr} {st : StepV} (h : StepAt w p st) (hb : Below B w w') (hp : p.block < B) : StepAt w' p st :=
  ⟨(hb.cell hp).trans h.c0, (hb.cell (p := ⟨p.block, _, none⟩) hp).trans h.c1, (hb.cell (p := ⟨p.block, _, none⟩) hp).trans h.c2, (hb.cell (p := ⟨p.block, _, none⟩) hp).trans h.c3, (hb.cell (p := ⟨p.block, _, none⟩) hp).trans h.c4, h.ok⟩
theorem Steps.below {w w' : World} {B : Nat} {A : Option Addr} {L : List StepV} (h : Steps w B A L) (hb : Below B w w') : Steps w' B A L := fun i hi => by
  obtain ⟨a, e, ha, hs⟩ := h i hi
  exact ⟨a, e, ha, hs.below hb (by rw [add_block]; exact ha)⟩


section
variable {H : Type} {enc : TypeId × Value → H} {w : World} {base : Nat} {spare : Nat → Bool} {held : Bool}
theorem wf_u8 {n : Int} (h : (Lit.int .u8 n).wf = true) : 0 ≤ n ∧ n ≤ 255 := by simpa [Lit.wf, IntKind.min, IntKind.max, IntKind.signed, IntKind.bits] using h
theorem wf_u64 {n : Int} (h : (Lit.int .u64 n).wf = true) : 0 ≤ n ∧ n ≤ 18446744073709551615 := by simpa [Lit.wf, IntKind.min, IntKind.max, IntKind.signed, IntKind.bits] using h
theorem wf_i64 {n : Int} (h : (Lit.int .i64 n).wf = true) : -9223372036854775808 ≤ n ∧ n ≤ 9223372036854775807 := by simpa [Lit.wf, IntKind.min, IntKind.max, IntKind.signed, IntKind.bits] using h
theorem one_of {α : Type} {cs : List α} {j n : Nat} (hl : cs.length = n) (h : j < n) : ∃ v, (cs.drop j).take 1 = [v] ∧ cs[j]? = some v := by
  refine ⟨cs[j]'(by omega), ?_, List.getElem?_eq_getElem (by omega)⟩
  rw [List.drop_eq_getElem_cons (by omega)]
  rfl
theorem step_cells : Try.prog.cellsOf 34 = 5 := by kernel_rfl
theorem cells_u8 : Try.prog.cellsOf 5 = 1 := by kernel_rfl
theorem cells_u64 : Try.prog.cellsOf 32 = 1 := by kernel_rfl
theorem cells_i64 : Try.prog.cellsOf 2 = 1 := by kernel_rfl
theorem cells_str : Try.prog.cellsOf 9 = 1 := by kernel_rfl
theorem cells_int : Try.prog.cellsOf 3 = 1 := by kernel_rfl
theorem open_step {p : Addr} {n : Nat} {cs : List Value} {x : DataW H × List MemPlace} (hc : w.cells? base p 5 = some cs) (h : DataW.trod enc Try.prog w base spare held n 34 cs = some x) : ∃ st, StepAt w p st := by
  obtain ⟨_, hl, hat⟩ := World.cells?_some hc
  obtain ⟨xs, m, _, _, _, hxl, hf⟩ := DataW.trod_struct Try.underlying34 h
  obtain ⟨v0, t0, g0⟩ := one_of hl (show 0 < 5 by omega)
  obtain ⟨v1, t1, g1⟩ := one_of hl (show 1 < 5 by omega)
  obtain ⟨v2, t2, g2⟩ := one_of hl (show 2 < 5 by omega)
  obtain ⟨v3, t3, g3⟩ := one_of hl (show 3 < 5 by omega)
  obtain ⟨v4, t4, g4⟩ := one_of hl (show 4 < 5 by omega)
  have hx : xs.length = 5 := hxl
  obtain ⟨y0, _, z0⟩ := one_of hx (show 0 < 5 by omega)
  obtain ⟨y1, _, z1⟩ := one_of hx (show 1 < 5 by omega)
  obtain ⟨y2, _, z2⟩ := one_of hx (show 2 < 5 by omega)
  obtain ⟨y3, _, z3⟩ := one_of hx (show 3 < 5 by omega)
  obtain ⟨y4, _, z4⟩ := one_of hx (show 4 < 5 by omega)
  have h0 : DataW.trod enc Try.prog w base spare held m 5 ((cs.drop 0).take (Try.prog.cellsOf 5)) = xs[0]? := hf 0 _ rfl
  have h1 : DataW.trod enc Try.prog w base spare held m 32 ((cs.drop 1).take (Try.prog.cellsOf 32)) = xs[1]? := hf 1 _ rfl
  have h2 : DataW.trod enc Try.prog w base spare held m 2 ((cs.drop 2).take (Try.prog.cellsOf 2)) = xs[2]? := hf 2 _ rfl
  have h3 : DataW.trod enc Try.prog w base spare held m 9 ((cs.drop 3).take (Try.prog.cellsOf 9)) = xs[3]? := hf 3 _ rfl
  have h4 : DataW.trod enc Try.prog w base spare held m 3 ((cs.drop 4).take (Try.prog.cellsOf 3)) = xs[4]? := hf 4 _ rfl
  simp only [cells_u8, cells_u64, cells_i64, cells_str, cells_int, t0, t1, t2, t3, t4, z0, z1, z2, z3, z4] at h0 h1 h2 h3 h4
  obtain ⟨a0, e0, _, w0⟩ := DataW.trod_int Try.underlying5 h0
  obtain ⟨a1, e1, _, w1⟩ := DataW.trod_int Try.underlying32 h1
  obtain ⟨a2, e2, _, w2⟩ := DataW.trod_int Try.underlying2 h2
  obtain ⟨a3, e3, _, w3⟩ := DataW.trod_string Try.underlying9 h3
  obtain ⟨a4, e4, _, w4⟩ := DataW.trod_int Try.underlying3 h4
  cases e0; cases e1; cases e2; cases e3; cases e4
  have b0 := wf_u8 w0
  have b1 := wf_u64 w1
  have b2 := wf_i64 w2
  have b4 := wf_i64 w4
  obtain ⟨k0, rfl⟩ := Int.eq_ofNat_of_zero_le b0.1
  obtain ⟨k1, rfl⟩ := Int.eq_ofNat_of_zero_le b1.1
  unfold maxLen at w3
  have q0 : k0 < 256 := by omega
  have q1 : k1 < 18446744073709551616 := by omega
  have q2 : a2 < 9223372036854775808 := by omega
  have q4 : a4 < 9223372036854775808 := by omega
  exact ⟨⟨k0, k1, a2, a3, a4⟩, ⟨(hat 0 (by omega)).trans g0, (hat 1 (by omega)).trans g1, (hat 2 (by omega)).trans g2, (hat 3 (by omega)).trans g3, (hat 4 (by omega)).trans g4, ⟨q0, q1, b2.1, q2, w3, b4.1, q4⟩⟩⟩

/-- An argument of type []Step: a slice of so many steps. -/
theorem open_steps {r : Reach} {b0 : Nat} {v : Value} {d : DataW H} {ps : List MemPlace} (hv : Value.okWide Try.prog w r b0 22 v) (h : DataW.Trod enc Try.prog w base spare held 22 v d ps) :
    ∃ A c L, v = .slice A (L : List StepV).length c ∧ L.length ≤ 9223372036854775807 ∧ Steps w w.heap.size A L := by
  obtain ⟨fuel, hf⟩ := h
  rcases open_slice Try.underlying22 hf with ⟨hcs, _⟩ | ⟨a, len, cap, m, n, D, Pl, hcs, hb, hl, hm, hmm, hx, hi⟩
  · obtain ⟨A, n0, c0, rfl⟩ := okWide_slice Try.underlying22 hv
    simp [Value.cells] at hcs
    obtain ⟨rfl, rfl, rfl⟩ := hcs
    exact ⟨none, 0, [], rfl, by simp, fun i hi => absurd hi (by simp)⟩
  · obtain ⟨A, n0, c0, rfl⟩ := okWide_slice Try.underlying22 hv
    simp [Value.cells] at hcs
    obtain ⟨rfl, rfl, rfl⟩ := hcs
    have hlm : n0 ≤ m := by rw [hmm]; split <;> omega
    have hst : ∀ i, i < n0 → ∃ st, StepAt w (a.add (i * 5)) st := fun i hi' => by
      obtain ⟨cs', hc, ht⟩ := hi i (by omega)
      rw [step_cells] at hc
      exact open_step hc ht
    obtain ⟨F, hF⟩ := choose_lt hst
    have hlen : ((List.range n0).map F).length = n0 := by simp
    unfold maxLen at hm
    refine ⟨some a, c0, (List.range n0).map F, by rw [hlen], by rw [hlen]; omega, fun i hi' => ?_⟩
    rw [hlen] at hi'
    have hg : nth ((List.range n0).map F) i = F i := by
      rw [nth, List.getD_eq_getElem?_getD, List.getElem?_map, List.getElem?_range hi']
      rfl
    rw [hg]
    have hp := hF i hi'
    have hlt : (a.add (i * 5)).block < w.heap.size := by
      have := hp.c0
      unfold World.cell? at this
      rcases Nat.lt_or_ge (a.add (i * 5)).block w.heap.size with hh | hh
      · exact hh
      · rw [Array.getElem?_eq_none hh] at this; simp at this
    exact ⟨a, rfl, by rwa [add_block] at hlt, hp⟩
end

/-- The walk's own spelling of a step's cells. -/
theorem large_no (A : Option Addr) (c B : Nat) (L : List StepV) (w : World) (hs : Steps w B A L) (h1 : L.length ≤ 300) (h2 : ∀ i, i < L.length → (nth L i).s.size ≤ 1000) :
    Calls Try.prog 10 #[.slice A L.length c] w fun e w' => e = .returned (.bool false) ∧ w = w' := by
  go_enter Try.func10, Try.ntmps10
  have H2 := Lib.hid h2
  have HS := Lib.hid hs
  clear h2 hs
  go_wp2
  go_loop [3] (fun i => ∃ k : Nat, k ≤ L.length ∧ i = .int .i64 k) (fun i => L.length - (intOf i).toNat)
  case atStart => exact ⟨0, by omega, rfl⟩
  case round =>
    obtain ⟨k, hk, rfl⟩ := hrel
    by_cases hlt : k < L.length
    · obtain ⟨a, rfl, ha, hst⟩ := HS.out k hlt
      have hz := H2.out k hlt
      have hc3 := hst.c3
      go_wp2
      go_round
      case rel => exact ⟨k + 1, by omega, by go_num⟩
      case measure => simp [intOf]; omega
    · go_wp2
      go_ret
      exact ⟨rfl, rfl⟩

theorem large_many (A : Option Addr) (c : Nat) (L : List StepV) (w : World) (h1 : 300 < L.length) (h2 : L.length ≤ 9223372036854775807) :
    Calls Try.prog 10 #[.slice A L.length c] w fun e w' => e = .returned (.bool true) ∧ w = w' := by
  go_enter Try.func10, Try.ntmps10
  go_wp2
  go_ret
  exact ⟨rfl, rfl⟩
theorem large_long (A : Option Addr) (c B : Nat) (L : List StepV) (w : World) (hs : Steps w B A L) (h1 : L.length ≤ 300) (i : Nat) (hi : i < L.length) (h2 : 1000 < (nth L i).s.size) :
    Calls Try.prog 10 #[.slice A L.length c] w fun e w' => e = .returned (.bool true) ∧ w = w' := by
  go_enter Try.func10, Try.ntmps10
  have H2 := Lib.hid h2
  have HS := Lib.hid hs
  clear h2 hs
  go_wp2
  go_loop [3] (fun j => ∃ k : Nat, k ≤ i ∧ j = .int .i64 k) (fun j => L.length - (intOf j).toNat)
  case atStart => exact ⟨0, by omega, rfl⟩
  case round =>
    obtain ⟨k, hk, rfl⟩ := hrel
    have hlt : k < L.length := by omega
    obtain ⟨a, rfl, ha, hst⟩ := HS.out k hlt
    have hc3 := hst.c3
    have hok := hst.ok.s
    by_cases hz : (nth L k).s.size ≤ 1000
    · have hne : k ≠ i := by
        rintro rfl
        have := H2.out
        omega
      go_wp2
      go_round
      case rel => exact ⟨k + 1, by omega, by go_num⟩
      case measure => simp [intOf]; omega
    · have hz' : 1000 < (nth L k).s.size := by omega
      go_wp2
      go_ret
      exact ⟨rfl, rfl⟩
/-- Is that more than a statement goes over? -/
def Small (L : List StepV) : Prop := L.length ≤ 300 ∧ ∀ i, i < L.length → (nth L i).s.size ≤ 1000
theorem large_of (A : Option Addr) (c B : Nat) (L : List StepV) (w : World) (hs : Steps w B A L) (hl : L.length ≤ 9223372036854775807) (h : ¬ Small L) :
    Calls Try.prog 10 #[.slice A L.length c] w fun e w' => e = .returned (.bool true) ∧ w = w' := by
  by_cases h1 : L.length ≤ 300
  · by_cases h2 : ∀ i, i < L.length → (nth L i).s.size ≤ 1000
    · exact absurd ⟨h1, h2⟩ h
    · obtain ⟨i, hi⟩ : ∃ i, ¬ (i < L.length → (nth L i).s.size ≤ 1000) := Classical.not_forall.1 h2
      have hi1 : i < L.length := by
        by_cases hc : i < L.length
        · exact hc
        · exact absurd (fun h => absurd h hc) hi
      have hi2 : 1000 < (nth L i).s.size := by
        by_cases hc : (nth L i).s.size ≤ 1000
        · exact absurd (fun _ => hc) hi
        · omega
      exact large_long A c B L w hs h1 i hi1 hi2
  · exact large_many A c L w (by omega) hl

/-- The bytes that a step writes. -/
def encS (st : StepV) : List UInt8 := if st.kind = 0 then [UInt8.ofNat (st.n % 256)] else if st.kind = 1 then Vm.put st.n else if st.kind = 2 then Vm.put (zigV st.x).toNat else st.s.data.toList
def stepAgg (st : StepV) : Value := .agg #[.int .u8 st.kind, .int .u64 st.n, .int .i64 st.x, .string st.s, .int .i64 st.k]
theorem write_any (B g : Nat) (most : Int) (l : List UInt8) (v : Value) (st : StepV) (hok : st.Ok) (w : World) (h : WrV w B g most l v) (hB : B ≤ w.heap.size) :
    Calls Try.prog 43 #[.pointer (some ⟨g, 0, none⟩), stepAgg st] w (RawPost B g most l v (encS st) w) := by
  obtain ⟨kind, n, x, s, k⟩ := st
  obtain ⟨o1, o2, o3, o4, o5, o6, o7⟩ := hok
  simp only at o1 o2 o3 o4 o5 o6 o7
  have hb : Below w.heap.size w (w.alloc (.cells #[.int .u8 kind, .int .u64 n, .int .i64 x, .string s, .int .i64 k] 34)) := (Below.refl _ _).alloc (Nat.le_refl _) _
  have h' := h.below hb (Nat.le_refl _)
  have hB' := Nat.le_trans hB hb.size
  have Hb := Lib.hid hb
  clear hb h
  unfold encS stepAgg
  simp only
  have fin : ∀ (t : List UInt8) (e : Ending) (w' : World), RawPost B g most l v t (w.alloc (.cells #[.int .u8 kind, .int .u64 n, .int .i64 x, .string s, .int .i64 k] 34)) e w' → RawPost B g most l v t w e w' := fun t e w' hp => RawPost.of_below Hb.out hp
  have Fin := Lib.hid fin
  clear fin
  by_cases k0 : kind = 0
  · subst k0
    rw [if_pos rfl]
    have hm : n % 256 < 256 := by omega
    have hw : (n : Int) % 256 = ((n % 256 : Nat) : Int) := by omega
    have HW := Lib.hid hw
    clear hw
    go_enter Try.func43, Try.ntmps43
    go_wp2_with fail
    rw [HW.out]
    refine (byte_any B g most l v (n % 256) hm _ h' hB').mono ?_
    rintro e w' ⟨rfl, h1, h2⟩
    have P := Lib.hid (Fin.out _ _ _ ⟨rfl, h1, h2⟩)
    clear h1 h2
    go_wp2_with fail
    go_ret
    exact P.out
  · have e0 : ((kind : Int) == 0) = false := by simp; omega
    rw [if_neg k0]
    clear k0
    by_cases k1 : kind = 1
    · subst k1
      rw [if_pos rfl]
      go_enter Try.func43, Try.ntmps43
      go_wp2_with fail
      refine (num_any B g most l v n o2 _ h' hB').mono ?_
      rintro e w' ⟨rfl, h1, h2⟩
      have P := Lib.hid (Fin.out _ _ _ ⟨rfl, h1, h2⟩)
      clear h1 h2
      go_wp2_with fail
      go_ret
      exact P.out
    · have e1 : ((kind : Int) == 1) = false := by simp; omega
      rw [if_neg k1]
      clear k1
      by_cases k2 : kind = 2
      · subst k2
        rw [if_pos rfl]
        go_enter Try.func43, Try.ntmps43
        go_wp2_with fail
        refine (int_any B g most l v x o3 o4 _ h' hB').mono ?_
        rintro e w' ⟨rfl, h1, h2⟩
        have P := Lib.hid (Fin.out _ _ _ ⟨rfl, h1, h2⟩)
        clear h1 h2
        go_wp2_with fail
        go_ret
        exact P.out
      · have e2 : ((kind : Int) == 2) = false := by simp; omega
        rw [if_neg k2]
        clear k2
        go_enter Try.func43, Try.ntmps43
        go_wp2_with fail
        refine (raw_any B g most l v s _ h' hB' o5).mono ?_
        rintro e w' ⟨rfl, h1, h2⟩
        have P := Lib.hid (Fin.out _ _ _ ⟨rfl, h1, h2⟩)
        clear h1 h2
        go_wp2_with fail
        go_ret
        exact P.out
end Go.Proofs.Ytieaacenobgdjaa
