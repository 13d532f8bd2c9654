/-
  THE DOCUMENT'S OWN HEAP (seesawref11), as it lies; an append to an empty literal; with. Conditions: as they stand. Laid by gen/gen_ta.py.
-/
import Derived.Test.YtokhcogmoleocaaHq
import Derived.Test.YtokhcogmoleocaaHl
namespace Go.Proofs.Ytokhcogmoleocaa
set_option maxRecDepth 100000
open Go.RowKit Go.Deep
set_option linter.unusedVariables false
def vT (L : List Int) : List Value := L.map (Value.int .i64)
theorem newsT {w : World} {hi : Nat} {a : Addr} {xs : List Int} (h : Ints w hi (some a) xs) : ∀ j u, (vT xs)[j]? = some u → w.cell? (a.add j) = some u := by
  intro j u hu
  unfold vT at hu
  rw [List.getElem?_map] at hu
  rcases Nat.lt_or_ge j xs.length with hj | hj
  · rw [List.getElem?_eq_getElem hj] at hu
    obtain ⟨a', ha, _, hc⟩ := h.cell j hj
    cases ha
    simp at hu
    rw [hc, hu]
  · rw [List.getElem?_eq_none hj] at hu
    cases hu
theorem int_infoT : (Try.prog.info? 3).map (fun i => (i.zero, i.size, i.bytes)) = some (some (.int .i64 0), 1, 8) := by kernel_rfl
theorem int64_infoT : (Try.prog.info? 2).map (fun i => (i.zero, i.size, i.bytes)) = some (some (.int .i64 0), 1, 8) := by kernel_rfl
theorem own_geT {w : World} {base k : Nat} {e : TypeId} {A : Option Addr} {c : Nat} {xs : List Value} (own : w.ownsRow base e 1 (.slice A k c) k xs) : (∀ p, A = some p → base ≤ p.block ∧ p.block < w.heap.size) ∧ k ≤ c ∧ c ≤ maxLen := by
  rcases own.2 with ⟨hv, h0⟩ | ⟨g, cap, cur, hv, hb, hg, h1, h2, _⟩
  · injection hv with e1 e2 e3
    subst e1 e3
    exact ⟨fun p e => (by cases e), by omega, by decide⟩
  · injection hv with e1 e2 e3
    subst e1 e3
    exact ⟨fun p e => (by cases e; exact ⟨hb, (Array.getElem?_eq_some_iff.1 hg).1⟩), h1, h2⟩
theorem below_grownT {w wr w1 : World} {e : TypeId} {size k : Nat} {sv : Value} {xs : List Value} {B base : Nat} (own : wr.ownsRow base e size sv k xs) (hbb : B ≤ base) (b : Below B w wr) (hg : wr.grownBy w1 sv.ownBlock) (hB : B ≤ wr.heap.size) : Below B w w1 := by
  refine ⟨hg.os.trans b.os, hg.tape.trans b.tape, hg.output.trans b.output, by have := hg.size; have := b.size; omega, fun i hi => ?_⟩
  rw [hg.block i (by omega) (own_ge own (by omega)), b.block i hi]
theorem own_setT {w : World} {base n cap g k : Nat} {e : TypeId} {L : List Int} (h : w.ownsRow base e 1 (.slice (some ⟨g, 0, none⟩) n cap) n (vT L)) (x : Int) : (w.setCell ⟨g, k, none⟩ (.int .i64 x)).ownsRow base e 1 (.slice (some ⟨g, 0, none⟩) n cap) n (vT (L.set k x)) := by
  refine ⟨by have := h.1; simp [vT] at this ⊢; exact this, ?_⟩
  rcases h.2 with ⟨hv, h0⟩ | ⟨g', cap', cur, hv, hb, hg, h1, h2, h3, h4⟩
  · cases hv
  · injection hv with e1 e2 e3
    injection e1 with e1
    injection e1 with e1
    subst e1 e3
    refine .inr ⟨g, cap, _, rfl, hb, heap_set_same _ _ _ _ _ _ hg, h1, h2, by simpa using h3, ?_⟩
    rw [Array.toList_setIfInBounds, List.take_set, h4]
    simp [vT, List.map_set]
theorem own_cellT {w : World} {base n cap : Nat} {A : Option Addr} {e : TypeId} {L : List Int} (h : w.ownsRow base e 1 (.slice A n cap) n (vT L)) {k : Nat} (hk : k < n) : ∃ g x, A = some ⟨g, 0, none⟩ ∧ base ≤ g ∧ w.cell? ⟨g, k, none⟩ = some (.int .i64 x) ∧ w.frozen? ⟨g, k, none⟩ = false := by
  have hlen : L.length = n := by have := h.1; simpa [vT] using this
  rcases h.2 with ⟨hv, h0⟩ | ⟨g', cap', cur, hv, hb, hg, h1, h2, h3, h4⟩
  · omega
  · injection hv with e1 e2 e3
    subst e1
    refine ⟨g', L[k], rfl, hb, ?_, by simp [World.frozen?, hg]⟩
    have := h.cells (g := g') rfl k (.int .i64 L[k]) (by simp [vT, hlen, hk])
    have ea : (⟨g', 0, none⟩ : Addr).add k = ⟨g', k, none⟩ := by unfold Addr.add; split <;> simp_all
    rw [ea] at this
    exact this
section
variable {w : World} {ops : Array Oper} {rest : List Oper} {o : Oper} {a : Act} {K : Act → World → Prop} {Q : Exit → Act → World → Prop}
theorem own_emptyT64 {w : World} (B : Nat) (hB : B ≤ w.heap.size) : (w.alloc (.cells #[] 2)).ownsRow B 2 1 (.slice (some ⟨w.heap.size, 0, none⟩) 0 0) 0 [] :=
  ⟨rfl, .inr ⟨w.heap.size, 0, #[], rfl, hB, heap_alloc_new w _, Nat.le_refl _, by decide, rfl, rfl⟩⟩
theorem wp_cloneT64 {base : Nat} {sA : Option Addr} {scap : Nat} {hi c : Nat} {A : Option Addr} {L : List Int}
    (own : w.ownsRow base 2 1 (.slice sA 0 scap) 0 []) (hb : base ≤ w.heap.size) (hI : Ints w hi A L) (hk : L.length ≤ 100000) (s x : Operand) (ho : o.op = .call { callee := .builtin .append, args := #[s, x], argTypes := #[33, 33] }) (hs : a.eval s = .slice sA 0 scap) (hx : a.eval x = .slice A L.length c)
    (h : ∀ A' c' w', w'.ownsRow base 2 1 (.slice A' L.length c') L.length (vT L) → w.grownBy w' (Value.ownBlock (.slice sA 0 scap)) → K (a.put o.dst (.slice A' L.length c')) w') :
    Oper.wp Try.prog o a w K Q := by
  obtain ⟨i0, hi0, hz0, hz1, hz2⟩ := info_parts2 int64_infoT
  by_cases h0 : L = []
  · subst h0
    have hrun : (Builtin.append_ #[33, 33] o.type #[.slice sA 0 scap, .slice A 0 c]).run Try.prog w = .ok (.slice sA 0 scap) w := by
      rcases own.2 with ⟨hv, hk0⟩ | ⟨g, cap, cur, hv, _, _, hle, _⟩
      · injection hv with e1 e2 e3
        subst e1 e3
        cases A <;> simp [Builtin.append_, run_underlying Try.underlying33, sizeOf, typeInfo, hi0, Builtin.lenOf, Builtin.firstCells, loadCells, loadCellsFrom]
      · injection hv with e1 e2 e3
        subst e1 e3
        cases A <;> simp [Builtin.append_, run_underlying Try.underlying33, sizeOf, typeInfo, hi0, Builtin.lenOf, Builtin.firstCells, storeCells, loadCells, loadCellsFrom, hle]
    have := h sA scap w (by simpa [vT] using own) ⟨rfl, rfl, rfl, Nat.le_refl _, fun _ _ _ => rfl⟩
    unfold Oper.wp
    simp [execOp, ho, resolve, invoke, builtin, hs, hx, hrun, Result.andThen]
    show K (a.put o.dst (.slice sA 0 scap)) w
    simpa using this
  · have hpos : 0 < L.length := List.length_pos_iff.2 h0
    obtain ⟨ad, hA, _, _⟩ := hI.cell 0 hpos
    subst hA
    refine wp_append_lies w s x 33 ho base 2 i0 _ 1 8 Try.underlying33 hi0 hz0 hz1 hz2 rfl (by omega) _ 0 [] hs own ad L.length c (vT L) hx (by simp [vT]) (newsT hI) (by simp [vT, Value.oneCell']) hpos (by unfold maxLen; omega) (by omega) hb w.heap.size rfl ?_
    intro g cap w' h1 h2 h3 h4
    rw [Nat.zero_add] at h1 ⊢
    exact h _ _ w' h1 h2
theorem wpList_cloneT64 {base : Nat} {sA : Option Addr} {scap : Nat} {hi c : Nat} {A : Option Addr} {L : List Int}
    (own : w.ownsRow base 2 1 (.slice sA 0 scap) 0 []) (hb : base ≤ w.heap.size) (hI : Ints w hi A L) (hk : L.length ≤ 100000) (hgd : o.guard = none) (s x : Operand) (ho : o.op = .call { callee := .builtin .append, args := #[s, x], argTypes := #[33, 33] }) (hs : a.eval s = .slice sA 0 scap) (hx : a.eval x = .slice A L.length c)
    (h : ∀ A' c' w', w'.ownsRow base 2 1 (.slice A' L.length c') L.length (vT L) → w.grownBy w' (Value.ownBlock (.slice sA 0 scap)) → wpList Try.prog ops Q rest (a.put o.dst (.slice A' L.length c')) w') :
    wpList Try.prog ops Q (o :: rest) a w :=
  wpList_plain hgd fun _ hK => wp_cloneT64 own hb hI hk s x ho hs hx fun A' c' w' h1 h2 => hK _ _ (h A' c' w' h1 h2)
theorem own_emptyT {w : World} (B : Nat) (hB : B ≤ w.heap.size) : (w.alloc (.cells #[] 3)).ownsRow B 3 1 (.slice (some ⟨w.heap.size, 0, none⟩) 0 0) 0 [] :=
  ⟨rfl, .inr ⟨w.heap.size, 0, #[], rfl, hB, heap_alloc_new w _, Nat.le_refl _, by decide, rfl, rfl⟩⟩
theorem wp_cloneT {base : Nat} {sA : Option Addr} {scap : Nat} {hi c : Nat} {A : Option Addr} {L : List Int}
    (own : w.ownsRow base 3 1 (.slice sA 0 scap) 0 []) (hb : base ≤ w.heap.size) (hI : Ints w hi A L) (hk : L.length ≤ 100000) (s x : Operand) (ho : o.op = .call { callee := .builtin .append, args := #[s, x], argTypes := #[35, 35] }) (hs : a.eval s = .slice sA 0 scap) (hx : a.eval x = .slice A L.length c)
    (h : ∀ A' c' w', w'.ownsRow base 3 1 (.slice A' L.length c') L.length (vT L) → w.grownBy w' (Value.ownBlock (.slice sA 0 scap)) → K (a.put o.dst (.slice A' L.length c')) w') :
    Oper.wp Try.prog o a w K Q := by
  obtain ⟨i0, hi0, hz0, hz1, hz2⟩ := info_parts2 int_infoT
  by_cases h0 : L = []
  · subst h0
    have hrun : (Builtin.append_ #[35, 35] o.type #[.slice sA 0 scap, .slice A 0 c]).run Try.prog w = .ok (.slice sA 0 scap) w := by
      rcases own.2 with ⟨hv, hk0⟩ | ⟨g, cap, cur, hv, _, _, hle, _⟩
      · injection hv with e1 e2 e3
        subst e1 e3
        cases A <;> simp [Builtin.append_, run_underlying Try.underlying35, sizeOf, typeInfo, hi0, Builtin.lenOf, Builtin.firstCells, loadCells, loadCellsFrom]
      · injection hv with e1 e2 e3
        subst e1 e3
        cases A <;> simp [Builtin.append_, run_underlying Try.underlying35, sizeOf, typeInfo, hi0, Builtin.lenOf, Builtin.firstCells, storeCells, loadCells, loadCellsFrom, hle]
    have := h sA scap w (by simpa [vT] using own) ⟨rfl, rfl, rfl, Nat.le_refl _, fun _ _ _ => rfl⟩
    unfold Oper.wp
    simp [execOp, ho, resolve, invoke, builtin, hs, hx, hrun, Result.andThen]
    show K (a.put o.dst (.slice sA 0 scap)) w
    simpa using this
  · have hpos : 0 < L.length := List.length_pos_iff.2 h0
    obtain ⟨ad, hA, _, _⟩ := hI.cell 0 hpos
    subst hA
    refine wp_append_lies w s x 35 ho base 3 i0 _ 1 8 Try.underlying35 hi0 hz0 hz1 hz2 rfl (by omega) _ 0 [] hs own ad L.length c (vT L) hx (by simp [vT]) (newsT hI) (by simp [vT, Value.oneCell']) hpos (by unfold maxLen; omega) (by omega) hb w.heap.size rfl ?_
    intro g cap w' h1 h2 h3 h4
    rw [Nat.zero_add] at h1 ⊢
    exact h _ _ w' h1 h2
theorem wpList_cloneT {base : Nat} {sA : Option Addr} {scap : Nat} {hi c : Nat} {A : Option Addr} {L : List Int}
    (own : w.ownsRow base 3 1 (.slice sA 0 scap) 0 []) (hb : base ≤ w.heap.size) (hI : Ints w hi A L) (hk : L.length ≤ 100000) (hgd : o.guard = none) (s x : Operand) (ho : o.op = .call { callee := .builtin .append, args := #[s, x], argTypes := #[35, 35] }) (hs : a.eval s = .slice sA 0 scap) (hx : a.eval x = .slice A L.length c)
    (h : ∀ A' c' w', w'.ownsRow base 3 1 (.slice A' L.length c') L.length (vT L) → w.grownBy w' (Value.ownBlock (.slice sA 0 scap)) → wpList Try.prog ops Q rest (a.put o.dst (.slice A' L.length c')) w') :
    wpList Try.prog ops Q (o :: rest) a w :=
  wpList_plain hgd fun _ hK => wp_cloneT own hb hI hk s x ho hs hx fun A' c' w' h1 h2 => hK _ _ (h A' c' w' h1 h2)
end
set_option maxHeartbeats 4000000 in
theorem with_any {w : World} {A : Option Addr} {L : List Int} (cap : Nat) (hI : Ints w w.heap.size A L) (hl : L.length ≤ 1000) (k : Nat) (hk : k < L.length) (x : Int) : Calls Try.prog 58 #[.slice A L.length cap, .int .i64 k, .int .i64 x] w fun e w' => ∃ (A' : Option Addr) (c' : Nat), e = .returned (.slice A' L.length c') ∧ w'.ownsRow w.heap.size 3 1 (.slice A' L.length c') L.length (vT (L.set k x)) ∧ Below w.heap.size w w' := by
  have OWE := Lib.hid (own_emptyT (w := w) w.heap.size (Nat.le_refl _))
  have hB0 : Below w.heap.size w (w.alloc (.cells #[] 3)) := (Below.refl w.heap.size w).alloc (Nat.le_refl _) _
  have HI3 := Lib.hid (hI.below hB0 (Nat.le_refl _))
  have hz3 : Hid (w.heap.size ≤ (w.alloc (.cells #[] 3)).heap.size) := by show _ ≤ _; simp
  have HK : Hid (∀ A' c' w', w'.ownsRow w.heap.size 3 1 (.slice A' L.length c') L.length (vT L) → (w.alloc (.cells #[] 3)).grownBy w' (Value.ownBlock (.slice (some ⟨w.heap.size, 0, none⟩) 0 0)) → ∃ g u, A' = some ⟨g, 0, none⟩ ∧ w'.cell? ⟨g, k, none⟩ = some (.int .i64 u) ∧ w'.frozen? ⟨g, k, none⟩ = false ∧ Hid ((w'.setCell ⟨g, k, none⟩ (.int .i64 x)).ownsRow w.heap.size 3 1 (.slice (some ⟨g, 0, none⟩) L.length c') L.length (vT (L.set k x)) ∧ Below w.heap.size w (w'.setCell ⟨g, k, none⟩ (.int .i64 x)))) := fun A' c' w' own hg => by
    obtain ⟨g, u, rfl, hb, hc, hf⟩ := own_cellT own hk
    exact ⟨g, u, rfl, hc, hf, own_setT own x, (below_grownT OWE.out (Nat.le_refl _) hB0 hg hz3.out).setCell (p := ⟨g, k, none⟩) hb _⟩
  have i0 : (0 : Int) ≤ (k : Int) := by omega
  have i1 : (k : Int) < (L.length : Int) := by omega
  have hlL : Hid (L.length ≤ 100000) := by show _ ≤ _; omega
  clear hI hB0
  go_enter Try.func58, Try.ntmps58
  go_wp2_with (first
    | (at_builtin; refine wpList_cloneT OWE.out hz3.out HI3.out hlL.out rfl (.tmp 8) (.tmp 9) rfl rfl rfl ?_; intro A4 c4 w4 own4 hg4; obtain ⟨g4, u4, rfl, hc4, hf4, H4⟩ := HK.out _ _ _ own4 hg4; clear own4 hg4)
    | fail)
  go_ret
  exact ⟨_, c4, rfl, H4.out.1, H4.out.2⟩
end Go.Proofs.Ytokhcogmoleocaa
