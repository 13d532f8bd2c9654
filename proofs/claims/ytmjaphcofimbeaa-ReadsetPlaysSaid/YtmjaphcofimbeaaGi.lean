/-
  APPENDS of lists of numbers to what a call owns (layer 10). Conditions: as they stand.
-/
import Derived.Test.YtmjaphcofimbeaaGh
namespace Go.Proofs.Ytmjaphcofimbeaa
set_option maxRecDepth 100000
open Go.RowKit Go.Deep
set_option linter.unusedVariables false
def vI (L : List Int) : List Value := L.map (Value.int .i64 ·)
theorem vI_append (L M : List Int) : vI (L ++ M) = vI L ++ vI M := by simp [vI]
theorem vI_len (L : List Int) : (vI L).length = L.length := by simp [vI]
theorem ints_up10 {w : World} {hi hi' : Nat} {A : Option Addr} {xs : List Int} (h : Ints w hi A xs) (hh : hi ≤ hi') : Ints w hi' A xs := ⟨h.len, fun k hk => by obtain ⟨a, e, b, c⟩ := h.cell k hk; exact ⟨a, e, by omega, c⟩⟩
theorem Ints.at10 {w w' : World} {A : Option Addr} {xs : List Int} {B : Nat} (h : Ints w B A xs) (hb : Below B w w') (hB : B ≤ w'.heap.size) : Ints w' w'.heap.size A xs := ints_up10 (h.below hb (Nat.le_refl _)) hB
theorem ints_news10 {w : World} {hi : Nat} {a : Addr} {xs : List Int} (h : Ints w hi (some a) xs) : ∀ j u, (vI xs)[j]? = some u → w.cell? (a.add j) = some u := by
  intro j u hu
  unfold vI at hu
  rw [List.getElem?_map] at hu
  rcases Nat.lt_or_ge j xs.length with hj | hj
  · rw [List.getElem?_eq_getElem hj] at hu
    obtain ⟨a', ha, _, hc⟩ := h.cell j hj
    cases ha
    simp at hu
    rw [hc, hu]
  · rw [List.getElem?_eq_none hj] at hu
    cases hu
/-- What []int{} owns. -/
theorem own_empty {w : World} (B : Nat) (hB : B ≤ w.heap.size) : (w.alloc (.cells #[] 3)).ownsRow B 3 1 (.slice (some ⟨w.heap.size, 0, none⟩) 0 0) 0 [] :=
  ⟨rfl, .inr ⟨w.heap.size, 0, #[], rfl, hB, heap_alloc_new w _, Nat.le_refl _, by decide, rfl, rfl⟩⟩
theorem own_below {w wr w1 : World} {e : TypeId} {size k : Nat} {sv : Value} {xs : List Value} {B base : Nat} (own : wr.ownsRow base e size sv k xs) (hbb : B ≤ base) (b : Below B w wr) (hg : wr.grownBy w1 sv.ownBlock) (hB : B ≤ wr.heap.size) : Below B w w1 := by
  refine ⟨hg.os.trans b.os, hg.tape.trans b.tape, hg.output.trans b.output, by have := hg.size; have := b.size; omega, fun i hi => ?_⟩
  rw [hg.block i (by omega) (own_ge own (by omega)), b.block i hi]
section
variable {w : World} {ops : Array Oper} {rest : List Oper} {o : Oper} {a : Act} {K : Act → World → Prop} {Q : Exit → Act → World → Prop}
/-- A list, appended: one operation. -/
theorem wp_append_list {base k : Nat} {sA : Option Addr} {scap : Nat} {xs : List Value} {hi c : Nat} {A : Option Addr} {L : List Int}
    (own : w.ownsRow base 3 1 (.slice sA k scap) k xs) (hb : base ≤ w.heap.size) (hI : Ints w hi A L) (hk : k + L.length ≤ 100000) (s x : Operand) (ho : o.op = .call { callee := .builtin .append, args := #[s, x], argTypes := #[22, 22] }) (hs : a.eval s = .slice sA k scap) (hx : a.eval x = .slice A L.length c)
    (h : ∀ A' c' w', w'.ownsRow base 3 1 (.slice A' (k + L.length) c') (k + L.length) (xs ++ vI L) → w.grownBy w' (Value.ownBlock (.slice sA k scap)) → K (a.put o.dst (.slice A' (k + L.length) c')) w') :
    Oper.wp Try.prog o a w K Q := by
  obtain ⟨i0, hi0, hz0, hz1, hz2⟩ := info_parts2 plain_int_info
  by_cases h0 : L = []
  · subst h0
    have hrun : (Builtin.append_ #[22, 22] o.type #[.slice sA k scap, .slice A 0 c]).run Try.prog w = .ok (.slice sA k scap) w := by
      rcases own.2 with ⟨hv, hk0⟩ | ⟨g, cap, cur, hv, _, _, hle, _⟩
      · injection hv with e1 e2 e3
        subst e1 e2 e3
        cases A <;> simp [Builtin.append_, run_underlying Try.underlying22, sizeOf, typeInfo, hi0, Builtin.lenOf, Builtin.firstCells, loadCells, loadCellsFrom]
      · injection hv with e1 e2 e3
        subst e1 e3
        cases A <;> simp [Builtin.append_, run_underlying Try.underlying22, sizeOf, typeInfo, hi0, Builtin.lenOf, Builtin.firstCells, storeCells, loadCells, loadCellsFrom, hle]
    have := h sA scap w (by simpa [vI] using own) ⟨rfl, rfl, rfl, Nat.le_refl _, fun _ _ _ => rfl⟩
    unfold Oper.wp
    simp [execOp, ho, resolve, invoke, builtin, hs, hx, hrun, Result.andThen]
    show K (a.put o.dst (.slice sA k scap)) w
    simpa using this
  · have hpos : 0 < L.length := List.length_pos_iff.2 h0
    obtain ⟨ad, hA, _, _⟩ := hI.cell 0 hpos
    subst hA
    refine wp_append_lies w s x 22 ho base 3 i0 _ 1 8 Try.underlying22 hi0 hz0 hz1 hz2 rfl (by omega) _ k xs hs own ad L.length c (vI L) hx (by simp [vI]) (ints_news10 hI) (by simp [vI, Value.oneCell']) hpos (by unfold maxLen; omega) (by omega) hb w.heap.size rfl ?_
    intro g cap w' h1 h2 h3 h4
    exact h _ _ w' h1 h2
theorem wpList_append_list {base k : Nat} {sA : Option Addr} {scap : Nat} {xs : List Value} {hi c : Nat} {A : Option Addr} {L : List Int}
    (own : w.ownsRow base 3 1 (.slice sA k scap) k xs) (hb : base ≤ w.heap.size) (hI : Ints w hi A L) (hk : k + L.length ≤ 100000) (hgd : o.guard = none) (s x : Operand) (ho : o.op = .call { callee := .builtin .append, args := #[s, x], argTypes := #[22, 22] }) (hs : a.eval s = .slice sA k scap) (hx : a.eval x = .slice A L.length c)
    (h : ∀ A' c' w', w'.ownsRow base 3 1 (.slice A' (k + L.length) c') (k + L.length) (xs ++ vI L) → w.grownBy w' (Value.ownBlock (.slice sA k scap)) → wpList Try.prog ops Q rest (a.put o.dst (.slice A' (k + L.length) c')) w') :
    wpList Try.prog ops Q (o :: rest) a w :=
  wpList_plain hgd fun _ hK => wp_append_list own hb hI hk s x ho hs hx fun A' c' w' h1 h2 => hK _ _ (h A' c' w' h1 h2)
end
end Go.Proofs.Ytmjaphcofimbeaa
