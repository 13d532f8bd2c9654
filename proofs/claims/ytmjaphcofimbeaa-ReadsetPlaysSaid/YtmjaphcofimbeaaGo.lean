/-
  THE DRAWN REGION OF seesawref10's Add (the insertion), operation by operation. Conditions: as they stand.
-/
import Derived.Test.YtmjaphcofimbeaaGl
import Derived.Test.YtmjaphcofimbeaaRs
namespace Go.Proofs.Ytmjaphcofimbeaa
set_option maxRecDepth 100000
open Go.RowKit Go.Deep
set_option linter.unusedVariables false
section
variable {a : Act} {w : World} {K : Act → World → Prop} {Q : Exit → Act → World → Prop} {o : Oper}
theorem i_move (x : Nat) {v : Value} (ho : o.op = Op.move (.tmp x)) (hx : a.tmps[x]?.getD undef = v) (hK : K (a.put o.dst v) w) : Oper.wp Try.prog o a w K Q := by
  obtain ⟨dst, op, type, pos, after, guard⟩ := o
  have ho' : op = _ := ho
  subst ho'
  clear ho
  subst hx
  go_simp
  exact hK
theorem i_nil (x g : Nat) (ho : o.op = Op.nilCheck (.tmp x)) (hx : a.tmps[x]?.getD undef = .pointer (some ⟨g, 0, none⟩)) (hK : K (a.put o.dst (.pointer (some ⟨g, 0, none⟩))) w) : Oper.wp Try.prog o a w K Q := by
  obtain ⟨dst, op, type, pos, after, guard⟩ := o
  have ho' : op = _ := ho
  subst ho'
  clear ho
  go_simp
  exact hK
theorem i_field (x g : Nat) (ho : o.op = Op.fieldAddr 36 (.tmp x) 2) (hx : a.tmps[x]?.getD undef = .pointer (some ⟨g, 0, none⟩)) (hK : K (a.put o.dst (.pointer (some ⟨g, 2, none⟩))) w) : Oper.wp Try.prog o a w K Q := by
  obtain ⟨dst, op, type, pos, after, guard⟩ := o
  have ho' : op = _ := ho
  subst ho'
  clear ho
  go_simp
  exact hK
theorem i_load (x g : Nat) {v : Value} (ho : o.op = Op.load 22 (.tmp x)) (hx : a.tmps[x]?.getD undef = .pointer (some ⟨g, 2, none⟩)) (hv : w.cell? ⟨g, 2, none⟩ = some v) (hK : K (a.put o.dst v) w) : Oper.wp Try.prog o a w K Q := by
  obtain ⟨dst, op, type, pos, after, guard⟩ := o
  have ho' : op = _ := ho
  subst ho'
  clear ho
  go_simp
  exact hK
theorem i_store (x y g : Nat) {v u : Value} (ho : o.op = Op.store 22 (.tmp x) (.tmp y)) (hx : a.tmps[x]?.getD undef = .pointer (some ⟨g, 2, none⟩)) (hy : a.tmps[y]?.getD undef = v) (hv : w.cell? ⟨g, 2, none⟩ = some u) (hf : w.frozen? ⟨g, 2, none⟩ = false) {A : Option Addr} {n c : Nat} (h1 : v = .slice A n c) (hK : K (a.put o.dst undef) (w.setCell ⟨g, 2, none⟩ v)) : Oper.wp Try.prog o a w K Q := by
  obtain ⟨dst, op, type, pos, after, guard⟩ := o
  have ho' : op = _ := ho
  subst ho'
  clear ho
  subst h1
  go_simp
  exact hK
theorem i_lit0 (ho : o.op = Op.buildSlice 22 0 #[]) (hK : K (a.put o.dst (.slice (some ⟨w.heap.size, 0, none⟩) 0 0)) (w.alloc (.cells #[] 3))) : Oper.wp Try.prog o a w K Q := by
  obtain ⟨dst, op, type, pos, after, guard⟩ := o
  have ho' : op = _ := ho
  subst ho'
  clear ho
  go_simp
  exact hK
theorem i_lit1 (x : Nat) (n : Int) (ho : o.op = Op.buildSlice 22 1 #[(0, .tmp x)]) (hx : a.tmps[x]?.getD undef = .int .i64 n) (hK : K (a.put o.dst (.slice (some ⟨w.heap.size, 0, none⟩) 1 1)) (w.alloc (.cells #[.int .i64 n] 3))) : Oper.wp Try.prog o a w K Q := by
  obtain ⟨dst, op, type, pos, after, guard⟩ := o
  have ho' : op = _ := ho
  subst ho'
  clear ho
  go_simp
  exact hK
theorem i_lo (x y : Nat) (p : Option Addr) (len c k : Nat) (hk : k ≤ len) (hc : len ≤ c) (hc2 : c ≤ maxLen) (hp : p = none → len = 0) (ho : o.op = Op.slice 22 (.tmp x) none (some (.tmp y)) none) (hx : a.tmps[x]?.getD undef = .slice p len c) (hy : a.tmps[y]?.getD undef = .int .i64 k) (hK : K (a.put o.dst (.slice p k c)) w) : Oper.wp Try.prog o a w K Q := by
  obtain ⟨dst, op, type, pos, after, guard⟩ := o
  have ho' : op = _ := ho
  subst ho'
  clear ho
  have h3 : k ≤ c := by omega
  cases p with
  | none =>
    have h0 : len = 0 := hp rfl
    have hk0 : k = 0 := by omega
    subst h0 hk0
    go_simp
    exact hK
  | some p =>
    go_simp
    exact hK
/-- Where a list begins that is cut at k. -/
def hiP (A : Option Addr) (c k : Nat) : Option Addr := if c = k then A else A.map (·.add k)
theorem i_hi (x y : Nat) (p : Option Addr) (len c k : Nat) (hk : k ≤ len) (hc : len ≤ c) (hc2 : c ≤ maxLen) (hp : p = none → len = 0) (ho : o.op = Op.slice 22 (.tmp x) (some (.tmp y)) none none) (hx : a.tmps[x]?.getD undef = .slice p len c) (hy : a.tmps[y]?.getD undef = .int .i64 k) (hK : K (a.put o.dst (.slice (hiP p c k) (len - k) (c - k))) w) : Oper.wp Try.prog o a w K Q := by
  obtain ⟨dst, op, type, pos, after, guard⟩ := o
  have ho' : op = _ := ho
  subst ho'
  clear ho
  have h3 : k ≤ c := by omega
  cases p with
  | none =>
    have h0 : len = 0 := hp rfl
    have hk0 : k = 0 := by omega
    subst h0 hk0
    have e : hiP none c 0 = none := by unfold hiP; split <;> rfl
    rw [e] at hK
    go_simp
    exact hK
  | some p =>
    have e : hiP (some p) c k = if c = k then some p else some (p.add k) := rfl
    rw [e] at hK
    go_simp
    exact hK
theorem ints_hi {hi c : Nat} {A : Option Addr} {L : List Int} (h : Ints w hi A L) (k : Nat) (hc : L.length ≤ c) : Ints w hi (hiP A c k) (L.drop k) := by
  refine ⟨by have := h.len; simp; omega, fun j hj => ?_⟩
  rw [List.length_drop] at hj
  obtain ⟨p, rfl, m, e⟩ := h.cell (k + j) (by omega)
  have hne : ¬ c = k := by omega
  refine ⟨p.add k, ?_, by rw [ad_block]; exact m, ?_⟩
  · unfold hiP
    rw [if_neg hne]
    rfl
  · rw [List.getElem_drop, ← e]
    congr 1
    by_cases h1 : k = 0 <;> by_cases h2 : j = 0 <;> simp [Addr.add, h1, h2, Nat.add_assoc]
theorem ints_lo {hi : Nat} {A : Option Addr} {L : List Int} (h : Ints w hi A L) (k : Nat) : Ints w hi A (L.take k) := by
  refine ⟨by have := h.len; simp; omega, fun j hj => ?_⟩
  rw [List.length_take] at hj
  obtain ⟨p, rfl, m, e⟩ := h.cell j (by omega)
  refine ⟨p, rfl, m, ?_⟩
  rw [List.getElem_take, ← e]
/-- A list, appended: one operation; and where what comes of it lies. -/
theorem wp_append_list2 {base k : Nat} {sA : Option Addr} {scap : Nat} {xs : List Value} {hi c : Nat} {A : Option Addr} {L : List Int}
    (own : w.ownsRow base 3 1 (.slice sA k scap) k xs) (hb : base ≤ w.heap.size) (hI : Ints w hi A L) (hk : k + L.length ≤ 100000) (s x : Operand) (ho : o.op = .call { callee := .builtin .append, args := #[s, x], argTypes := #[22, 22] }) (hs : a.eval s = .slice sA k scap) (hx : a.eval x = .slice A L.length c)
    (h : ∀ A' c' w', w'.ownsRow base 3 1 (.slice A' (k + L.length) c') (k + L.length) (xs ++ vI L) → w.grownBy w' (Value.ownBlock (.slice sA k scap)) → (∀ g, Value.ownBlock (.slice A' (k + L.length) c') = some g → Value.ownBlock (.slice sA k scap) = some g ∨ g = w.heap.size) → K (a.put o.dst (.slice A' (k + L.length) c')) w') :
    Oper.wp Try.prog o a w K Q := by
  obtain ⟨i0, hi0, hz0, hz1, hz2⟩ := info_parts2 plain_int_info
  by_cases h0 : L = []
  · subst h0
    have hrun : (Builtin.append_ #[22, 22] o.type #[.slice sA k scap, .slice A 0 c]).run Try.prog w = .ok (.slice sA k scap) w := by
      rcases own.2 with ⟨hv, hk0⟩ | ⟨g, cap, cur, hv, _, _, hle, _⟩
      · injection hv with e1 e2 e3
        subst e1 e2 e3
        cases A <;> simp [Builtin.append_, run_underlying Try.underlying22, sizeOf, typeInfo, hi0, Builtin.lenOf, Builtin.firstCells, loadCells, loadCellsFrom]
      · injection hv with e1 e2 e3
        subst e1 e3
        cases A <;> simp [Builtin.append_, run_underlying Try.underlying22, sizeOf, typeInfo, hi0, Builtin.lenOf, Builtin.firstCells, storeCells, loadCells, loadCellsFrom, hle]
    have := h sA scap w (by simpa [vI] using own) ⟨rfl, rfl, rfl, Nat.le_refl _, fun _ _ _ => rfl⟩ (fun g hg => .inl hg)
    unfold Oper.wp
    simp [execOp, ho, resolve, invoke, builtin, hs, hx, hrun, Result.andThen]
    show K (a.put o.dst (.slice sA k scap)) w
    simpa using this
  · have hpos : 0 < L.length := List.length_pos_iff.2 h0
    obtain ⟨ad, hA, _, _⟩ := hI.cell 0 hpos
    subst hA
    refine wp_append_lies w s x 22 ho base 3 i0 _ 1 8 Try.underlying22 hi0 hz0 hz1 hz2 rfl (by omega) _ k xs hs own ad L.length c (vI L) hx (by simp [vI]) (ints_news10 hI) (by simp [vI, Value.oneCell']) hpos (by unfold maxLen; omega) (by omega) hb w.heap.size rfl ?_
    intro g cap w' h1 h2 h3 h4
    exact h _ _ w' h1 h2 (fun g' hg' => by
      have e : g = g' := Option.some.inj hg'
      subst e
      exact h3)
end
end Go.Proofs.Ytmjaphcofimbeaa
