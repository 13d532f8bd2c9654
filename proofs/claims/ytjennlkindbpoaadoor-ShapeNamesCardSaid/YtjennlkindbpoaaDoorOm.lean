/-
  LISTS OF NUMBERS for layer 13 (as for layer 10, under names of their own), appended; contracts of seesawref13's last and put. Laid by gen/gen_om.py. Conditions: as they stand.
-/
import Derived.Test.YtjennlkindbpoaaDoorOl
import Derived.Deep.AppendLies
namespace Go.Proofs.YtjennlkindbpoaaDoor
set_option maxRecDepth 100000
open Go.RowKit Go.Deep
set_option linter.unusedVariables false
theorem ad_blockO (a : Addr) (n : Nat) : (a.add n).block = a.block := by unfold Addr.add; split <;> rfl
structure IntsO (w : World) (hi : Nat) (A : Option Addr) (xs : List Int) : Prop where
  len : xs.length ≤ 9223372036854775807
  cell : ∀ k (h : k < xs.length), ∃ a, A = some a ∧ a.block < hi ∧ w.cell? (a.add k) = some (.int .i64 xs[k])
theorem IntsO.belowO {w w' : World} {hi B : Nat} {A : Option Addr} {xs : List Int} (h : IntsO w hi A xs) (hb : Below B w w') (hB : hi ≤ B) : IntsO w' hi A xs :=
  ⟨h.len, fun k hk => by
    obtain ⟨a, rfl, b1, c⟩ := h.cell k hk
    exact ⟨a, rfl, b1, (hb.cell (by rw [ad_blockO]; omega)).trans c⟩⟩
theorem info_parts2O {t : TypeId} {z : Value} {a b : Nat} (h : (Tryd.prog.info? t).map (fun i => (i.zero, i.size, i.bytes)) = some (some z, a, b)) : ∃ i, Tryd.prog.info? t = some i ∧ i.zero = some z ∧ i.size = a ∧ i.bytes = b := by
  cases hi : Tryd.prog.info? t with
  | none => rw [hi] at h; cases h
  | some i =>
    rw [hi] at h
    simp at h
    exact ⟨i, rfl, h.1, h.2.1, h.2.2⟩
theorem plain_int_infoO : (Tryd.prog.info? 3).map (fun i => (i.zero, i.size, i.bytes)) = some (some (.int .i64 0), 1, 8) := by kernel_rfl
def vIO (L : List Int) : List Value := L.map (Value.int .i64 ·)
theorem ints_news10O {w : World} {hi : Nat} {a : Addr} {xs : List Int} (h : IntsO w hi (some a) xs) : ∀ j u, (vIO xs)[j]? = some u → w.cell? (a.add j) = some u := by
  intro j u hu
  unfold vIO at hu
  rw [List.getElem?_map] at hu
  rcases Nat.lt_or_ge j xs.length with hj | hj
  · rw [List.getElem?_eq_getElem hj] at hu
    obtain ⟨a', ha, _, hc⟩ := h.cell j hj
    cases ha
    simp at hu
    rw [hc, hu]
  · rw [List.getElem?_eq_none hj] at hu
    cases hu
theorem own_emptyO {w : World} (B : Nat) (hB : B ≤ w.heap.size) : (w.alloc (.cells #[] 3)).ownsRow B 3 1 (.slice (some ⟨w.heap.size, 0, none⟩) 0 0) 0 [] :=
  ⟨rfl, .inr ⟨w.heap.size, 0, #[], rfl, hB, heap_alloc_new w _, Nat.le_refl _, by decide, rfl, rfl⟩⟩
theorem own_geO {w : World} {base : Nat} {e : TypeId} {size n : Nat} {v : Value} {xs : List Value} (h : w.ownsRow base e size v n xs) {b : Nat} (hb : b < base) : some b ≠ v.ownBlock := by
  intro hc
  have := h.lt b hc.symm
  omega
section
variable {a : Act} {w : World} {K : Act → World → Prop} {Q : Exit → Act → World → Prop} {o : Oper}
def hiPO (A : Option Addr) (c k : Nat) : Option Addr := if c = k then A else A.map (·.add k)
theorem i_load (x g : Nat) {v : Value} (ho : o.op = Op.load 87 (.tmp x)) (hx : a.tmps[x]?.getD undef = .pointer (some ⟨g, 2, none⟩)) (hv : w.cell? ⟨g, 2, none⟩ = some v) (hK : K (a.put o.dst v) w) : Oper.wp Tryd.prog o a w K Q := by
  obtain ⟨dst, op, type, pos, after, guard⟩ := o
  have ho' : op = _ := ho
  subst ho'
  clear ho
  go_simp
  exact hK
theorem i_hiO (x y : Nat) (p : Option Addr) (len c k : Nat) (hk : k ≤ len) (hc : len ≤ c) (hc2 : c ≤ maxLen) (hp : p = none → len = 0) (ho : o.op = Op.slice 87 (.tmp x) (some (.tmp y)) none none) (hx : a.tmps[x]?.getD undef = .slice p len c) (hy : a.tmps[y]?.getD undef = .int .i64 k) (hK : K (a.put o.dst (.slice (hiPO p c k) (len - k) (c - k))) w) : Oper.wp Tryd.prog o a w K Q := by
  obtain ⟨dst, op, type, pos, after, guard⟩ := o
  have ho' : op = _ := ho
  subst ho'
  clear ho
  have h3 : k ≤ c := by omega
  cases p with
  | none =>
    have h0 : len = 0 := hp rfl
    have hk0 : k = 0 := by omega
    subst h0 hk0
    have e : hiPO none c 0 = none := by unfold hiPO; split <;> rfl
    rw [e] at hK
    go_simp
    exact hK
  | some p =>
    have e : hiPO (some p) c k = if c = k then some p else some (p.add k) := rfl
    rw [e] at hK
    go_simp
    exact hK
theorem ints_hiO {hi c : Nat} {A : Option Addr} {L : List Int} (h : IntsO w hi A L) (k : Nat) (hc : L.length ≤ c) : IntsO w hi (hiPO A c k) (L.drop k) := by
  refine ⟨by have := h.len; simp; omega, fun j hj => ?_⟩
  rw [List.length_drop] at hj
  obtain ⟨p, rfl, m, e⟩ := h.cell (k + j) (by omega)
  have hne : ¬ c = k := by omega
  refine ⟨p.add k, ?_, by rw [ad_blockO]; exact m, ?_⟩
  · unfold hiPO
    rw [if_neg hne]
    rfl
  · rw [List.getElem_drop, ← e]
    congr 1
    by_cases h1 : k = 0 <;> by_cases h2 : j = 0 <;> simp [Addr.add, h1, h2, Nat.add_assoc]
theorem ints_loO {hi : Nat} {A : Option Addr} {L : List Int} (h : IntsO w hi A L) (k : Nat) : IntsO w hi A (L.take k) := by
  refine ⟨by have := h.len; simp; omega, fun j hj => ?_⟩
  rw [List.length_take] at hj
  obtain ⟨p, rfl, m, e⟩ := h.cell j (by omega)
  refine ⟨p, rfl, m, ?_⟩
  rw [List.getElem_take, ← e]
theorem wp_append_list2O {base k : Nat} {sA : Option Addr} {scap : Nat} {xs : List Value} {hi c : Nat} {A : Option Addr} {L : List Int}
    (own : w.ownsRow base 3 1 (.slice sA k scap) k xs) (hb : base ≤ w.heap.size) (hI : IntsO w hi A L) (hk : k + L.length ≤ 100000) (s x : Operand) (ho : o.op = .call { callee := .builtin .append, args := #[s, x], argTypes := #[87, 87] }) (hs : a.eval s = .slice sA k scap) (hx : a.eval x = .slice A L.length c)
    (h : ∀ A' c' w', w'.ownsRow base 3 1 (.slice A' (k + L.length) c') (k + L.length) (xs ++ vIO L) → w.grownBy w' (Value.ownBlock (.slice sA k scap)) → (∀ g, Value.ownBlock (.slice A' (k + L.length) c') = some g → Value.ownBlock (.slice sA k scap) = some g ∨ g = w.heap.size) → K (a.put o.dst (.slice A' (k + L.length) c')) w') :
    Oper.wp Tryd.prog o a w K Q := by
  obtain ⟨i0, hi0, hz0, hz1, hz2⟩ := info_parts2O plain_int_infoO
  by_cases h0 : L = []
  · subst h0
    have hrun : (Builtin.append_ #[87, 87] o.type #[.slice sA k scap, .slice A 0 c]).run Tryd.prog w = .ok (.slice sA k scap) w := by
      rcases own.2 with ⟨hv, hk0⟩ | ⟨g, cap, cur, hv, _, _, hle, _⟩
      · injection hv with e1 e2 e3
        subst e1 e2 e3
        cases A <;> simp [Builtin.append_, run_underlying Tryd.underlying87, sizeOf, typeInfo, hi0, Builtin.lenOf, Builtin.firstCells, loadCells, loadCellsFrom]
      · injection hv with e1 e2 e3
        subst e1 e3
        cases A <;> simp [Builtin.append_, run_underlying Tryd.underlying87, sizeOf, typeInfo, hi0, Builtin.lenOf, Builtin.firstCells, storeCells, loadCells, loadCellsFrom, hle]
    have := h sA scap w (by simpa [vIO] using own) ⟨rfl, rfl, rfl, Nat.le_refl _, fun _ _ _ => rfl⟩ (fun g hg => .inl hg)
    unfold Oper.wp
    simp [execOp, ho, resolve, invoke, builtin, hs, hx, hrun, Result.andThen]
    show K (a.put o.dst (.slice sA k scap)) w
    simpa using this
  · have hpos : 0 < L.length := List.length_pos_iff.2 h0
    obtain ⟨ad, hA, _, _⟩ := hI.cell 0 hpos
    subst hA
    refine wp_append_lies w s x 87 ho base 3 i0 _ 1 8 Tryd.underlying87 hi0 hz0 hz1 hz2 rfl (by omega) _ k xs hs own ad L.length c (vIO L) hx (by simp [vIO]) (ints_news10O hI) (by simp [vIO, Value.oneCell']) hpos (by unfold maxLen; omega) (by omega) hb w.heap.size rfl ?_
    intro g cap w' h1 h2 h3 h4
    exact h _ _ w' h1 h2 (fun g' hg' => by
      have e : g = g' := Option.some.inj hg'
      subst e
      exact h3)
end
theorem IntsO.mono {w : World} {hi hi' : Nat} {A : Option Addr} {xs : List Int} (h : IntsO w hi A xs) (hh : hi ≤ hi') : IntsO w hi' A xs := ⟨h.len, fun k hk => by obtain ⟨a, e, b, c⟩ := h.cell k hk; exact ⟨a, e, by omega, c⟩⟩
theorem IntsO.at' {w w' : World} {A : Option Addr} {xs : List Int} (h : IntsO w w.heap.size A xs) (hb : Below w.heap.size w w') : IntsO w' w'.heap.size A xs := (h.belowO hb (Nat.le_refl _)).mono hb.size
/-- A list that a call has made, read. -/
theorem IntsO.own {w : World} {base k c : Nat} {A : Option Addr} {L : List Int} (h : w.ownsRow base 3 1 (.slice A k c) k (vIO L)) (hk : L.length = k) (hk2 : k ≤ 100000) : IntsO w w.heap.size A L ∧ k ≤ c ∧ (A = none → k = 0) := by
  rcases h.2 with ⟨h1, h2⟩ | ⟨g, cap, cur, h1, h2, h3, h4, h5, h6, h7⟩
  · injection h1 with e1 e2 e3
    subst e1 e2 e3
    have : L = [] := List.length_eq_zero_iff.1 hk
    subst this
    exact ⟨⟨by simp, fun j hj => absurd hj (by simp)⟩, Nat.le_refl _, fun _ => rfl⟩
  · injection h1 with e1 e2 e3
    subst e1 e3
    refine ⟨⟨by omega, fun j hj => ⟨⟨g, 0, none⟩, rfl, (Array.getElem?_eq_some_iff.1 h3).1, ?_⟩⟩, h4, fun h => by cases h⟩
    exact h.cells (g := g) rfl j _ (by unfold vIO; rw [List.getElem?_map, List.getElem?_eq_getElem hj]; rfl)
theorem wpList_append_listO {ops : Array Oper} {rest : List Oper} {o : Oper} {a : Act} {Q : Exit → Act → World → Prop} {W w : World} {base k : Nat} {sA : Option Addr} {scap : Nat} {xs : List Value} {hi c : Nat} {A : Option Addr} {L : List Int}
    (own : w.ownsRow base 3 1 (.slice sA k scap) k xs) (hb : base ≤ w.heap.size) (hB : Below base W w) (hI : IntsO w hi A L) (hk : k + L.length ≤ 100000) (hgd : o.guard = none) (s x : Operand) (ho : o.op = .call { callee := .builtin .append, args := #[s, x], argTypes := #[87, 87] }) (hs : a.eval s = .slice sA k scap) (hx : a.eval x = .slice A L.length c)
    (h : ∀ A' c' w', w'.ownsRow base 3 1 (.slice A' (k + L.length) c') (k + L.length) (xs ++ vIO L) → Below base W w' → wpList Tryd.prog ops Q rest (a.put o.dst (.slice A' (k + L.length) c')) w') :
    wpList Tryd.prog ops Q (o :: rest) a w :=
  wpList_plain hgd fun _ hK => wp_append_list2O own hb hI hk s x ho hs hx fun A' c' w' h1 h2 _ => hK _ _ (h A' c' w' h1 (hB.grown h2 hb fun q hq => by
    rcases Nat.lt_or_ge q base with hlt | hge
    · exact absurd hq.symm (own_geO own hlt)
    · exact hge))
theorem getLast_at {L : List Int} (h : 0 < L.length) : L[L.length - 1]? = some (lastL L) := by
  unfold lastL
  rw [List.getLast?_eq_getElem?, List.getElem?_eq_getElem (by omega)]
  rfl
theorem rlast_any (w : World) (A : Option Addr) (L : List Int) (c : Nat) (hl : L.length ≤ 2000) (he : IntsO w w.heap.size A L) :
    Calls Tryd.prog 47 #[.slice A L.length c] w fun r w' => r = .returned (.int .i64 (lastL L)) ∧ w = w' := by
  by_cases h0 : L.length = 0
  · have : L = [] := List.length_eq_zero_iff.1 h0
    subst this
    have e : lastL [] = -1 := rfl
    rw [e]
    go_enter Tryd.func47, Tryd.ntmps47
    go_wp2_with fail
    go_ret
    exact ⟨rfl, rfl⟩
  · obtain ⟨a, rfl, _, hc⟩ := he.cell (L.length - 1) (by omega)
    have hg := getLast_at (L := L) (by omega)
    rw [List.getElem?_eq_getElem (by omega)] at hg
    rw [Option.some.inj hg] at hc
    obtain ⟨m, hm⟩ : ∃ m, m = L.length - 1 := ⟨_, rfl⟩
    have hn : L.length = m + 1 := by omega
    rw [← hm] at hc
    rw [hn]
    obtain ⟨v, hv⟩ : ∃ v, v = lastL L := ⟨_, rfl⟩
    rw [← hv] at hc ⊢
    obtain ⟨n, hnn⟩ : ∃ n, n = m + 1 := ⟨_, rfl⟩
    have i1 : (n : Int) - 1 = (m : Int) := by omega
    have i2 : 0 < (n : Int) := by omega
    have i3 : (n : Int) ≤ 2000 := by omega
    have i4 : ((n : Int) == 0) = false := beq_eq_false_iff_ne.2 (by omega)
    have i5 : (m : Int) < (n : Int) := by omega
    have i6 : IntKind.i64.wrap ((n : Int) - 1) = (m : Int) := by rw [i1]; exact IntWalk.i64_in _ ⟨by omega, by omega⟩
    rw [← hnn]
    clear hnn hv hm hn hg he hl h0
    go_enter Tryd.func47, Tryd.ntmps47
    go_wp2_with fail
    go_ret
    exact ⟨rfl, rfl⟩
theorem putL_split (L : List Int) (n : Int) (k : Nat) (hk : k ≤ L.length) (h1 : ∀ j x, j < k → L[j]? = some x → x < n) (h2 : ∀ x, L[k]? = some x → n ≤ x) : putL L n = if L[k]? = some n then L else L.take k ++ n :: L.drop k := by
  induction L generalizing k with
  | nil =>
    have : k = 0 := by simpa using hk
    subst this
    simp [putL]
  | cons a r ih =>
    cases k with
    | zero =>
      have ha := h2 a (by simp)
      unfold putL
      rw [if_neg (by omega)]
      by_cases hn : a = n
      · subst hn
        simp
      · rw [if_neg hn]
        simp [hn]
    | succ k =>
      have ha := h1 0 a (by omega) (by simp)
      have := ih k (by simpa using hk) (fun j x hj hx => h1 (j + 1) x (by omega) (by simpa using hx)) (fun x hx => h2 x (by simpa using hx))
      unfold putL
      rw [if_pos ha, this]
      simp only [List.getElem?_cons_succ, List.take_succ_cons, List.drop_succ_cons]
      split <;> simp
end Go.Proofs.YtjennlkindbpoaaDoor
