/-
  A SLICE THAT A CALL HAS MADE, AND append ONTO IT, of whatever lies in memory, nothing too: one law for every case, plain and at a region that draws. Conditions: as they stand.
-/
import Derived.Test.YthdcdffdpdoeoaaGreatDoorZm
import Derived.Laws.OwnMore
import Derived.ArgAppend
namespace Go.Proofs.YthdcdffdpdoeoaaGreatDoor
set_option maxRecDepth 100000
open Go.RowKit
set_option linter.unusedVariables false
/-- A slice that is the call's own: empty and written out, or a row from base on. -/
def ClG (w : World) (base : Nat) (tE : TypeId) (size : Nat) (v : Value) (n : Nat) (xs : List Value) : Prop := (∃ gb, v = .slice (some gb) 0 0 ∧ n = 0 ∧ xs = []) ∨ w.ownsRow base tE size v n xs
/-- The cells that are to be appended. -/
def SrcG (w : World) (A : Option Addr) (news : List Value) : Prop := ∀ j u, news[j]? = some u → ∃ a, A = some a ∧ w.cell? (a.add j) = some u
theorem ownsRow_low {w : World} {base base' : Nat} {e : TypeId} {size : Nat} {v : Value} {n : Nat} {xs : List Value} (h : w.ownsRow base e size v n xs) (hb : base' ≤ base) : w.ownsRow base' e size v n xs := by
  refine ⟨h.1, ?_⟩
  rcases h.2 with h2 | ⟨g, cap, cur, hv, h3, h4⟩
  · exact .inl h2
  · exact .inr ⟨g, cap, cur, hv, by omega, h4⟩
theorem run_app {P : Program} (w : World) (t ty tE : TypeId) (i : TypeInfo) (z : Value) (size bytes : Nat) (ht : P.underlying t = some (.slice tE)) (hi : P.info? tE = some i) (hz : i.zero = some z) (hsize : i.size = size) (hby : i.bytes = bytes) (hzs : z.cells.size = size) (hsz : 0 < size)
    (base : Nat) (B : Option Addr) (n c : Nat) (xs : List Value) (hcl : ClG w base tE size (.slice B n c) n xs) (hbase : base ≤ w.heap.size)
    (A : Option Addr) (m d : Nat) (news : List Value) (hl : news.length = m * size) (hsrc : SrcG w A news) (h1 : ∀ u ∈ news, u.oneCell' = true) (hb : (n + m) * bytes ≤ 140737488355328) (h63 : n + m ≤ maxLen) (N : Nat) (hN : n + m = N) :
    ∃ A' c' w', (Builtin.append_ #[t, t] ty #[.slice B n c, .slice A m d]).run P w = .ok (.slice A' N c') w' ∧ ClG w' base tE size (.slice A' N c') N (xs ++ news) ∧ Below base w w' := by
  by_cases hm : m = 0
  · subst hm
    have hn : news = [] := List.length_eq_zero_iff.1 (by rw [hl]; simp)
    subst hn
    obtain rfl : n = N := by omega
    have hle : n ≤ c := by
      rcases hcl with ⟨gb, hv, _⟩ | ⟨_, h | ⟨g, cap, cur, hv, _, _, h, _⟩⟩
      · injection hv; omega
      · injection h.1; omega
      · injection hv; omega
    refine ⟨B, c, w, ?_, by rw [List.append_nil]; exact hcl, Below.refl _ _⟩
    cases A <;> cases B <;> simp [Builtin.append_, run_underlying ht, sizeOf, typeInfo, hi, Builtin.lenOf, hle, Builtin.firstCells, storeCells, loadCells, loadCellsFrom]
  · have hpos : 0 < news.length := by rw [hl]; exact Nat.mul_pos (by omega) hsz
    obtain ⟨ad, rfl, _⟩ := hsrc 0 news[0] (by rw [List.getElem?_eq_getElem hpos])
    have hc : ∀ j u, news[j]? = some u → w.cell? (ad.add j) = some u := fun j u hj => by
      obtain ⟨a, ha, h⟩ := hsrc j u hj
      injection ha with ha
      rw [ha]; exact h
    subst hN
    rcases hcl with ⟨gb, hv, rfl, rfl⟩ | hown
    · injection hv with hB _ hc0
      subst hB
      subst hc0
      obtain ⟨v', w', hr, ho, hg⟩ := run_append_arg_grows (P := P) w t ty tE i z size bytes ht hi hz hsize hby hzs hsz gb 0 0 [] (by simp) (by simp) ad m d news hl hc (by omega) h63 hb
      obtain ⟨g, cap, rfl, _⟩ := ho.form (by omega)
      exact ⟨_, _, w', hr, .inr (ownsRow_low ho hbase), (Below.refl _ w).grown hg hbase (by simp)⟩
    · obtain ⟨v', w', hr, ho, hg, _⟩ := run_append_own_at (P := P) w base t ty tE i z size bytes ht hi hz hsize hby hzs hsz _ n xs hown ad m d news hl hc h1 h63 hb hbase
      obtain ⟨g, cap, rfl, _⟩ := ho.form (by omega)
      exact ⟨_, _, w', hr, .inr ho, (Below.refl _ w).grown hg hbase (fun k e => (hown.lt k e).1)⟩
section
variable {ops : Array Oper} {o : Oper} {a : Act} {Q : Exit → Act → World → Prop} {t tE : TypeId} {size bytes : Nat} {z : Value}
/-- At the operation. -/
theorem wp_app {K : Act → World → Prop} (s x : Operand) (hu : Tryz.prog.underlying t = some (.slice tE)) (hinf : (Tryz.prog.info? tE).map (fun i => (i.zero, i.size, i.bytes)) = some (some z, size, bytes)) (hzs : z.cells.size = size) (hsz : 0 < size)
    (ho : o.op = .call { callee := .builtin .append, args := #[s, x], argTypes := #[t, t] }) {w : World} (base : Nat) {B : Option Addr} {n c : Nat} {xs : List Value} (hs : a.eval s = .slice B n c) (hcl : ClG w base tE size (.slice B n c) n xs) (hbase : base ≤ w.heap.size)
    {A : Option Addr} {m d : Nat} (news : List Value) (hx : a.eval x = .slice A m d) (hl : news.length = m * size) (hsrc : SrcG w A news) (h1 : ∀ u ∈ news, u.oneCell' = true) (hb : (n + m) * bytes ≤ 140737488355328) (h63 : n + m ≤ maxLen) (N : Nat) (hN : n + m = N)
    (h : ∀ A' c' w', ClG w' base tE size (.slice A' N c') N (xs ++ news) → Below base w w' → K (a.put o.dst (.slice A' N c')) w') : o.wp Tryz.prog a w K Q := by
  obtain ⟨i0, hi0, hz0, hz1, hz2⟩ := info_parts hinf
  obtain ⟨A', c', w', hr, h2, h3⟩ := run_app (P := Tryz.prog) w t o.type tE i0 z size bytes hu hi0 hz0 hz1 hz2 hzs hsz base B n c xs hcl hbase A m d news hl hsrc h1 hb h63 N hN
  unfold Oper.wp execOp
  simp only [ho, resolve, invoke, builtin, Sem.run_bind, Sem.run_pure, Result.andThen_ok, List.map_toArray, List.map_cons, List.map_nil, hs, hx, hr]
  exact h A' c' w' h2 h3
/-- At a step of a region that draws. -/
theorem step_app {K : Act → World → Prop} {E : Prop} (hgd : o.guard = none) (s x : Operand) (hu : Tryz.prog.underlying t = some (.slice tE)) (hinf : (Tryz.prog.info? tE).map (fun i => (i.zero, i.size, i.bytes)) = some (some z, size, bytes)) (hzs : z.cells.size = size) (hsz : 0 < size)
    (ho : o.op = .call { callee := .builtin .append, args := #[s, x], argTypes := #[t, t] }) {w : World} (base : Nat) {B : Option Addr} {n c : Nat} {xs : List Value} (hs : a.eval s = .slice B n c) (hcl : ClG w base tE size (.slice B n c) n xs) (hbase : base ≤ w.heap.size)
    {A : Option Addr} {m d : Nat} (news : List Value) (hx : a.eval x = .slice A m d) (hl : news.length = m * size) (hsrc : SrcG w A news) (h1 : ∀ u ∈ news, u.oneCell' = true) (hb : (n + m) * bytes ≤ 140737488355328) (h63 : n + m ≤ maxLen) (N : Nat) (hN : n + m = N)
    (h : ∀ A' c' w', ClG w' base tE size (.slice A' N c') N (xs ++ news) → Below base w w' → K (a.put o.dst (.slice A' N c')) w') :
    if Region.wanted o (yielded ops a.tmps) = true then Oper.wp Tryz.prog o a w K Q else E := by
  have hw : Region.wanted o (yielded ops a.tmps) = true := by simp [Region.wanted, hgd]
  rw [if_pos hw]
  exact wp_app s x hu hinf hzs hsz ho base hs hcl hbase news hx hl hsrc h1 hb h63 N hN h
/-- At a plain region's list. -/
theorem list_app {rest : List Oper} (hgd : o.guard = none) (s x : Operand) (hu : Tryz.prog.underlying t = some (.slice tE)) (hinf : (Tryz.prog.info? tE).map (fun i => (i.zero, i.size, i.bytes)) = some (some z, size, bytes)) (hzs : z.cells.size = size) (hsz : 0 < size)
    (ho : o.op = .call { callee := .builtin .append, args := #[s, x], argTypes := #[t, t] }) {w : World} (base : Nat) {B : Option Addr} {n c : Nat} {xs : List Value} (hs : a.eval s = .slice B n c) (hcl : ClG w base tE size (.slice B n c) n xs) (hbase : base ≤ w.heap.size)
    {A : Option Addr} {m d : Nat} (news : List Value) (hx : a.eval x = .slice A m d) (hl : news.length = m * size) (hsrc : SrcG w A news) (h1 : ∀ u ∈ news, u.oneCell' = true) (hb : (n + m) * bytes ≤ 140737488355328) (h63 : n + m ≤ maxLen) (N : Nat) (hN : n + m = N)
    (h : ∀ A' c' w', ClG w' base tE size (.slice A' N c') N (xs ++ news) → Below base w w' → wpList Tryz.prog ops Q rest (a.put o.dst (.slice A' N c')) w') : wpList Tryz.prog ops Q (o :: rest) a w :=
  wpList_plain hgd fun _ hK => wp_app s x hu hinf hzs hsz ho base hs hcl hbase news hx hl hsrc h1 hb h63 N hN fun A' c' w' h2 h3 => hK _ _ (h A' c' w' h2 h3)
end
theorem rows_info : (Tryz.prog.info? 30).map (fun i => (i.zero, i.size, i.bytes)) = some (some (.slice none 0 0), 1, 24) := by kernel_rfl
theorem pairs_src {w : World} {hi : Nat} {A : Option Addr} {l : List Pr} (h : PairsAt w hi A l) : SrcG w A (pairCells l) := by
  intro j u hj
  have hjl : j < l.length * 2 := by
    have := (List.getElem?_eq_some_iff.1 hj).1
    rwa [pairCells_len] at this
  have hk : j / 2 < l.length := by omega
  obtain ⟨p, hp, m, c1, c2⟩ := h (j / 2) hk
  obtain ⟨g1, g2⟩ := pairCells_get l (j / 2) hk
  refine ⟨p, hp, ?_⟩
  rcases Nat.mod_two_eq_zero_or_one j with h0 | h0
  · have e : j / 2 * 2 = j := by omega
    rw [e] at g1 c1
    rw [g1] at hj
    injection hj with hj
    rw [c1, hj]
  · have e : j / 2 * 2 + 1 = j := by omega
    rw [e] at g2
    rw [g2] at hj
    injection hj with hj
    rw [← hj, ← c2]
    have ea : p.add j = ⟨(p.add (j / 2 * 2)).block, (p.add (j / 2 * 2)).off + 1, none⟩ := by
      obtain ⟨k, hk2⟩ : ∃ k, k = j / 2 * 2 := ⟨_, rfl⟩
      rw [← hk2]
      obtain rfl : j = k + 1 := by omega
      clear hk2
      unfold Addr.add
      rw [if_neg (by omega)]
      by_cases hk0 : k = 0
      · subst hk0; simp
      · rw [if_neg hk0]; simp; omega
    rw [ea]
theorem pairs_one (l : List Pr) : ∀ u ∈ pairCells l, u.oneCell' = true := by
  intro u hu
  obtain ⟨p, _, h⟩ := List.mem_flatMap.1 hu
  simp at h
  rcases h with rfl | rfl <;> rfl
theorem src_below {w w' : World} {A : Option Addr} {news : List Value} {B : Nat} (h : SrcG w A news) (hb : Below B w w') (hA : ∀ a, A = some a → a.block < B) : SrcG w' A news := fun j u hj => by
  obtain ⟨a, e, c⟩ := h j u hj
  exact ⟨a, e, (hb.cell (by rw [ad8_block]; exact hA a e)).trans c⟩
/-- A literal of one element. -/
theorem src_lit {w : World} {b : Nat} {cs : Array Value} {t : TypeId} {fr : Nat × Nat} (h : w.heap[b]? = some (.cells cs t fr)) : SrcG w (some ⟨b, 0, none⟩) cs.toList := fun j u hj => ⟨_, rfl, World.news_of_block h j u hj⟩
end Go.Proofs.YthdcdffdpdoeoaaGreatDoor
