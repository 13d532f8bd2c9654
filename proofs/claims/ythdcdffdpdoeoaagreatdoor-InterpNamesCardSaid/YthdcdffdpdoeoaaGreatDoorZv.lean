/-
  SEVERAL TEXTS IN ONE (a claim has sixty files at most): Cv, Cp: the head of each stands ahead of it. No condition but theirs.
-/
import Derived.Test.YthdcdffdpdoeoaaGreatDoorCm
import Derived.Test.YthdcdffdpdoeoaaGreatDoorDp
import Derived.Deep.Slices
import Derived.Laws.AppendOwn
import Derived.Deep.RegionHeld3
import Derived.Deep.DeepCutAuto
import Derived.Deep.CutBlock
/-
  CONTRACT OF slices.Clone AS PACKAGE code CALLS IT: the cells of a row of statements, in a row of the call's own; the memory that was there stays as it was. Condition: at most 100000 statements.
-/
namespace Go.Proofs.YthdcdffdpdoeoaaGreatDoor
set_option maxRecDepth 100000
open Go.RowKit Go.Deep
set_option linter.unusedVariables false
instance : Inhabited Raw := ⟨⟨0, 0, 0, 0, none, 0, 0, 0, 0, none, 0, 0, none, 0, 0, none, 0, 0⟩⟩
def Raw.cells (r : Raw) : List Value := [.int .u8 r.k, .int .i64 r.t, .int .u8 r.ao, .int .i64 r.an, .slice r.aA r.al r.ac, .int .u8 r.bo, .int .i64 r.bn, .slice r.bA r.bl r.bc, .slice r.yA r.yl r.yc, .slice r.eA r.el r.ec]
/-- A row of statements that may be written. -/
def RowX (w : World) (S : Nat → Prop) (A : Option Addr) (n : Nat) : Prop := n = 0 ∨ ∃ g xs, A = some ⟨g, 0, none⟩ ∧ S g ∧ w.heap[g]? = some (.cells xs 43 (0, 0)) ∧ n * 10 ≤ xs.size
theorem RowX.keep {w w' : World} {S S' : Nat → Prop} {B : Option Addr} {n : Nat} (h : RowX w S B n) (hS : ∀ b, S b → S' b) (hk : ∀ b, S b → w'.heap[b]? = w.heap[b]?) : RowX w' S' B n := by
  rcases h with h | ⟨g, xs, h1, h2, h3, h4⟩
  · exact Or.inl h
  · exact Or.inr ⟨g, xs, h1, hS _ h2, (hk _ h2).trans h3, h4⟩
/-- So many statements, cell by cell. -/
def rowOf (Q : Nat → Raw) : Nat → List Value
  | 0 => []
  | n + 1 => rowOf Q n ++ (Q n).cells
theorem rowOf_len (Q : Nat → Raw) (n : Nat) : (rowOf Q n).length = n * 10 := by
  induction n with
  | zero => rfl
  | succ n ih => rw [rowOf, List.length_append, ih]; show n * 10 + 10 = _; omega
theorem rowOf_get (Q : Nat → Raw) : ∀ (n k j : Nat), k < n → j < 10 → (rowOf Q n)[k * 10 + j]? = (Q k).cells[j]? := by
  intro n
  induction n with
  | zero => intro k j h; omega
  | succ n ih =>
    intro k j hk hj
    rw [rowOf]
    by_cases h : k < n
    · rw [List.getElem?_append_left (by rw [rowOf_len]; omega)]
      exact ih k j h hj
    · obtain rfl : k = n := by omega
      rw [List.getElem?_append_right (by rw [rowOf_len]; omega), rowOf_len, show k * 10 + j - k * 10 = j by omega]
theorem cells_one (q : Raw) : ∀ u ∈ q.cells, u.oneCell' = true := by
  intro u hu
  simp only [Raw.cells, List.mem_cons, List.not_mem_nil, or_false] at hu
  rcases hu with rfl | rfl | rfl | rfl | rfl | rfl | rfl | rfl | rfl | rfl <;> rfl
theorem rowOf_one (Q : Nat → Raw) (n : Nat) : ∀ u ∈ rowOf Q n, u.oneCell' = true := by
  induction n with
  | zero => intro u hu; cases hu
  | succ n ih =>
    intro u hu
    rw [rowOf, List.mem_append] at hu
    exact hu.elim (ih u) (cells_one _ u)
theorem add_add (p : Addr) (a b : Nat) : p.add (a + b) = ⟨(p.add a).block, (p.add a).off + b, none⟩ ∨ b = 0 := by
  by_cases hb : b = 0
  · exact .inr hb
  · left
    unfold Addr.add
    split
    · omega
    · split
      · rename_i h1 h2
        simp
      · simp [Nat.add_assoc]
theorem Ten.all {w : World} {p : Addr} {q : Raw} (h : Ten w p q) : ∀ j u, j < 10 → q.cells[j]? = some u → (j = 0 → w.cell? p = some u) ∧ (j ≠ 0 → w.cell? ⟨p.block, p.off + j, none⟩ = some u) := by
  intro j u hj hu
  obtain rfl | rfl | rfl | rfl | rfl | rfl | rfl | rfl | rfl | rfl : j = 0 ∨ j = 1 ∨ j = 2 ∨ j = 3 ∨ j = 4 ∨ j = 5 ∨ j = 6 ∨ j = 7 ∨ j = 8 ∨ j = 9 := by omega
  · exact ⟨fun _ => h.c0.trans hu, fun h => absurd rfl h⟩
  · exact ⟨fun h => absurd h (by omega), fun _ => h.c1.trans hu⟩
  · exact ⟨fun h => absurd h (by omega), fun _ => h.c2.trans hu⟩
  · exact ⟨fun h => absurd h (by omega), fun _ => h.c3.trans hu⟩
  · exact ⟨fun h => absurd h (by omega), fun _ => h.c4.trans hu⟩
  · exact ⟨fun h => absurd h (by omega), fun _ => h.c5.trans hu⟩
  · exact ⟨fun h => absurd h (by omega), fun _ => h.c6.trans hu⟩
  · exact ⟨fun h => absurd h (by omega), fun _ => h.c7.trans hu⟩
  · exact ⟨fun h => absurd h (by omega), fun _ => h.c8.trans hu⟩
  · exact ⟨fun h => absurd h (by omega), fun _ => h.c9.trans hu⟩
theorem row_news {w : World} {p : Addr} {Q : Nat → Raw} {n : Nat} (h : ∀ k, k < n → Ten w (p.add (k * 10)) (Q k)) : ∀ j u, (rowOf Q n)[j]? = some u → w.cell? (p.add j) = some u := by
  intro j u hu
  have hj : j < n * 10 := by
    rcases Nat.lt_or_ge j (n * 10) with h | h
    · exact h
    · rw [List.getElem?_eq_none (by rw [rowOf_len]; exact h)] at hu; cases hu
  have hk : j / 10 < n := by omega
  have hjj : j = j / 10 * 10 + j % 10 := by omega
  rw [hjj, rowOf_get Q n (j / 10) (j % 10) hk (by omega)] at hu
  have h1 := (h (j / 10) hk).all (j % 10) u (by omega) hu
  rw [hjj]
  by_cases h0 : j % 10 = 0
  · rw [h0, Nat.add_zero]
    exact h1.1 h0
  · rcases add_add p (j / 10 * 10) (j % 10) with h2 | h2
    · rw [h2]
      exact h1.2 h0
    · exact absurd h2 h0
theorem there_blk {w : World} {p : Addr} {v : Value} (h : w.cell? p = some v) : p.block < w.heap.size := by
  unfold World.cell? at h
  rcases Nat.lt_or_ge p.block w.heap.size with hh | hh
  · exact hh
  · rw [Array.getElem?_eq_none hh] at h; simp at h
theorem stmt_info : (Tryz.prog.info? 43).map (fun i => (i.zero, i.size, i.bytes)) = some (some (.agg #[.int .u8 0, .int .i64 0, .int .u8 0, .int .i64 0, .slice none 0 0, .int .u8 0, .int .i64 0, .slice none 0 0, .slice none 0 0, .slice none 0 0]), 10, 144) := by kernel_rfl
theorem eqIn_sl (d : Nat) (b : Option Addr) (l c : Nat) (w : World) : (Op.equalIn (d + 1) 41 (.slice b l c) (.slice none 0 0)).run Tryz.prog w = .ok b.isNone w := by
  cases b <;> simp [Op.equalIn, run_underlying Tryz.underlying41]
theorem eq_sl (b : Option Addr) (l c : Nat) (w : World) : (Op.equal 41 (.slice b l c) (.slice none 0 0)).run Tryz.prog w = .ok b.isNone w := eqIn_sl 9999 b l c w
theorem eql_sl (b : Option Addr) (l c : Nat) (w : World) : (Go.binOp .eql 41 (.slice b l c) (.slice none 0 0)).run Tryz.prog w = .ok (.bool b.isNone) w := by
  simp only [Go.binOp]
  simp [eq_sl]
/-- What Clone leaves: nothing, or a row of its own with the same cells. -/
def Cloned (Q : Nat → Raw) (n : Nat) (w : World) (e : Ending) (w' : World) : Prop := ∃ A cap, e = .returned (.slice A n cap) ∧ Below w.heap.size w w' ∧
  (n = 0 ∨ ∃ g cur, A = some ⟨g, 0, none⟩ ∧ w.heap.size ≤ g ∧ w'.heap[g]? = some (.cells cur 43 (0, 0)) ∧ n * 10 ≤ cur.size ∧ ∀ j, j < n * 10 → cur[j]? = (rowOf Q n)[j]?)
theorem cloned_of {Q : Nat → Raw} {n : Nat} {w w1 w' : World} {v : Value} (h : w'.ownsRow w.heap.size 43 10 v n (rowOf Q n)) (hb : Below w.heap.size w w') : Cloned Q n w (.returned v) w' := by
  obtain ⟨_, ⟨rfl, rfl⟩ | ⟨g, cap, cur, rfl, hg, hr, hc, hm, hs, ht⟩⟩ := h
  · exact ⟨none, 0, rfl, hb, .inl rfl⟩
  · refine ⟨some ⟨g, 0, none⟩, cap, rfl, hb, .inr ⟨g, cur, rfl, hg, hr, by rw [hs]; exact Nat.mul_le_mul_right _ hc, fun j hj => ?_⟩⟩
    rw [← ht, List.getElem?_take_of_lt hj]
    simp
set_option maxRecDepth 100000 in
theorem clone_any (Q : Nat → Raw) (n : Nat) (hn : n ≤ 100000) (A : Option Addr) (c : Nat) (w : World) (h : ∀ k, k < n → ∃ p, A = some p ∧ Ten w (p.add (k * 10)) (Q k)) :
    Calls Tryz.prog 60 #[.slice A n c] w (Cloned Q n w) := by
  cases A with
  | none =>
    obtain rfl : n = 0 := by
      rcases Nat.eq_zero_or_pos n with h0 | h0
      · exact h0
      · obtain ⟨p, hp, _⟩ := h 0 h0
        cases hp
    have heq := eql_sl none
    clear h
    go_enter Tryz.func60, Tryz.ntmps60
    go_wp2_with fail
    go_ret
    exact ⟨none, 0, rfl, Below.refl _ _, .inl rfl⟩
  | some p =>
    have heq := eql_sl (some p)
    have hb0 : Below w.heap.size w (w.alloc (.cells #[] 43)) := (Below.refl _ _).alloc (Nat.le_refl _) _
    have hT : ∀ k, k < n → Ten (w.alloc (.cells #[] 43)) (p.add (k * 10)) (Q k) := fun k hk => by
      obtain ⟨p', hp, ht⟩ := h k hk
      cases hp
      exact ht.below hb0 (there_blk ht.c0)
    have hown := World.ownsRow_made (e := 43) (base := w.heap.size) (size := 10) w #[] 0 (Nat.le_refl _) (by unfold maxLen; omega) rfl
    have HN := Lib.hid (row_news hT)
    have HOWN := Lib.hid hown
    have HB := Lib.hid hb0
    obtain ⟨i0, hi0, hz0, hz1, hz2⟩ := info_parts stmt_info
    clear h hT hb0 hown
    go_enter Tryz.func60, Tryz.ntmps60
    go_wp2_with (first
      | (at_builtin; refine wpList_append_own _ rfl _ _ 41 rfl w.heap.size 43 i0 _ 10 144 Tryz.underlying41 hi0 hz0 hz1 hz2 rfl (by decide) _ 0 [] rfl HOWN.out p n c (rowOf Q n) rfl (rowOf_len Q n) HN.out (rowOf_one Q n) (by unfold maxLen; omega) (by omega) (by simp) ?_; intro v' w' hown' hgrow hnil)
      | fail)
    rw [Nat.zero_add, List.nil_append] at hown'
    have hbl : Below w.heap.size w w' := HB.out.grown hgrow (by simp) (fun k e => by
      have h9 : some k = some w.heap.size := e.symm
      cases h9
      exact Nat.le_refl _)
    go_ret
    exact cloned_of (w1 := w) hown' hbl
end Go.Proofs.YthdcdffdpdoeoaaGreatDoor
/-
  CONTRACT OF PACKAGE code's Copy: the same transaction, in new memory; the memory that was there stays as it was. Conditions: at most 100000 statements in a block, expressions of at most 100000 parts.
-/
namespace Go.Proofs.YthdcdffdpdoeoaaGreatDoor
set_option maxRecDepth 100000
open Go.RowKit Go.Deep
set_option linter.unusedVariables false
/-- No block is too long, no expression has too many parts. -/
def Sm : Nat → St → Prop
  | 0, _ => True
  | d + 1, .node k t a b y e => cnt d a ≤ 100000 ∧ cnt d b ≤ 100000 ∧ y.length ≤ 100000 ∧ e.length ≤ 100000 ∧ (∀ s ∈ y, Sm d s) ∧ (∀ s ∈ e, Sm d s)
/-- All blocks but g lie as they lay. -/
structure Kg (g : Nat) (X Y : World) : Prop where
  size : X.heap.size ≤ Y.heap.size
  block : ∀ b, b < X.heap.size → b ≠ g → Y.heap[b]? = X.heap[b]?
theorem Kg.trans {g : Nat} {X Y Z : World} (h : Kg g X Y) (k : Kg g Y Z) : Kg g X Z := ⟨Nat.le_trans h.size k.size, fun b hb hg => (k.block b (Nat.lt_of_lt_of_le hb h.size) hg).trans (h.block b hb hg)⟩
theorem Kg.of_below {g : Nat} {X Y : World} (h : Below X.heap.size X Y) : Kg g X Y := ⟨h.size, fun b hb _ => h.block b hb⟩
theorem Kg.set {g i : Nat} {X : World} (u : Value) : Kg g X (X.setCell ⟨g, i, none⟩ u) := ⟨by simp, fun b _ hg => Below.heap_setCell X ⟨g, i, none⟩ u b hg⟩
theorem Kg.drew {g : Nat} {X : World} : Kg g X X.drew := ⟨Nat.le_refl _, fun _ _ _ => rfl⟩
theorem Kg.at_ {g lo hi d : Nat} {X Y : World} {v : Value} {e : Ex} (k : Kg g X Y) (h : At X lo hi d v e) (hl : g < lo) (hh : hi ≤ X.heap.size) : At Y lo hi d v e :=
  h.keep (fun p p1 p2 => World.cell?_of_block (k.block p.block (by omega) (by omega))) d
theorem Kg.sat {g lo hi d : Nat} {X Y : World} {r : Raw} {s : St} (k : Kg g X Y) (h : SAt X lo hi d r s) (hl : g < lo) (hh : hi ≤ X.heap.size) : SAt Y lo hi d r s :=
  h.keep (fun p p1 p2 => World.cell?_of_block (k.block p.block (by omega) (by omega))) d
theorem Kg.kids {g lo hi d : Nat} {X Y : World} {A : Option Addr} {l : List St} (k : Kg g X Y) (h : SKids X lo hi d A l) (hl : g < lo) (hh : hi ≤ X.heap.size) : SKids Y lo hi d A l := fun j hj => by
  obtain ⟨p, q, e1, m1, m2, t1, s1⟩ := h j hj
  exact ⟨p, q, e1, m1, m2, t1.keep (fun z hz => World.cell?_of_block (k.block z.block (by rw [hz, ad_block]; omega) (by rw [hz, ad_block]; omega))), k.sat s1 hl hh⟩
/-- How things are behind k statements. -/
structure CIS (w : World) (g : Nat) (tx : List St) (d : Nat) (Q : Nat → Raw) (k : Nat) (xs : Array Value) (wr : World) : Prop where
  row : wr.heap[g]? = some (.cells xs 43 (0, 0))
  len : tx.length * 10 ≤ xs.size
  old : ∀ j, k ≤ j → j < tx.length → ∀ i, i < 10 → xs[j * 10 + i]? = (Q j).cells[i]?
  parts : ∀ j, j < k → ∀ (h : j < tx.length), ∃ r, (∀ i, i < 10 → xs[j * 10 + i]? = r.cells[i]?) ∧ SAt wr (g + 1) wr.heap.size (d + 1) r tx[j]
  low : Below w.heap.size w wr
  ge : w.heap.size ≤ g
theorem CIS.lt {w : World} {g : Nat} {tx : List St} {d : Nat} {Q : Nat → Raw} {k : Nat} {xs : Array Value} {wr : World} (h : CIS w g tx d Q k xs wr) : g < wr.heap.size := (Array.getElem?_eq_some_iff.1 h.row).1
theorem CIS.step {w : World} {g : Nat} {tx : List St} {d : Nat} {Q : Nat → Raw} {k : Nat} {xs xs' : Array Value} {wr W9 : World} {r : Raw} (inv : CIS w g tx d Q k xs wr) (hk : k < tx.length) (kp : Kg g wr W9) (low : Below w.heap.size w W9)
    (row : W9.heap[g]? = some (.cells xs' 43 (0, 0))) (hs : xs'.size = xs.size) (hfar : ∀ i, (i < k * 10 ∨ k * 10 + 10 ≤ i) → xs'[i]? = xs[i]?) (hnew : ∀ i, i < 10 → xs'[k * 10 + i]? = r.cells[i]?) (hr : SAt W9 (g + 1) W9.heap.size (d + 1) r tx[k]) :
    CIS w g tx d Q (k + 1) xs' W9 := by
  refine ⟨row, by rw [hs]; exact inv.len, fun j hj hjl i hi => ?_, fun j hj h => ?_, low, inv.ge⟩
  · rw [hfar _ (by omega)]
    exact inv.old j (by omega) hjl i hi
  · by_cases hjk : j < k
    · obtain ⟨r', h1, h2⟩ := inv.parts j hjk h
      exact ⟨r', fun i hi => by rw [hfar _ (by omega)]; exact h1 i hi, (kp.sat h2 (by omega) (Nat.le_refl _)).wide (Nat.le_refl _) kp.size _⟩
    · obtain rfl : j = k := by omega
      exact ⟨r, hnew, hr⟩
theorem ten_row {w : World} {g k : Nat} {xs : Array Value} {q : Raw} (hr : w.heap[g]? = some (.cells xs 43 (0, 0))) (h : ∀ i, i < 10 → xs[k * 10 + i]? = q.cells[i]?) : Ten w ⟨g, k * 10, none⟩ q := by
  have hc : ∀ i, i < 10 → w.cell? ⟨g, k * 10 + i, none⟩ = q.cells[i]? := fun i hi => by
    simp only [World.cell?, hr]
    exact h i hi
  exact ⟨hc 0 (by omega), hc 1 (by omega), hc 2 (by omega), hc 3 (by omega), hc 4 (by omega), hc 5 (by omega), hc 6 (by omega), hc 7 (by omega), hc 8 (by omega), hc 9 (by omega)⟩
theorem CIS.done {w : World} {g : Nat} {tx : List St} {d : Nat} {Q : Nat → Raw} {xs : Array Value} {wr : World} (inv : CIS w g tx d Q tx.length xs wr) : SKids wr w.heap.size wr.heap.size (d + 1) (some ⟨g, 0, none⟩) tx := fun j hj => by
  obtain ⟨r, h1, h2⟩ := inv.parts j hj hj
  have hg := inv.ge
  refine ⟨⟨g, 0, none⟩, r, rfl, inv.ge, inv.lt, ?_, h2.wide (by omega) (Nat.le_refl _) _⟩
  rw [row_add]
  exact ten_row inv.row h1
theorem CIS.rowx {w : World} {g : Nat} {tx : List St} {d : Nat} {Q : Nat → Raw} {k : Nat} {xs : Array Value} {wr : World} (inv : CIS w g tx d Q k xs wr) : RowX wr (fun b => w.heap.size ≤ b ∧ b < wr.heap.size) (some ⟨g, 0, none⟩) tx.length :=
  Or.inr ⟨g, xs, rfl, ⟨inv.ge, inv.lt⟩, inv.row, inv.len⟩
/-- All blocks but g are the same. -/
def Bg (g : Nat) (X Y : World) : Prop := ∀ b, b ≠ g → Y.heap[b]? = X.heap[b]?
theorem Bg.refl (g : Nat) (X : World) : Bg g X X := fun _ _ => rfl
theorem Bg.set {g i : Nat} {X Y : World} {u : Value} (h : Bg g X Y) : Bg g X (Y.setCell ⟨g, i, none⟩ u) := fun b hb => (Below.heap_setCell Y ⟨g, i, none⟩ u b hb).trans (h b hb)
/-- Six cells of a row that are set, one behind the other. -/
theorem row_six {w : World} {g m : Nat} {xs : Array Value} {t : TypeId} (h : w.heap[g]? = some (.cells xs t (0, 0))) (hm : m + 10 ≤ xs.size) (a0 a1 a2 a3 a4 : Value) :
    (∀ i, w.frozen? ⟨g, i, none⟩ = false) ∧ ∃ u0 u1 u2 u3 u4 u5, w.cell? ⟨g, m + 2, none⟩ = some u0 ∧ (w.setCell ⟨g, m + 2, none⟩ a0).cell? ⟨g, m + 3, none⟩ = some u1 ∧ ((w.setCell ⟨g, m + 2, none⟩ a0).setCell ⟨g, m + 3, none⟩ a1).cell? ⟨g, m + 4, none⟩ = some u2 ∧
      (((w.setCell ⟨g, m + 2, none⟩ a0).setCell ⟨g, m + 3, none⟩ a1).setCell ⟨g, m + 4, none⟩ a2).cell? ⟨g, m + 5, none⟩ = some u3 ∧ ((((w.setCell ⟨g, m + 2, none⟩ a0).setCell ⟨g, m + 3, none⟩ a1).setCell ⟨g, m + 4, none⟩ a2).setCell ⟨g, m + 5, none⟩ a3).cell? ⟨g, m + 6, none⟩ = some u4 ∧
      (((((w.setCell ⟨g, m + 2, none⟩ a0).setCell ⟨g, m + 3, none⟩ a1).setCell ⟨g, m + 4, none⟩ a2).setCell ⟨g, m + 5, none⟩ a3).setCell ⟨g, m + 6, none⟩ a4).cell? ⟨g, m + 7, none⟩ = some u5 := by
  have r1 := heap_set_same w g (m + 2) a0 _ _ h
  have r2 := heap_set_same _ g (m + 3) a1 _ _ r1
  have r3 := heap_set_same _ g (m + 4) a2 _ _ r2
  have r4 := heap_set_same _ g (m + 5) a3 _ _ r3
  have r5 := heap_set_same _ g (m + 6) a4 _ _ r4
  obtain ⟨u0, c0⟩ := row_cell (i := m + 2) h (by omega)
  obtain ⟨u1, c1⟩ := row_cell (i := m + 3) r1 (by simp; omega)
  obtain ⟨u2, c2⟩ := row_cell (i := m + 4) r2 (by simp; omega)
  obtain ⟨u3, c3⟩ := row_cell (i := m + 5) r3 (by simp; omega)
  obtain ⟨u4, c4⟩ := row_cell (i := m + 6) r4 (by simp; omega)
  obtain ⟨u5, c5⟩ := row_cell (i := m + 7) r5 (by simp; omega)
  exact ⟨fun i => row_free h, u0, u1, u2, u3, u4, u5, c0, c1, c2, c3, c4, c5⟩
theorem row_two {w : World} {g m : Nat} {xs : Array Value} {t : TypeId} (h : w.heap[g]? = some (.cells xs t (0, 0))) (hm : m + 10 ≤ xs.size) (a0 : Value) :
    (∀ i, w.frozen? ⟨g, i, none⟩ = false) ∧ ∃ u0 u1, w.cell? ⟨g, m + 8, none⟩ = some u0 ∧ (w.setCell ⟨g, m + 8, none⟩ a0).cell? ⟨g, m + 9, none⟩ = some u1 := by
  have r1 := heap_set_same w g (m + 8) a0 _ _ h
  obtain ⟨u0, c0⟩ := row_cell (i := m + 8) h (by omega)
  obtain ⟨u1, c1⟩ := row_cell (i := m + 9) r1 (by simp; omega)
  exact ⟨fun i => row_free h, u0, u1, c0, c1⟩
/-- Eight cells of a row that are set. -/
def setEight (xs : Array Value) (m : Nat) (a2 a3 a4 a5 a6 a7 a8 a9 : Value) : Array Value :=
  (((((((xs.setIfInBounds (m + 2) a2).setIfInBounds (m + 2 + 1) a3).setIfInBounds (m + 2 + 2) a4).setIfInBounds (m + 5) a5).setIfInBounds (m + 5 + 1) a6).setIfInBounds (m + 5 + 2) a7).setIfInBounds (m + 8) a8).setIfInBounds (m + 9) a9
theorem setEight_size (xs : Array Value) (m : Nat) (a2 a3 a4 a5 a6 a7 a8 a9 : Value) : (setEight xs m a2 a3 a4 a5 a6 a7 a8 a9).size = xs.size := by simp [setEight]
theorem setEight_far (xs : Array Value) (m : Nat) (a2 a3 a4 a5 a6 a7 a8 a9 : Value) (i : Nat) (h : i < m ∨ m + 10 ≤ i) : (setEight xs m a2 a3 a4 a5 a6 a7 a8 a9)[i]? = xs[i]? := by
  unfold setEight
  rw [Array.getElem?_setIfInBounds_ne (by omega), Array.getElem?_setIfInBounds_ne (by omega), Array.getElem?_setIfInBounds_ne (by omega), Array.getElem?_setIfInBounds_ne (by omega), Array.getElem?_setIfInBounds_ne (by omega), Array.getElem?_setIfInBounds_ne (by omega), Array.getElem?_setIfInBounds_ne (by omega), Array.getElem?_setIfInBounds_ne (by omega)]
theorem set_at {xs : Array Value} {j : Nat} {a : Value} (hj : j < xs.size) : (xs.setIfInBounds j a)[j]? = some a := Array.getElem?_setIfInBounds_self_of_lt hj
theorem setEight_new (xs : Array Value) (m : Nat) (a2 a3 a4 a5 a6 a7 a8 a9 b0 b1 : Value) (h : m + 10 ≤ xs.size) (h0 : xs[m + 0]? = some b0) (h1 : xs[m + 1]? = some b1) :
    ∀ i, i < 10 → (setEight xs m a2 a3 a4 a5 a6 a7 a8 a9)[m + i]? = [b0, b1, a2, a3, a4, a5, a6, a7, a8, a9][i]? := by
  intro i hi
  unfold setEight
  obtain rfl | rfl | rfl | rfl | rfl | rfl | rfl | rfl | rfl | rfl : i = 0 ∨ i = 1 ∨ i = 2 ∨ i = 3 ∨ i = 4 ∨ i = 5 ∨ i = 6 ∨ i = 7 ∨ i = 8 ∨ i = 9 := by omega
  · rw [Array.getElem?_setIfInBounds_ne (by omega), Array.getElem?_setIfInBounds_ne (by omega), Array.getElem?_setIfInBounds_ne (by omega), Array.getElem?_setIfInBounds_ne (by omega), Array.getElem?_setIfInBounds_ne (by omega), Array.getElem?_setIfInBounds_ne (by omega), Array.getElem?_setIfInBounds_ne (by omega), Array.getElem?_setIfInBounds_ne (by omega)]
    exact h0
  · rw [Array.getElem?_setIfInBounds_ne (by omega), Array.getElem?_setIfInBounds_ne (by omega), Array.getElem?_setIfInBounds_ne (by omega), Array.getElem?_setIfInBounds_ne (by omega), Array.getElem?_setIfInBounds_ne (by omega), Array.getElem?_setIfInBounds_ne (by omega), Array.getElem?_setIfInBounds_ne (by omega), Array.getElem?_setIfInBounds_ne (by omega)]
    exact h1
  · rw [Array.getElem?_setIfInBounds_ne (by omega), Array.getElem?_setIfInBounds_ne (by omega), Array.getElem?_setIfInBounds_ne (by omega), Array.getElem?_setIfInBounds_ne (by omega), Array.getElem?_setIfInBounds_ne (by omega), Array.getElem?_setIfInBounds_ne (by omega), Array.getElem?_setIfInBounds_ne (by omega)]
    exact set_at (by omega)
  · rw [Array.getElem?_setIfInBounds_ne (by omega), Array.getElem?_setIfInBounds_ne (by omega), Array.getElem?_setIfInBounds_ne (by omega), Array.getElem?_setIfInBounds_ne (by omega), Array.getElem?_setIfInBounds_ne (by omega), Array.getElem?_setIfInBounds_ne (by omega)]
    exact set_at (by simp; omega)
  · rw [Array.getElem?_setIfInBounds_ne (by omega), Array.getElem?_setIfInBounds_ne (by omega), Array.getElem?_setIfInBounds_ne (by omega), Array.getElem?_setIfInBounds_ne (by omega), Array.getElem?_setIfInBounds_ne (by omega)]
    exact set_at (by simp; omega)
  · rw [Array.getElem?_setIfInBounds_ne (by omega), Array.getElem?_setIfInBounds_ne (by omega), Array.getElem?_setIfInBounds_ne (by omega), Array.getElem?_setIfInBounds_ne (by omega)]
    exact set_at (by simp; omega)
  · rw [Array.getElem?_setIfInBounds_ne (by omega), Array.getElem?_setIfInBounds_ne (by omega), Array.getElem?_setIfInBounds_ne (by omega)]
    exact set_at (by simp; omega)
  · rw [Array.getElem?_setIfInBounds_ne (by omega), Array.getElem?_setIfInBounds_ne (by omega)]
    exact set_at (by simp; omega)
  · rw [Array.getElem?_setIfInBounds_ne (by omega)]
    exact set_at (by simp; omega)
  · exact set_at (by simp; omega)
/-- What Copy leaves. -/
def CopiedS (w : World) (d : Nat) (tx : List St) (e : Ending) (w' : World) : Prop := ∃ A cap, e = .returned (.slice A tx.length cap) ∧ SKids w' w.heap.size w'.heap.size d A tx ∧ Below w.heap.size w w' ∧ RowX w' (fun b => w.heap.size ≤ b ∧ b < w'.heap.size) A tx.length
set_option maxRecDepth 100000 in
set_option maxHeartbeats 8000000 in
theorem codecopy_any (d : Nat) : ∀ (A : Option Addr) (c : Nat) (tx : List St) (lo hi : Nat) (w : World), SKids w lo hi d A tx → hi ≤ w.heap.size → tx.length ≤ 100000 → (∀ s ∈ tx, Sm d s) →
    Calls Tryz.prog 38 #[.slice A tx.length c] w (CopiedS w d tx) := by
  induction d with
  | zero =>
    intro A c tx lo hi w hk hhi hl hS
    have h0 : tx = [] := by
      cases tx with
      | nil => rfl
      | cons s r =>
        obtain ⟨p, q, _, _, _, _, hs⟩ := hk 0 (by simp)
        exact hs.elim
    subst h0
    have HC := Lib.hid (clone_any (fun _ => default) 0 (by omega) A c w (fun k hk => absurd hk (by omega)))
    clear hk hS
    go_enter Tryz.func38, Tryz.ntmps38
    go_wp2_with fail
    refine HC.out.mono ?_
    rintro e w5 ⟨A5, cap5, rfl, b5, _⟩
    go_wp2_with fail
    go_loopw [9] (fun i wr => i = .int .i64 0 ∧ wr = w5) (fun i _ => 0)
    case atStart => exact ⟨rfl, rfl⟩
    case round =>
      obtain ⟨rfl, rfl⟩ := hrel
      go_wp2_with fail
      go_ret
      exact ⟨A5, cap5, rfl, SKids.nil _ _ _ _ _, b5, Or.inl rfl⟩
  | succ d ih =>
    intro A c tx lo hi w hk hhi hl hS
    have hQ : ∃ Q : Nat → Raw, ∀ j, j < tx.length → ∃ p, A = some p ∧ lo ≤ p.block ∧ p.block < hi ∧ Ten w (p.add (j * 10)) (Q j) ∧ ∃ (h : j < tx.length), SAt w lo hi (d + 1) (Q j) tx[j] :=
      choose_lt (p := fun j q => ∃ p, A = some p ∧ lo ≤ p.block ∧ p.block < hi ∧ Ten w (p.add (j * 10)) q ∧ ∃ (h : j < tx.length), SAt w lo hi (d + 1) q tx[j]) fun j hj => by
        obtain ⟨p, q, e1, m1, m2, t1, s1⟩ := hk j hj
        exact ⟨q, p, e1, m1, m2, t1, hj, s1⟩
    obtain ⟨Q, hQ⟩ := hQ
    have HC := Lib.hid (clone_any Q tx.length hl A c w (fun k hk => by obtain ⟨p, e1, _, _, t1, _⟩ := hQ k hk; exact ⟨p, e1, t1⟩))
    have HQ := Lib.hid (fun j hj => (hQ j hj).imp fun p h => h.2.2.2.2)
    have HS := Lib.hid hS
    have IH := Lib.hid ih
    clear hk hS hQ ih
    go_enter Tryz.func38, Tryz.ntmps38
    go_wp2_with fail
    refine HC.out.mono ?_
    rintro e w5 ⟨A5, cap5, rfl, b5, hrow⟩
    rcases Nat.eq_zero_or_pos tx.length with hz | hz
    · obtain rfl := List.eq_nil_of_length_eq_zero hz
      clear hrow HQ HS IH HC
      go_wp2_with fail
      go_loopw [9] (fun i wr => i = .int .i64 0 ∧ wr = w5) (fun i _ => 0)
      case atStart => exact ⟨rfl, rfl⟩
      case round =>
        obtain ⟨rfl, rfl⟩ := hrel
        go_wp2_with fail
        go_ret
        exact ⟨A5, cap5, rfl, SKids.nil _ _ _ _ _, b5, Or.inl rfl⟩
    obtain ⟨g, cur, rfl, hg, hr, hcs, hcur⟩ := hrow.resolve_left (by omega)
    have hI0 : Hid (CIS w g tx d Q 0 cur w5) := ⟨hr, hcs, fun j _ hj i hi => by rw [hcur _ (by omega)]; exact rowOf_get Q tx.length j i hj hi, fun j hj => absurd hj (by omega), b5, hg⟩
    clear hrow hr hcs hcur HC
    go_wp2_with fail
    go_loopw [9] (fun i wr => ∃ (k : Nat) (xs : Array Value), k ≤ tx.length ∧ i = .int .i64 k ∧ Hid (CIS w g tx d Q k xs wr)) (fun i _ => tx.length - (intOf i).toNat)
    case atStart => exact ⟨0, cur, by omega, rfl, hI0⟩
    case round =>
      obtain ⟨k, xs, hk, rfl, INV⟩ := hrel
      by_cases hlt : k < tx.length
      · have inv := INV.out
        have tr := ten_row inv.row (fun i hi => inv.old k (Nat.le_refl _) hlt i hi)
        obtain ⟨_, hlt', hs⟩ := HQ.out k hlt
        have hSm := HS.out _ (List.getElem_mem hlt)
        have hlow := inv.low
        have hgl := inv.lt
        have hsw := hs.below hlow hhi
        obtain ⟨s, hsx⟩ : ∃ s, s = tx[k] := ⟨_, rfl⟩
        rw [← hsx] at hsw hSm
        obtain ⟨sk, st, sa, sb, sy, se⟩ := s
        obtain ⟨⟨e1, e2, e3, e4⟩, ⟨q1, q2, q3, q4, q5⟩, ha, hb, hy, he⟩ := hsw.open_
        obtain ⟨m1, m2, m3, m4, m5, m6⟩ := hSm
        obtain ⟨q, hq⟩ : ∃ q, q = Q k := ⟨_, rfl⟩
        rw [← hq] at tr e1 e2 e3 e4 ha hb hy he
        have holdk := fun i hi => inv.old k (Nat.le_refl _) hlt i hi
        rw [← hq] at holdk
        obtain ⟨rk, rt, rao, ran, raA, ral, rac, rbo, rbn, rbA, rbl, rbc, ryA, ryl, ryc, reA, rel, r9c⟩ := q
        dsimp only at e1 e2 e3 e4 hy he
        subst e1 e2 e3 e4
        have g0 := tr.c0
        have g1 := tr.c1
        have g2 := tr.c2
        have g3 := tr.c3
        have g4 := tr.c4
        have g5 := tr.c5
        have g6 := tr.c6
        have g7 := tr.c7
        have g8 := tr.c8
        have g9 := tr.c9
        dsimp only at g0 g1 g2 g3 g4 g5 g6 g7 g8 g9
        have i1 : (0 : Int) ≤ (k : Int) := by omega
        have i2 : (k : Int) < (tx.length : Int) := by omega
        have HH := Lib.hid (And.intro ha (And.intro hb (And.intro hy (And.intro he (And.intro m1 (And.intro m2 (And.intro m3 (And.intro m4 (And.intro m5 m6)))))))))
        have HX := Lib.hid hsx
        have HO := Lib.hid holdk
        have HQQ := Lib.hid (And.intro q1 (And.intro q2 q3))
        have HL := Lib.hid (And.intro hlow hgl)
        clear ha hb hy he m1 m2 m3 m4 m5 m6 hsx hsw hs hq inv tr holdk q1 q2 q3 hlow hgl
        go_upto_region 5 with fail
        clear g0 g1 g2 g3 g4 g5 g6 g7 g8 g9
        obtain ⟨W4, hW4⟩ : ∃ W4, W4 = wr.alloc (.cells #[.int .u8 rk, .int .i64 rt, .int .u8 rao, .int .i64 ran, .slice raA ral rac, .int .u8 rbo, .int .i64 rbn, .slice rbA rbl rbc, .slice ryA sy.length ryc, .slice reA se.length r9c] 43) := ⟨_, rfl⟩
        have b4 : Below wr.heap.size wr W4 := by rw [hW4]; exact ten_below wr ⟨rk, rt, rao, ran, raA, ral, rac, rbo, rbn, rbA, rbl, rbc, ryA, sy.length, ryc, reA, se.length, r9c⟩
        have z4 : W4.heap.size = wr.heap.size + 1 := by rw [hW4]; simp
        have t4 : Ten W4 ⟨wr.heap.size, 0, none⟩ ⟨rk, rt, rao, ran, raA, ral, rac, rbo, rbn, rbA, rbl, rbc, ryA, sy.length, ryc, reA, se.length, r9c⟩ := by rw [hW4]; exact Ten.new wr ⟨rk, rt, rao, ran, raA, ral, rac, rbo, rbn, rbA, rbl, rbc, ryA, sy.length, ryc, reA, se.length, r9c⟩
        rw [← hW4]
        clear hW4
        obtain ⟨hlow, hgl⟩ := HL.out
        have hz := hlow.size
        have low4 := hlow.trans (b4.mono hlow.size)
        have HA := Lib.hid (fun (W' : World) (h' : Below W4.heap.size W4 W') => (copy_any d sa _ lo hi W' (HH.out.1.below (b4.trans (h'.mono b4.size)) (by omega)) (by have := h'.size; omega) HH.out.2.2.2.2.1).mono fun z w' (hz : Copied W' d sa z w') => (show ∃ v, z = .returned v ∧ At w' (g + 1) w'.heap.size d v sa ∧ Below W4.heap.size W4 w' from by
          obtain ⟨v, h1, h2, h3⟩ := hz
          exact ⟨v, h1, h2.wide (by have := h'.size; omega) (Nat.le_refl _) d, h'.trans (h3.mono h'.size)⟩))
        have HB := Lib.hid (fun (W' : World) (h' : Below W4.heap.size W4 W') => (copy_any d sb _ lo hi W' (HH.out.2.1.below (b4.trans (h'.mono b4.size)) (by omega)) (by have := h'.size; omega) HH.out.2.2.2.2.2.1).mono fun z w' (hz : Copied W' d sb z w') => (show ∃ v, z = .returned v ∧ At w' (g + 1) w'.heap.size d v sb ∧ Below W4.heap.size W4 w' ∧ Below W'.heap.size W' w' from by
          obtain ⟨v, h1, h2, h3⟩ := hz
          exact ⟨v, h1, h2.wide (by have := h'.size; omega) (Nat.le_refl _) d, h'.trans (h3.mono h'.size), h3⟩))
        have HROW := Lib.hid (fun (W' : World) (h' : Below W4.heap.size W4 W') => (h'.block g (by omega)).trans ((b4.block g hgl).trans INV.out.row))
        have HLEN : Hid (k * 10 + 10 ≤ xs.size) := by have := INV.out.len; show _ ≤ _; omega
        have HKEEP := Lib.hid (fun (w' : World) (h' : Below W4.heap.size W4 w') => t4.below h' (by show wr.heap.size < _; omega))
        have HT4 := Lib.hid t4
        have HB4 := Lib.hid (And.intro b4 (And.intro z4 low4))
        have f2 := t4.c2
        have f3 := t4.c3
        have f4 := t4.c4
        have f5 := t4.c5
        have f6 := t4.c6
        have f7 := t4.c7
        dsimp only at f2 f3 f4 f5 f6 f7
        rw [Nat.zero_add] at f2 f3 f4 f5 f6 f7
        have hS := Lib.hid (fun (w' X : World) (h' : Below W4.heap.size W4 w') (hx : Bg g w' X) => (show X.cell? ⟨wr.heap.size, 2, none⟩ = some (.int .u8 rao) ∧ X.cell? ⟨wr.heap.size, 3, none⟩ = some (.int .i64 ran) ∧ X.cell? ⟨wr.heap.size, 4, none⟩ = some (.slice raA ral rac) ∧ X.cell? ⟨wr.heap.size, 5, none⟩ = some (.int .u8 rbo) ∧ X.cell? ⟨wr.heap.size, 6, none⟩ = some (.int .i64 rbn) ∧ X.cell? ⟨wr.heap.size, 7, none⟩ = some (.slice rbA rbl rbc) from by
          have hc : ∀ i, X.cell? ⟨wr.heap.size, i, none⟩ = W4.cell? ⟨wr.heap.size, i, none⟩ := fun i => (World.cell?_of_block (a := ⟨wr.heap.size, i, none⟩) (hx wr.heap.size (by omega))).trans (h'.cell (p := ⟨wr.heap.size, i, none⟩) (by show wr.heap.size < _; omega))
          exact ⟨(hc 2).trans f2, (hc 3).trans f3, (hc 4).trans f4, (hc 5).trans f5, (hc 6).trans f6, (hc 7).trans f7⟩))
        have E0 := Lib.hid (hS.out W4 W4 (Below.refl _ _) (Bg.refl _ _))
        have E1 := Lib.hid (hS.out W4.drew W4.drew (Below.refl _ _).drew (Bg.refl _ _))
        have hne : g ≠ wr.heap.size := by omega
        have hne' : wr.heap.size ≠ g := by omega
        clear hlow hgl hz low4 b4 z4 t4
        go_region_held3 (fun w' => w'.cell? ⟨wr.heap.size, 2, none⟩ = some (.int .u8 rao) ∧ w'.cell? ⟨wr.heap.size, 3, none⟩ = some (.int .i64 ran) ∧ w'.cell? ⟨wr.heap.size, 4, none⟩ = some (.slice raA ral rac) ∧ w'.cell? ⟨wr.heap.size, 5, none⟩ = some (.int .u8 rbo) ∧ w'.cell? ⟨wr.heap.size, 6, none⟩ = some (.int .i64 rbn) ∧ w'.cell? ⟨wr.heap.size, 7, none⟩ = some (.slice rbA rbl rbc))
          (first | exact E0.out | exact E1.out | exact hS.out _ _ b7 (Bg.refl _ _) | go_keep)
          (first
            | (go_at_call 61; refine (HB.out w7 b7).mono ?_; clear HA HB f2 f3 f4 f5 f6 f7; rintro z w8 ⟨v8, rfl, hA8, b8, b78⟩; obtain ⟨e2, e3, e4, e5, e6, e7⟩ := hS.out w8 w8 b8 (Bg.refl _ _); have hA7' := (hA7.below b78 (Nat.le_refl _)).wide (Nat.le_refl _) b78.size d; clear b7 b78 hA7 hS; obtain ⟨x8, y8, z8, rfl⟩ := boxed_at hA8; obtain ⟨o8, n8, A8, l8, c8, rfl, rfl, rfl⟩ := hA8.form; obtain ⟨fz, s0, s1, s2, s3, s4, s5, d0, d1, d2, d3, d4, d5⟩ := row_six (HROW.out w8 b8) HLEN.out (.int .u8 o7) (.int .i64 n7) (.slice A7 l7 c7) (.int .u8 o8) (.int .i64 n8))
            | (go_at_call 61; refine (HA.out W4.drew (Below.refl _ _).drew).mono ?_; rintro z w7 ⟨v7, rfl, hA7, b7⟩; clear E0 E1; obtain ⟨x7, y7, z7, rfl⟩ := boxed_at hA7; obtain ⟨o7, n7, A7, l7, c7, rfl, rfl, rfl⟩ := hA7.form)
            | fail)
        obtain ⟨hlow, hgl⟩ := HL.out
        obtain ⟨b4, z4, low4⟩ := HB4.out
        have hge := INV.out.ge
        have hz := hlow.size
        obtain ⟨W7, hW7⟩ : ∃ W7, W7 = (((((w8.setCell ⟨g, k * 10 + 2, none⟩ (.int .u8 o7)).setCell ⟨g, k * 10 + 2 + 1, none⟩ (.int .i64 n7)).setCell ⟨g, k * 10 + 2 + 2, none⟩ (.slice A7 l7 c7)).setCell ⟨g, k * 10 + 5, none⟩ (.int .u8 o8)).setCell ⟨g, k * 10 + 5 + 1, none⟩ (.int .i64 n8)).setCell ⟨g, k * 10 + 5 + 2, none⟩ (.slice A8 l8 c8) := ⟨_, rfl⟩
        have row8 := HROW.out w8 b8
        have row7 := heap_set_same _ g (k * 10 + 5 + 2) (.slice A8 l8 c8) _ _ (heap_set_same _ g (k * 10 + 5 + 1) (.int .i64 n8) _ _ (heap_set_same _ g (k * 10 + 5) (.int .u8 o8) _ _ (heap_set_same _ g (k * 10 + 2 + 2) (.slice A7 l7 c7) _ _ (heap_set_same _ g (k * 10 + 2 + 1) (.int .i64 n7) _ _ (heap_set_same w8 g (k * 10 + 2) (.int .u8 o7) _ _ row8)))))
        have k7 : Kg g w8 W7 := by rw [hW7]; exact (((((Kg.set _).trans (Kg.set _)).trans (Kg.set _)).trans (Kg.set _)).trans (Kg.set _)).trans (Kg.set _)
        have l7' : Below w.heap.size w8 W7 := by rw [hW7]; exact ((((((Below.refl _ w8).setCell (p := ⟨g, _, none⟩) hge _).setCell (p := ⟨g, _, none⟩) hge _).setCell (p := ⟨g, _, none⟩) hge _).setCell (p := ⟨g, _, none⟩) hge _).setCell (p := ⟨g, _, none⟩) hge _).setCell (p := ⟨g, _, none⟩) hge _
        have z7 : W7.heap.size = w8.heap.size := by rw [hW7]; simp
        have bg7 : Bg g w8 W7 := by rw [hW7]; exact (Bg.refl _ _).set.set.set.set.set.set
        rw [← hW7] at row7 ⊢
        clear hW7
        have lowr7 : Below w.heap.size wr W7 := ((b4.mono hz).trans (b8.mono low4.size)).trans l7'
        have kr7 : Kg g wr W7 := ((Kg.of_below b4).trans (Kg.of_below b8)).trans k7
        have hA7 := k7.at_ hA7' (by omega) (Nat.le_refl _)
        have hA9 := k7.at_ hA8 (by omega) (Nat.le_refl _)
        rw [← z7] at hA7 hA9
        have z48 := b8.size
        have t7 : Ten W7 ⟨wr.heap.size, 0, none⟩ ⟨rk, rt, rao, ran, raA, ral, rac, rbo, rbn, rbA, rbl, rbc, ryA, sy.length, ryc, reA, se.length, r9c⟩ := (HKEEP.out w8 b8).keep (fun q hq => World.cell?_of_block (bg7 q.block (by rw [hq]; exact hne')))
        have HROW7 := Lib.hid (fun (W' : World) (h' : Below W7.heap.size W7 W') => (h'.block g (by omega)).trans row7)
        have HT7 := Lib.hid (fun (w' : World) (h' : Below W7.heap.size W7 w') => t7.below h' (by show wr.heap.size < _; omega))
        have HY := Lib.hid (fun (W' : World) (h' : Below W7.heap.size W7 W') => (IH.out ryA ryc sy lo hi W' (HH.out.2.2.1.below (lowr7.trans (h'.mono (by omega))) (by omega)) (by have := h'.size; omega) HH.out.2.2.2.2.2.2.1 HH.out.2.2.2.2.2.2.2.2.1).mono fun z w' (hz : CopiedS W' d sy z w') => (show ∃ A' cap, z = .returned (.slice A' sy.length cap) ∧ SKids w' (g + 1) w'.heap.size d A' sy ∧ Below W7.heap.size W7 w' from by
          obtain ⟨A', cap, h1, h2, h3, _⟩ := hz
          exact ⟨A', cap, h1, h2.wide (by have := h'.size; omega) (Nat.le_refl _), h'.trans (h3.mono h'.size)⟩))
        have HE := Lib.hid (fun (W' : World) (h' : Below W7.heap.size W7 W') => (IH.out reA r9c se lo hi W' (HH.out.2.2.2.1.below (lowr7.trans (h'.mono (by omega))) (by omega)) (by have := h'.size; omega) HH.out.2.2.2.2.2.2.2.1 HH.out.2.2.2.2.2.2.2.2.2).mono fun z w' (hz : CopiedS W' d se z w') => (show ∃ A' cap, z = .returned (.slice A' se.length cap) ∧ SKids w' (g + 1) w'.heap.size d A' se ∧ Below W7.heap.size W7 w' ∧ Below W'.heap.size W' w' from by
          obtain ⟨A', cap, h1, h2, h3, _⟩ := hz
          exact ⟨A', cap, h1, h2.wide (by have := h'.size; omega) (Nat.le_refl _), h'.trans (h3.mono h'.size), h3⟩))
        have f8 := t7.c8
        have f9 := t7.c9
        dsimp only at f8 f9
        rw [Nat.zero_add] at f8 f9
        have hS := Lib.hid (fun (w' : World) (h' : Below W7.heap.size W7 w') => (show w'.cell? ⟨wr.heap.size, 8, none⟩ = some (.slice ryA sy.length ryc) ∧ w'.cell? ⟨wr.heap.size, 9, none⟩ = some (.slice reA se.length r9c) from
          ⟨(h'.cell (p := ⟨wr.heap.size, 8, none⟩) (by show wr.heap.size < _; omega)).trans f8, (h'.cell (p := ⟨wr.heap.size, 9, none⟩) (by show wr.heap.size < _; omega)).trans f9⟩))
        have E0 := Lib.hid (hS.out W7 (Below.refl _ _))
        have E1 := Lib.hid (hS.out W7.drew (Below.refl _ _).drew)
        have HLEN7 : Hid (k * 10 + 10 ≤ ((((((xs.setIfInBounds (k * 10 + 2) (.int .u8 o7)).setIfInBounds (k * 10 + 2 + 1) (.int .i64 n7)).setIfInBounds (k * 10 + 2 + 2) (.slice A7 l7 c7)).setIfInBounds (k * 10 + 5) (.int .u8 o8)).setIfInBounds (k * 10 + 5 + 1) (.int .i64 n8)).setIfInBounds (k * 10 + 5 + 2) (.slice A8 l8 c8)).size) := by have := HLEN.out; show _ ≤ _; simpa using this
        have HZZ := Lib.hid (And.intro lowr7 (And.intro kr7 (And.intro hA7 (And.intro hA9 (And.intro z7 (And.intro hlow (And.intro hge hz)))))))
        clear hlow hgl b4 z4 low4 hge hz row8 row7 k7 l7' z7 bg7 lowr7 kr7 hA7 hA9 t7 z48 hA8 hA7' b8 fz d0 d1 d2 d3 d4 d5 e2 e3 e4 e5 e6 e7
        go_upto_region 6 with fail
        go_region_held3 (fun w' => w'.cell? ⟨wr.heap.size, 8, none⟩ = some (.slice ryA sy.length ryc) ∧ w'.cell? ⟨wr.heap.size, 9, none⟩ = some (.slice reA se.length r9c))
          (first | exact E0.out | exact E1.out | exact hS.out _ b9 | go_keep)
          (first
            | (go_at_call 38; refine (HE.out w9 b9).mono ?_; clear HY HE f8 f9; rintro z w10 ⟨A10, c10, rfl, hA10, b10, b90⟩; obtain ⟨e8, e9⟩ := hS.out w10 b10; obtain ⟨fz, s0, s1, d0, d1⟩ := row_two (HROW7.out w10 b10) HLEN7.out (.slice A9 sy.length c9); have hA9' := ((Kg.of_below (g := g) b90).kids hA9 (by omega) (Nat.le_refl _)).wide (Nat.le_refl _) b90.size; clear b9 b90 hA9 hS)
            | (go_at_call 38; refine (HY.out W7.drew (Below.refl _ _).drew).mono ?_; rintro z w9 ⟨A9, c9, rfl, hA9, b9⟩; clear E0 E1)
            | fail)
        obtain ⟨lowr7, kr7, hA7, hB7, z7, hlow, hge, hz⟩ := HZZ.out
        have row10 := HROW7.out w10 b10
        have row9 := heap_set_same _ g (k * 10 + 9) (.slice A10 se.length c10) _ _ (heap_set_same w10 g (k * 10 + 8) (.slice A9 sy.length c9) _ _ row10)
        have z10 := b10.size
        have kr9 : Kg g w10 ((w10.setCell ⟨g, k * 10 + 8, none⟩ (.slice A9 sy.length c9)).setCell ⟨g, k * 10 + 9, none⟩ (.slice A10 se.length c10)) := (Kg.set _).trans (Kg.set _)
        have zz : ((w10.setCell ⟨g, k * 10 + 8, none⟩ (.slice A9 sy.length c9)).setCell ⟨g, k * 10 + 9, none⟩ (.slice A10 se.length c10)).heap.size = w10.heap.size := by simp
        have k710 : Kg g W7 w10 := Kg.of_below b10
        have hsat : SAt ((w10.setCell ⟨g, k * 10 + 8, none⟩ (.slice A9 sy.length c9)).setCell ⟨g, k * 10 + 9, none⟩ (.slice A10 se.length c10)) (g + 1) ((w10.setCell ⟨g, k * 10 + 8, none⟩ (.slice A9 sy.length c9)).setCell ⟨g, k * 10 + 9, none⟩ (.slice A10 se.length c10)).heap.size (d + 1) ⟨rk, rt, o7, n7, A7, l7, c7, o8, n8, A8, l8, c8, A9, sy.length, c9, A10, se.length, c10⟩ tx[k] := by
          rw [← HX.out, zz]
          refine ⟨⟨rfl, rfl, rfl, rfl⟩, ⟨HQQ.out.1, HQQ.out.2.1, HQQ.out.2.2, by have := HH.out.2.2.2.2.2.2.1; omega, by have := HH.out.2.2.2.2.2.2.2.1; omega⟩, ?_, ?_, ?_, ?_⟩
          · exact ((k710.trans kr9).at_ hA7 (by omega) (Nat.le_refl _)).wide (Nat.le_refl _) z10 d
          · exact ((k710.trans kr9).at_ hB7 (by omega) (Nat.le_refl _)).wide (Nat.le_refl _) z10 d
          · exact kr9.kids hA9' (by omega) (Nat.le_refl _)
          · exact kr9.kids hA10 (by omega) (Nat.le_refl _)
        have hstep := INV.out.step (r := ⟨rk, rt, o7, n7, A7, l7, c7, o8, n8, A8, l8, c8, A9, sy.length, c9, A10, se.length, c10⟩) hlt ((kr7.trans k710).trans kr9) ((((hlow.trans lowr7).trans (b10.mono (by have := lowr7.size; omega))).setCell (p := ⟨g, _, none⟩) hge _).setCell (p := ⟨g, _, none⟩) hge _) row9 (setEight_size xs (k * 10) (.int .u8 o7) (.int .i64 n7) (.slice A7 l7 c7) (.int .u8 o8) (.int .i64 n8) (.slice A8 l8 c8) (.slice A9 sy.length c9) (.slice A10 se.length c10))
          (fun i hi => setEight_far xs (k * 10) _ _ _ _ _ _ _ _ i hi) (fun i hi => setEight_new xs (k * 10) (.int .u8 o7) (.int .i64 n7) (.slice A7 l7 c7) (.int .u8 o8) (.int .i64 n8) (.slice A8 l8 c8) (.slice A9 sy.length c9) (.slice A10 se.length c10) _ _ HLEN.out (HO.out 0 (by omega)) (HO.out 1 (by omega)) i hi) hsat
        have HST := Lib.hid hstep
        clear lowr7 kr7 hA7 hB7 z7 hlow hge hz row10 row9 z10 kr9 zz k710 hsat hstep hA9' hA10 b10 fz d0 d1 e8 e9
        go_wp2_with fail
        go_roundw
        case rel => exact ⟨k + 1, _, by omega, by go_num, HST.out⟩
        case measure => simp [intOf]; omega
      · obtain rfl : k = tx.length := by omega
        have HD := Lib.hid (And.intro INV.out.done (And.intro INV.out.low INV.out.rowx))
        go_wp2_with fail
        go_ret
        exact ⟨_, _, rfl, HD.out.1, HD.out.2.1, HD.out.2.2⟩
end Go.Proofs.YthdcdffdpdoeoaaGreatDoor
