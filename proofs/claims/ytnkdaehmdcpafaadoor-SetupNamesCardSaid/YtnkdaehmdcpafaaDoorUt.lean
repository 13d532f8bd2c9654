/-
  CONTRACTS OF slices.Clone AS PACKAGE setup CALLS IT (numbers, threads, transactions): the same cells, in a row of the call's own; the memory that was there stays as it was. Condition: at most 100000 of them.
-/
import Derived.Test.YtnkdaehmdcpafaaDoorUp
import Derived.Test.YtnkdaehmdcpafaaDoorCv
import Derived.Laws.AppendOwn
namespace Go.Proofs.YtnkdaehmdcpafaaDoor
open Go.RowKit Go.Deep
set_option linter.unusedVariables false
theorem int64_info6 : (Tryd.prog.info? 2).map (fun i => (i.zero, i.size, i.bytes)) = some (some (.int .i64 0), 1, 8) := by kernel_rfl
/-- What a Clone leaves. -/
def Cloned1 (t : TypeId) (vs : List Value) (n : Nat) (w : World) (e : Ending) (w' : World) : Prop := ∃ A cap, e = .returned (.slice A n cap) ∧ w'.ownsRow w.heap.size t 1 (.slice A n cap) n vs ∧ Below w.heap.size w w'
theorem cloned1_of {t : TypeId} {vs : List Value} {n : Nat} {w w1 w' : World} {v : Value} (h : w'.ownsRow w.heap.size t 1 v n vs) (hb : Below w.heap.size w w') : Cloned1 t vs n w (.returned v) w' := by
  have h' := h
  obtain ⟨_, ⟨rfl, rfl⟩ | ⟨g, cap, cur, rfl, _⟩⟩ := h'
  · exact ⟨none, 0, rfl, h, hb⟩
  · exact ⟨_, cap, rfl, h, hb⟩
theorem eqcIn_ints (d : Nat) (b : Option Addr) (l c : Nat) (w : World) : (Op.equalIn (d + 1) 22 (.slice b l c) (.slice none 0 0)).run Tryd.prog w = .ok b.isNone w := by
  cases b <;> simp [Op.equalIn, run_underlying Tryd.underlying22]
theorem eqc_ints (b : Option Addr) (l c : Nat) (w : World) : (Op.equal 22 (.slice b l c) (.slice none 0 0)).run Tryd.prog w = .ok b.isNone w := eqcIn_ints 9999 b l c w
theorem eqcl_ints (b : Option Addr) (l c : Nat) (w : World) : (Go.binOp .eql 22 (.slice b l c) (.slice none 0 0)).run Tryd.prog w = .ok (.bool b.isNone) w := by
  simp only [Go.binOp]
  simp [eqc_ints]
set_option maxRecDepth 100000 in
theorem clone_ints (vs : List Value) (n : Nat) (hvn : vs.length = n) (h1 : ∀ u ∈ vs, u.oneCell' = true) (hn : n ≤ 100000) (A : Option Addr) (c : Nat) (w : World) (h : ∀ k (h : k < vs.length), ∃ p, A = some p ∧ w.cell? (p.add k) = some vs[k]) :
    Calls Tryd.prog 29 #[.slice A n c] w (Cloned1 2 vs n w) := by
  cases A with
  | none =>
    have h0 : vs = [] := by
      cases vs with
      | nil => rfl
      | cons x r =>
        obtain ⟨p, hp, _⟩ := h 0 (by simp)
        cases hp
    subst h0
    obtain rfl : n = 0 := by simpa using hvn.symm
    have heq := eqcl_ints none
    clear h h1 hvn
    go_enter Tryd.func29, Tryd.ntmps29
    go_wp2_with fail
    go_ret
    exact cloned1_of (w1 := w) (World.ownsRow_nil _ _ _ _) (Below.refl _ _)
  | some p =>
    have heq := eqcl_ints (some p)
    have hb0 : Below w.heap.size w (w.alloc (.cells #[] 2)) := (Below.refl _ _).alloc (Nat.le_refl _) _
    have hown := World.ownsRow_made (e := 2) (base := w.heap.size) (size := 1) w #[] 0 (Nat.le_refl _) (by unfold maxLen; omega) rfl
    have HN : Hid (∀ j u, vs[j]? = some u → (w.alloc (.cells #[] 2)).cell? (p.add j) = some u) := fun j u hu => by
      have hj : j < vs.length := by
        rcases Nat.lt_or_ge j vs.length with h | h
        · exact h
        · rw [List.getElem?_eq_none h] at hu; cases hu
      obtain ⟨p', hp, hc⟩ := h j hj
      cases hp
      rw [List.getElem?_eq_getElem hj] at hu
      rw [← hu, ← hc]
      exact hb0.cell (there_blk hc)
    have HOWN := Lib.hid hown
    have HB := Lib.hid hb0
    have H1 := Lib.hid h1
    have HL := Lib.hid hvn
    obtain ⟨i0, hi0, hz0, hz1, hz2⟩ := info_parts2 int64_info6
    clear h hb0 hown h1 hvn
    go_enter Tryd.func29, Tryd.ntmps29
    go_wp2_with (first
      | (at_builtin; refine wpList_append_own _ rfl _ _ 22 rfl w.heap.size 2 i0 _ 1 8 Tryd.underlying22 hi0 hz0 hz1 hz2 rfl (by decide) _ 0 [] rfl HOWN.out p n c vs rfl (by rw [HL.out]; omega) HN.out H1.out (by unfold maxLen; omega) (by omega) (by simp) ?_; intro v' w' hown' hgrow hnil)
      | fail)
    rw [Nat.zero_add, List.nil_append] at hown'
    have hbl : Below w.heap.size w w' := HB.out.grown hgrow (by simp) (fun k e => by
      have h9 : some k = some w.heap.size := e.symm
      cases h9
      exact Nat.le_refl _)
    go_ret
    exact cloned1_of (w1 := w) hown' hbl
theorem eqcIn_thr (d : Nat) (b : Option Addr) (l c : Nat) (w : World) : (Op.equalIn (d + 1) 23 (.slice b l c) (.slice none 0 0)).run Tryd.prog w = .ok b.isNone w := by
  cases b <;> simp [Op.equalIn, run_underlying Tryd.underlying23]
theorem eqc_thr (b : Option Addr) (l c : Nat) (w : World) : (Op.equal 23 (.slice b l c) (.slice none 0 0)).run Tryd.prog w = .ok b.isNone w := eqcIn_thr 9999 b l c w
theorem eqcl_thr (b : Option Addr) (l c : Nat) (w : World) : (Go.binOp .eql 23 (.slice b l c) (.slice none 0 0)).run Tryd.prog w = .ok (.bool b.isNone) w := by
  simp only [Go.binOp]
  simp [eqc_thr]
set_option maxRecDepth 100000 in
theorem clone_thr (vs : List Value) (n : Nat) (hvn : vs.length = n) (h1 : ∀ u ∈ vs, u.oneCell' = true) (hn : n ≤ 100000) (A : Option Addr) (c : Nat) (w : World) (h : ∀ k (h : k < vs.length), ∃ p, A = some p ∧ w.cell? (p.add k) = some vs[k]) :
    Calls Tryd.prog 30 #[.slice A n c] w (Cloned1 33 vs n w) := by
  cases A with
  | none =>
    have h0 : vs = [] := by
      cases vs with
      | nil => rfl
      | cons x r =>
        obtain ⟨p, hp, _⟩ := h 0 (by simp)
        cases hp
    subst h0
    obtain rfl : n = 0 := by simpa using hvn.symm
    have heq := eqcl_thr none
    clear h h1 hvn
    go_enter Tryd.func30, Tryd.ntmps30
    go_wp2_with fail
    go_ret
    exact cloned1_of (w1 := w) (World.ownsRow_nil _ _ _ _) (Below.refl _ _)
  | some p =>
    have heq := eqcl_thr (some p)
    have hb0 : Below w.heap.size w (w.alloc (.cells #[] 33)) := (Below.refl _ _).alloc (Nat.le_refl _) _
    have hown := World.ownsRow_made (e := 33) (base := w.heap.size) (size := 1) w #[] 0 (Nat.le_refl _) (by unfold maxLen; omega) rfl
    have HN : Hid (∀ j u, vs[j]? = some u → (w.alloc (.cells #[] 33)).cell? (p.add j) = some u) := fun j u hu => by
      have hj : j < vs.length := by
        rcases Nat.lt_or_ge j vs.length with h | h
        · exact h
        · rw [List.getElem?_eq_none h] at hu; cases hu
      obtain ⟨p', hp, hc⟩ := h j hj
      cases hp
      rw [List.getElem?_eq_getElem hj] at hu
      rw [← hu, ← hc]
      exact hb0.cell (there_blk hc)
    have HOWN := Lib.hid hown
    have HB := Lib.hid hb0
    have H1 := Lib.hid h1
    have HL := Lib.hid hvn
    obtain ⟨i0, hi0, hz0, hz1, hz2⟩ := info_parts2 txs_info
    clear h hb0 hown h1 hvn
    go_enter Tryd.func30, Tryd.ntmps30
    go_wp2_with (first
      | (at_builtin; refine wpList_append_own _ rfl _ _ 23 rfl w.heap.size 33 i0 _ 1 24 Tryd.underlying23 hi0 hz0 hz1 hz2 rfl (by decide) _ 0 [] rfl HOWN.out p n c vs rfl (by rw [HL.out]; omega) HN.out H1.out (by unfold maxLen; omega) (by omega) (by simp) ?_; intro v' w' hown' hgrow hnil)
      | fail)
    rw [Nat.zero_add, List.nil_append] at hown'
    have hbl : Below w.heap.size w w' := HB.out.grown hgrow (by simp) (fun k e => by
      have h9 : some k = some w.heap.size := e.symm
      cases h9
      exact Nat.le_refl _)
    go_ret
    exact cloned1_of (w1 := w) hown' hbl
theorem eqcIn_txs (d : Nat) (b : Option Addr) (l c : Nat) (w : World) : (Op.equalIn (d + 1) 33 (.slice b l c) (.slice none 0 0)).run Tryd.prog w = .ok b.isNone w := by
  cases b <;> simp [Op.equalIn, run_underlying Tryd.underlying33]
theorem eqc_txs (b : Option Addr) (l c : Nat) (w : World) : (Op.equal 33 (.slice b l c) (.slice none 0 0)).run Tryd.prog w = .ok b.isNone w := eqcIn_txs 9999 b l c w
theorem eqcl_txs (b : Option Addr) (l c : Nat) (w : World) : (Go.binOp .eql 33 (.slice b l c) (.slice none 0 0)).run Tryd.prog w = .ok (.bool b.isNone) w := by
  simp only [Go.binOp]
  simp [eqc_txs]
set_option maxRecDepth 100000 in
theorem clone_txs (vs : List Value) (n : Nat) (hvn : vs.length = n) (h1 : ∀ u ∈ vs, u.oneCell' = true) (hn : n ≤ 100000) (A : Option Addr) (c : Nat) (w : World) (h : ∀ k (h : k < vs.length), ∃ p, A = some p ∧ w.cell? (p.add k) = some vs[k]) :
    Calls Tryd.prog 31 #[.slice A n c] w (Cloned1 34 vs n w) := by
  cases A with
  | none =>
    have h0 : vs = [] := by
      cases vs with
      | nil => rfl
      | cons x r =>
        obtain ⟨p, hp, _⟩ := h 0 (by simp)
        cases hp
    subst h0
    obtain rfl : n = 0 := by simpa using hvn.symm
    have heq := eqcl_txs none
    clear h h1 hvn
    go_enter Tryd.func31, Tryd.ntmps31
    go_wp2_with fail
    go_ret
    exact cloned1_of (w1 := w) (World.ownsRow_nil _ _ _ _) (Below.refl _ _)
  | some p =>
    have heq := eqcl_txs (some p)
    have hb0 : Below w.heap.size w (w.alloc (.cells #[] 34)) := (Below.refl _ _).alloc (Nat.le_refl _) _
    have hown := World.ownsRow_made (e := 34) (base := w.heap.size) (size := 1) w #[] 0 (Nat.le_refl _) (by unfold maxLen; omega) rfl
    have HN : Hid (∀ j u, vs[j]? = some u → (w.alloc (.cells #[] 34)).cell? (p.add j) = some u) := fun j u hu => by
      have hj : j < vs.length := by
        rcases Nat.lt_or_ge j vs.length with h | h
        · exact h
        · rw [List.getElem?_eq_none h] at hu; cases hu
      obtain ⟨p', hp, hc⟩ := h j hj
      cases hp
      rw [List.getElem?_eq_getElem hj] at hu
      rw [← hu, ← hc]
      exact hb0.cell (there_blk hc)
    have HOWN := Lib.hid hown
    have HB := Lib.hid hb0
    have H1 := Lib.hid h1
    have HL := Lib.hid hvn
    obtain ⟨i0, hi0, hz0, hz1, hz2⟩ := info_parts2 stmts_info
    clear h hb0 hown h1 hvn
    go_enter Tryd.func31, Tryd.ntmps31
    go_wp2_with (first
      | (at_builtin; refine wpList_append_own _ rfl _ _ 33 rfl w.heap.size 34 i0 _ 1 24 Tryd.underlying33 hi0 hz0 hz1 hz2 rfl (by decide) _ 0 [] rfl HOWN.out p n c vs rfl (by rw [HL.out]; omega) HN.out H1.out (by unfold maxLen; omega) (by omega) (by simp) ?_; intro v' w' hown' hgrow hnil)
      | fail)
    rw [Nat.zero_add, List.nil_append] at hown'
    have hbl : Below w.heap.size w w' := HB.out.grown hgrow (by simp) (fun k e => by
      have h9 : some k = some w.heap.size := e.symm
      cases h9
      exact Nat.le_refl _)
    go_ret
    exact cloned1_of (w1 := w) hown' hbl
end Go.Proofs.YtnkdaehmdcpafaaDoor
