/-
  PLAIN (layer 9): a transaction that may be is good, and small; and slices.Clone at numbers. Conditions: as they stand.
-/
import Derived.Test.YthdcdffdpdoeoaaGreatDoorJz
import Derived.Test.YthdcdffdpdoeoaaGreatDoorZc
import Derived.Laws.AppendOwn
namespace Go.Proofs.YthdcdffdpdoeoaaGreatDoor
set_option maxRecDepth 100000
open Go.RowKit Go.Deep
set_option linter.unusedVariables false
theorem fit_of_sat {w : World} {lo hi : Nat} : ∀ (d : Nat) {r : Raw} {s : St}, SAt w lo hi d r s → Fit9 d s := by
  intro d
  induction d with
  | zero => intro r s h; exact h
  | succ d ih =>
    intro r s h
    obtain ⟨k, t, a, b, y, e⟩ := s
    obtain ⟨_, _, _, _, hy, he⟩ := h
    refine ⟨fun x hx => ?_, fun x hx => ?_⟩
    · obtain ⟨j, hj, rfl⟩ := List.mem_iff_getElem.1 hx
      obtain ⟨_, _, _, _, _, _, s1⟩ := hy j hj
      exact ih s1
    · obtain ⟨j, hj, rfl⟩ := List.mem_iff_getElem.1 hx
      obtain ⟨_, _, _, _, _, _, s1⟩ := he j hj
      exact ih s1
theorem fits_of {w : World} {lo hi d : Nat} {A : Option Addr} {tx : List St} (h : SKids w lo hi d A tx) : ∀ s ∈ tx, Fit9 d s := fun x hx => by
  obtain ⟨j, hj, rfl⟩ := List.mem_iff_getElem.1 hx
  obtain ⟨_, _, _, _, _, _, s1⟩ := h j hj
  exact fit_of_sat d s1
theorem cnt_small {d d' : Nat} {e : Ex} {n : Int} (h : mayE d e n = true) : cnt d' e ≤ 100000 := by
  unfold mayE noneE at h
  simp only [Bool.or_eq_true, Bool.and_eq_true] at h
  rcases h with h | h
  · have h0 : e.args.length = 0 := of_decide_eq_true h.2.2
    cases d' with
    | zero => exact Nat.zero_le _
    | succ d' =>
      obtain ⟨op, n', args⟩ := e
      have : args = [] := List.eq_nil_of_length_eq_zero h0
      subst this
      rw [cnt]
      simp
  · have := whole_cnt 6 e d' h.1
    omega
theorem flat_ne {d deep : Nat} {s : St} (h : Fit9 d s) : 1 ≤ (flatS d deep s).length := by
  cases d with
  | zero => exact h.elim
  | succ d =>
    obtain ⟨k, t, a, b, y, e⟩ := s
    rw [flatS]
    simp
theorem len_flat {d deep : Nat} : ∀ (l : List St), (∀ s ∈ l, Fit9 d s) → l.length ≤ (l.flatMap (flatS d deep)).length := by
  intro l
  induction l with
  | nil => intro _; simp
  | cons a r ih =>
    intro h
    have h1 := flat_ne (deep := deep) (h a (List.mem_cons_self ..))
    have h2 := ih fun s hs => h s (List.mem_cons_of_mem _ hs)
    rw [List.flatMap_cons, List.length_append, List.length_cons]
    omega
theorem part_len {α β : Type} (f : α → List β) : ∀ (l : List α) (x : α), x ∈ l → (f x).length ≤ (l.flatMap f).length := by
  intro l
  induction l with
  | nil => intro x h; cases h
  | cons a r ih =>
    intro x h
    rw [List.flatMap_cons, List.length_append]
    rcases List.mem_cons.1 h with e | e
    · rw [e]; omega
    · have := ih x e; omega
theorem sm_of : ∀ (d E deep : Nat) (n : Int) (s : St), Fit9 d s → (∀ x ∈ flatS d deep s, okEach E n x = true) → (flatS d deep s).length ≤ 1000 → Sm d s := by
  intro d
  induction d with
  | zero => intro E deep n s h; exact h.elim
  | succ d ih =>
    intro E deep n s h hx hl
    obtain ⟨k, t, a, b, y, e⟩ := s
    rw [flatS] at hx hl
    have h0 := hx _ (List.mem_cons_self ..)
    unfold okEach at h0
    simp only [Bool.and_eq_true] at h0
    obtain ⟨ma, mb⟩ := shaped_may h0.2
    simp only [List.length_cons, List.length_append] at hl
    have ly := len_flat (deep := deep + 1) y h.1
    have le := len_flat (deep := deep + 1) e h.2
    refine ⟨cnt_small ma, cnt_small mb, by omega, by omega, fun s hs => ?_, fun s hs => ?_⟩
    · exact ih E (deep + 1) n s (h.1 s hs) (fun x hx2 => hx x (List.mem_cons_of_mem _ (List.mem_append_left _ (List.mem_flatMap.2 ⟨s, hs, hx2⟩)))) (by have := part_len (flatS d (deep + 1)) y s hs; omega)
    · exact ih E (deep + 1) n s (h.2 s hs) (fun x hx2 => hx x (List.mem_cons_of_mem _ (List.mem_append_right _ (List.mem_flatMap.2 ⟨s, hs, hx2⟩)))) (by have := part_len (flatS d (deep + 1)) e s hs; omega)
/-- What is known of a transaction that may be. -/
theorem may_good {w : World} {lo hi D : Nat} {A : Option Addr} {tx : List St} {n : Int} (hk : SKids w lo hi D A tx) (hm : mayF D tx n = true) : (∀ s ∈ tx, Sm D s) ∧ (∀ s ∈ tx, Good9 6 s) := by
  unfold mayF soundF at hm
  simp only [Bool.and_eq_true, decide_eq_true_eq, List.all_eq_true] at hm
  obtain ⟨_, _, ⟨h1, h2, _⟩, _⟩ := hm
  have hf := fits_of hk
  have hx : ∀ s ∈ tx, ∀ x ∈ flatS D 1 s, okEach D n x = true := fun s hs x hx => h2 x (List.mem_flatMap.2 ⟨s, hs, hx⟩)
  refine ⟨fun s hs => sm_of D D 1 n s (hf s hs) (hx s hs) ?_, fun s hs => good_of 6 D D 1 n s (by omega) (by omega) (hf s hs) (hx s hs)⟩
  have := part_len (flatS D 1) tx s hs
  unfold flat at h1
  omega
theorem int64_info69 : (Tryz.prog.info? 2).map (fun i => (i.zero, i.size, i.bytes)) = some (some (.int .i64 0), 1, 8) := by kernel_rfl
/-- What a Clone leaves. -/
def Cloned19 (t : TypeId) (vs : List Value) (n : Nat) (w : World) (e : Ending) (w' : World) : Prop := ∃ A cap, e = .returned (.slice A n cap) ∧ w'.ownsRow w.heap.size t 1 (.slice A n cap) n vs ∧ Below w.heap.size w w'
theorem cloned1_of9 {t : TypeId} {vs : List Value} {n : Nat} {w w1 w' : World} {v : Value} (h : w'.ownsRow w.heap.size t 1 v n vs) (hb : Below w.heap.size w w') : Cloned19 t vs n w (.returned v) w' := by
  have h' := h
  obtain ⟨_, ⟨rfl, rfl⟩ | ⟨g, cap, cur, rfl, _⟩⟩ := h'
  · exact ⟨none, 0, rfl, h, hb⟩
  · exact ⟨_, cap, rfl, h, hb⟩
theorem eqcIn_ints9 (d : Nat) (b : Option Addr) (l c : Nat) (w : World) : (Op.equalIn (d + 1) 44 (.slice b l c) (.slice none 0 0)).run Tryz.prog w = .ok b.isNone w := by
  cases b <;> simp [Op.equalIn, run_underlying Tryz.underlying44]
theorem eqc_ints9 (b : Option Addr) (l c : Nat) (w : World) : (Op.equal 44 (.slice b l c) (.slice none 0 0)).run Tryz.prog w = .ok b.isNone w := eqcIn_ints9 9999 b l c w
theorem eqcl_ints9 (b : Option Addr) (l c : Nat) (w : World) : (Go.binOp .eql 44 (.slice b l c) (.slice none 0 0)).run Tryz.prog w = .ok (.bool b.isNone) w := by
  simp only [Go.binOp]
  simp [eqc_ints9]
set_option maxRecDepth 100000 in
theorem clone_ints9 (vs : List Value) (n : Nat) (hvn : vs.length = n) (h1 : ∀ u ∈ vs, u.oneCell' = true) (hn : n ≤ 100000) (A : Option Addr) (c : Nat) (w : World) (h : ∀ k (h : k < vs.length), ∃ p, A = some p ∧ w.cell? (p.add k) = some vs[k]) :
    Calls Tryz.prog 35 #[.slice A n c] w (Cloned19 2 vs n w) := by
  cases A with
  | none =>
    have h0 : vs = [] := by
      cases vs with
      | nil => rfl
      | cons x r =>
        obtain ⟨p, hp, _⟩ := h 0 (by simp)
        cases hp
    subst h0
    obtain rfl : n = 0 := by simpa using hvn.symm
    have heq := eqcl_ints9 none
    clear h h1 hvn
    go_enter Tryz.func35, Tryz.ntmps35
    go_wp2_with fail
    go_ret
    exact cloned1_of9 (w1 := w) (World.ownsRow_nil _ _ _ _) (Below.refl _ _)
  | some p =>
    have heq := eqcl_ints9 (some p)
    have hb0 : Below w.heap.size w (w.alloc (.cells #[] 2)) := (Below.refl _ _).alloc (Nat.le_refl _) _
    have hown := World.ownsRow_made (e := 2) (base := w.heap.size) (size := 1) w #[] 0 (Nat.le_refl _) (by unfold maxLen; omega) rfl
    have HN : Hid (∀ j u, vs[j]? = some u → (w.alloc (.cells #[] 2)).cell? (p.add j) = some u) := fun j u hu => by
      have hj : j < vs.length := by
        rcases Nat.lt_or_ge j vs.length with h | h
        · exact h
        · rw [List.getElem?_eq_none h] at hu; cases hu
      obtain ⟨p', hp, hc⟩ := h j hj
      cases hp
      rw [List.getElem?_eq_getElem hj] at hu
      rw [← hu, ← hc]
      exact hb0.cell (there_block hc)
    have HOWN := Lib.hid hown
    have HB := Lib.hid hb0
    have H1 := Lib.hid h1
    have HL := Lib.hid hvn
    obtain ⟨i0, hi0, hz0, hz1, hz2⟩ := info_parts int64_info69
    clear h hb0 hown h1 hvn
    go_enter Tryz.func35, Tryz.ntmps35
    go_wp2_with (first
      | (at_builtin; refine wpList_append_own _ rfl _ _ 44 rfl w.heap.size 2 i0 _ 1 8 Tryz.underlying44 hi0 hz0 hz1 hz2 rfl (by decide) _ 0 [] rfl HOWN.out p n c vs rfl (by rw [HL.out]; omega) HN.out H1.out (by unfold maxLen; omega) (by omega) (by simp) ?_; intro v' w' hown' hgrow hnil)
      | fail)
    rw [Nat.zero_add, List.nil_append] at hown'
    have hbl : Below w.heap.size w w' := HB.out.grown hgrow (by simp) (fun k e => by
      have h9 : some k = some w.heap.size := e.symm
      cases h9
      exact Nat.le_refl _)
    go_ret
    exact cloned1_of9 (w1 := w) hown' hbl
end Go.Proofs.YthdcdffdpdoeoaaGreatDoor
