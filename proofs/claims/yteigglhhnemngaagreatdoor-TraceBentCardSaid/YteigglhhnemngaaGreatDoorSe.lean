/-
  PLAIN: each step of package shape's checker comes just where the document lets that event come, and leaves what the document keeps: Kind by Kind. No program here.
-/
import Derived.Test.YteigglhhnemngaaGreatDoorQ10
namespace Go.Proofs.YteigglhhnemngaaGreatDoor
set_option maxRecDepth 100000
set_option linter.unusedVariables false
set_option linter.unusedSimpArgs false
def Good (S T : Int) (o : Option PS) (P : Prop) (q' : Sh) : Prop := (P → ∃ p', o = some p' ∧ Rel S T p' q') ∧ (¬ P → o = none)
theorem good_mk {S T : Int} {c P : Prop} [Decidable c] {p' : PS} {q' : Sh} (h1 : P → ¬ c) (h2 : ¬ P → c) (h3 : P → Rel S T p' q') : Good S T (if c then none else some p') P q' :=
  ⟨fun hP => ⟨p', if_neg (h1 hP), h3 hP⟩, fun hP => if_pos (h2 hP)⟩
theorem good_mk2 {S T : Int} {c P : Prop} [Decidable c] {p' : PS} {q' : Sh} (h1 : P → c) (h2 : ¬ P → ¬ c) (h3 : P → Rel S T p' q') : Good S T (if c then some p' else none) P q' :=
  ⟨fun hP => ⟨p', if_pos (h1 hP), h3 hP⟩, fun hP => if_neg (h2 hP)⟩
theorem good_no {S T : Int} {P : Prop} {q' : Sh} {p : PS} {t s : Nat} {e : Ev} (h : ¬ P) : Good S T (noP p t s e) P q' := ⟨fun hP => absurd hP h, fun _ => rfl⟩
theorem not_over {S : Int} {own ver : Int → Int} {clk bm th : Int} {a : Att} (hA : TInv S own ver clk bm th a) (h : whereA a ≠ 0 ∧ whereA a ≠ 10) : overA a = false := by
  cases ho : overA a with
  | false => rfl
  | true =>
    have := (over_wh hA.rg).1 ho
    omega
theorem up_upd {f : Nat → Int} {g : Int → Int} {s : Nat} {v : Int} (h : ∀ k : Nat, k < 32 → f k = g k) : ∀ k : Nat, k < 32 → upN f s v k = updF g s v k := fun k hk => by
  by_cases hks : k = s
  · subst hks; rw [upN_same, updF_same]
  · rw [upN_other hks, updF_other (by omega)]; exact h k hk
structure SameT (p p' : PS) (t : Nat) : Prop where
  wh : p'.wh t = p.wh t
  com : p'.com t = p.com t
  rv : p'.rv t = p.rv t
  wv : p'.wv t = p.wv t
  pos : p'.pos t = p.pos t
  seen : p'.seen t = p.seen t
  rd : p'.rd t = p.rd t
  st : p'.st t = p.st t
  last : p'.last t = p.last t
theorem RelT.same {S : Int} {p p' : PS} {t : Nat} {a : Att} {cm : Int} (h : RelT S p t a cm) (e : SameT p p' t) : RelT S p' t a cm where
  wh := e.wh.trans h.wh
  com := e.com.trans h.com
  rv := fun x => e.rv.trans (h.rv x)
  rd := fun x s hs => by rw [e.rd]; exact h.rd x s hs
  pos := fun x => by rw [e.pos, e.seen]; exact h.pos x
  l1 := fun x => e.last.trans (h.l1 x)
  ck := fun x => by rw [h.ck x]; unfold leftP; rw [e.last, e.rd]
  wv := fun x => e.wv.trans (h.wv x)
  wv1 := h.wv1
  l7 := fun x => e.last.trans (h.l7 x)
  st := fun x s hs => by rw [e.st]; exact h.st x s hs
  ck0 := h.ck0
  rinc := h.rinc
  rpos := h.rpos
  why := h.why
  why2 := h.why2
theorem com_next (S : Int) (q : Sh) (e : Ev) (t : Int) : (stepS S q e).com t = if t = e.th ∧ (e.kd = 7 ∨ e.kd = 9) ∧ overA (attF S (q.att e.th) e) = true then q.com t + 1 else q.com t := by
  unfold stepS
  simp only
  by_cases h : (e.kd = 7 ∨ e.kd = 9) ∧ overA (attF S (q.att e.th) e) = true
  · rw [if_pos h]
    by_cases ht : t = e.th
    · subst ht
      rw [updF_same, if_pos ⟨rfl, h⟩]
    · rw [updF_other ht, if_neg (fun x => ht x.1)]
  · rw [if_neg h, if_neg (fun x => h x.2)]
theorem com_keep (S : Int) (q : Sh) (e : Ev) (h : e.kd ≠ 7 ∧ e.kd ≠ 9) (t : Int) : (stepS S q e).com t = q.com t := by
  rw [com_next, if_neg (by omega)]
theorem rel_mk {S T : Int} {p p' : PS} {q : Sh} {e : Ev} {t : Nat} (hR : Rel S T p q) (he : e.th = t) (ht : RelT S p' t (attF S (q.att t) e) ((stepS S q e).com t)) (hs : ∀ u, u ≠ t → SameT p p' u)
    (ho : ∀ s : Nat, s < 32 → p'.own s = (stepS S q e).own s) (hv : ∀ s : Nat, s < 32 → p'.ver s = (stepS S q e).ver s) (hc : p'.clk = (stepS S q e).clk) : Rel S T p' (stepS S q e) where
  t := fun u hu => by
    by_cases hut : u = t
    · subst hut
      rw [show (stepS S q e).att u = attF S (q.att u) e by show updF q.att e.th _ u = _; rw [he, updF_same]]
      exact ht
    · rw [show (stepS S q e).att u = q.att u by show updF q.att e.th _ u = _; rw [he, updF_other (by omega)]]
      rw [com_next, if_neg (by rw [he]; omega)]
      exact (hR.t u hu).same (hs u hut)
  own := ho
  ver := hv
  clk := hc
theorem tab_eq (f : Nat → PS → Nat → Nat → Ev → Option PS) (g : Int → PS → Nat → Nat → Ev → Option PS) (h : ∀ k : Nat, k ≤ 10 → f k = g k) (wh : Int) (hw : 0 ≤ wh ∧ wh ≤ 10) : f wh.toNat = g wh := by
  have := h wh.toNat (by omega)
  rw [this, show ((wh.toNat : Nat) : Int) = wh by omega]
theorem le10 {P : Nat → Prop} (h : P 0 ∧ P 1 ∧ P 2 ∧ P 3 ∧ P 4 ∧ P 5 ∧ P 6 ∧ P 7 ∧ P 8 ∧ P 9 ∧ P 10) (k : Nat) (hk : k ≤ 10) : P k := by
  obtain ⟨h0, h1, h2, h3, h4, h5, h6, h7, h8, h9, h10⟩ := h
  have : k = 0 ∨ k = 1 ∨ k = 2 ∨ k = 3 ∨ k = 4 ∨ k = 5 ∨ k = 6 ∨ k = 7 ∨ k = 8 ∨ k = 9 ∨ k = 10 := by omega
  rcases this with rfl | rfl | rfl | rfl | rfl | rfl | rfl | rfl | rfl | rfl | rfl <;> assumption
section
variable {wh : Int} (hw : 0 ≤ wh ∧ wh ≤ 10)
include hw
theorem tab_1 : tabS wh.toNat 1 = if wh = 0 then beginPS else noP :=
  tab_eq (fun n => tabS n 1) (fun wh => if wh = 0 then beginPS else noP) (le10 ⟨rfl, rfl, rfl, rfl, rfl, rfl, rfl, rfl, rfl, rfl, rfl⟩) wh hw
theorem tab_2 : tabS wh.toNat 2 = if wh = 1 then lookPS else noP :=
  tab_eq (fun n => tabS n 2) (fun wh => if wh = 1 then lookPS else noP) (le10 ⟨rfl, rfl, rfl, rfl, rfl, rfl, rfl, rfl, rfl, rfl, rfl⟩) wh hw
theorem tab_3 : tabS wh.toNat 3 = if wh = 2 then loadP else noP :=
  tab_eq (fun n => tabS n 3) (fun wh => if wh = 2 then loadP else noP) (le10 ⟨rfl, rfl, rfl, rfl, rfl, rfl, rfl, rfl, rfl, rfl, rfl⟩) wh hw
theorem tab_4 : tabS wh.toNat 4 = if wh = 1 ∨ wh = 3 then lockP else noP :=
  tab_eq (fun n => tabS n 4) (fun wh => if wh = 1 ∨ wh = 3 then lockP else noP) (le10 ⟨rfl, rfl, rfl, rfl, rfl, rfl, rfl, rfl, rfl, rfl, rfl⟩) wh hw
theorem tab_5 : tabS wh.toNat 5 = if wh = 3 then bumpPS else noP :=
  tab_eq (fun n => tabS n 5) (fun wh => if wh = 3 then bumpPS else noP) (le10 ⟨rfl, rfl, rfl, rfl, rfl, rfl, rfl, rfl, rfl, rfl, rfl⟩) wh hw
theorem tab_6 : tabS wh.toNat 6 = if wh = 4 then checkP else noP :=
  tab_eq (fun n => tabS n 6) (fun wh => if wh = 4 then checkP else noP) (le10 ⟨rfl, rfl, rfl, rfl, rfl, rfl, rfl, rfl, rfl, rfl, rfl⟩) wh hw
theorem tab_7 : tabS wh.toNat 7 = if wh = 1 then restP else if wh = 4 then commitPS else noP :=
  tab_eq (fun n => tabS n 7) (fun wh => if wh = 1 then restP else if wh = 4 then commitPS else noP) (le10 ⟨rfl, rfl, rfl, rfl, rfl, rfl, rfl, rfl, rfl, rfl, rfl⟩) wh hw
theorem tab_8 : tabS wh.toNat 8 = if wh = 5 then storeP else noP :=
  tab_eq (fun n => tabS n 8) (fun wh => if wh = 5 then storeP else noP) (le10 ⟨rfl, rfl, rfl, rfl, rfl, rfl, rfl, rfl, rfl, rfl, rfl⟩) wh hw
theorem tab_9 : tabS wh.toNat 9 = if wh = 5 ∨ wh = 6 then freeP else noP :=
  tab_eq (fun n => tabS n 9) (fun wh => if wh = 5 ∨ wh = 6 then freeP else noP) (le10 ⟨rfl, rfl, rfl, rfl, rfl, rfl, rfl, rfl, rfl, rfl, rfl⟩) wh hw
theorem tab_11 : tabS wh.toNat 11 = if wh = 7 ∨ wh = 8 then undoP else noP :=
  tab_eq (fun n => tabS n 11) (fun wh => if wh = 7 ∨ wh = 8 then undoP else noP) (le10 ⟨rfl, rfl, rfl, rfl, rfl, rfl, rfl, rfl, rfl, rfl, rfl⟩) wh hw
theorem tab_12 : tabS wh.toNat 12 = if wh = 1 then waitP else noP :=
  tab_eq (fun n => tabS n 12) (fun wh => if wh = 1 then waitP else noP) (le10 ⟨rfl, rfl, rfl, rfl, rfl, rfl, rfl, rfl, rfl, rfl, rfl⟩) wh hw
theorem tab_13 : tabS wh.toNat 13 = if wh = 9 then wakeP else noP :=
  tab_eq (fun n => tabS n 13) (fun wh => if wh = 9 then wakeP else noP) (le10 ⟨rfl, rfl, rfl, rfl, rfl, rfl, rfl, rfl, rfl, rfl, rfl⟩) wh hw
theorem tab_14 : tabS wh.toNat 14 = if wh = 1 then heldP else noP :=
  tab_eq (fun n => tabS n 14) (fun wh => if wh = 1 then heldP else noP) (le10 ⟨rfl, rfl, rfl, rfl, rfl, rfl, rfl, rfl, rfl, rfl, rfl⟩) wh hw
theorem tab_15 : tabS wh.toNat 15 = if wh = 1 then newerP else noP :=
  tab_eq (fun n => tabS n 15) (fun wh => if wh = 1 then newerP else noP) (le10 ⟨rfl, rfl, rfl, rfl, rfl, rfl, rfl, rfl, rfl, rfl, rfl⟩) wh hw
theorem tab_16 : tabS wh.toNat 16 = if wh = 2 then movedP else noP :=
  tab_eq (fun n => tabS n 16) (fun wh => if wh = 2 then movedP else noP) (le10 ⟨rfl, rfl, rfl, rfl, rfl, rfl, rfl, rfl, rfl, rfl, rfl⟩) wh hw
theorem tab_17 : tabS wh.toNat 17 = if wh = 1 ∨ wh = 3 then busyP else noP :=
  tab_eq (fun n => tabS n 17) (fun wh => if wh = 1 ∨ wh = 3 then busyP else noP) (le10 ⟨rfl, rfl, rfl, rfl, rfl, rfl, rfl, rfl, rfl, rfl, rfl⟩) wh hw
theorem tab_18 : tabS wh.toNat 18 = if wh = 4 then staleP else noP :=
  tab_eq (fun n => tabS n 18) (fun wh => if wh = 4 then staleP else noP) (le10 ⟨rfl, rfl, rfl, rfl, rfl, rfl, rfl, rfl, rfl, rfl, rfl⟩) wh hw
theorem tab_19 : tabS wh.toNat 19 = if wh = 3 then fullP else noP :=
  tab_eq (fun n => tabS n 19) (fun wh => if wh = 3 then fullP else noP) (le10 ⟨rfl, rfl, rfl, rfl, rfl, rfl, rfl, rfl, rfl, rfl, rfl⟩) wh hw
end
end Go.Proofs.YteigglhhnemngaaGreatDoor
namespace Go.Proofs.YteigglhhnemngaaGreatDoor
set_option maxRecDepth 100000
set_option linter.unusedVariables false
set_option linter.unusedSimpArgs false
set_option linter.unusedSectionVars false
section
variable {S T : Int} {p : PS} {q : Sh} {t : Nat} (hI : Inv S T q) (hR : Rel S T p q) (hS : 1 ≤ S ∧ S ≤ 32) (ht : (t : Int) < T)
include hI hR hS ht
theorem st_begin (tx v : Int) : Good S T (stepP S p ⟨1, t, tx, 0, v, 0, 0⟩) (mayQ S q (q.att t) ⟨1, t, tx, 0, v, 0, 0⟩) (stepS S q ⟨1, t, tx, 0, v, 0, 0⟩) := by
  have hA := hI.t t (by omega)
  have hT := hR.t t ht
  have e1 : stepP S p ⟨1, t, tx, 0, v, 0, 0⟩ = (if whereA (q.att t) = 0 then beginPS else noP) p t 0 ⟨1, t, tx, 0, v, 0, 0⟩ := by
    rw [← tab_1 wh_range, ← hT.wh]
    simp [stepP, kindX, strX]
  rw [e1]
  have hb := wh_between hA.rg hT.why hT.why2
  by_cases hw : whereA (q.att t) = 0
  · rw [if_pos hw]
    have hov := hb.1 hw
    have hm : mayQ S q (q.att t) ⟨1, t, tx, 0, v, 0, 0⟩ ↔ tx = q.com t ∧ q.clk ≤ v := by simp [mayQ, hov]
    rw [hm]
    have hc := hT.com
    have hk := hR.clk
    unfold beginPS
    refine good_mk (by (try dsimp only); omega) (by (try dsimp only); omega) fun hP => ?_
    refine rel_mk (t := t) hR rfl ?_ ?_ ?_ ?_ ?_
    · rw [att_1, com_keep S q _ (by simp)]
      constructor
      case wh => simp [upN_same, goP, whereA]
      case com => exact hT.com
      case rv => exact fun _ => upN_same _ _ _
      case rd => intro _ s hs; simp [upN_same]
      case pos => intro x; simp at x
      case l1 => intro _; simp [upN_same, lastL]
      case ck => intro x; simp at x
      case wv => exact fun _ => upN_same _ _ _
      case wv1 => intro x; simp at x
      case l7 => intro x; simp at x
      case st => intro _ s hs; simp [upN_same]
      case ck0 => exact fun _ => rfl
      case rinc => simp
      case rpos => simp
      case why => intro x; simp at x
      case why2 => intro x; simp at x
    · intro u hu
      constructor <;> simp [upN, hu, goP, letP]
    · intro k hk
      exact hR.own k hk
    · intro k hk
      exact hR.ver k hk
    · rfl
  · rw [if_neg hw]
    exact good_no (by simp [mayQ]; intro h1 h2; exact absurd (hb.2 ⟨h1, h2⟩) hw)
theorem st_look (s : Nat) (hs : (s : Int) ≤ S - 1) (v : Int) : Good S T (stepP S p ⟨2, t, 0, s, v, 0, 0⟩) (mayQ S q (q.att t) ⟨2, t, 0, s, v, 0, 0⟩) (stepS S q ⟨2, t, 0, s, v, 0, 0⟩) := by
  have hA := hI.t t (by omega)
  have hT := hR.t t ht
  have e1 : stepP S p ⟨2, t, 0, s, v, 0, 0⟩ = (if whereA (q.att t) = 1 then lookPS else noP) p t s ⟨2, t, 0, s, v, 0, 0⟩ := by
    rw [← tab_2 wh_range, ← hT.wh]
    simp [stepP, kindX, strX]
  rw [e1]
  by_cases hw : readsA (q.att t)
  · have hw1 := (wh_reads hA.rg).2 hw
    have hov := not_over hA (by omega)
    rw [if_pos hw1]
    have hm : mayQ S q (q.att t) ⟨2, t, 0, s, v, 0, 0⟩ ↔ q.own s < 0 ∧ q.ver s ≤ v ∧ v ≤ (q.att t).rv := by
      simp [mayQ, hov, hw]
    rw [hm]
    unfold readsA at hw
    have ho := hR.own s (by omega)
    have hv := hR.ver s (by omega)
    have ho2 := hI.own s
    have hrv := hT.rv (by omega)
    unfold lookPS
    refine good_mk (by (try dsimp only); omega) (by (try dsimp only); omega) fun hP => ?_
    refine rel_mk (t := t) hR rfl ?_ ?_ ?_ ?_ ?_
    · rw [att_2, com_keep S q _ (by simp)]
      constructor
      case wh => simp [upN_same, goP, whereA]
      case com => exact hT.com
      case rv => exact fun _ => hT.rv (by omega)
      case rd => exact fun _ => hT.rd (by omega)
      case pos => exact fun _ => ⟨upN_same _ _ _, upN_same _ _ _⟩
      case l1 => exact fun _ => hT.l1 (by omega)
      case ck => intro x; simp at x
      case wv => exact fun _ => hT.wv (by omega)
      case wv1 => intro x; simp at x
      case l7 => intro x; simp at x
      case st => exact fun _ => hT.st (by omega)
      case ck0 => exact fun _ => hT.ck0 (by omega)
      case rinc => exact hT.rinc
      case rpos => exact hT.rpos
      case why => intro x; have := hT.why x; omega
      case why2 => intro x; simp at x
    · intro u hu
      constructor <;> simp [upN, hu, goP, letP]
    · intro k hk
      exact hR.own k hk
    · intro k hk
      exact up_upd hR.ver k hk
    · exact hR.clk
  · rw [if_neg (fun x => hw ((wh_reads hA.rg).1 x))]
    exact good_no (by simp [mayQ, hw])
theorem st_load (n : Int) (s : Nat) (hs : n % S = s) (x : Int) : Good S T (stepP S p ⟨3, t, 0, n, 0, x, 0⟩) (mayQ S q (q.att t) ⟨3, t, 0, n, 0, x, 0⟩) (stepS S q ⟨3, t, 0, n, 0, x, 0⟩) := by
  have hA := hI.t t (by omega)
  have hT := hR.t t ht
  have e1 : stepP S p ⟨3, t, 0, n, 0, x, 0⟩ = (if whereA (q.att t) = 2 then loadP else noP) p t s ⟨3, t, 0, n, 0, x, 0⟩ := by
    rw [← tab_3 wh_range, ← hT.wh]
    simp [stepP, kindX, strX]
    simp [hs]
  rw [e1]
  have hsS : (s : Int) < S := by rw [← hs]; exact Int.emod_lt_of_pos _ (by omega)
  by_cases hw : (q.att t).last = 2
  · have hw1 := (wh_looked hA.rg).2 hw
    have hov := not_over hA (by omega)
    rw [if_pos hw1]
    have hm : mayQ S q (q.att t) ⟨3, t, 0, n, 0, x, 0⟩ ↔ (q.att t).lp = s ∧ q.own s < 0 ∧ q.ver s = (q.att t).lv := by
      simp [mayQ, hov, hw, hs]
    rw [hm]
    have ho := hR.own s (by omega)
    have hv := hR.ver s (by omega)
    have ho2 := hI.own s
    have hpos := hT.pos hw
    have hq : (s : Int) = p.pos t → (stillP p t = true ↔ q.own s < 0 ∧ q.ver s = (q.att t).lv) := by
      intro h
      unfold stillP
      rw [← h, show ((s : Int)).toNat = s by omega, ho, hv, hpos.2]
      simp
      intro _
      omega
    have hc : ((s : Int) ≠ p.pos t ∨ stillP p t = false) ↔ ¬ ((q.att t).lp = s ∧ q.own s < 0 ∧ q.ver s = (q.att t).lv) := by
      by_cases h : (s : Int) = p.pos t
      · rw [← hq h, ← Bool.not_eq_true]
        have : (q.att t).lp = s := by omega
        simp [h, this]
      · have : ¬ (q.att t).lp = s := by omega
        simp [h, this]
    unfold loadP
    refine good_mk (fun h => fun x => hc.1 x h) (fun h => hc.2 h) fun hP => ?_
    refine rel_mk (t := t) hR rfl ?_ ?_ ?_ ?_ ?_
    · rw [att_3, com_keep S q _ (by simp)]
      constructor
      case wh => simp [upN_same, goP, whereA]
      case com => exact hT.com
      case rv => exact fun _ => hT.rv (by omega)
      case rd => 
        intro _ k hk
        show upN p.rd t (upN (p.rd t) s true) t k = decide ((k : Int) ∈ putL (q.att t).rd (n % S))
        rw [upN_same, hs]
        by_cases hks : k = s
        · subst hks
          rw [upN_same]
          simp [put_mem]
        · rw [upN_other hks, hT.rd (by omega) k hk]
          have : ¬ (k : Int) = s := by omega
          simp [put_mem, this]
      case pos => intro x; simp at x
      case l1 => exact fun _ => hT.l1 (by omega)
      case ck => intro x; simp at x
      case wv => exact fun _ => hT.wv (by omega)
      case wv1 => intro x; simp at x
      case l7 => intro x; simp at x
      case st => exact fun _ => hT.st (by omega)
      case ck0 => exact fun _ => hT.ck0 (by omega)
      case rinc => exact put_inc hT.rinc _
      case rpos => 
        intro y hy
        rcases (put_mem _ _ _).1 hy with h | h
        · exact hT.rpos y h
        · rw [h, hs]
          omega
      case why => intro x; have := hT.why x; omega
      case why2 => intro x; simp at x
    · intro u hu
      constructor <;> simp [upN, hu, goP, letP]
    · intro k hk
      exact hR.own k hk
    · intro k hk
      exact hR.ver k hk
    · exact hR.clk
  · rw [if_neg (fun x => hw ((wh_looked hA.rg).1 x))]
    exact good_no (by simp [mayQ, hw])
theorem st_lock (s : Nat) (hs : (s : Int) ≤ S - 1) : Good S T (stepP S p ⟨4, t, 0, s, 0, 0, 0⟩) (mayQ S q (q.att t) ⟨4, t, 0, s, 0, 0, 0⟩) (stepS S q ⟨4, t, 0, s, 0, 0, 0⟩) := by
  have hA := hI.t t (by omega)
  have hT := hR.t t ht
  have e1 : stepP S p ⟨4, t, 0, s, 0, 0, 0⟩ = (if whereA (q.att t) = 1 ∨ whereA (q.att t) = 3 then lockP else noP) p t s ⟨4, t, 0, s, 0, 0, 0⟩ := by
    rw [← tab_4 wh_range, ← hT.wh]
    simp [stepP, kindX, strX]
  rw [e1]
  by_cases hw : readsA (q.att t) ∨ (q.att t).last = 4
  · have hw1 : whereA (q.att t) = 1 ∨ whereA (q.att t) = 3 := by rw [wh_reads hA.rg, wh_locks hA.rg]; exact hw
    have hov := not_over hA (by omega)
    rw [if_pos hw1]
    have hm : mayQ S q (q.att t) ⟨4, t, 0, s, 0, 0, 0⟩ ↔ lastL (q.att t).lk < s ∧ q.own s < 0 := by
      simp [mayQ, hov, hw]
    rw [hm]
    unfold readsA at hw
    have ho := hR.own s (by omega)
    have ho2 := hI.own s
    have hl := hT.l1 (by omega)
    unfold lockP
    refine good_mk (by (try dsimp only); omega) (by (try dsimp only); omega) fun hP => ?_
    refine rel_mk (t := t) hR rfl ?_ ?_ ?_ ?_ ?_
    · rw [att_4, com_keep S q _ (by simp)]
      constructor
      case wh => simp [upN_same, goP, whereA]
      case com => exact hT.com
      case rv => exact fun _ => hT.rv (by omega)
      case rd => exact fun _ => hT.rd (by omega)
      case pos => intro x; simp at x
      case l1 => intro _; simp [upN_same, lastL]
      case ck => intro x; simp at x
      case wv => exact fun _ => hT.wv (by omega)
      case wv1 => intro x; simp at x
      case l7 => intro x; simp at x
      case st => exact fun _ => hT.st (by omega)
      case ck0 => exact fun _ => hT.ck0 (by omega)
      case rinc => exact hT.rinc
      case rpos => exact hT.rpos
      case why => intro x; have := hT.why x; omega
      case why2 => intro x; simp at x
    · intro u hu
      constructor <;> simp [upN, hu, goP, letP]
    · intro k hk
      exact up_upd hR.own k hk
    · intro k hk
      exact hR.ver k hk
    · exact hR.clk
  · rw [if_neg (fun x => hw (by rw [wh_reads hA.rg, wh_locks hA.rg] at x; exact x))]
    exact good_no (by simp only [mayQ]; simp; intro _ h; exact absurd h hw)
theorem st_bump (v : Int) (hv1 : 1 ≤ v) : Good S T (stepP S p ⟨5, t, 0, 0, v, 0, 0⟩) (mayQ S q (q.att t) ⟨5, t, 0, 0, v, 0, 0⟩) (stepS S q ⟨5, t, 0, 0, v, 0, 0⟩) := by
  have hA := hI.t t (by omega)
  have hT := hR.t t ht
  have e1 : stepP S p ⟨5, t, 0, 0, v, 0, 0⟩ = (if whereA (q.att t) = 3 then bumpPS else noP) p t 0 ⟨5, t, 0, 0, v, 0, 0⟩ := by
    rw [← tab_5 wh_range, ← hT.wh]
    simp [stepP, kindX, strX]
  rw [e1]
  by_cases hw : (q.att t).last = 4
  · have hw1 := (wh_locks hA.rg).2 hw
    have hov := not_over hA (by omega)
    rw [if_pos hw1]
    have hm : mayQ S q (q.att t) ⟨5, t, 0, 0, v, 0, 0⟩ ↔ q.clk < v := by
      simp [mayQ, hov, hw]
    rw [hm]
    have hk := hR.clk
    have hrv := hT.rv (by omega)
    unfold bumpPS
    refine good_mk (by (try dsimp only); omega) (by (try dsimp only); omega) fun hP => ?_
    refine rel_mk (t := t) hR rfl ?_ ?_ ?_ ?_ ?_
    · rw [att_5, com_keep S q _ (by simp)]
      constructor
      case wh => simp [upN_same, goP, whereA]
      case com => exact hT.com
      case rv => exact fun _ => hT.rv (by omega)
      case rd => intro x; simp at x
      case pos => intro x; simp at x
      case l1 => intro x; simp at x
      case ck => 
        intro _
        unfold leftA
        simp only
        by_cases h : v = (q.att t).rv + 1
        · rw [if_pos h]
          refine (left_none fun k hk => ?_).symm
          show (if v = p.rv t + 1 then upN p.rd t (fun _ => false) else p.rd) t k = false
          rw [if_pos (by omega), upN_same]
        · rw [if_neg h, hT.ck0 (by omega), List.drop_zero]
          refine (left_begin (upN_same _ _ _) (fun k hk => ?_) hT.rinc hT.rpos hS.2).symm
          show (if v = p.rv t + 1 then upN p.rd t (fun _ => false) else p.rd) t k = _
          rw [if_neg (by omega)]
          exact hT.rd (by omega) k hk
      case wv => exact fun _ => upN_same _ _ _
      case wv1 => exact fun _ => hv1
      case l7 => intro x; simp at x
      case st => exact fun _ => hT.st (by omega)
      case ck0 => intro x; simp at x
      case rinc => exact hT.rinc
      case rpos => exact hT.rpos
      case why => intro x; have := hT.why x; omega
      case why2 => intro x; simp at x
    · intro u hu
      constructor <;> (try split) <;> simp [upN, hu, goP, letP]
    · intro k hk
      exact hR.own k hk
    · intro k hk
      exact hR.ver k hk
    · rfl
  · rw [if_neg (fun x => hw ((wh_locks hA.rg).1 x))]
    exact good_no (by simp [mayQ, hw])
theorem st_check (s : Nat) (hs : (s : Int) ≤ S - 1) : Good S T (stepP S p ⟨6, t, 0, s, 0, 0, 0⟩) (mayQ S q (q.att t) ⟨6, t, 0, s, 0, 0, 0⟩) (stepS S q ⟨6, t, 0, s, 0, 0, 0⟩) := by
  have hA := hI.t t (by omega)
  have hT := hR.t t ht
  have e1 : stepP S p ⟨6, t, 0, s, 0, 0, 0⟩ = (if whereA (q.att t) = 4 then checkP else noP) p t s ⟨6, t, 0, s, 0, 0, 0⟩ := by
    rw [← tab_6 wh_range, ← hT.wh]
    simp [stepP, kindX, strX]
  rw [e1]
  by_cases hw : checksA (q.att t)
  · have hw1 := (wh_checks hA.rg).2 hw
    have hov := not_over hA (by omega)
    rw [if_pos hw1]
    have ho := hR.own s (by omega)
    have hv := hR.ver s (by omega)
    have ho2 := hI.own s
    have hrv := hT.rv (by unfold checksA at hw; omega)
    have hleft := hT.ck hw
    have hold : oldP p t s t = true ↔ ((0 ≤ q.own s ∧ q.own s ≠ t) ∨ (q.att t).rv < q.ver s) := by
      unfold oldP othersP
      rw [ho, hv, hrv]
      simp
      constructor
      · rintro (⟨h1, h2⟩ | h)
        · exact .inl ⟨by omega, h2⟩
        · exact .inr h
      · rintro (⟨h1, h2⟩ | h)
        · exact .inl ⟨by omega, h2⟩
        · exact .inr h
    have hnx : (s : Int) = nextP p t ↔ (leftA (q.att t)).head? = some (s : Int) := by
      rw [hleft, ← next_some]
      exact eq_comm
    have hm : mayQ S q (q.att t) ⟨6, t, 0, s, 0, 0, 0⟩ ↔ (s : Int) = nextP p t ∧ ¬ oldP p t s t = true := by
      rw [hnx, hold]
      simp only [mayQ]
      simp [hov, hw]
    rw [hm]
    unfold checkP
    refine good_mk (fun h => ?_) (fun h => ?_) fun hP => ?_
    · simp [h.1, h.2]
    · by_cases h1 : (s : Int) = nextP p t
      · exact .inr (Classical.byContradiction fun h2 => h ⟨h1, h2⟩)
      · exact .inl h1
    obtain ⟨r, hr⟩ : ∃ r, leftA (q.att t) = (s : Int) :: r := by
      have := hnx.1 hP.1
      cases hq : leftA (q.att t) with
      | nil => rw [hq] at this; cases this
      | cons z r => rw [hq] at this; cases this; exact ⟨r, rfl⟩
    unfold checksA at hw
    refine rel_mk (t := t) hR rfl ?_ ?_ ?_ ?_ ?_
    · rw [att_6, com_keep S q _ (by simp)]
      constructor
      case wh => 
        show p.wh t = _
        rw [hT.wh, hw1]
        simp [whereA]
      case com => exact hT.com
      case rv => exact fun _ => hT.rv (by omega)
      case rd => intro x; simp at x
      case pos => intro x; simp at x
      case l1 => intro x; simp at x
      case ck => 
        intro _
        have h2 : leftP { p with last := upN p.last t s } t = r := left_next (hleft.symm.trans hr) (upN_same _ _ _) (fun _ => rfl)
        refine Eq.trans ?_ h2.symm
        unfold leftA at hr ⊢
        simp only
        by_cases h : (q.att t).wv = (q.att t).rv + 1
        · rw [if_pos h] at hr
          cases hr
        · rw [if_neg h] at hr ⊢
          rw [← List.drop_drop, hr]
          rfl
      case wv => exact fun _ => hT.wv (by omega)
      case wv1 => exact fun _ => hT.wv1 (by omega)
      case l7 => intro x; simp at x
      case st => exact fun _ => hT.st (by omega)
      case ck0 => intro x; simp at x
      case rinc => exact hT.rinc
      case rpos => exact hT.rpos
      case why => intro x; have := hT.why x; omega
      case why2 => intro x; simp at x
    · intro u hu
      constructor <;> simp [upN, hu, goP, letP]
    · intro k hk
      exact hR.own k hk
    · intro k hk
      exact hR.ver k hk
    · exact hR.clk
  · rw [if_neg (fun x => hw ((wh_checks hA.rg).1 x))]
    exact good_no (by simp [mayQ, hw])
theorem st_commit (v : Int) : Good S T (stepP S p ⟨7, t, 0, 0, v, 0, 0⟩) (mayQ S q (q.att t) ⟨7, t, 0, 0, v, 0, 0⟩) (stepS S q ⟨7, t, 0, 0, v, 0, 0⟩) := by
  have hA := hI.t t (by omega)
  have hT := hR.t t ht
  have e1 : stepP S p ⟨7, t, 0, 0, v, 0, 0⟩ = (if whereA (q.att t) = 1 then restP else if whereA (q.att t) = 4 then commitPS else noP) p t 0 ⟨7, t, 0, 0, v, 0, 0⟩ := by
    rw [← tab_7 wh_range, ← hT.wh]
    simp [stepP, kindX, strX]
  rw [e1]
  by_cases hw : readsA (q.att t)
  · have hw1 := (wh_reads hA.rg).2 hw
    have hov := not_over hA (by omega)
    rw [if_pos hw1]
    have hnc : ¬ checksA (q.att t) := by unfold readsA at hw; unfold checksA; omega
    have hm : mayQ S q (q.att t) ⟨7, t, 0, 0, v, 0, 0⟩ ↔ v = 0 := by
      by_cases h : v = 0
      · simp [mayQ, hov, hw, h]
      · simp [mayQ, hov, hnc, h]
    rw [hm]
    unfold readsA at hw
    have h0 := hA.w0 (by omega)
    unfold restP
    refine good_mk (by (try dsimp only); omega) (by (try dsimp only); omega) fun hP => ?_
    refine rel_mk (t := t) hR rfl ?_ ?_ ?_ ?_ ?_
    · rw [att_7, com_next, if_pos (by rw [att_7]; simp [overA, h0.1])]
      constructor
      case wh => simp [upN_same, whereA, h0.1]
      case com => show upN p.com t (p.com t + 1) t = _; rw [upN_same, hT.com]
      case rv => intro x; simp at x
      case rd => intro x; simp at x
      case pos => intro x; simp at x
      case l1 => intro x; simp at x
      case ck => intro x; simp at x
      case wv => exact fun _ => hT.wv (by omega)
      case wv1 => intro x; simp at x
      case l7 => 
        intro _
        show p.last t = lastL (q.att t).st
        rw [hT.l1 (by omega), h0.1, h0.2]
      case st => exact fun _ => hT.st (by omega)
      case ck0 => intro x; simp at x
      case rinc => exact hT.rinc
      case rpos => exact hT.rpos
      case why => intro x; have := hT.why x; omega
      case why2 => intro x; simp at x
    · intro u hu
      constructor <;> simp [upN, hu, goP, letP]
    · intro k hk
      exact hR.own k hk
    · intro k hk
      exact hR.ver k hk
    · exact hR.clk
  rw [if_neg (fun x => hw ((wh_reads hA.rg).1 x))]
  by_cases hk : checksA (q.att t)
  · have hw1 := (wh_checks hA.rg).2 hk
    have hov := not_over hA (by omega)
    rw [if_pos hw1]
    have hk' := hk
    unfold checksA at hk'
    have hv1 := hT.wv1 hk'
    have hwv := hT.wv (by omega)
    have h4 := hA.w4 (by omega)
    have hl : (q.att t).lk.length ≠ 0 := fun x => h4.1 (List.length_eq_zero_iff.1 x)
    have hm : mayQ S q (q.att t) ⟨7, t, 0, 0, v, 0, 0⟩ ↔ nextP p t = -1 ∧ v = p.wv t := by
      rw [next_nil, ← hT.ck hk, hwv]
      by_cases h : v = 0
      · simp [mayQ, hov, hw, h]
        omega
      · simp [mayQ, hov, hk, h]
    rw [hm]
    unfold commitPS
    refine good_mk (by (try dsimp only); omega) (by (try dsimp only); omega) fun hP => ?_
    refine rel_mk (t := t) hR rfl ?_ ?_ ?_ ?_ ?_
    · rw [att_7, com_next, if_neg (by rw [att_7]; simp [overA, h4.1])]
      constructor
      case wh => simp [upN_same, whereA, h4.1]
      case com => exact hT.com
      case rv => intro x; simp at x
      case rd => intro x; simp at x
      case pos => intro x; simp at x
      case l1 => intro x; simp at x
      case ck => intro x; simp at x
      case wv => exact fun _ => hT.wv (by omega)
      case wv1 => intro x; simp at x
      case l7 => intro _; simp [upN_same, h4.2.2, lastL]
      case st => exact fun _ => hT.st (by omega)
      case ck0 => intro x; simp at x
      case rinc => exact hT.rinc
      case rpos => exact hT.rpos
      case why => intro x; have := hT.why x; omega
      case why2 => intro x; simp at x
    · intro u hu
      constructor <;> simp [upN, hu, goP, letP]
    · intro k hk
      exact hR.own k hk
    · intro k hk
      exact hR.ver k hk
    · exact hR.clk
  · rw [if_neg (fun x => hk ((wh_checks hA.rg).1 x))]
    refine good_no fun h => ?_
    simp only [mayQ] at h
    simp at h
    split at h
    · exact hw h.2
    · exact hk h.2.1
theorem st_store (n : Int) (s : Nat) (hs : n % S = s) (x : Int) : Good S T (stepP S p ⟨8, t, 0, n, 0, x, 0⟩) (mayQ S q (q.att t) ⟨8, t, 0, n, 0, x, 0⟩) (stepS S q ⟨8, t, 0, n, 0, x, 0⟩) := by
  have hA := hI.t t (by omega)
  have hT := hR.t t ht
  have e1 : stepP S p ⟨8, t, 0, n, 0, x, 0⟩ = (if whereA (q.att t) = 5 then storeP else noP) p t s ⟨8, t, 0, n, 0, x, 0⟩ := by
    rw [← tab_8 wh_range, ← hT.wh]
    simp [stepP, kindX, strX]
    simp [hs]
  rw [e1]
  have hsS : (s : Int) < S := by rw [← hs]; exact Int.emod_lt_of_pos _ (by omega)
  by_cases hw : whereA (q.att t) = 5
  · have hw1 := (wh_stores hA.rg).1 hw
    have hov := not_over hA (by omega)
    rw [if_pos hw]
    have hl78 : (q.att t).last = 7 ∨ (q.att t).last = 8 := by omega
    have hm : mayQ S q (q.att t) ⟨8, t, 0, n, 0, x, 0⟩ ↔ lastL (q.att t).st < n ∧ q.own s = t := by
      simp [mayQ, hov, hl78, hs]
    rw [hm]
    have ho := hR.own s (by omega)
    have hl := hT.l7 hl78
    unfold storeP
    refine good_mk (by (try dsimp only); omega) (by (try dsimp only); omega) fun hP => ?_
    refine rel_mk (t := t) hR rfl ?_ ?_ ?_ ?_ ?_
    · rw [att_8, com_keep S q _ (by simp)]
      constructor
      case wh => show p.wh t = _; rw [hT.wh, hw]; simp [whereA]
      case com => exact hT.com
      case rv => intro x; simp at x
      case rd => intro x; simp at x
      case pos => intro x; simp at x
      case l1 => intro x; simp at x
      case ck => intro x; simp at x
      case wv => exact fun _ => hT.wv (by omega)
      case wv1 => intro x; simp at x
      case l7 => intro _; simp [upN_same, lastL]
      case st => 
        intro _ k hk
        show upN p.st t (upN (p.st t) s true) t k = decide (∃ x ∈ (q.att t).st ++ [n], x % S = k)
        rw [upN_same]
        by_cases hks : k = s
        · subst hks
          rw [upN_same]
          simp [hs]
        · rw [upN_other hks, hT.st (by omega) k hk]
          have : ¬ (s : Int) = k := by omega
          simp [hs, this, or_and_right, exists_or]
      case ck0 => intro x; simp at x
      case rinc => exact hT.rinc
      case rpos => exact hT.rpos
      case why => intro x; have := hT.why x; omega
      case why2 => intro x; simp at x
    · intro u hu
      constructor <;> simp [upN, hu, goP, letP]
    · intro k hk
      exact hR.own k hk
    · intro k hk
      exact hR.ver k hk
    · exact hR.clk
  · rw [if_neg hw]
    refine good_no fun h => ?_
    simp only [mayQ] at h
    simp at h
    obtain ⟨h1, h2, _⟩ := h
    refine hw ((wh_stores hA.rg).2 ?_)
    rcases h2 with h2 | h2
    · refine .inl ⟨h2, fun h3 => ?_⟩
      simp [overA, h2, h3] at h1
    · exact .inr h2
theorem st_free {V : Int} (s : Nat) (hs : (s : Int) ≤ S - 1) (hb : mayB ⟨9, t, 0, s, 0, 0, 0⟩ T V S = true) : Good S T (stepP S p ⟨9, t, 0, s, 0, 0, 0⟩) (mayQ S q (q.att t) ⟨9, t, 0, s, 0, 0, 0⟩) (stepS S q ⟨9, t, 0, s, 0, 0, 0⟩) := by
  have hA := hI.t t (by omega)
  have hT := hR.t t ht
  have e1 : stepP S p ⟨9, t, 0, s, 0, 0, 0⟩ = (if whereA (q.att t) = 5 ∨ whereA (q.att t) = 6 then freeP else noP) p t s ⟨9, t, 0, s, 0, 0, 0⟩ := by
    rw [← tab_9 wh_range, ← hT.wh]
    simp [stepP, kindX, strX]
  rw [e1]
  by_cases hw : whereA (q.att t) = 5 ∨ whereA (q.att t) = 6
  · have hov := not_over hA (by omega)
    rw [if_pos hw]
    rw [wh_stores hA.rg, wh_frees hA.rg] at hw
    have hls := least_some hA hS.2 hR.own s (by omega)
    have hall : allP p t t = true ↔ (((q.att t).last = 8 ∧ (storedA S (q.att t).st).length = (q.att t).lk.length) ∨ (q.att t).last = 9) := by
      rcases hw with (⟨h7, hl⟩ | h8) | ⟨h9, hf⟩
      · have := hA.w7 h7
        rw [all_lk hA hS hR.own (hT.st (by omega)) this.1, this.2]
        have hz : (storedA S []).length = 0 := rfl
        rw [hz, h7]
        constructor
        · intro h; omega
        · intro h; omega
      · have := hA.w8 h8
        rw [all_lk hA hS hR.own (hT.st (by omega)) this.1]
        simp [h8]
      · simp only [h9, or_true, iff_true]
        rw [all_iff hR.own]
        intro k hk hq
        obtain ⟨j, _, hj⟩ := hA.held _ hq
        rw [hT.st (by omega) k hk]
        simpa using (hA.w9 h9).2 _ (List.mem_of_getElem? hj)
    have hm : mayQ S q (q.att t) ⟨9, t, 0, s, 0, 0, 0⟩ ↔ allP p t t = true ∧ (s : Int) = leastP p t := by
      rw [hall, hls]
      simp [mayQ, hov]
    have hc : (allP p t t = false ∨ (s : Int) ≠ leastP p t) ↔ ¬ mayQ S q (q.att t) ⟨9, t, 0, s, 0, 0, 0⟩ := by
      rw [hm, ← Bool.not_eq_true]
      by_cases h1 : allP p t t = true <;> by_cases h2 : (s : Int) = leastP p t <;> simp [h1, h2]
    unfold freeP
    by_cases hP : ¬ mayQ S q (q.att t) ⟨9, t, 0, s, 0, 0, 0⟩
    · exact ⟨fun h => absurd h hP, fun _ => if_pos (hc.2 hP)⟩
    have hP := Classical.not_not.1 hP
    refine ⟨fun _ => ?_, fun h => absurd hP h⟩
    have h89 : (q.att t).last = 8 ∨ (q.att t).last = 9 := by
      have := hall.1 (hm.1 hP).1
      omega
    have hlk : (q.att t).lk ≠ [] := by
      rcases h89 with h | h
      · exact (hA.w8 h).2.1
      · exact (hA.w9 h).1
    have hbm : q.bmp t = p.wv t := by
      rw [hT.wv (by omega)]
      exact (hA.bmw (.inr (.inr ⟨by omega, hlk⟩))).1.symm
    have hA2 : TInv S (stepS S q ⟨9, t, 0, s, 0, 0, 0⟩).own (stepS S q ⟨9, t, 0, s, 0, 0, 0⟩).ver (stepS S q ⟨9, t, 0, s, 0, 0, 0⟩).clk ((stepS S q ⟨9, t, 0, s, 0, 0, 0⟩).bmp t) t (attF S (q.att t) ⟨9, t, 0, s, 0, 0, 0⟩) := by
      have := (step_inv (V := V) hI (by unfold mayS; rw [hb]; simpa using hP)).t t (by omega)
      rwa [show (stepS S q ⟨9, t, 0, s, 0, 0, 0⟩).att t = attF S (q.att t) ⟨9, t, 0, s, 0, 0, 0⟩ from updF_same _ _ _] at this
    have hfd := hA2.fdl
    rw [att_9] at hA2 hfd
    simp only at hfd
    have hln := least_none (p := letP p s (p.wv t)) hA2 hS.2 (fun k hk => up_upd hR.own k hk)
    rw [if_neg (fun x => hc.1 x hP)]
    by_cases hfl : (q.att t).fd + 1 = (q.att t).lk.length
    · rw [if_neg (fun x => x (hln.2 hfl))]
      refine ⟨_, rfl, ?_⟩
      refine rel_mk (t := t) hR rfl ?_ ?_ ?_ ?_ ?_
      · rw [att_9, com_next, if_pos (by rw [att_9]; simp [overA, hfl])]
        constructor
        case wh => simp [goP, upN_same, whereA, hfl]
        case com => show upN p.com t (p.com t + 1) t = _; rw [upN_same, hT.com]
        case rv => intro x; simp at x
        case rd => intro x; simp at x
        case pos => intro x; simp at x
        case l1 => intro x; simp at x
        case ck => intro x; simp at x
        case wv => exact fun _ => hT.wv (by omega)
        case wv1 => intro x; simp at x
        case l7 => intro x; simp at x
        case st => exact fun _ => hT.st (by omega)
        case ck0 => intro x; simp at x
        case rinc => exact hT.rinc
        case rpos => exact hT.rpos
        case why => intro x; have := hT.why x; omega
        case why2 => intro x; simp at x
      · intro u hu
        constructor <;> simp [upN, hu, goP, letP]
      · intro k hk
        exact up_upd hR.own k hk
      · intro k hk
        rw [show (stepS S q ⟨9, t, 0, s, 0, 0, 0⟩).ver = updF q.ver s (p.wv t) by simp [stepS, hbm]]; exact up_upd hR.ver k hk
      · exact hR.clk
    · rw [if_pos (fun x => hfl (hln.1 x))]
      refine ⟨_, rfl, ?_⟩
      refine rel_mk (t := t) hR rfl ?_ ?_ ?_ ?_ ?_
      · rw [att_9, com_next, if_neg (by rw [att_9]; simp [overA, hfl])]
        constructor
        case wh => simp [goP, upN_same, whereA, hfl]
        case com => exact hT.com
        case rv => intro x; simp at x
        case rd => intro x; simp at x
        case pos => intro x; simp at x
        case l1 => intro x; simp at x
        case ck => intro x; simp at x
        case wv => exact fun _ => hT.wv (by omega)
        case wv1 => intro x; simp at x
        case l7 => intro x; simp at x
        case st => exact fun _ => hT.st (by omega)
        case ck0 => intro x; simp at x
        case rinc => exact hT.rinc
        case rpos => exact hT.rpos
        case why => intro x; have := hT.why x; omega
        case why2 => intro x; simp at x
      · intro u hu
        constructor <;> simp [upN, hu, goP, letP]
      · intro k hk
        exact up_upd hR.own k hk
      · intro k hk
        rw [show (stepS S q ⟨9, t, 0, s, 0, 0, 0⟩).ver = updF q.ver s (p.wv t) by simp [stepS, hbm]]; exact up_upd hR.ver k hk
      · exact hR.clk
  · rw [if_neg hw]
    refine good_no fun h => ?_
    simp only [mayQ] at h
    simp at h
    obtain ⟨h1, h2, _⟩ := h
    refine hw ?_
    rw [wh_stores hA.rg, wh_frees hA.rg]
    rcases h2 with h2 | h2
    · exact .inl (.inr h2.1)
    · refine .inr ⟨h2, fun h3 => ?_⟩
      simp [overA, h2, h3] at h1
theorem st_undo {V : Int} (s : Nat) (hs : (s : Int) ≤ S - 1) (hb : mayB ⟨11, t, 0, s, 0, 0, 0⟩ T V S = true) : Good S T (stepP S p ⟨11, t, 0, s, 0, 0, 0⟩) (mayQ S q (q.att t) ⟨11, t, 0, s, 0, 0, 0⟩) (stepS S q ⟨11, t, 0, s, 0, 0, 0⟩) := by
  have hA := hI.t t (by omega)
  have hT := hR.t t ht
  have e1 : stepP S p ⟨11, t, 0, s, 0, 0, 0⟩ = (if whereA (q.att t) = 7 ∨ whereA (q.att t) = 8 then undoP else noP) p t s ⟨11, t, 0, s, 0, 0, 0⟩ := by
    rw [← tab_11 wh_range, ← hT.wh]
    simp [stepP, kindX, strX]
  rw [e1]
  by_cases hw : whereA (q.att t) = 7 ∨ whereA (q.att t) = 8
  · have hov := not_over hA (by omega)
    rw [if_pos hw]
    have hqt := wh_quits hA.rg hT.why hw
    have hwp := hT.wh
    have hw0 := hw
    rw [wh_undoes hA.rg] at hw
    have hls := least_some hA hS.2 hR.own s (by omega)
    have h1011 : (q.att t).last = 10 ∨ (q.att t).last = 11 := by omega
    have hm : mayQ S q (q.att t) ⟨11, t, 0, s, 0, 0, 0⟩ ↔ (s : Int) = leastP p t := by
      rw [hls]
      simp [mayQ, hov, h1011]
    unfold undoP
    by_cases hP : ¬ mayQ S q (q.att t) ⟨11, t, 0, s, 0, 0, 0⟩
    · exact ⟨fun h => absurd h hP, fun _ => if_pos (fun x => hP (hm.2 x))⟩
    have hP := Classical.not_not.1 hP
    refine ⟨fun _ => ?_, fun h => absurd hP h⟩
    have hA2 : TInv S (stepS S q ⟨11, t, 0, s, 0, 0, 0⟩).own (stepS S q ⟨11, t, 0, s, 0, 0, 0⟩).ver (stepS S q ⟨11, t, 0, s, 0, 0, 0⟩).clk ((stepS S q ⟨11, t, 0, s, 0, 0, 0⟩).bmp t) t (attF S (q.att t) ⟨11, t, 0, s, 0, 0, 0⟩) := by
      have := (step_inv (V := V) hI (by unfold mayS; rw [hb]; simpa using hP)).t t (by omega)
      rwa [show (stepS S q ⟨11, t, 0, s, 0, 0, 0⟩).att t = attF S (q.att t) ⟨11, t, 0, s, 0, 0, 0⟩ from updF_same _ _ _] at this
    have hfd := hA2.fdl
    rw [att_11] at hA2 hfd
    simp only at hfd
    have hln := least_none (p := { p with own := upN p.own s (-1) }) hA2 hS.2 (fun k hk => up_upd hR.own k hk)
    rw [if_neg (fun x => x (hm.1 hP))]
    by_cases hfl : (q.att t).fd + 1 = (q.att t).lk.length
    · rw [if_neg (fun x => x (hln.2 hfl))]
      refine ⟨_, rfl, ?_⟩
      refine rel_mk (t := t) hR rfl ?_ ?_ ?_ ?_ ?_
      · rw [att_11, com_keep S q _ (by simp)]
        constructor
        case wh => 
          simp only [goP, upN_same]
          rw [hwp]
          by_cases h6 : (q.att t).why = 6
          · rw [if_pos (hqt.2 h6)]
            simp [whereA, hfl, h6]
          · rw [if_neg (fun x => h6 (hqt.1 x))]
            simp [whereA, hfl, h6]
        case com => exact hT.com
        case rv => intro x; simp at x
        case rd => intro x; simp at x
        case pos => intro x; simp at x
        case l1 => intro x; simp at x
        case ck => intro x; simp at x
        case wv => intro x; simp at x
        case wv1 => intro x; simp at x
        case l7 => intro x; simp at x
        case st => intro x; simp at x
        case ck0 => intro x; simp at x
        case rinc => exact hT.rinc
        case rpos => exact hT.rpos
        case why => exact fun _ => by simp
        case why2 => intro x; simp at x
      · intro u hu
        constructor <;> simp [upN, hu, goP, letP]
      · intro k hk
        exact up_upd hR.own k hk
      · intro k hk
        exact hR.ver k hk
      · exact hR.clk
    · rw [if_pos (fun x => hfl (hln.1 x))]
      refine ⟨_, rfl, ?_⟩
      refine rel_mk (t := t) hR rfl ?_ ?_ ?_ ?_ ?_
      · rw [att_11, com_keep S q _ (by simp)]
        constructor
        case wh => 
          show p.wh t = _
          rw [hwp]
          by_cases h6 : (q.att t).why = 6
          · rw [hqt.2 h6]
            simp [whereA, hfl, h6]
          · have : whereA (q.att t) = 7 := by have := fun x => h6 (hqt.1 x); omega
            rw [this]
            simp [whereA, hfl, h6]
        case com => exact hT.com
        case rv => intro x; simp at x
        case rd => intro x; simp at x
        case pos => intro x; simp at x
        case l1 => intro x; simp at x
        case ck => intro x; simp at x
        case wv => intro x; simp at x
        case wv1 => intro x; simp at x
        case l7 => intro x; simp at x
        case st => intro x; simp at x
        case ck0 => intro x; simp at x
        case rinc => exact hT.rinc
        case rpos => exact hT.rpos
        case why => exact fun _ => by simp
        case why2 => intro x; simp at x
      · intro u hu
        constructor <;> simp [upN, hu, goP, letP]
      · intro k hk
        exact up_upd hR.own k hk
      · intro k hk
        exact hR.ver k hk
      · exact hR.clk
  · rw [if_neg hw]
    refine good_no fun h => ?_
    simp only [mayQ] at h
    simp at h
    obtain ⟨h1, h2, _⟩ := h
    refine hw ?_
    rw [wh_undoes hA.rg]
    rcases h2 with h2 | h2
    · refine .inl ⟨h2, fun h3 => ?_⟩
      simp [overA, h2, h3] at h1
    · refine .inr ⟨h2, fun h3 => ?_⟩
      simp [overA, h2, h3] at h1
theorem st_held (s : Nat) (hs : (s : Int) ≤ S - 1) : Good S T (stepP S p ⟨10, t, 0, s, 0, 0, 1⟩) (mayQ S q (q.att t) ⟨10, t, 0, s, 0, 0, 1⟩) (stepS S q ⟨10, t, 0, s, 0, 0, 1⟩) := by
  have hA := hI.t t (by omega)
  have hT := hR.t t ht
  have e1 : stepP S p ⟨10, t, 0, s, 0, 0, 1⟩ = (if whereA (q.att t) = 1 then heldP else noP) p t s ⟨10, t, 0, s, 0, 0, 1⟩ := by
    rw [← tab_14 wh_range, ← hT.wh]
    simp [stepP, kindX, strX]
  rw [e1]
  by_cases hw : readsA (q.att t)
  · have hw1 := (wh_reads hA.rg).2 hw
    have hov := not_over hA (by omega)
    rw [if_pos hw1]
    have ho := hR.own s (by omega)
    have hv := hR.ver s (by omega)
    have ho2 := hI.own s
    have hoth : othersP p s t = true ↔ 0 ≤ q.own s ∧ q.own s ≠ t := by
      unfold othersP
      rw [ho]
      simp
      intro _
      omega
    have hm : mayQ S q (q.att t) ⟨10, t, 0, s, 0, 0, 1⟩ ↔ othersP p s t = true := by
      rw [hoth]
      simp [mayQ, mayAb, hov, hw]
    rw [hm]
    unfold readsA at hw
    have h0 := hA.w0 (by omega)
    unfold heldP
    refine good_mk2 (fun h => h) (fun h => h) fun hP => ?_
    refine rel_mk (t := t) hR rfl ?_ ?_ ?_ ?_ ?_
    · rw [att_10, com_keep S q _ (by simp)]
      constructor
      case wh => simp [upN_same, goP, whereA, h0.1]
      case com => exact hT.com
      case rv => intro x; simp at x
      case rd => intro x; simp at x
      case pos => intro x; simp at x
      case l1 => intro x; simp at x
      case ck => intro x; simp at x
      case wv => intro x; simp at x
      case wv1 => intro x; simp at x
      case l7 => intro x; simp at x
      case st => intro x; simp at x
      case ck0 => intro x; simp at x
      case rinc => exact hT.rinc
      case rpos => exact hT.rpos
      case why => exact fun _ => by simp
      case why2 => intro _ _; simp
    · intro u hu
      constructor <;> simp [upN, hu, goP, letP]
    · intro k hk
      exact hR.own k hk
    · intro k hk
      exact hR.ver k hk
    · exact hR.clk
  · rw [if_neg (fun x => hw ((wh_reads hA.rg).1 x))]
    exact good_no (by simp [mayQ, mayAb, hw])
theorem st_newer (s : Nat) (hs : (s : Int) ≤ S - 1) : Good S T (stepP S p ⟨10, t, 0, s, 0, 0, 2⟩) (mayQ S q (q.att t) ⟨10, t, 0, s, 0, 0, 2⟩) (stepS S q ⟨10, t, 0, s, 0, 0, 2⟩) := by
  have hA := hI.t t (by omega)
  have hT := hR.t t ht
  have e1 : stepP S p ⟨10, t, 0, s, 0, 0, 2⟩ = (if whereA (q.att t) = 1 then newerP else noP) p t s ⟨10, t, 0, s, 0, 0, 2⟩ := by
    rw [← tab_15 wh_range, ← hT.wh]
    simp [stepP, kindX, strX]
  rw [e1]
  by_cases hw : readsA (q.att t)
  · have hw1 := (wh_reads hA.rg).2 hw
    have hov := not_over hA (by omega)
    rw [if_pos hw1]
    have hm : mayQ S q (q.att t) ⟨10, t, 0, s, 0, 0, 2⟩ ↔ q.own s < 0 ∧ (q.att t).rv < q.ver s := by
      simp [mayQ, mayAb, hov, hw]
    rw [hm]
    unfold readsA at hw
    have h0 := hA.w0 (by omega)
    have ho := hR.own s (by omega)
    have hv := hR.ver s (by omega)
    have ho2 := hI.own s
    have hrv := hT.rv (by omega)
    unfold newerP
    refine good_mk2 (by omega) (by omega) fun hP => ?_
    refine rel_mk (t := t) hR rfl ?_ ?_ ?_ ?_ ?_
    · rw [att_10, com_keep S q _ (by simp)]
      constructor
      case wh => simp [upN_same, goP, whereA, h0.1]
      case com => exact hT.com
      case rv => intro x; simp at x
      case rd => intro x; simp at x
      case pos => intro x; simp at x
      case l1 => intro x; simp at x
      case ck => intro x; simp at x
      case wv => intro x; simp at x
      case wv1 => intro x; simp at x
      case l7 => intro x; simp at x
      case st => intro x; simp at x
      case ck0 => intro x; simp at x
      case rinc => exact hT.rinc
      case rpos => exact hT.rpos
      case why => exact fun _ => by simp
      case why2 => intro _ _; simp
    · intro u hu
      constructor <;> simp [upN, hu, goP, letP]
    · intro k hk
      exact hR.own k hk
    · intro k hk
      exact hR.ver k hk
    · exact hR.clk
  · rw [if_neg (fun x => hw ((wh_reads hA.rg).1 x))]
    exact good_no (by simp [mayQ, mayAb, hw])
theorem st_moved (s : Nat) (hs : (s : Int) ≤ S - 1) : Good S T (stepP S p ⟨10, t, 0, s, 0, 0, 3⟩) (mayQ S q (q.att t) ⟨10, t, 0, s, 0, 0, 3⟩) (stepS S q ⟨10, t, 0, s, 0, 0, 3⟩) := by
  have hA := hI.t t (by omega)
  have hT := hR.t t ht
  have e1 : stepP S p ⟨10, t, 0, s, 0, 0, 3⟩ = (if whereA (q.att t) = 2 then movedP else noP) p t s ⟨10, t, 0, s, 0, 0, 3⟩ := by
    rw [← tab_16 wh_range, ← hT.wh]
    simp [stepP, kindX, strX]
  rw [e1]
  by_cases hw : (q.att t).last = 2
  · have hw1 := (wh_looked hA.rg).2 hw
    have hov := not_over hA (by omega)
    rw [if_pos hw1]
    have hm : mayQ S q (q.att t) ⟨10, t, 0, s, 0, 0, 3⟩ ↔ (q.att t).lp = s ∧ (0 ≤ q.own s ∨ q.ver s ≠ (q.att t).lv) := by
      simp [mayQ, mayAb, hov, hw]
    rw [hm]
    have h0 := hA.w0 (by omega)
    have ho := hR.own s (by omega)
    have hv := hR.ver s (by omega)
    have ho2 := hI.own s
    have hpos := hT.pos hw
    have hq : (s : Int) = p.pos t → (stillP p t = true ↔ q.own s < 0 ∧ q.ver s = (q.att t).lv) := by
      intro h
      unfold stillP
      rw [← h, show ((s : Int)).toNat = s by omega, ho, hv, hpos.2]
      simp
      intro _
      omega
    have hc : ((s : Int) = p.pos t ∧ stillP p t = false) ↔ ((q.att t).lp = s ∧ (0 ≤ q.own s ∨ q.ver s ≠ (q.att t).lv)) := by
      by_cases h : (s : Int) = p.pos t
      · have h2 : (q.att t).lp = s := by omega
        rw [← Bool.not_eq_true, hq h]
        simp [h, h2]
        omega
      · have : ¬ (q.att t).lp = s := by omega
        simp [h, this]
    unfold movedP
    refine good_mk2 (fun h => hc.2 h) (fun h x => h (hc.1 x)) fun hP => ?_
    refine rel_mk (t := t) hR rfl ?_ ?_ ?_ ?_ ?_
    · rw [att_10, com_keep S q _ (by simp)]
      constructor
      case wh => simp [upN_same, goP, whereA, h0.1]
      case com => exact hT.com
      case rv => intro x; simp at x
      case rd => intro x; simp at x
      case pos => intro x; simp at x
      case l1 => intro x; simp at x
      case ck => intro x; simp at x
      case wv => intro x; simp at x
      case wv1 => intro x; simp at x
      case l7 => intro x; simp at x
      case st => intro x; simp at x
      case ck0 => intro x; simp at x
      case rinc => exact hT.rinc
      case rpos => exact hT.rpos
      case why => exact fun _ => by simp
      case why2 => intro _ _; simp
    · intro u hu
      constructor <;> simp [upN, hu, goP, letP]
    · intro k hk
      exact hR.own k hk
    · intro k hk
      exact hR.ver k hk
    · exact hR.clk
  · rw [if_neg (fun x => hw ((wh_looked hA.rg).1 x))]
    exact good_no (by simp [mayQ, mayAb, hw])
theorem st_busy (s : Nat) (hs : (s : Int) ≤ S - 1) : Good S T (stepP S p ⟨10, t, 0, s, 0, 0, 4⟩) (mayQ S q (q.att t) ⟨10, t, 0, s, 0, 0, 4⟩) (stepS S q ⟨10, t, 0, s, 0, 0, 4⟩) := by
  have hA := hI.t t (by omega)
  have hT := hR.t t ht
  have e1 : stepP S p ⟨10, t, 0, s, 0, 0, 4⟩ = (if whereA (q.att t) = 1 ∨ whereA (q.att t) = 3 then busyP else noP) p t s ⟨10, t, 0, s, 0, 0, 4⟩ := by
    rw [← tab_17 wh_range, ← hT.wh]
    simp [stepP, kindX, strX]
  rw [e1]
  by_cases hw : readsA (q.att t) ∨ (q.att t).last = 4
  · have hw1 : whereA (q.att t) = 1 ∨ whereA (q.att t) = 3 := by rw [wh_reads hA.rg, wh_locks hA.rg]; exact hw
    have hov := not_over hA (by omega)
    rw [if_pos hw1]
    have ho := hR.own s (by omega)
    have hv := hR.ver s (by omega)
    have ho2 := hI.own s
    have hoth : othersP p s t = true ↔ 0 ≤ q.own s ∧ q.own s ≠ t := by
      unfold othersP
      rw [ho]
      simp
      intro _
      omega
    have hm : mayQ S q (q.att t) ⟨10, t, 0, s, 0, 0, 4⟩ ↔ lastL (q.att t).lk < s ∧ othersP p s t = true := by
      rw [hoth]
      simp [mayQ, mayAb, hov, hw]
    rw [hm]
    unfold readsA at hw
    have hl := hT.l1 (by omega)
    have hln := least_none hA hS.2 hR.own
    have hlw : (if leastP p t = -1 then (0 : Int) else 7) = if (q.att t).lk.length = 0 then 0 else 7 := by
      rcases hw with hw | hw
      · have h0 := hA.w0 (by omega)
        rw [if_pos (hln.2 (by have := hA.fdl; rw [h0.1] at this ⊢; simpa using this)), if_pos (by rw [h0.1]; rfl)]
      · have h4 := hA.w4 (by omega)
        have h5 : (q.att t).lk.length ≠ 0 := fun x => h4.1 (List.length_eq_zero_iff.1 x)
        rw [if_neg (fun x => h5 (by rw [← hln.1 x]; exact h4.2.1)), if_neg h5]
    unfold busyP
    rw [← hl]
    refine good_mk (fun h x => ?_) (fun h => ?_) fun hP => ?_
    · rcases x with x | x
      · omega
      · rw [h.2] at x
        cases x
    · by_cases h1 : (s : Int) ≤ p.last t
      · exact .inl h1
      · refine .inr ?_
        cases h2 : othersP p s t with
        | false => rfl
        | true => exact absurd ⟨by omega, h2⟩ h
    refine rel_mk (t := t) hR rfl ?_ ?_ ?_ ?_ ?_
    · rw [att_10, com_keep S q _ (by simp)]
      constructor
      case wh => 
        simp only [upN_same, goP]
        rw [hlw]
        simp [whereA]
      case com => exact hT.com
      case rv => intro x; simp at x
      case rd => intro x; simp at x
      case pos => intro x; simp at x
      case l1 => intro x; simp at x
      case ck => intro x; simp at x
      case wv => intro x; simp at x
      case wv1 => intro x; simp at x
      case l7 => intro x; simp at x
      case st => intro x; simp at x
      case ck0 => intro x; simp at x
      case rinc => exact hT.rinc
      case rpos => exact hT.rpos
      case why => exact fun _ => by simp
      case why2 => intro _ _; simp
    · intro u hu
      constructor <;> simp [upN, hu, goP, letP]
    · intro k hk
      exact hR.own k hk
    · intro k hk
      exact hR.ver k hk
    · exact hR.clk
  · rw [if_neg (fun x => hw (by rw [wh_reads hA.rg, wh_locks hA.rg] at x; exact x))]
    exact good_no (by simp only [mayQ, mayAb]; simp; intro _ h; exact absurd h hw)
theorem st_stale (s : Nat) (hs : (s : Int) ≤ S - 1) : Good S T (stepP S p ⟨10, t, 0, s, 0, 0, 5⟩) (mayQ S q (q.att t) ⟨10, t, 0, s, 0, 0, 5⟩) (stepS S q ⟨10, t, 0, s, 0, 0, 5⟩) := by
  have hA := hI.t t (by omega)
  have hT := hR.t t ht
  have e1 : stepP S p ⟨10, t, 0, s, 0, 0, 5⟩ = (if whereA (q.att t) = 4 then staleP else noP) p t s ⟨10, t, 0, s, 0, 0, 5⟩ := by
    rw [← tab_18 wh_range, ← hT.wh]
    simp [stepP, kindX, strX]
  rw [e1]
  by_cases hw : checksA (q.att t)
  · have hw1 := (wh_checks hA.rg).2 hw
    have hov := not_over hA (by omega)
    rw [if_pos hw1]
    have ho := hR.own s (by omega)
    have hv := hR.ver s (by omega)
    have ho2 := hI.own s
    have hrv := hT.rv (by unfold checksA at hw; omega)
    have hleft := hT.ck hw
    have hold : oldP p t s t = true ↔ ((0 ≤ q.own s ∧ q.own s ≠ t) ∨ (q.att t).rv < q.ver s) := by
      unfold oldP othersP
      rw [ho, hv, hrv]
      simp
      constructor
      · rintro (⟨h1, h2⟩ | h)
        · exact .inl ⟨by omega, h2⟩
        · exact .inr h
      · rintro (⟨h1, h2⟩ | h)
        · exact .inl ⟨by omega, h2⟩
        · exact .inr h
    have hnx : (s : Int) = nextP p t ↔ (leftA (q.att t)).head? = some (s : Int) := by
      rw [hleft, ← next_some]
      exact eq_comm
    have hm : mayQ S q (q.att t) ⟨10, t, 0, s, 0, 0, 5⟩ ↔ (s : Int) = nextP p t ∧ oldP p t s t = true := by
      rw [hnx, hold]
      simp [mayQ, mayAb, hov, hw]
    rw [hm]
    unfold checksA at hw
    have h4 := hA.w4 (by omega)
    unfold staleP
    refine good_mk2 (fun h => h) (fun h => h) fun hP => ?_
    refine rel_mk (t := t) hR rfl ?_ ?_ ?_ ?_ ?_
    · rw [att_10, com_keep S q _ (by simp)]
      constructor
      case wh => simp [upN_same, goP, whereA, h4.1]
      case com => exact hT.com
      case rv => intro x; simp at x
      case rd => intro x; simp at x
      case pos => intro x; simp at x
      case l1 => intro x; simp at x
      case ck => intro x; simp at x
      case wv => intro x; simp at x
      case wv1 => intro x; simp at x
      case l7 => intro x; simp at x
      case st => intro x; simp at x
      case ck0 => intro x; simp at x
      case rinc => exact hT.rinc
      case rpos => exact hT.rpos
      case why => exact fun _ => by simp
      case why2 => intro _ _; simp
    · intro u hu
      constructor <;> simp [upN, hu, goP, letP]
    · intro k hk
      exact hR.own k hk
    · intro k hk
      exact hR.ver k hk
    · exact hR.clk
  · rw [if_neg (fun x => hw ((wh_checks hA.rg).1 x))]
    exact good_no (by simp [mayQ, mayAb, hw])
theorem st_full  : Good S T (stepP S p ⟨10, t, 0, 0, 0, 0, 6⟩) (mayQ S q (q.att t) ⟨10, t, 0, 0, 0, 0, 6⟩) (stepS S q ⟨10, t, 0, 0, 0, 0, 6⟩) := by
  have hA := hI.t t (by omega)
  have hT := hR.t t ht
  have e1 : stepP S p ⟨10, t, 0, 0, 0, 0, 6⟩ = (if whereA (q.att t) = 3 then fullP else noP) p t 0 ⟨10, t, 0, 0, 0, 0, 6⟩ := by
    rw [← tab_19 wh_range, ← hT.wh]
    simp [stepP, kindX, strX]
  rw [e1]
  by_cases hw : (q.att t).last = 4
  · have hw1 := (wh_locks hA.rg).2 hw
    have hov := not_over hA (by omega)
    rw [if_pos hw1]
    have hm : mayQ S q (q.att t) ⟨10, t, 0, 0, 0, 0, 6⟩ := by simp [mayQ, mayAb, hov, hw]
    have h4 := hA.w4 (by omega)
    refine ⟨fun _ => ⟨_, rfl, ?_⟩, fun h => absurd hm h⟩
    refine rel_mk (t := t) hR rfl ?_ ?_ ?_ ?_ ?_
    · rw [att_10, com_keep S q _ (by simp)]
      constructor
      case wh => simp [upN_same, goP, whereA, h4.1]
      case com => exact hT.com
      case rv => intro x; simp at x
      case rd => intro x; simp at x
      case pos => intro x; simp at x
      case l1 => intro x; simp at x
      case ck => intro x; simp at x
      case wv => intro x; simp at x
      case wv1 => intro x; simp at x
      case l7 => intro x; simp at x
      case st => intro x; simp at x
      case ck0 => intro x; simp at x
      case rinc => exact hT.rinc
      case rpos => exact hT.rpos
      case why => exact fun _ => by simp
      case why2 => intro _ x; exact absurd x h4.1
    · intro u hu
      constructor <;> simp [upN, hu, goP, letP]
    · intro k hk
      exact hR.own k hk
    · intro k hk
      exact hR.ver k hk
    · exact hR.clk
  · rw [if_neg (fun x => hw ((wh_locks hA.rg).1 x))]
    exact good_no (by simp [mayQ, mayAb, hw])
theorem st_wait  : Good S T (stepP S p ⟨12, t, 0, 0, 0, 0, 0⟩) (mayQ S q (q.att t) ⟨12, t, 0, 0, 0, 0, 0⟩) (stepS S q ⟨12, t, 0, 0, 0, 0, 0⟩) := by
  have hA := hI.t t (by omega)
  have hT := hR.t t ht
  have e1 : stepP S p ⟨12, t, 0, 0, 0, 0, 0⟩ = (if whereA (q.att t) = 1 then waitP else noP) p t 0 ⟨12, t, 0, 0, 0, 0, 0⟩ := by
    rw [← tab_12 wh_range, ← hT.wh]
    simp [stepP, kindX, strX]
  rw [e1]
  by_cases hw : readsA (q.att t)
  · have hw1 := (wh_reads hA.rg).2 hw
    have hov := not_over hA (by omega)
    rw [if_pos hw1]
    have hm : mayQ S q (q.att t) ⟨12, t, 0, 0, 0, 0, 0⟩ := by simp [mayQ, hov, hw]
    unfold readsA at hw
    refine ⟨fun _ => ⟨_, rfl, ?_⟩, fun h => absurd hm h⟩
    refine rel_mk (t := t) hR rfl ?_ ?_ ?_ ?_ ?_
    · rw [att_12, com_keep S q _ (by simp)]
      constructor
      case wh => simp [upN_same, goP, whereA]
      case com => exact hT.com
      case rv => exact fun _ => hT.rv (by omega)
      case rd => exact fun _ => hT.rd (by omega)
      case pos => intro x; simp at x
      case l1 => intro x; simp at x
      case ck => intro x; simp at x
      case wv => intro x; simp at x
      case wv1 => intro x; simp at x
      case l7 => intro x; simp at x
      case st => intro x; simp at x
      case ck0 => intro x; simp at x
      case rinc => exact hT.rinc
      case rpos => exact hT.rpos
      case why => intro x; have := hT.why x; omega
      case why2 => intro x; simp at x
    · intro u hu
      constructor <;> simp [upN, hu, goP, letP]
    · intro k hk
      exact hR.own k hk
    · intro k hk
      exact hR.ver k hk
    · exact hR.clk
  · rw [if_neg (fun x => hw ((wh_reads hA.rg).1 x))]
    exact good_no (by simp [mayQ, hw])
theorem st_wake  : Good S T (stepP S p ⟨13, t, 0, 0, 0, 0, 0⟩) (mayQ S q (q.att t) ⟨13, t, 0, 0, 0, 0, 0⟩) (stepS S q ⟨13, t, 0, 0, 0, 0, 0⟩) := by
  have hA := hI.t t (by omega)
  have hT := hR.t t ht
  have e1 : stepP S p ⟨13, t, 0, 0, 0, 0, 0⟩ = (if whereA (q.att t) = 9 then wakeP else noP) p t 0 ⟨13, t, 0, 0, 0, 0, 0⟩ := by
    rw [← tab_13 wh_range, ← hT.wh]
    simp [stepP, kindX, strX]
  rw [e1]
  by_cases hw : (q.att t).last = 12
  · have hw1 := (wh_waits hA.rg).2 hw
    have hov := not_over hA (by omega)
    rw [if_pos hw1]
    have hm : mayQ S q (q.att t) ⟨13, t, 0, 0, 0, 0, 0⟩ ↔ wakeB p t = true := by
      unfold wakeB
      rw [List.any_eq_true]
      have h1 : mayQ S q (q.att t) ⟨13, t, 0, 0, 0, 0, 0⟩ ↔ ∃ s ∈ (q.att t).rd, q.own s < 0 ∧ (q.att t).rv < q.ver s := by simp [mayQ, hov, hw]
      rw [h1]
      constructor
      · rintro ⟨z, hz, h2, h3⟩
        have hb := hT.rpos z hz
        obtain ⟨s, rfl⟩ : ∃ s : Nat, z = s := ⟨z.toNat, by omega⟩
        refine ⟨s, List.mem_range.2 (by omega), ?_⟩
        have ho2 := hI.own s
        rw [hT.rd (by omega) s (by omega), hR.own s (by omega), hR.ver s (by omega), hT.rv (by omega)]
        simp [hz, h3]
        omega
      · rintro ⟨s, hs, h2⟩
        have hs := List.mem_range.1 hs
        rw [hT.rd (by omega) s (by omega), hR.own s (by omega), hR.ver s (by omega), hT.rv (by omega)] at h2
        simp at h2
        exact ⟨s, h2.1.1, by omega, h2.2⟩
    rw [hm]
    unfold wakeP
    refine good_mk2 (fun h => h) (fun h => h) fun hP => ?_
    refine rel_mk (t := t) hR rfl ?_ ?_ ?_ ?_ ?_
    · rw [att_13, com_keep S q _ (by simp)]
      constructor
      case wh => simp [upN_same, goP, whereA]
      case com => exact hT.com
      case rv => intro x; simp at x
      case rd => intro x; simp at x
      case pos => intro x; simp at x
      case l1 => intro x; simp at x
      case ck => intro x; simp at x
      case wv => intro x; simp at x
      case wv1 => intro x; simp at x
      case l7 => intro x; simp at x
      case st => intro x; simp at x
      case ck0 => intro x; simp at x
      case rinc => exact hT.rinc
      case rpos => exact hT.rpos
      case why => intro x; have := hT.why x; omega
      case why2 => intro x; simp at x
    · intro u hu
      constructor <;> simp [upN, hu, goP, letP]
    · intro k hk
      exact hR.own k hk
    · intro k hk
      exact hR.ver k hk
    · exact hR.clk
  · rw [if_neg (fun x => hw ((wh_waits hA.rg).1 x))]
    exact good_no (by simp [mayQ, hw])
end
end Go.Proofs.YteigglhhnemngaaGreatDoor
