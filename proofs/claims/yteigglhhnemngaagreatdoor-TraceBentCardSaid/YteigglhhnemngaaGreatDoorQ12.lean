/-
  SEVERAL TEXTS IN ONE (a claim has sixty files at most): Wcs, Sw: the head of each stands ahead of it. No condition but theirs.
-/
import Derived.Test.YteigglhhnemngaaGreatDoorQ03
import Derived.Test.YteigglhhnemngaaGreatDoorSu
namespace Go.Proofs.YteigglhhnemngaaGreatDoor
set_option maxRecDepth 100000
open Go.RowKit
set_option linter.unusedVariables false
set_option maxHeartbeats 4000000 in
theorem stripe_anyE (e : Ev) (S : Int) (w : World) :
    Calls Tryz.prog 119 #[evV e, .int .i64 S] w fun r w' => r = .returned (strV (stripeF e S)) ∧ Below w.heap.size w w' := by
  have HF := Lib.hid (fun w1 => full_any e w1)
  obtain ⟨f, hf⟩ : ∃ f, f = fullB e.kd e.why := ⟨_, rfl⟩
  rw [← hf] at HF
  obtain ⟨p, hp⟩ : ∃ p, p = stripeF e S := ⟨_, rfl⟩
  rw [← hp]
  unfold stripeF at hp
  rw [← hf] at hp
  have HP := Lib.hid hp
  clear hp hf
  obtain ⟨kd, th, tx, pl, v, x, why⟩ := e
  unfold evV at HF ⊢
  simp only at HP HF ⊢
  by_cases h1 : S < 1
  · have e1 : p = (0, false) := by rw [HP.out, if_pos (.inl h1)]
    have E1 := Lib.hid e1
    clear e1
    go_enter Tryz.func119, Tryz.ntmps119
    go_wp2_with fail
    go_ret2
    exact ⟨ret_str E1.out, (Below.refl _ _).alloc (Nat.le_refl _) _⟩
  · by_cases h2 : pl < 0
    · have e1 : p = (0, false) := by rw [HP.out, if_pos (.inr (.inl h2))]
      have E1 := Lib.hid e1
      clear e1
      go_enter Tryz.func119, Tryz.ntmps119
      go_wp2_with fail
      go_ret2
      exact ⟨ret_str E1.out, (Below.refl _ _).alloc (Nat.le_refl _) _⟩
    · have h3 : 0 ≤ pl := by omega
      have h4 : 1 ≤ S := by omega
      clear h1 h2
      cases f with
      | true =>
        have e1 : p = (0, false) := by rw [HP.out, if_pos (.inr (.inr rfl))]
        have E1 := Lib.hid e1
        clear e1
        go_enter Tryz.func119, Tryz.ntmps119
        go_wp2_with fail
        refine (HF.out _).mono ?_
        rintro _ w1 ⟨rfl, b1⟩
        have B1 := Lib.hid (((Below.refl w.heap.size w).alloc (Nat.le_refl _) _).trans (b1.mono (by simp)))
        clear b1
        go_wp2_with fail
        go_ret2
        exact ⟨ret_str E1.out, B1.out⟩
      | false =>
        rw [if_neg (by simp; omega)] at HP
        go_enter Tryz.func119, Tryz.ntmps119
        go_wp2_with fail
        refine (HF.out _).mono ?_
        rintro _ w1 ⟨rfl, b1⟩
        have c0 : w1.cell? ⟨w.heap.size, 0, none⟩ = some (.int .u8 kd) := (b1.cell (p := ⟨w.heap.size, 0, none⟩) (by simp)).trans (World.cell?_alloc_mark w _ _ (0, 0) 0)
        have c3 : w1.cell? ⟨w.heap.size, 3, none⟩ = some (.int .i64 pl) := (b1.cell (p := ⟨w.heap.size, 3, none⟩) (by simp)).trans (World.cell?_alloc_mark w _ _ (0, 0) 3)
        have B1 := Lib.hid (((Below.refl w.heap.size w).alloc (Nat.le_refl _) _).trans (b1.mono (by simp)))
        clear b1
        by_cases k1 : kd = 2 ∨ kd = 4 ∨ kd = 6 ∨ kd = 9 ∨ kd = 11 ∨ kd = 10
        · have E1 := Lib.hid (HP.out.trans (if_pos k1))
          rcases k1 with rfl | rfl | rfl | rfl | rfl | rfl <;>
          · go_wp2_with fail
            go_ret2
            exact ⟨ret_str E1.out, B1.out⟩
        · by_cases k2 : kd = 3 ∨ kd = 8
          · have E1 := Lib.hid (HP.out.trans ((if_neg k1).trans (if_pos k2)))
            clear k1
            rcases k2 with rfl | rfl <;>
            · go_wp2_with fail
              go_ret2
              exact ⟨ret_str E1.out, B1.out⟩
          · have E1 := Lib.hid (HP.out.trans ((if_neg k1).trans (if_neg k2)))
            have q2 : (kd == 2) = false := by simp; omega
            have q3 : (kd == 3) = false := by simp; omega
            have q4 : (kd == 4) = false := by simp; omega
            have q6 : (kd == 6) = false := by simp; omega
            have q8 : (kd == 8) = false := by simp; omega
            have q9 : (kd == 9) = false := by simp; omega
            have q10 : (kd == 10) = false := by simp; omega
            have q11 : (kd == 11) = false := by simp; omega
            clear k1 k2
            go_wp2_with fail
            go_ret2
            exact ⟨ret_str E1.out, B1.out⟩
end Go.Proofs.YteigglhhnemngaaGreatDoor
namespace Go.Proofs.YteigglhhnemngaaGreatDoor
set_option maxRecDepth 100000
set_option linter.unusedVariables false
set_option linter.unusedSimpArgs false
theorem ok_begin {p p' : PS} {t s : Nat} {e : Ev} (ok : OkP p) (hb : (0 ≤ e.pl ∧ e.pl < 32) ∧ (0 ≤ e.v ∧ e.v ≤ 1099511627776)) (hs : s < 32) (hc : p.came < 1048576) (h : beginPS p t s e = some p') : p'.came = p.came ∧ OkP { p' with came := p'.came + 1 } := by
  unfold beginPS at h
  repeat' split at h
  all_goals first
    | (cases h; done)
    | (injection h with h
       subst h
       refine ⟨rfl, ⟨fun u => ?_, fun u => ?_, fun u => ?_, fun u => ?_, fun u => ?_, ?_⟩⟩
       all_goals (have a6 := ok.came; have b2 := ok.com t; (try have a1 := ok.wh u); (try have a2 := ok.com u); (try have a3 := ok.rv u); (try have a4 := ok.pos u); (try have a5 := ok.last u); (try simp only [upN]); (repeat' split) <;> omega))
theorem ok_look {p p' : PS} {t s : Nat} {e : Ev} (ok : OkP p) (hb : (0 ≤ e.pl ∧ e.pl < 32) ∧ (0 ≤ e.v ∧ e.v ≤ 1099511627776)) (hs : s < 32) (hc : p.came < 1048576) (h : lookPS p t s e = some p') : p'.came = p.came ∧ OkP { p' with came := p'.came + 1 } := by
  unfold lookPS at h
  repeat' split at h
  all_goals first
    | (cases h; done)
    | (injection h with h
       subst h
       refine ⟨rfl, ⟨fun u => ?_, fun u => ?_, fun u => ?_, fun u => ?_, fun u => ?_, ?_⟩⟩
       all_goals (have a6 := ok.came; have b2 := ok.com t; (try have a1 := ok.wh u); (try have a2 := ok.com u); (try have a3 := ok.rv u); (try have a4 := ok.pos u); (try have a5 := ok.last u); (try simp only [upN]); (repeat' split) <;> omega))
theorem ok_lock {p p' : PS} {t s : Nat} {e : Ev} (ok : OkP p) (hb : (0 ≤ e.pl ∧ e.pl < 32) ∧ (0 ≤ e.v ∧ e.v ≤ 1099511627776)) (hs : s < 32) (hc : p.came < 1048576) (h : lockP p t s e = some p') : p'.came = p.came ∧ OkP { p' with came := p'.came + 1 } := by
  unfold lockP at h
  repeat' split at h
  all_goals first
    | (cases h; done)
    | (injection h with h
       subst h
       refine ⟨rfl, ⟨fun u => ?_, fun u => ?_, fun u => ?_, fun u => ?_, fun u => ?_, ?_⟩⟩
       all_goals (have a6 := ok.came; have b2 := ok.com t; (try have a1 := ok.wh u); (try have a2 := ok.com u); (try have a3 := ok.rv u); (try have a4 := ok.pos u); (try have a5 := ok.last u); (try simp only [upN]); (repeat' split) <;> omega))
theorem ok_rest {p p' : PS} {t s : Nat} {e : Ev} (ok : OkP p) (hb : (0 ≤ e.pl ∧ e.pl < 32) ∧ (0 ≤ e.v ∧ e.v ≤ 1099511627776)) (hs : s < 32) (hc : p.came < 1048576) (h : restP p t s e = some p') : p'.came = p.came ∧ OkP { p' with came := p'.came + 1 } := by
  unfold restP at h
  repeat' split at h
  all_goals first
    | (cases h; done)
    | (injection h with h
       subst h
       refine ⟨rfl, ⟨fun u => ?_, fun u => ?_, fun u => ?_, fun u => ?_, fun u => ?_, ?_⟩⟩
       all_goals (have a6 := ok.came; have b2 := ok.com t; (try have a1 := ok.wh u); (try have a2 := ok.com u); (try have a3 := ok.rv u); (try have a4 := ok.pos u); (try have a5 := ok.last u); (try simp only [upN]); (repeat' split) <;> omega))
theorem ok_wait {p p' : PS} {t s : Nat} {e : Ev} (ok : OkP p) (hb : (0 ≤ e.pl ∧ e.pl < 32) ∧ (0 ≤ e.v ∧ e.v ≤ 1099511627776)) (hs : s < 32) (hc : p.came < 1048576) (h : waitP p t s e = some p') : p'.came = p.came ∧ OkP { p' with came := p'.came + 1 } := by
  unfold waitP goP at h
  repeat' split at h
  all_goals first
    | (cases h; done)
    | (injection h with h
       subst h
       refine ⟨rfl, ⟨fun u => ?_, fun u => ?_, fun u => ?_, fun u => ?_, fun u => ?_, ?_⟩⟩
       all_goals (have a6 := ok.came; have b2 := ok.com t; (try have a1 := ok.wh u); (try have a2 := ok.com u); (try have a3 := ok.rv u); (try have a4 := ok.pos u); (try have a5 := ok.last u); (try simp only [upN]); (repeat' split) <;> omega))
theorem ok_held {p p' : PS} {t s : Nat} {e : Ev} (ok : OkP p) (hb : (0 ≤ e.pl ∧ e.pl < 32) ∧ (0 ≤ e.v ∧ e.v ≤ 1099511627776)) (hs : s < 32) (hc : p.came < 1048576) (h : heldP p t s e = some p') : p'.came = p.came ∧ OkP { p' with came := p'.came + 1 } := by
  unfold heldP goP at h
  repeat' split at h
  all_goals first
    | (cases h; done)
    | (injection h with h
       subst h
       refine ⟨rfl, ⟨fun u => ?_, fun u => ?_, fun u => ?_, fun u => ?_, fun u => ?_, ?_⟩⟩
       all_goals (have a6 := ok.came; have b2 := ok.com t; (try have a1 := ok.wh u); (try have a2 := ok.com u); (try have a3 := ok.rv u); (try have a4 := ok.pos u); (try have a5 := ok.last u); (try simp only [upN]); (repeat' split) <;> omega))
theorem ok_newer {p p' : PS} {t s : Nat} {e : Ev} (ok : OkP p) (hb : (0 ≤ e.pl ∧ e.pl < 32) ∧ (0 ≤ e.v ∧ e.v ≤ 1099511627776)) (hs : s < 32) (hc : p.came < 1048576) (h : newerP p t s e = some p') : p'.came = p.came ∧ OkP { p' with came := p'.came + 1 } := by
  unfold newerP goP at h
  repeat' split at h
  all_goals first
    | (cases h; done)
    | (injection h with h
       subst h
       refine ⟨rfl, ⟨fun u => ?_, fun u => ?_, fun u => ?_, fun u => ?_, fun u => ?_, ?_⟩⟩
       all_goals (have a6 := ok.came; have b2 := ok.com t; (try have a1 := ok.wh u); (try have a2 := ok.com u); (try have a3 := ok.rv u); (try have a4 := ok.pos u); (try have a5 := ok.last u); (try simp only [upN]); (repeat' split) <;> omega))
theorem ok_busy {p p' : PS} {t s : Nat} {e : Ev} (ok : OkP p) (hb : (0 ≤ e.pl ∧ e.pl < 32) ∧ (0 ≤ e.v ∧ e.v ≤ 1099511627776)) (hs : s < 32) (hc : p.came < 1048576) (h : busyP p t s e = some p') : p'.came = p.came ∧ OkP { p' with came := p'.came + 1 } := by
  unfold busyP goP at h
  repeat' split at h
  all_goals first
    | (cases h; done)
    | (injection h with h
       subst h
       refine ⟨rfl, ⟨fun u => ?_, fun u => ?_, fun u => ?_, fun u => ?_, fun u => ?_, ?_⟩⟩
       all_goals (have a6 := ok.came; have b2 := ok.com t; (try have a1 := ok.wh u); (try have a2 := ok.com u); (try have a3 := ok.rv u); (try have a4 := ok.pos u); (try have a5 := ok.last u); (try simp only [upN]); (repeat' split) <;> omega))
theorem ok_load {p p' : PS} {t s : Nat} {e : Ev} (ok : OkP p) (hb : (0 ≤ e.pl ∧ e.pl < 32) ∧ (0 ≤ e.v ∧ e.v ≤ 1099511627776)) (hs : s < 32) (hc : p.came < 1048576) (h : loadP p t s e = some p') : p'.came = p.came ∧ OkP { p' with came := p'.came + 1 } := by
  unfold loadP at h
  repeat' split at h
  all_goals first
    | (cases h; done)
    | (injection h with h
       subst h
       refine ⟨rfl, ⟨fun u => ?_, fun u => ?_, fun u => ?_, fun u => ?_, fun u => ?_, ?_⟩⟩
       all_goals (have a6 := ok.came; have b2 := ok.com t; (try have a1 := ok.wh u); (try have a2 := ok.com u); (try have a3 := ok.rv u); (try have a4 := ok.pos u); (try have a5 := ok.last u); (try simp only [upN]); (repeat' split) <;> omega))
theorem ok_moved {p p' : PS} {t s : Nat} {e : Ev} (ok : OkP p) (hb : (0 ≤ e.pl ∧ e.pl < 32) ∧ (0 ≤ e.v ∧ e.v ≤ 1099511627776)) (hs : s < 32) (hc : p.came < 1048576) (h : movedP p t s e = some p') : p'.came = p.came ∧ OkP { p' with came := p'.came + 1 } := by
  unfold movedP goP at h
  repeat' split at h
  all_goals first
    | (cases h; done)
    | (injection h with h
       subst h
       refine ⟨rfl, ⟨fun u => ?_, fun u => ?_, fun u => ?_, fun u => ?_, fun u => ?_, ?_⟩⟩
       all_goals (have a6 := ok.came; have b2 := ok.com t; (try have a1 := ok.wh u); (try have a2 := ok.com u); (try have a3 := ok.rv u); (try have a4 := ok.pos u); (try have a5 := ok.last u); (try simp only [upN]); (repeat' split) <;> omega))
theorem ok_bump {p p' : PS} {t s : Nat} {e : Ev} (ok : OkP p) (hb : (0 ≤ e.pl ∧ e.pl < 32) ∧ (0 ≤ e.v ∧ e.v ≤ 1099511627776)) (hs : s < 32) (hc : p.came < 1048576) (h : bumpPS p t s e = some p') : p'.came = p.came ∧ OkP { p' with came := p'.came + 1 } := by
  unfold bumpPS at h
  repeat' split at h
  all_goals first
    | (cases h; done)
    | (injection h with h
       subst h
       refine ⟨rfl, ⟨fun u => ?_, fun u => ?_, fun u => ?_, fun u => ?_, fun u => ?_, ?_⟩⟩
       all_goals (have a6 := ok.came; have b2 := ok.com t; (try have a1 := ok.wh u); (try have a2 := ok.com u); (try have a3 := ok.rv u); (try have a4 := ok.pos u); (try have a5 := ok.last u); (try simp only [upN]); (repeat' split) <;> omega))
theorem ok_full {p p' : PS} {t s : Nat} {e : Ev} (ok : OkP p) (hb : (0 ≤ e.pl ∧ e.pl < 32) ∧ (0 ≤ e.v ∧ e.v ≤ 1099511627776)) (hs : s < 32) (hc : p.came < 1048576) (h : fullP p t s e = some p') : p'.came = p.came ∧ OkP { p' with came := p'.came + 1 } := by
  unfold fullP goP at h
  repeat' split at h
  all_goals first
    | (cases h; done)
    | (injection h with h
       subst h
       refine ⟨rfl, ⟨fun u => ?_, fun u => ?_, fun u => ?_, fun u => ?_, fun u => ?_, ?_⟩⟩
       all_goals (have a6 := ok.came; have b2 := ok.com t; (try have a1 := ok.wh u); (try have a2 := ok.com u); (try have a3 := ok.rv u); (try have a4 := ok.pos u); (try have a5 := ok.last u); (try simp only [upN]); (repeat' split) <;> omega))
theorem ok_check {p p' : PS} {t s : Nat} {e : Ev} (ok : OkP p) (hb : (0 ≤ e.pl ∧ e.pl < 32) ∧ (0 ≤ e.v ∧ e.v ≤ 1099511627776)) (hs : s < 32) (hc : p.came < 1048576) (h : checkP p t s e = some p') : p'.came = p.came ∧ OkP { p' with came := p'.came + 1 } := by
  unfold checkP at h
  repeat' split at h
  all_goals first
    | (cases h; done)
    | (injection h with h
       subst h
       refine ⟨rfl, ⟨fun u => ?_, fun u => ?_, fun u => ?_, fun u => ?_, fun u => ?_, ?_⟩⟩
       all_goals (have a6 := ok.came; have b2 := ok.com t; (try have a1 := ok.wh u); (try have a2 := ok.com u); (try have a3 := ok.rv u); (try have a4 := ok.pos u); (try have a5 := ok.last u); (try simp only [upN]); (repeat' split) <;> omega))
theorem ok_commit {p p' : PS} {t s : Nat} {e : Ev} (ok : OkP p) (hb : (0 ≤ e.pl ∧ e.pl < 32) ∧ (0 ≤ e.v ∧ e.v ≤ 1099511627776)) (hs : s < 32) (hc : p.came < 1048576) (h : commitPS p t s e = some p') : p'.came = p.came ∧ OkP { p' with came := p'.came + 1 } := by
  unfold commitPS at h
  repeat' split at h
  all_goals first
    | (cases h; done)
    | (injection h with h
       subst h
       refine ⟨rfl, ⟨fun u => ?_, fun u => ?_, fun u => ?_, fun u => ?_, fun u => ?_, ?_⟩⟩
       all_goals (have a6 := ok.came; have b2 := ok.com t; (try have a1 := ok.wh u); (try have a2 := ok.com u); (try have a3 := ok.rv u); (try have a4 := ok.pos u); (try have a5 := ok.last u); (try simp only [upN]); (repeat' split) <;> omega))
theorem ok_stale {p p' : PS} {t s : Nat} {e : Ev} (ok : OkP p) (hb : (0 ≤ e.pl ∧ e.pl < 32) ∧ (0 ≤ e.v ∧ e.v ≤ 1099511627776)) (hs : s < 32) (hc : p.came < 1048576) (h : staleP p t s e = some p') : p'.came = p.came ∧ OkP { p' with came := p'.came + 1 } := by
  unfold staleP goP at h
  repeat' split at h
  all_goals first
    | (cases h; done)
    | (injection h with h
       subst h
       refine ⟨rfl, ⟨fun u => ?_, fun u => ?_, fun u => ?_, fun u => ?_, fun u => ?_, ?_⟩⟩
       all_goals (have a6 := ok.came; have b2 := ok.com t; (try have a1 := ok.wh u); (try have a2 := ok.com u); (try have a3 := ok.rv u); (try have a4 := ok.pos u); (try have a5 := ok.last u); (try simp only [upN]); (repeat' split) <;> omega))
theorem ok_store {p p' : PS} {t s : Nat} {e : Ev} (ok : OkP p) (hb : (0 ≤ e.pl ∧ e.pl < 32) ∧ (0 ≤ e.v ∧ e.v ≤ 1099511627776)) (hs : s < 32) (hc : p.came < 1048576) (h : storeP p t s e = some p') : p'.came = p.came ∧ OkP { p' with came := p'.came + 1 } := by
  unfold storeP at h
  repeat' split at h
  all_goals first
    | (cases h; done)
    | (injection h with h
       subst h
       refine ⟨rfl, ⟨fun u => ?_, fun u => ?_, fun u => ?_, fun u => ?_, fun u => ?_, ?_⟩⟩
       all_goals (have a6 := ok.came; have b2 := ok.com t; (try have a1 := ok.wh u); (try have a2 := ok.com u); (try have a3 := ok.rv u); (try have a4 := ok.pos u); (try have a5 := ok.last u); (try simp only [upN]); (repeat' split) <;> omega))
theorem ok_free {p p' : PS} {t s : Nat} {e : Ev} (ok : OkP p) (hb : (0 ≤ e.pl ∧ e.pl < 32) ∧ (0 ≤ e.v ∧ e.v ≤ 1099511627776)) (hs : s < 32) (hc : p.came < 1048576) (h : freeP p t s e = some p') : p'.came = p.came ∧ OkP { p' with came := p'.came + 1 } := by
  unfold freeP goP letP at h
  repeat' split at h
  all_goals first
    | (cases h; done)
    | (injection h with h
       subst h
       refine ⟨rfl, ⟨fun u => ?_, fun u => ?_, fun u => ?_, fun u => ?_, fun u => ?_, ?_⟩⟩
       all_goals (have a6 := ok.came; have b2 := ok.com t; (try have a1 := ok.wh u); (try have a2 := ok.com u); (try have a3 := ok.rv u); (try have a4 := ok.pos u); (try have a5 := ok.last u); (try simp only [upN]); (repeat' split) <;> omega))
theorem ok_undo {p p' : PS} {t s : Nat} {e : Ev} (ok : OkP p) (hb : (0 ≤ e.pl ∧ e.pl < 32) ∧ (0 ≤ e.v ∧ e.v ≤ 1099511627776)) (hs : s < 32) (hc : p.came < 1048576) (h : undoP p t s e = some p') : p'.came = p.came ∧ OkP { p' with came := p'.came + 1 } := by
  unfold undoP goP at h
  repeat' split at h
  all_goals first
    | (cases h; done)
    | (injection h with h
       subst h
       refine ⟨rfl, ⟨fun u => ?_, fun u => ?_, fun u => ?_, fun u => ?_, fun u => ?_, ?_⟩⟩
       all_goals (have a6 := ok.came; have b2 := ok.com t; (try have a1 := ok.wh u); (try have a2 := ok.com u); (try have a3 := ok.rv u); (try have a4 := ok.pos u); (try have a5 := ok.last u); (try simp only [upN]); (repeat' split) <;> omega))
theorem ok_wake {p p' : PS} {t s : Nat} {e : Ev} (ok : OkP p) (hb : (0 ≤ e.pl ∧ e.pl < 32) ∧ (0 ≤ e.v ∧ e.v ≤ 1099511627776)) (hs : s < 32) (hc : p.came < 1048576) (h : wakeP p t s e = some p') : p'.came = p.came ∧ OkP { p' with came := p'.came + 1 } := by
  unfold wakeP goP at h
  repeat' split at h
  all_goals first
    | (cases h; done)
    | (injection h with h
       subst h
       refine ⟨rfl, ⟨fun u => ?_, fun u => ?_, fun u => ?_, fun u => ?_, fun u => ?_, ?_⟩⟩
       all_goals (have a6 := ok.came; have b2 := ok.com t; (try have a1 := ok.wh u); (try have a2 := ok.com u); (try have a3 := ok.rv u); (try have a4 := ok.pos u); (try have a5 := ok.last u); (try simp only [upN]); (repeat' split) <;> omega))
theorem ok_step {S : Int} {p p' : PS} {e : Ev} (ok : OkP p) (hb : (0 ≤ e.pl ∧ e.pl < 32) ∧ (0 ≤ e.v ∧ e.v ≤ 1099511627776)) (hs : strX S e < 32) (hc : p.came < 1048576) (hk : kindX e ≤ 19) (h : stepP S p e = some p') : p'.came = p.came ∧ OkP { p' with came := p'.came + 1 } := by
  unfold stepP at h
  have hw : (p.wh e.th.toNat).toNat ≤ 10 := by
    have := ok.wh e.th.toNat
    omega
  rcases tab_cases hw hk with ⟨h1, h2⟩ | ⟨h1, h2⟩ | ⟨h1, h2⟩ | ⟨h1, h2⟩ | ⟨h1, h2⟩ | ⟨h1, h2⟩ | ⟨h1, h2⟩ | ⟨h1, h2⟩ | ⟨h1, h2⟩ | ⟨h1, h2⟩ | ⟨h1, h2⟩ | ⟨h1, h2⟩ | ⟨h1, h2⟩ | ⟨h1, h2⟩ | ⟨h1, h2⟩ | ⟨h1, h2⟩ | ⟨h1, h2⟩ | ⟨h1, h2⟩ | ⟨h1, h2⟩ | ⟨h1, h2⟩
  · rw [h2] at h
    cases h
  · rw [h2] at h
    exact ok_begin ok hb hs hc h
  · rw [h2] at h
    exact ok_look ok hb hs hc h
  · rw [h2] at h
    exact ok_lock ok hb hs hc h
  · rw [h2] at h
    exact ok_rest ok hb hs hc h
  · rw [h2] at h
    exact ok_wait ok hb hs hc h
  · rw [h2] at h
    exact ok_held ok hb hs hc h
  · rw [h2] at h
    exact ok_newer ok hb hs hc h
  · rw [h2] at h
    exact ok_busy ok hb hs hc h
  · rw [h2] at h
    exact ok_load ok hb hs hc h
  · rw [h2] at h
    exact ok_moved ok hb hs hc h
  · rw [h2] at h
    exact ok_bump ok hb hs hc h
  · rw [h2] at h
    exact ok_full ok hb hs hc h
  · rw [h2] at h
    exact ok_check ok hb hs hc h
  · rw [h2] at h
    exact ok_commit ok hb hs hc h
  · rw [h2] at h
    exact ok_stale ok hb hs hc h
  · rw [h2] at h
    exact ok_store ok hb hs hc h
  · rw [h2] at h
    exact ok_free ok hb hs hc h
  · rw [h2] at h
    exact ok_undo ok hb hs hc h
  · rw [h2] at h
    exact ok_wake ok hb hs hc h
end Go.Proofs.YteigglhhnemngaaGreatDoor
namespace Go.Proofs.YteigglhhnemngaaGreatDoor
set_option maxRecDepth 100000
open Go.RowKit Go.Deep
set_option linter.unusedVariables false
set_option linter.unusedSimpArgs false
theorem eqIn_fnS (d : Nat) (n : Nat) (w : World) : (Op.equalIn (d + 1) 194 (.func (.func n) #[] #[]) .nilFunc).run Tryz.prog w = .ok false w := by
  simp [Op.equalIn, run_underlying Tryz.underlying194]
theorem eqIn_nilS (d : Nat) (w : World) : (Op.equalIn (d + 1) 194 .nilFunc .nilFunc).run Tryz.prog w = .ok true w := by
  simp [Op.equalIn, run_underlying Tryz.underlying194]
theorem eq_fnS (n : Nat) (w : World) : (Op.equal 194 (.func (.func n) #[] #[]) .nilFunc).run Tryz.prog w = .ok false w := eqIn_fnS 9999 n w
theorem eq_nilS (w : World) : (Op.equal 194 .nilFunc .nilFunc).run Tryz.prog w = .ok true w := eqIn_nilS 9999 w
theorem neq_fnS (n : Nat) (w : World) : (Go.binOp .neq 194 (.func (.func n) #[] #[]) .nilFunc).run Tryz.prog w = .ok (.bool true) w := by
  simp only [Go.binOp]
  simp [eq_fnS]
theorem neq_nilS (w : World) : (Go.binOp .neq 194 .nilFunc .nilFunc).run Tryz.prog w = .ok (.bool false) w := by
  simp only [Go.binOp]
  simp [eq_nilS]
theorem stripe_is {e : Ev} {T V S : Int} (h : mayB e T V S = true) : (stripeF e S).1 = (strX S e : Int) ∧ strX S e < 32 := by
  obtain ⟨hsz, hth, hk⟩ := (may_iff _ _ _ _).1 h
  simp only [sizesB, Bool.and_eq_true, decide_eq_true_eq] at hsz
  obtain ⟨kd, th, tx, pl, v, x, y⟩ := e
  unfold MayK at hk
  simp only at hk hth
  have hem : 0 ≤ pl % S ∧ pl % S < S := ⟨Int.emod_nonneg _ (by omega), Int.emod_lt_of_pos _ (by omega)⟩
  have hf : fullB kd y = true ↔ kd = 10 ∧ y = 6 := by simp [fullB]
  have key : ∀ a : Int, 0 ≤ a → a < 32 → (stripeF ⟨kd, th, tx, pl, v, x, y⟩ S).1 = a → strX S ⟨kd, th, tx, pl, v, x, y⟩ = a.toNat → (stripeF ⟨kd, th, tx, pl, v, x, y⟩ S).1 = (strX S ⟨kd, th, tx, pl, v, x, y⟩ : Int) ∧ strX S ⟨kd, th, tx, pl, v, x, y⟩ < 32 := fun a h1 h2 h3 h4 => by
    rw [h3, h4]
    omega
  by_cases h3 : kd = 3 ∨ kd = 8
  · have hn : ¬ (S < 1 ∨ pl < 0 ∨ fullB kd y = true) := by rw [hf]; omega
    refine key (pl % S) hem.1 (by omega) ?_ ?_
    · unfold stripeF
      simp only
      rw [if_neg hn, if_neg (by omega), if_pos h3]
    · unfold strX
      simp only
      rw [if_pos h3]
  · by_cases h10 : kd = 10 ∧ y = 6
    · refine key 0 (by omega) (by omega) ?_ ?_
      · unfold stripeF
        simp only
        rw [if_pos (.inr (.inr (hf.2 h10)))]
      · unfold strX
        simp only
        rw [if_neg h3, if_neg (by omega)]
        rfl
    · have hn : ¬ (S < 1 ∨ pl < 0 ∨ fullB kd y = true) := by rw [hf]; omega
      by_cases h2 : kd = 2 ∨ kd = 4 ∨ kd = 6 ∨ kd = 9 ∨ kd = 11 ∨ kd = 10
      · refine key pl (by omega) (by omega) ?_ ?_
        · unfold stripeF
          simp only
          rw [if_neg hn, if_pos h2]
        · unfold strX
          simp only
          rw [if_neg h3, if_pos (by omega)]
      · refine key 0 (by omega) (by omega) ?_ ?_
        · unfold stripeF
          simp only
          rw [if_neg hn, if_neg h2, if_neg h3]
        · unfold strX
          simp only
          rw [if_neg h3, if_neg (by omega)]
          rfl
section
variable {w : World} {g : Nat} {T V S : Int} {p : PS} {e : Ev}
set_option maxHeartbeats 8000000 in
theorem comes_any (hc : ChkAt w g T V S p) (ok : OkP p) (hm : mayB e T V S = true) : Calls Tryz.prog 87 #[.pointer (some ⟨g, 0, none⟩), evV e] w (StepPost w g T V S p (stepP S p e)) := by
  obtain ⟨hsi, hs⟩ := stripe_is hm
  have HST := Lib.hid (fun w1 => stripe_anyE e S w1)
  obtain ⟨hsz, hth, hk⟩ := (may_iff _ _ _ _).1 hm
  simp only [sizesB, Bool.and_eq_true, decide_eq_true_eq] at hsz
  have hkd : (1 ≤ e.kd ∧ e.kd ≤ 13) ∧ (e.kd = 10 → 1 ≤ e.why ∧ e.why ≤ 6) ∧ ((0 ≤ e.pl ∧ e.pl < 32) ∧ (0 ≤ e.v ∧ e.v ≤ 1099511627776)) := by
    unfold MayK at hk
    omega
  have hkx : kindX e ≤ 19 := by
    unfold kindX
    split <;> omega
  obtain ⟨t, ht⟩ : ∃ t : Nat, e.th = t := ⟨e.th.toNat, by omega⟩
  have ht6 : t < 6 := by omega
  obtain ⟨s, hsd⟩ : ∃ s, s = strX S e := ⟨_, rfl⟩
  obtain ⟨q, hq⟩ : ∃ q, q = (stripeF e S).2 := ⟨_, rfl⟩
  rw [show stripeF e S = ((s : Int), q) by rw [hsd, hq, ← hsi], show strV ((s : Int), q) = .tuple #[.int .i64 (s : Int), .bool q] from rfl] at HST
  rw [← hsd] at hs
  have hst : stepP S p e = tabS (p.wh t).toNat (kindX e) p t s e := by
    unfold stepP
    rw [ht, hsd]
    rfl
  have hwh := ok.wh t
  have HROW : Hid (∀ w1, Calls Tryz.prog 120 #[.int .i64 (p.wh t), evV e] w1 fun r w' => r = .returned (tabV (p.wh t).toNat (kindX e)) ∧ Below w1.heap.size w1 w') := fun w1 => by
    have := rowS_any (p.wh t).toNat (by omega) e hkd.1 hkd.2.1 w1
    rwa [show (((p.wh t).toNat : Nat) : Int) = p.wh t by omega] at this
  have HSI : Hid (∀ w1, ChkAt w1 g T V S p → StepIn w1 g T V S p t s e) := fun w1 h => ⟨h, ok, ht6, hs, ht, hkd.2.2.1, hkd.2.2.2⟩
  have HTC := Lib.hid (tab_cases (wh := (p.wh t).toNat) (by omega) hkx)
  obtain ⟨kd, th, tx, pl, v, x, y⟩ := e
  simp only at ht
  subst ht
  clear hk hkd hkx hsi hsd hq hsz hth hm hwh
  unfold evV at HST HROW ⊢
  simp only at HST HROW ⊢
  have hg := hc.lt
  have i1 : (0 : Int) ≤ (t : Int) := by omega
  have i2 : (t : Int) < 6 := by omega
  have U1 : Hid (UpdC w g T V S p (w.alloc (.cells #[.int .u8 kd, .int .i64 (t : Int), .int .i64 tx, .int .i64 pl, .int .i64 v, .int .i64 x, .int .u8 y] 50))) := (UpdC.refl hc).alloc _
  have R1 : Hid ((w.alloc (.cells #[.int .u8 kd, .int .i64 (t : Int), .int .i64 tx, .int .i64 pl, .int .i64 v, .int .i64 x, .int .u8 y] 50)).heap[w.heap.size]? = some (.cells #[.int .u8 kd, .int .i64 (t : Int), .int .i64 tx, .int .i64 pl, .int .i64 v, .int .i64 x, .int .u8 y] 50 (0, 0))) := heap_alloc_new w _
  have hb : Hid (w.heap.size < (w.alloc (.cells #[.int .u8 kd, .int .i64 (t : Int), .int .i64 tx, .int .i64 pl, .int .i64 v, .int .i64 x, .int .u8 y] 50)).heap.size) := by show _ < _; simp
  clear hc
  go_enter Tryz.func87, Tryz.ntmps87
  go_wp2_with fail
  generalize w.alloc (.cells #[.int .u8 kd, .int .i64 (t : Int), .int .i64 tx, .int .i64 pl, .int .i64 v, .int .i64 x, .int .u8 y] 50) = W1 at U1 R1 hb ⊢
  have c1 := cell_of_row W1 _ 1 _ _ _ R1.out
  simp only [List.getElem?_toArray, List.getElem?_cons_zero, List.getElem?_cons_succ] at c1
  have HE1 : Hid (∀ w1, Below W1.heap.size W1 w1 → w1.heap[w.heap.size]? = some (.cells #[.int .u8 kd, .int .i64 (t : Int), .int .i64 tx, .int .i64 pl, .int .i64 v, .int .i64 x, .int .u8 y] 50 (0, 0))) := fun w1 h => (h.block _ hb.out).trans R1.out
  go_quiet (fail)
  go_wp2_with fail
  refine rgCm2 rfl _ (by simp) _ g _ S s q kd t tx pl v x y (fun w1 h => HE1.out w1 ((drewN_below2 _ _).trans h)) (fun w1 h => (U1.out.of ((drewN_below2 _ _).trans h)).at'.cell (i := 2) (by omega)) (fun w1 h => HST.out w1) rfl rfl ?_
  intro w5 h5
  simp only [putAll, List.setIfInBounds_toArray, List.set_cons_succ, List.set_cons_zero]
  have B5 : Hid (Below W1.heap.size W1 w5) := (drewN_below2 _ _).trans h5
  clear h5 c1
  go_wp2_with fail
  refine rgCm3 rfl _ (by simp) _ g _ _ (p.wh t) (tabV (p.wh t).toNat (kindX ⟨kd, t, tx, pl, v, x, y⟩)) kd t tx pl v x y (fun w1 h => HE1.out w1 (B5.out.trans (h.mono B5.out.size))) (fun w1 h => (U1.out.of (B5.out.trans (h.mono B5.out.size))).at'.wh ht6) (fun w1 h => HROW.out w1) rfl rfl ?_
  intro w6 h6
  simp only [putAll, List.setIfInBounds_toArray, List.set_cons_succ, List.set_cons_zero]
  have B6 : Hid (Below W1.heap.size W1 w6) := B5.out.trans (h6.mono B5.out.size)
  have U6 : Hid (UpdC w g T V S p w6) := U1.out.of B6.out
  have HI := Lib.hid (HSI.out w6 U6.out.at')
  have r6 := HE1.out w6 B6.out
  have d0 := cell_of_row w6 _ 0 _ _ _ r6
  have d1 := cell_of_row w6 _ 1 _ _ _ r6
  have d2 := cell_of_row w6 _ 2 _ _ _ r6
  have d3 := cell_of_row w6 _ 3 _ _ _ r6
  have d4 := cell_of_row w6 _ 4 _ _ _ r6
  have d5 := cell_of_row w6 _ 5 _ _ _ r6
  have d6 := cell_of_row w6 _ 6 _ _ _ r6
  simp only [List.getElem?_toArray, List.getElem?_cons_zero, List.getElem?_cons_succ] at d0 d1 d2 d3 d4 d5 d6
  clear h6 r6 HST HROW HSI HE1 B5
  rcases HTC.out with ⟨h1, h2⟩ | ⟨h1, h2⟩ | ⟨h1, h2⟩ | ⟨h1, h2⟩ | ⟨h1, h2⟩ | ⟨h1, h2⟩ | ⟨h1, h2⟩ | ⟨h1, h2⟩ | ⟨h1, h2⟩ | ⟨h1, h2⟩ | ⟨h1, h2⟩ | ⟨h1, h2⟩ | ⟨h1, h2⟩ | ⟨h1, h2⟩ | ⟨h1, h2⟩ | ⟨h1, h2⟩ | ⟨h1, h2⟩ | ⟨h1, h2⟩ | ⟨h1, h2⟩ | ⟨h1, h2⟩
  · have HP : Hid (stepP S p ⟨kd, t, tx, pl, v, x, y⟩ = none) := by
      show _ = _
      rw [hst, h2]
      rfl
    rw [h1]
    clear h1 h2 hst
    have hne := neq_nilS
    go_wp2_with fail
    go_ret
    exact StepPost.no HP.out rfl U6.out
  · have HS : Hid (Calls Tryz.prog 137 #[.pointer (some ⟨g, 0, none⟩), .pointer (some ⟨g, 69 + t * 71, none⟩), .int .i64 (s : Int), .agg #[.int .u8 kd, .int .i64 (t : Int), .int .i64 tx, .int .i64 pl, .int .i64 v, .int .i64 x, .int .u8 y]] w6 (StepPost w6 g T V S p (stepP S p ⟨kd, t, tx, pl, v, x, y⟩))) := by
      show Calls _ _ _ _ _
      rw [hst, h2]
      exact begin_step HI.out
    rw [h1]
    clear h1 h2 hst
    have hne := neq_fnS 137
    unfold fnS at hne ⊢
    go_wp2_with fail
    refine HS.out.mono ?_
    rintro r w7 ⟨rfl, hu⟩
    go_wp2_with fail
    go_ret
    exact ⟨rfl, U6.out.trans hu⟩
  · have HS : Hid (Calls Tryz.prog 138 #[.pointer (some ⟨g, 0, none⟩), .pointer (some ⟨g, 69 + t * 71, none⟩), .int .i64 (s : Int), .agg #[.int .u8 kd, .int .i64 (t : Int), .int .i64 tx, .int .i64 pl, .int .i64 v, .int .i64 x, .int .u8 y]] w6 (StepPost w6 g T V S p (stepP S p ⟨kd, t, tx, pl, v, x, y⟩))) := by
      show Calls _ _ _ _ _
      rw [hst, h2]
      exact look_step HI.out
    rw [h1]
    clear h1 h2 hst
    have hne := neq_fnS 138
    unfold fnS at hne ⊢
    go_wp2_with fail
    refine HS.out.mono ?_
    rintro r w7 ⟨rfl, hu⟩
    go_wp2_with fail
    go_ret
    exact ⟨rfl, U6.out.trans hu⟩
  · have HS : Hid (Calls Tryz.prog 139 #[.pointer (some ⟨g, 0, none⟩), .pointer (some ⟨g, 69 + t * 71, none⟩), .int .i64 (s : Int), .agg #[.int .u8 kd, .int .i64 (t : Int), .int .i64 tx, .int .i64 pl, .int .i64 v, .int .i64 x, .int .u8 y]] w6 (StepPost w6 g T V S p (stepP S p ⟨kd, t, tx, pl, v, x, y⟩))) := by
      show Calls _ _ _ _ _
      rw [hst, h2]
      exact lock_step HI.out
    rw [h1]
    clear h1 h2 hst
    have hne := neq_fnS 139
    unfold fnS at hne ⊢
    go_wp2_with fail
    refine HS.out.mono ?_
    rintro r w7 ⟨rfl, hu⟩
    go_wp2_with fail
    go_ret
    exact ⟨rfl, U6.out.trans hu⟩
  · have HS : Hid (Calls Tryz.prog 140 #[.pointer (some ⟨g, 0, none⟩), .pointer (some ⟨g, 69 + t * 71, none⟩), .int .i64 (s : Int), .agg #[.int .u8 kd, .int .i64 (t : Int), .int .i64 tx, .int .i64 pl, .int .i64 v, .int .i64 x, .int .u8 y]] w6 (StepPost w6 g T V S p (stepP S p ⟨kd, t, tx, pl, v, x, y⟩))) := by
      show Calls _ _ _ _ _
      rw [hst, h2]
      exact rest_step HI.out
    rw [h1]
    clear h1 h2 hst
    have hne := neq_fnS 140
    unfold fnS at hne ⊢
    go_wp2_with fail
    refine HS.out.mono ?_
    rintro r w7 ⟨rfl, hu⟩
    go_wp2_with fail
    go_ret
    exact ⟨rfl, U6.out.trans hu⟩
  · have HS : Hid (Calls Tryz.prog 141 #[.pointer (some ⟨g, 0, none⟩), .pointer (some ⟨g, 69 + t * 71, none⟩), .int .i64 (s : Int), .agg #[.int .u8 kd, .int .i64 (t : Int), .int .i64 tx, .int .i64 pl, .int .i64 v, .int .i64 x, .int .u8 y]] w6 (StepPost w6 g T V S p (stepP S p ⟨kd, t, tx, pl, v, x, y⟩))) := by
      show Calls _ _ _ _ _
      rw [hst, h2]
      exact wait_step HI.out
    rw [h1]
    clear h1 h2 hst
    have hne := neq_fnS 141
    unfold fnS at hne ⊢
    go_wp2_with fail
    refine HS.out.mono ?_
    rintro r w7 ⟨rfl, hu⟩
    go_wp2_with fail
    go_ret
    exact ⟨rfl, U6.out.trans hu⟩
  · have HS : Hid (Calls Tryz.prog 142 #[.pointer (some ⟨g, 0, none⟩), .pointer (some ⟨g, 69 + t * 71, none⟩), .int .i64 (s : Int), .agg #[.int .u8 kd, .int .i64 (t : Int), .int .i64 tx, .int .i64 pl, .int .i64 v, .int .i64 x, .int .u8 y]] w6 (StepPost w6 g T V S p (stepP S p ⟨kd, t, tx, pl, v, x, y⟩))) := by
      show Calls _ _ _ _ _
      rw [hst, h2]
      exact held_step HI.out
    rw [h1]
    clear h1 h2 hst
    have hne := neq_fnS 142
    unfold fnS at hne ⊢
    go_wp2_with fail
    refine HS.out.mono ?_
    rintro r w7 ⟨rfl, hu⟩
    go_wp2_with fail
    go_ret
    exact ⟨rfl, U6.out.trans hu⟩
  · have HS : Hid (Calls Tryz.prog 143 #[.pointer (some ⟨g, 0, none⟩), .pointer (some ⟨g, 69 + t * 71, none⟩), .int .i64 (s : Int), .agg #[.int .u8 kd, .int .i64 (t : Int), .int .i64 tx, .int .i64 pl, .int .i64 v, .int .i64 x, .int .u8 y]] w6 (StepPost w6 g T V S p (stepP S p ⟨kd, t, tx, pl, v, x, y⟩))) := by
      show Calls _ _ _ _ _
      rw [hst, h2]
      exact newer_step HI.out
    rw [h1]
    clear h1 h2 hst
    have hne := neq_fnS 143
    unfold fnS at hne ⊢
    go_wp2_with fail
    refine HS.out.mono ?_
    rintro r w7 ⟨rfl, hu⟩
    go_wp2_with fail
    go_ret
    exact ⟨rfl, U6.out.trans hu⟩
  · have HS : Hid (Calls Tryz.prog 144 #[.pointer (some ⟨g, 0, none⟩), .pointer (some ⟨g, 69 + t * 71, none⟩), .int .i64 (s : Int), .agg #[.int .u8 kd, .int .i64 (t : Int), .int .i64 tx, .int .i64 pl, .int .i64 v, .int .i64 x, .int .u8 y]] w6 (StepPost w6 g T V S p (stepP S p ⟨kd, t, tx, pl, v, x, y⟩))) := by
      show Calls _ _ _ _ _
      rw [hst, h2]
      exact busy_step HI.out
    rw [h1]
    clear h1 h2 hst
    have hne := neq_fnS 144
    unfold fnS at hne ⊢
    go_wp2_with fail
    refine HS.out.mono ?_
    rintro r w7 ⟨rfl, hu⟩
    go_wp2_with fail
    go_ret
    exact ⟨rfl, U6.out.trans hu⟩
  · have HS : Hid (Calls Tryz.prog 145 #[.pointer (some ⟨g, 0, none⟩), .pointer (some ⟨g, 69 + t * 71, none⟩), .int .i64 (s : Int), .agg #[.int .u8 kd, .int .i64 (t : Int), .int .i64 tx, .int .i64 pl, .int .i64 v, .int .i64 x, .int .u8 y]] w6 (StepPost w6 g T V S p (stepP S p ⟨kd, t, tx, pl, v, x, y⟩))) := by
      show Calls _ _ _ _ _
      rw [hst, h2]
      exact load_step HI.out
    rw [h1]
    clear h1 h2 hst
    have hne := neq_fnS 145
    unfold fnS at hne ⊢
    go_wp2_with fail
    refine HS.out.mono ?_
    rintro r w7 ⟨rfl, hu⟩
    go_wp2_with fail
    go_ret
    exact ⟨rfl, U6.out.trans hu⟩
  · have HS : Hid (Calls Tryz.prog 146 #[.pointer (some ⟨g, 0, none⟩), .pointer (some ⟨g, 69 + t * 71, none⟩), .int .i64 (s : Int), .agg #[.int .u8 kd, .int .i64 (t : Int), .int .i64 tx, .int .i64 pl, .int .i64 v, .int .i64 x, .int .u8 y]] w6 (StepPost w6 g T V S p (stepP S p ⟨kd, t, tx, pl, v, x, y⟩))) := by
      show Calls _ _ _ _ _
      rw [hst, h2]
      exact moved_step HI.out
    rw [h1]
    clear h1 h2 hst
    have hne := neq_fnS 146
    unfold fnS at hne ⊢
    go_wp2_with fail
    refine HS.out.mono ?_
    rintro r w7 ⟨rfl, hu⟩
    go_wp2_with fail
    go_ret
    exact ⟨rfl, U6.out.trans hu⟩
  · have HS : Hid (Calls Tryz.prog 147 #[.pointer (some ⟨g, 0, none⟩), .pointer (some ⟨g, 69 + t * 71, none⟩), .int .i64 (s : Int), .agg #[.int .u8 kd, .int .i64 (t : Int), .int .i64 tx, .int .i64 pl, .int .i64 v, .int .i64 x, .int .u8 y]] w6 (StepPost w6 g T V S p (stepP S p ⟨kd, t, tx, pl, v, x, y⟩))) := by
      show Calls _ _ _ _ _
      rw [hst, h2]
      exact bump_step HI.out
    rw [h1]
    clear h1 h2 hst
    have hne := neq_fnS 147
    unfold fnS at hne ⊢
    go_wp2_with fail
    refine HS.out.mono ?_
    rintro r w7 ⟨rfl, hu⟩
    go_wp2_with fail
    go_ret
    exact ⟨rfl, U6.out.trans hu⟩
  · have HS : Hid (Calls Tryz.prog 148 #[.pointer (some ⟨g, 0, none⟩), .pointer (some ⟨g, 69 + t * 71, none⟩), .int .i64 (s : Int), .agg #[.int .u8 kd, .int .i64 (t : Int), .int .i64 tx, .int .i64 pl, .int .i64 v, .int .i64 x, .int .u8 y]] w6 (StepPost w6 g T V S p (stepP S p ⟨kd, t, tx, pl, v, x, y⟩))) := by
      show Calls _ _ _ _ _
      rw [hst, h2]
      exact full_step HI.out
    rw [h1]
    clear h1 h2 hst
    have hne := neq_fnS 148
    unfold fnS at hne ⊢
    go_wp2_with fail
    refine HS.out.mono ?_
    rintro r w7 ⟨rfl, hu⟩
    go_wp2_with fail
    go_ret
    exact ⟨rfl, U6.out.trans hu⟩
  · have HS : Hid (Calls Tryz.prog 149 #[.pointer (some ⟨g, 0, none⟩), .pointer (some ⟨g, 69 + t * 71, none⟩), .int .i64 (s : Int), .agg #[.int .u8 kd, .int .i64 (t : Int), .int .i64 tx, .int .i64 pl, .int .i64 v, .int .i64 x, .int .u8 y]] w6 (StepPost w6 g T V S p (stepP S p ⟨kd, t, tx, pl, v, x, y⟩))) := by
      show Calls _ _ _ _ _
      rw [hst, h2]
      exact check_step HI.out
    rw [h1]
    clear h1 h2 hst
    have hne := neq_fnS 149
    unfold fnS at hne ⊢
    go_wp2_with fail
    refine HS.out.mono ?_
    rintro r w7 ⟨rfl, hu⟩
    go_wp2_with fail
    go_ret
    exact ⟨rfl, U6.out.trans hu⟩
  · have HS : Hid (Calls Tryz.prog 150 #[.pointer (some ⟨g, 0, none⟩), .pointer (some ⟨g, 69 + t * 71, none⟩), .int .i64 (s : Int), .agg #[.int .u8 kd, .int .i64 (t : Int), .int .i64 tx, .int .i64 pl, .int .i64 v, .int .i64 x, .int .u8 y]] w6 (StepPost w6 g T V S p (stepP S p ⟨kd, t, tx, pl, v, x, y⟩))) := by
      show Calls _ _ _ _ _
      rw [hst, h2]
      exact commit_step HI.out
    rw [h1]
    clear h1 h2 hst
    have hne := neq_fnS 150
    unfold fnS at hne ⊢
    go_wp2_with fail
    refine HS.out.mono ?_
    rintro r w7 ⟨rfl, hu⟩
    go_wp2_with fail
    go_ret
    exact ⟨rfl, U6.out.trans hu⟩
  · have HS : Hid (Calls Tryz.prog 151 #[.pointer (some ⟨g, 0, none⟩), .pointer (some ⟨g, 69 + t * 71, none⟩), .int .i64 (s : Int), .agg #[.int .u8 kd, .int .i64 (t : Int), .int .i64 tx, .int .i64 pl, .int .i64 v, .int .i64 x, .int .u8 y]] w6 (StepPost w6 g T V S p (stepP S p ⟨kd, t, tx, pl, v, x, y⟩))) := by
      show Calls _ _ _ _ _
      rw [hst, h2]
      exact stale_step HI.out
    rw [h1]
    clear h1 h2 hst
    have hne := neq_fnS 151
    unfold fnS at hne ⊢
    go_wp2_with fail
    refine HS.out.mono ?_
    rintro r w7 ⟨rfl, hu⟩
    go_wp2_with fail
    go_ret
    exact ⟨rfl, U6.out.trans hu⟩
  · have HS : Hid (Calls Tryz.prog 152 #[.pointer (some ⟨g, 0, none⟩), .pointer (some ⟨g, 69 + t * 71, none⟩), .int .i64 (s : Int), .agg #[.int .u8 kd, .int .i64 (t : Int), .int .i64 tx, .int .i64 pl, .int .i64 v, .int .i64 x, .int .u8 y]] w6 (StepPost w6 g T V S p (stepP S p ⟨kd, t, tx, pl, v, x, y⟩))) := by
      show Calls _ _ _ _ _
      rw [hst, h2]
      exact store_step HI.out
    rw [h1]
    clear h1 h2 hst
    have hne := neq_fnS 152
    unfold fnS at hne ⊢
    go_wp2_with fail
    refine HS.out.mono ?_
    rintro r w7 ⟨rfl, hu⟩
    go_wp2_with fail
    go_ret
    exact ⟨rfl, U6.out.trans hu⟩
  · have HS : Hid (Calls Tryz.prog 153 #[.pointer (some ⟨g, 0, none⟩), .pointer (some ⟨g, 69 + t * 71, none⟩), .int .i64 (s : Int), .agg #[.int .u8 kd, .int .i64 (t : Int), .int .i64 tx, .int .i64 pl, .int .i64 v, .int .i64 x, .int .u8 y]] w6 (StepPost w6 g T V S p (stepP S p ⟨kd, t, tx, pl, v, x, y⟩))) := by
      show Calls _ _ _ _ _
      rw [hst, h2]
      exact free_step HI.out
    rw [h1]
    clear h1 h2 hst
    have hne := neq_fnS 153
    unfold fnS at hne ⊢
    go_wp2_with fail
    refine HS.out.mono ?_
    rintro r w7 ⟨rfl, hu⟩
    go_wp2_with fail
    go_ret
    exact ⟨rfl, U6.out.trans hu⟩
  · have HS : Hid (Calls Tryz.prog 154 #[.pointer (some ⟨g, 0, none⟩), .pointer (some ⟨g, 69 + t * 71, none⟩), .int .i64 (s : Int), .agg #[.int .u8 kd, .int .i64 (t : Int), .int .i64 tx, .int .i64 pl, .int .i64 v, .int .i64 x, .int .u8 y]] w6 (StepPost w6 g T V S p (stepP S p ⟨kd, t, tx, pl, v, x, y⟩))) := by
      show Calls _ _ _ _ _
      rw [hst, h2]
      exact undo_step HI.out
    rw [h1]
    clear h1 h2 hst
    have hne := neq_fnS 154
    unfold fnS at hne ⊢
    go_wp2_with fail
    refine HS.out.mono ?_
    rintro r w7 ⟨rfl, hu⟩
    go_wp2_with fail
    go_ret
    exact ⟨rfl, U6.out.trans hu⟩
  · have HS : Hid (Calls Tryz.prog 155 #[.pointer (some ⟨g, 0, none⟩), .pointer (some ⟨g, 69 + t * 71, none⟩), .int .i64 (s : Int), .agg #[.int .u8 kd, .int .i64 (t : Int), .int .i64 tx, .int .i64 pl, .int .i64 v, .int .i64 x, .int .u8 y]] w6 (StepPost w6 g T V S p (stepP S p ⟨kd, t, tx, pl, v, x, y⟩))) := by
      show Calls _ _ _ _ _
      rw [hst, h2]
      exact wake_step HI.out
    rw [h1]
    clear h1 h2 hst
    have hne := neq_fnS 155
    unfold fnS at hne ⊢
    go_wp2_with fail
    refine HS.out.mono ?_
    rintro r w7 ⟨rfl, hu⟩
    go_wp2_with fail
    go_ret
    exact ⟨rfl, U6.out.trans hu⟩
end
end Go.Proofs.YteigglhhnemngaaGreatDoor
