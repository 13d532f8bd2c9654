/-
  CONTRACTS OF PACKAGE shape: the checker's steps, one by one. Laid by gen/gen_so.py. Conditions: StepIn.
-/
import Derived.Test.YteigglhhnemngaaGreatDoorQ11
import Derived.BigRegion
namespace Go.Proofs.YteigglhhnemngaaGreatDoor
set_option maxRecDepth 100000
open Go.RowKit Go.Deep
set_option linter.unusedVariables false
set_option linter.unusedSimpArgs false
section
variable {w : World} {g : Nat} {T V S : Int} {p : PS} {t s : Nat} {e : Ev}
set_option maxHeartbeats 4000000 in
theorem free_step (H : StepIn w g T V S p t s e) : Calls Tryz.prog 153 #[.pointer (some ⟨g, 0, none⟩), .pointer (some ⟨g, 69 + t * 71, none⟩), .int .i64 (s : Int), evV e] w (StepPost w g T V S p (freeP p t s e)) := by
  obtain ⟨hc, ok, ht, hs, hth, hpl, hv⟩ := H
  obtain ⟨kd, th, tx, pl, v, x, y⟩ := e
  simp only at hth hpl hv
  have HTH := Lib.hid hth
  clear hth
  have hg := hc.lt
  have i1 : (0 : Int) ≤ (s : Int) := by omega
  have i2 : (s : Int) < 32 := by omega
  have U1 : Hid (UpdC w g T V S p (w.alloc (.cells #[.int .u8 kd, .int .i64 th, .int .i64 tx, .int .i64 pl, .int .i64 v, .int .i64 x, .int .u8 y] 50))) := (UpdC.refl hc).alloc _
  have E1 : Hid (∀ i, (w.alloc (.cells #[.int .u8 kd, .int .i64 th, .int .i64 tx, .int .i64 pl, .int .i64 v, .int .i64 x, .int .u8 y] 50)).cell? ⟨w.heap.size, i, none⟩ = (#[.int .u8 kd, .int .i64 th, .int .i64 tx, .int .i64 pl, .int .i64 v, .int .i64 x, .int .u8 y] : Array Value)[i]?) := fun i => World.cell?_alloc_mark w _ _ (0, 0) i
  have hb : Hid (w.heap.size < (w.alloc (.cells #[.int .u8 kd, .int .i64 th, .int .i64 tx, .int .i64 pl, .int .i64 v, .int .i64 x, .int .u8 y] 50)).heap.size) := by show _ < _; simp
  have hbg : Hid (w.heap.size ≠ g) := by show _ ≠ _; omega
  unfold evV
  simp only
  have HS := Lib.hid (stored_any U1.out.at' ht th)
  have HL : Hid (∀ w1, Below (w.alloc (.cells #[.int .u8 kd, .int .i64 th, .int .i64 tx, .int .i64 pl, .int .i64 v, .int .i64 x, .int .u8 y] 50)).heap.size (w.alloc (.cells #[.int .u8 kd, .int .i64 th, .int .i64 tx, .int .i64 pl, .int .i64 v, .int .i64 x, .int .u8 y] 50)) w1 → _) := fun w1 h1 => least_any (U1.out.of h1).at' th
  have HL2 : Hid (∀ w1, ChkAt w1 g T V S (letP p s (p.wv t)) → _) := fun w1 h1 => least_any h1 th
  have EC : Hid (∀ w1, Below (w.alloc (.cells #[.int .u8 kd, .int .i64 th, .int .i64 tx, .int .i64 pl, .int .i64 v, .int .i64 x, .int .u8 y] 50)).heap.size (w.alloc (.cells #[.int .u8 kd, .int .i64 th, .int .i64 tx, .int .i64 pl, .int .i64 v, .int .i64 x, .int .u8 y] 50)) w1 → w1.cell? ⟨w.heap.size, 1, none⟩ = some (.int .i64 th)) := fun w1 h1 => (h1.cell (p := ⟨w.heap.size, 1, none⟩) hb.out).trans (E1.out 1)
  have HBX : Hid (∀ w1, Below (w.alloc (.cells #[.int .u8 kd, .int .i64 th, .int .i64 tx, .int .i64 pl, .int .i64 v, .int .i64 x, .int .u8 y] 50)).heap.size (w.alloc (.cells #[.int .u8 kd, .int .i64 th, .int .i64 tx, .int .i64 pl, .int .i64 v, .int .i64 x, .int .u8 y] 50)) w1 → w.heap.size < w1.heap.size) := fun w1 h1 => Nat.lt_of_lt_of_le hb.out h1.size
  obtain ⟨l, hl⟩ : ∃ l, l = leastP p th := ⟨_, rfl⟩
  obtain ⟨l2, hl2⟩ : ∃ l, l = leastP (letP p s (p.wv t)) th := ⟨_, rfl⟩
  rw [← hl] at HL
  rw [← hl2] at HL2
  have HC9 := Lib.hid (ok.com t)
  have HCA := Lib.hid ok.came
  have hcase : allP p t th = false ∨ allP p t th = true := by cases allP p t th <;> simp
  rcases hcase with ha | ha
  · rw [ha] at HS
    have HP : Hid (freeP p t s ⟨kd, th, tx, pl, v, x, y⟩ = none) := if_pos (.inl ha)
    clear ha hc hl hl2
    go_enter Tryz.func153, Tryz.ntmps153
    go_wp2_with fail
    refine HS.out.mono ?_
    rintro e w1 ⟨rfl, b1⟩
    have k1 := EC.out _ b1
    go_wp2_with fail
    go_ret
    exact StepPost.no HP.out rfl (U1.out.of b1)
  · rw [ha] at HS
    by_cases h1 : (s : Int) = l
    rotate_left
    · have e1 : ((s : Int) != l) = true := by simp [h1]
      have HP : Hid (freeP p t s ⟨kd, th, tx, pl, v, x, y⟩ = none) := if_pos (.inr (by rw [← hl]; exact h1))
      clear ha h1 hc hl hl2
      go_enter Tryz.func153, Tryz.ntmps153
      go_wp2_with fail
      refine HS.out.mono ?_
      rintro e w1 ⟨rfl, b1⟩
      have k1 := EC.out _ b1
      go_wp2_with fail
      refine (HL.out _ b1).mono ?_
      rintro e w2 ⟨rfl, b2⟩
      have B2 := Lib.hid (b1.trans (b2.mono b1.size))
      clear k1 b1 b2
      go_wp2_with fail
      go_ret
      exact StepPost.no HP.out rfl (U1.out.of B2.out)
    have e1 : ((s : Int) != l) = false := by simp [h1]
    have h0 : freeP p t s ⟨kd, th, tx, pl, v, x, y⟩ = if leastP (letP p s (p.wv t)) th ≠ -1 then some (goP (letP p s (p.wv t)) t 6) else some (goP { letP p s (p.wv t) with com := upN p.com t (p.com t + 1) } t 0) := if_neg (by rw [← hl]; simp [ha, h1])
    by_cases h2 : l2 = -1
    · have e2 : (l2 != -1) = false := by simp [h2]
      have HP : Hid (freeP p t s ⟨kd, th, tx, pl, v, x, y⟩ = some (goP { letP p s (p.wv t) with com := upN p.com t (p.com t + 1) } t 0)) := by show _ = _; rw [h0, if_neg (by rw [← hl2]; simp [h2])]
      clear ha h1 h2 hc hl hl2 h0
      go_enter Tryz.func153, Tryz.ntmps153
      go_wp2_with fail
      refine HS.out.mono ?_
      rintro e w1 ⟨rfl, b1⟩
      have k1 := EC.out _ b1
      go_wp2_with fail
      refine (HL.out _ b1).mono ?_
      rintro e w2 ⟨rfl, b2⟩
      have B2 := Lib.hid (b1.trans (b2.mono b1.size))
      clear k1 b1 b2
      go_wp2_with fail
      have U3 := Lib.hid (U1.out.of B2.out)
      refine rgFree3 rfl _ (by simp) _ g t s _ p T V S ht hs U3.out.at' (HBX.out _ B2.out) hbg.out rfl rfl rfl rfl ?_
      intro w5 h5
      simp only [putAll, List.setIfInBounds_toArray, List.set_cons_succ, List.set_cons_zero]
      have k5 := (h5.cellE (HBX.out _ B2.out) hbg.out 1).trans (EC.out _ B2.out)
      have U5 : Hid (UpdC w g T V S (letP p s (p.wv t)) w5) := U3.out.trans h5
      clear h5
      go_wp2_with fail
      refine (HL2.out _ U5.out.at').mono ?_
      rintro e w6 ⟨rfl, b6⟩
      have U6 := Lib.hid (U5.out.of b6)
      clear b6 k5
      have k6 := U6.out.at'.com ht
      have f6 := U6.out.at'.fr (69 + t * 71 + 1)
      have hcm := HC9.out
      have hca := HCA.out
      have hq : (letP p s (p.wv t)).com t = p.com t := rfl
      rw [hq] at k6
      clear hq
      go_wp2_with fail
      refine (goes_any (U6.out.com ht (p.com t + 1)).at' ht 0).mono ?_
      rintro e w7 ⟨rfl, hu⟩
      go_wp2_with fail
      go_ret
      exact StepPost.yes HP.out rfl ((U6.out.com ht (p.com t + 1)).trans hu)
    · have e2 : (l2 != -1) = true := by simp [h2]
      have HP : Hid (freeP p t s ⟨kd, th, tx, pl, v, x, y⟩ = some (goP (letP p s (p.wv t)) t 6)) := by show _ = _; rw [h0, if_pos (by rw [← hl2]; exact h2)]
      clear ha h1 h2 hc hl hl2 h0
      go_enter Tryz.func153, Tryz.ntmps153
      go_wp2_with fail
      refine HS.out.mono ?_
      rintro e w1 ⟨rfl, b1⟩
      have k1 := EC.out _ b1
      go_wp2_with fail
      refine (HL.out _ b1).mono ?_
      rintro e w2 ⟨rfl, b2⟩
      have B2 := Lib.hid (b1.trans (b2.mono b1.size))
      clear k1 b1 b2
      go_wp2_with fail
      have U3 := Lib.hid (U1.out.of B2.out)
      refine rgFree3 rfl _ (by simp) _ g t s _ p T V S ht hs U3.out.at' (HBX.out _ B2.out) hbg.out rfl rfl rfl rfl ?_
      intro w5 h5
      simp only [putAll, List.setIfInBounds_toArray, List.set_cons_succ, List.set_cons_zero]
      have k5 := (h5.cellE (HBX.out _ B2.out) hbg.out 1).trans (EC.out _ B2.out)
      have U5 : Hid (UpdC w g T V S (letP p s (p.wv t)) w5) := U3.out.trans h5
      clear h5
      go_wp2_with fail
      refine (HL2.out _ U5.out.at').mono ?_
      rintro e w6 ⟨rfl, b6⟩
      have U6 := Lib.hid (U5.out.of b6)
      clear b6 k5
      go_wp2_with fail
      refine (goes_any U6.out.at' ht 6).mono ?_
      rintro e w7 ⟨rfl, hu⟩
      go_wp2_with fail
      go_ret
      exact StepPost.yes HP.out rfl (U6.out.trans hu)
set_option maxHeartbeats 4000000 in
theorem undo_step (H : StepIn w g T V S p t s e) : Calls Tryz.prog 154 #[.pointer (some ⟨g, 0, none⟩), .pointer (some ⟨g, 69 + t * 71, none⟩), .int .i64 (s : Int), evV e] w (StepPost w g T V S p (undoP p t s e)) := by
  obtain ⟨hc, ok, ht, hs, hth, hpl, hv⟩ := H
  obtain ⟨kd, th, tx, pl, v, x, y⟩ := e
  simp only at hth hpl hv
  have HTH := Lib.hid hth
  clear hth
  have hg := hc.lt
  have i1 : (0 : Int) ≤ (s : Int) := by omega
  have i2 : (s : Int) < 32 := by omega
  have U1 : Hid (UpdC w g T V S p (w.alloc (.cells #[.int .u8 kd, .int .i64 th, .int .i64 tx, .int .i64 pl, .int .i64 v, .int .i64 x, .int .u8 y] 50))) := (UpdC.refl hc).alloc _
  have E1 : Hid (∀ i, (w.alloc (.cells #[.int .u8 kd, .int .i64 th, .int .i64 tx, .int .i64 pl, .int .i64 v, .int .i64 x, .int .u8 y] 50)).cell? ⟨w.heap.size, i, none⟩ = (#[.int .u8 kd, .int .i64 th, .int .i64 tx, .int .i64 pl, .int .i64 v, .int .i64 x, .int .u8 y] : Array Value)[i]?) := fun i => World.cell?_alloc_mark w _ _ (0, 0) i
  have hb : Hid (w.heap.size < (w.alloc (.cells #[.int .u8 kd, .int .i64 th, .int .i64 tx, .int .i64 pl, .int .i64 v, .int .i64 x, .int .u8 y] 50)).heap.size) := by show _ < _; simp
  have hbg : Hid (w.heap.size ≠ g) := by show _ ≠ _; omega
  unfold evV
  simp only
  have HL := Lib.hid (least_any U1.out.at' th)
  have HL2 : Hid (∀ w1, ChkAt w1 g T V S { p with own := upN p.own s (-1) } → _) := fun w1 h1 => least_any h1 th
  have EC : Hid (∀ w1, Below (w.alloc (.cells #[.int .u8 kd, .int .i64 th, .int .i64 tx, .int .i64 pl, .int .i64 v, .int .i64 x, .int .u8 y] 50)).heap.size (w.alloc (.cells #[.int .u8 kd, .int .i64 th, .int .i64 tx, .int .i64 pl, .int .i64 v, .int .i64 x, .int .u8 y] 50)) w1 → w1.cell? ⟨w.heap.size, 1, none⟩ = some (.int .i64 th)) := fun w1 h1 => (h1.cell (p := ⟨w.heap.size, 1, none⟩) hb.out).trans (E1.out 1)
  have HBX : Hid (∀ w1, Below (w.alloc (.cells #[.int .u8 kd, .int .i64 th, .int .i64 tx, .int .i64 pl, .int .i64 v, .int .i64 x, .int .u8 y] 50)).heap.size (w.alloc (.cells #[.int .u8 kd, .int .i64 th, .int .i64 tx, .int .i64 pl, .int .i64 v, .int .i64 x, .int .u8 y] 50)) w1 → w.heap.size < w1.heap.size) := fun w1 h1 => Nat.lt_of_lt_of_le hb.out h1.size
  obtain ⟨l, hl⟩ : ∃ l, l = leastP p th := ⟨_, rfl⟩
  obtain ⟨l2, hl2⟩ : ∃ l, l = leastP { p with own := upN p.own s (-1) } th := ⟨_, rfl⟩
  rw [← hl] at HL
  rw [← hl2] at HL2
  by_cases h1 : (s : Int) = l
  rotate_left
  · have e1 : ((s : Int) != l) = true := by simp [h1]
    have HP : Hid (undoP p t s ⟨kd, th, tx, pl, v, x, y⟩ = none) := if_pos (by rw [← hl]; exact h1)
    clear h1 hc hl hl2
    go_enter Tryz.func154, Tryz.ntmps154
    go_wp2_with fail
    refine HL.out.mono ?_
    rintro e w1 ⟨rfl, b1⟩
    go_wp2_with fail
    go_ret
    exact StepPost.no HP.out rfl (U1.out.of b1)
  have e1 : ((s : Int) != l) = false := by simp [h1]
  have h0 : undoP p t s ⟨kd, th, tx, pl, v, x, y⟩ = if leastP { p with own := upN p.own s (-1) } th ≠ -1 then some { p with own := upN p.own s (-1) } else some (goP { p with own := upN p.own s (-1) } t (if p.wh t = 8 then 10 else 0)) := if_neg (by rw [← hl]; simp [h1])
  by_cases h2 : l2 = -1
  rotate_left
  · have e2 : (l2 != -1) = true := by simp [h2]
    have HP : Hid (undoP p t s ⟨kd, th, tx, pl, v, x, y⟩ = some { p with own := upN p.own s (-1) }) := by show _ = _; rw [h0, if_pos (by rw [← hl2]; exact h2)]
    clear h1 h2 hc hl hl2 h0
    go_enter Tryz.func154, Tryz.ntmps154
    go_wp2_with fail
    refine HL.out.mono ?_
    rintro e w1 ⟨rfl, b1⟩
    have k3 := EC.out _ b1
    have n1 := hbg.out
    have U2 := Lib.hid (U1.out.of b1)
    have k1 := U2.out.at'.own hs
    have f1 := U2.out.at'.fr (5 + s * 2)
    have B1 := Lib.hid b1
    clear b1
    go_wp2_with fail
    refine (HL2.out _ (U2.out.own hs (-1)).at').mono ?_
    rintro e w4 ⟨rfl, b4⟩
    have U4 := Lib.hid ((U2.out.own hs (-1)).of b4)
    clear b4
    go_wp2_with fail
    go_ret
    exact StepPost.yes HP.out rfl U4.out
  have e2 : (l2 != -1) = false := by simp [h2]
  by_cases h3 : p.wh t = 8
  · have e3 : (p.wh t == 8) = true := by simp [h3]
    have HP : Hid (undoP p t s ⟨kd, th, tx, pl, v, x, y⟩ = some (goP { p with own := upN p.own s (-1) } t 10)) := by show _ = _; rw [h0, if_neg (by rw [← hl2]; simp [h2]), if_pos h3]
    have HW := Lib.hid e3
    clear h1 h2 h3 hc hl hl2 h0 e3
    go_enter Tryz.func154, Tryz.ntmps154
    go_wp2_with fail
    refine HL.out.mono ?_
    rintro e w1 ⟨rfl, b1⟩
    have k3 := EC.out _ b1
    have n1 := hbg.out
    have U2 := Lib.hid (U1.out.of b1)
    have k1 := U2.out.at'.own hs
    have f1 := U2.out.at'.fr (5 + s * 2)
    have B1 := Lib.hid b1
    clear b1
    go_wp2_with fail
    refine (HL2.out _ (U2.out.own hs (-1)).at').mono ?_
    rintro e w4 ⟨rfl, b4⟩
    have U4 := Lib.hid ((U2.out.own hs (-1)).of b4)
    have k4 : w4.cell? ⟨g, 69 + t * 71, none⟩ = some (.int .i64 (p.wh t)) := U4.out.at'.wh ht
    have e3 := HW.out
    clear b4 k1 f1
    go_wp2_with fail
    refine (goes_any U4.out.at' ht 10).mono ?_
    rintro e w5 ⟨rfl, hu⟩
    go_wp2_with fail
    go_ret
    exact StepPost.yes HP.out rfl (U4.out.trans hu)
  · have e3 : (p.wh t == 8) = false := by simp [h3]
    have HP : Hid (undoP p t s ⟨kd, th, tx, pl, v, x, y⟩ = some (goP { p with own := upN p.own s (-1) } t 0)) := by show _ = _; rw [h0, if_neg (by rw [← hl2]; simp [h2]), if_neg h3]
    have HW := Lib.hid e3
    clear h1 h2 h3 hc hl hl2 h0 e3
    go_enter Tryz.func154, Tryz.ntmps154
    go_wp2_with fail
    refine HL.out.mono ?_
    rintro e w1 ⟨rfl, b1⟩
    have k3 := EC.out _ b1
    have n1 := hbg.out
    have U2 := Lib.hid (U1.out.of b1)
    have k1 := U2.out.at'.own hs
    have f1 := U2.out.at'.fr (5 + s * 2)
    have B1 := Lib.hid b1
    clear b1
    go_wp2_with fail
    refine (HL2.out _ (U2.out.own hs (-1)).at').mono ?_
    rintro e w4 ⟨rfl, b4⟩
    have U4 := Lib.hid ((U2.out.own hs (-1)).of b4)
    have k4 : w4.cell? ⟨g, 69 + t * 71, none⟩ = some (.int .i64 (p.wh t)) := U4.out.at'.wh ht
    have e3 := HW.out
    clear b4 k1 f1
    go_wp2_with fail
    refine (goes_any U4.out.at' ht 0).mono ?_
    rintro e w5 ⟨rfl, hu⟩
    go_wp2_with fail
    go_ret
    exact StepPost.yes HP.out rfl (U4.out.trans hu)
set_option maxHeartbeats 4000000 in
theorem held_step (H : StepIn w g T V S p t s e) : Calls Tryz.prog 142 #[.pointer (some ⟨g, 0, none⟩), .pointer (some ⟨g, 69 + t * 71, none⟩), .int .i64 (s : Int), evV e] w (StepPost w g T V S p (heldP p t s e)) := by
  obtain ⟨hc, ok, ht, hs, hth, hpl, hv⟩ := H
  obtain ⟨kd, th, tx, pl, v, x, y⟩ := e
  simp only at hth hpl hv
  have HTH := Lib.hid hth
  clear hth
  have hg := hc.lt
  have i1 : (0 : Int) ≤ (s : Int) := by omega
  have i2 : (s : Int) < 32 := by omega
  have U1 : Hid (UpdC w g T V S p (w.alloc (.cells #[.int .u8 kd, .int .i64 th, .int .i64 tx, .int .i64 pl, .int .i64 v, .int .i64 x, .int .u8 y] 50))) := (UpdC.refl hc).alloc _
  have E1 : Hid (∀ i, (w.alloc (.cells #[.int .u8 kd, .int .i64 th, .int .i64 tx, .int .i64 pl, .int .i64 v, .int .i64 x, .int .u8 y] 50)).cell? ⟨w.heap.size, i, none⟩ = (#[.int .u8 kd, .int .i64 th, .int .i64 tx, .int .i64 pl, .int .i64 v, .int .i64 x, .int .u8 y] : Array Value)[i]?) := fun i => World.cell?_alloc_mark w _ _ (0, 0) i
  have hb : Hid (w.heap.size < (w.alloc (.cells #[.int .u8 kd, .int .i64 th, .int .i64 tx, .int .i64 pl, .int .i64 v, .int .i64 x, .int .u8 y] 50)).heap.size) := by show _ < _; simp
  have hbg : Hid (w.heap.size ≠ g) := by show _ ≠ _; omega
  unfold evV
  simp only
  clear hc
  go_enter Tryz.func142, Tryz.ntmps142
  go_wp2_with fail
  generalize w.alloc (.cells #[.int .u8 kd, .int .i64 th, .int .i64 tx, .int .i64 pl, .int .i64 v, .int .i64 x, .int .u8 y] 50) = W1 at U1 E1 hb ⊢
  have e_1 := E1.out 1
  simp only [List.getElem?_toArray, List.getElem?_cons_zero, List.getElem?_cons_succ] at e_1
  have HD : Hid (∀ w1, Below W1.heap.size W1 w1 → w1.cell? ⟨g, 5 + s * 2, none⟩ = some (.int .i64 (p.own s)) ∧ w1.cell? ⟨g, 5 + s * 2 + 1, none⟩ = some (.int .i64 (p.ver s)) ∧ w1.cell? ⟨g, 69 + t * 71 + 2, none⟩ = some (.int .i64 (p.rv t))) := fun w1 h1 => ⟨(U1.out.of h1).at'.own hs, (U1.out.of h1).at'.ver hs, (U1.out.of h1).at'.rv ht⟩
  have HE : Hid (∀ w1, Below W1.heap.size W1 w1 → w1.cell? ⟨w.heap.size, 1, none⟩ = some (.int .i64 th)) := fun w1 h1 => (h1.cell (p := ⟨w.heap.size, 1, none⟩) hb.out).trans e_1
  have HA : Hid (∀ w1, Calls Tryz.prog 157 #[.agg #[.int .i64 (p.own s), .int .i64 (p.ver s)], .int .i64 th] w1 fun e w' => e = .returned (.bool (othersP p s th)) ∧ Below w1.heap.size w1 w') := fun w1 => anothers_any (p.own s) (p.ver s) th w1
  have hcase : othersP p s th = false ∨ othersP p s th = true := by cases othersP p s th <;> simp
  rcases hcase with h1 | h1
  · rw [h1] at HA
    have HP : Hid (heldP p t s ⟨kd, th, tx, pl, v, x, y⟩ = none) := if_neg (by simp [h1])
    clear h1
    refine rgHeldF rfl _ (by simp) _ g s _ hs _ _ _ th _ HD.out HE.out HA rfl rfl rfl rfl ?_
    intro w5 h5
    simp only [putAll, List.setIfInBounds_toArray, List.set_cons_succ, List.set_cons_zero]
    go_wp2_with fail
    go_ret
    exact StepPost.no HP.out rfl (U1.out.of h5)
  · rw [h1] at HA
    have HP : Hid (heldP p t s ⟨kd, th, tx, pl, v, x, y⟩ = some (goP p t 0)) := if_pos h1
    clear h1
    have HDG : Hid (∀ w1, UpdC W1 g T V S (goP p t 0) w1 ∨ Below W1.heap.size W1 w1 → w1.cell? ⟨g, 5 + s * 2, none⟩ = some (.int .i64 (p.own s)) ∧ w1.cell? ⟨g, 5 + s * 2 + 1, none⟩ = some (.int .i64 (p.ver s)) ∧ w1.cell? ⟨g, 69 + t * 71 + 2, none⟩ = some (.int .i64 (p.rv t))) := fun w1 h1 => h1.elim (fun h => ⟨h.at'.own hs, h.at'.ver hs, h.at'.rv ht⟩) (fun h => HD.out w1 h)
    have HEG : Hid (∀ w1, UpdC W1 g T V S (goP p t 0) w1 ∨ Below W1.heap.size W1 w1 → w1.cell? ⟨w.heap.size, 1, none⟩ = some (.int .i64 th)) := fun w1 h1 => h1.elim (fun h => (h.cellE hb.out hbg.out 1).trans e_1) (fun h => HE.out w1 h)
    have HG : Hid (∀ w1, Below W1.heap.size W1 w1 → Calls Tryz.prog 156 #[.pointer (some ⟨g, 69 + t * 71, none⟩), .int .i64 0] w1 fun e w' => e = .returned (.bool true) ∧ UpdC W1 g T V S (goP p t 0) w') := fun w1 h1 => (goes_any ((UpdC.refl U1.out.at').of h1).at' ht 0).mono (fun e w' h => ⟨h.1, ((UpdC.refl U1.out.at').of h1).trans h.2⟩)
    refine rgHeldT rfl _ (by simp) _ (fun w' => UpdC W1 g T V S (goP p t 0) w') (fun w1 w' h1 h2 => h1.of h2) g s _ hs _ _ _ th _ HDG.out HEG.out HA HG rfl rfl rfl rfl ?_
    intro w5 h5
    simp only [putAll, List.setIfInBounds_toArray, List.set_cons_succ, List.set_cons_zero]
    go_wp2_with fail
    go_ret
    exact StepPost.yes HP.out rfl (U1.out.trans h5)
set_option maxHeartbeats 4000000 in
theorem newer_step (H : StepIn w g T V S p t s e) : Calls Tryz.prog 143 #[.pointer (some ⟨g, 0, none⟩), .pointer (some ⟨g, 69 + t * 71, none⟩), .int .i64 (s : Int), evV e] w (StepPost w g T V S p (newerP p t s e)) := by
  obtain ⟨hc, ok, ht, hs, hth, hpl, hv⟩ := H
  obtain ⟨kd, th, tx, pl, v, x, y⟩ := e
  simp only at hth hpl hv
  have HTH := Lib.hid hth
  clear hth
  have hg := hc.lt
  have i1 : (0 : Int) ≤ (s : Int) := by omega
  have i2 : (s : Int) < 32 := by omega
  have U1 : Hid (UpdC w g T V S p (w.alloc (.cells #[.int .u8 kd, .int .i64 th, .int .i64 tx, .int .i64 pl, .int .i64 v, .int .i64 x, .int .u8 y] 50))) := (UpdC.refl hc).alloc _
  have E1 : Hid (∀ i, (w.alloc (.cells #[.int .u8 kd, .int .i64 th, .int .i64 tx, .int .i64 pl, .int .i64 v, .int .i64 x, .int .u8 y] 50)).cell? ⟨w.heap.size, i, none⟩ = (#[.int .u8 kd, .int .i64 th, .int .i64 tx, .int .i64 pl, .int .i64 v, .int .i64 x, .int .u8 y] : Array Value)[i]?) := fun i => World.cell?_alloc_mark w _ _ (0, 0) i
  have hb : Hid (w.heap.size < (w.alloc (.cells #[.int .u8 kd, .int .i64 th, .int .i64 tx, .int .i64 pl, .int .i64 v, .int .i64 x, .int .u8 y] 50)).heap.size) := by show _ < _; simp
  have hbg : Hid (w.heap.size ≠ g) := by show _ ≠ _; omega
  unfold evV
  simp only
  clear hc
  go_enter Tryz.func143, Tryz.ntmps143
  go_wp2_with fail
  generalize w.alloc (.cells #[.int .u8 kd, .int .i64 th, .int .i64 tx, .int .i64 pl, .int .i64 v, .int .i64 x, .int .u8 y] 50) = W1 at U1 E1 hb ⊢
  have e_1 := E1.out 1
  simp only [List.getElem?_toArray, List.getElem?_cons_zero, List.getElem?_cons_succ] at e_1
  have HD : Hid (∀ w1, Below W1.heap.size W1 w1 → w1.cell? ⟨g, 5 + s * 2, none⟩ = some (.int .i64 (p.own s)) ∧ w1.cell? ⟨g, 5 + s * 2 + 1, none⟩ = some (.int .i64 (p.ver s)) ∧ w1.cell? ⟨g, 69 + t * 71 + 2, none⟩ = some (.int .i64 (p.rv t))) := fun w1 h1 => ⟨(U1.out.of h1).at'.own hs, (U1.out.of h1).at'.ver hs, (U1.out.of h1).at'.rv ht⟩
  by_cases h1 : p.own s = -1
  rotate_left
  · have e1 : (p.own s == -1) = false := by simp [h1]
    have HP : Hid (newerP p t s ⟨kd, th, tx, pl, v, x, y⟩ = none) := if_neg (by simp [h1])
    clear h1
    refine rgNewA rfl _ (by simp) _ g s _ hs _ _ _ _ e1 HD.out rfl rfl rfl rfl ?_
    intro w5 h5
    simp only [putAll, List.setIfInBounds_toArray, List.set_cons_succ, List.set_cons_zero]
    go_wp2_with fail
    go_ret
    exact StepPost.no HP.out rfl (U1.out.of h5)
  have e1 : (p.own s == -1) = true := by simp [h1]
  by_cases h2 : p.rv t < p.ver s
  rotate_left
  · have e2 : decide (p.rv t < p.ver s) = false := by simpa using h2
    have HP : Hid (newerP p t s ⟨kd, th, tx, pl, v, x, y⟩ = none) := if_neg (by simp [h1]; omega)
    clear h1 h2
    refine rgNewB rfl _ (by simp) _ g s _ hs _ _ _ _ e1 e2 HD.out rfl rfl rfl rfl ?_
    intro w5 h5
    simp only [putAll, List.setIfInBounds_toArray, List.set_cons_succ, List.set_cons_zero]
    go_wp2_with fail
    go_ret
    exact StepPost.no HP.out rfl (U1.out.of h5)
  · have e2 : decide (p.rv t < p.ver s) = true := by simpa using h2
    have HP : Hid (newerP p t s ⟨kd, th, tx, pl, v, x, y⟩ = some (goP p t 0)) := if_pos ⟨h1, h2⟩
    clear h1 h2
    have HDG : Hid (∀ w1, UpdC W1 g T V S (goP p t 0) w1 ∨ Below W1.heap.size W1 w1 → w1.cell? ⟨g, 5 + s * 2, none⟩ = some (.int .i64 (p.own s)) ∧ w1.cell? ⟨g, 5 + s * 2 + 1, none⟩ = some (.int .i64 (p.ver s)) ∧ w1.cell? ⟨g, 69 + t * 71 + 2, none⟩ = some (.int .i64 (p.rv t))) := fun w1 h1 => h1.elim (fun h => ⟨h.at'.own hs, h.at'.ver hs, h.at'.rv ht⟩) (fun h => HD.out w1 h)
    have HG : Hid (∀ w1, Below W1.heap.size W1 w1 → Calls Tryz.prog 156 #[.pointer (some ⟨g, 69 + t * 71, none⟩), .int .i64 0] w1 fun e w' => e = .returned (.bool true) ∧ UpdC W1 g T V S (goP p t 0) w') := fun w1 h1 => (goes_any ((UpdC.refl U1.out.at').of h1).at' ht 0).mono (fun e w' h => ⟨h.1, ((UpdC.refl U1.out.at').of h1).trans h.2⟩)
    refine rgNewC rfl _ (by simp) _ (fun w' => UpdC W1 g T V S (goP p t 0) w') (fun w1 w' h1 h2 => h1.of h2) g s _ hs _ _ _ _ e1 e2 HDG.out HG rfl rfl rfl rfl ?_
    intro w5 h5
    simp only [putAll, List.setIfInBounds_toArray, List.set_cons_succ, List.set_cons_zero]
    go_wp2_with fail
    go_ret
    exact StepPost.yes HP.out rfl (U1.out.trans h5)
set_option maxHeartbeats 4000000 in
theorem moved_step (H : StepIn w g T V S p t s e) : Calls Tryz.prog 146 #[.pointer (some ⟨g, 0, none⟩), .pointer (some ⟨g, 69 + t * 71, none⟩), .int .i64 (s : Int), evV e] w (StepPost w g T V S p (movedP p t s e)) := by
  obtain ⟨hc, ok, ht, hs, hth, hpl, hv⟩ := H
  obtain ⟨kd, th, tx, pl, v, x, y⟩ := e
  simp only at hth hpl hv
  have HTH := Lib.hid hth
  clear hth
  have hg := hc.lt
  have i1 : (0 : Int) ≤ (s : Int) := by omega
  have i2 : (s : Int) < 32 := by omega
  have U1 : Hid (UpdC w g T V S p (w.alloc (.cells #[.int .u8 kd, .int .i64 th, .int .i64 tx, .int .i64 pl, .int .i64 v, .int .i64 x, .int .u8 y] 50))) := (UpdC.refl hc).alloc _
  have E1 : Hid (∀ i, (w.alloc (.cells #[.int .u8 kd, .int .i64 th, .int .i64 tx, .int .i64 pl, .int .i64 v, .int .i64 x, .int .u8 y] 50)).cell? ⟨w.heap.size, i, none⟩ = (#[.int .u8 kd, .int .i64 th, .int .i64 tx, .int .i64 pl, .int .i64 v, .int .i64 x, .int .u8 y] : Array Value)[i]?) := fun i => World.cell?_alloc_mark w _ _ (0, 0) i
  have hb : Hid (w.heap.size < (w.alloc (.cells #[.int .u8 kd, .int .i64 th, .int .i64 tx, .int .i64 pl, .int .i64 v, .int .i64 x, .int .u8 y] 50)).heap.size) := by show _ < _; simp
  have hbg : Hid (w.heap.size ≠ g) := by show _ ≠ _; omega
  have c_pos := hc.pos ht
  unfold evV
  simp only
  by_cases h1 : (s : Int) = p.pos t
  rotate_left
  · have e1 : ((s : Int) == p.pos t) = false := by simp [h1]
    have HP : Hid (movedP p t s ⟨kd, th, tx, pl, v, x, y⟩ = none) := if_neg (by simp [h1])
    clear h1 hc
    go_enter Tryz.func146, Tryz.ntmps146
    go_wp2_with fail
    go_ret
    exact StepPost.no HP.out rfl U1.out
  · have HS := Lib.hid (still_any U1.out.at' ht hs h1.symm)
    rw [← h1] at c_pos
    have hcase : stillP p t = false ∨ stillP p t = true := by cases stillP p t <;> simp
    rcases hcase with h2 | h2
    · rw [h2] at HS
      have HP : Hid (movedP p t s ⟨kd, th, tx, pl, v, x, y⟩ = some (goP p t 0)) := if_pos ⟨h1, h2⟩
      clear h1 h2 hc
      go_enter Tryz.func146, Tryz.ntmps146
      go_wp2_with fail
      refine HS.out.mono ?_
      rintro e w1 ⟨rfl, n1, rfl⟩
      go_wp2_with fail
      refine (goes_any (U1.out.of (drewN_below2 _ _)).at' ht 0).mono ?_
      rintro e w2 ⟨rfl, hu⟩
      go_wp2_with fail
      go_ret
      exact StepPost.yes HP.out rfl ((U1.out.of (drewN_below2 _ _)).trans hu)
    · rw [h2] at HS
      have HP : Hid (movedP p t s ⟨kd, th, tx, pl, v, x, y⟩ = none) := if_neg (by simp [h2])
      clear h1 h2 hc
      go_enter Tryz.func146, Tryz.ntmps146
      go_wp2_with fail
      refine HS.out.mono ?_
      rintro e w1 ⟨rfl, n1, rfl⟩
      go_wp2_with fail
      go_ret
      exact StepPost.no HP.out rfl (U1.out.of (drewN_below2 _ _))
set_option maxHeartbeats 4000000 in
theorem busy_step (H : StepIn w g T V S p t s e) : Calls Tryz.prog 144 #[.pointer (some ⟨g, 0, none⟩), .pointer (some ⟨g, 69 + t * 71, none⟩), .int .i64 (s : Int), evV e] w (StepPost w g T V S p (busyP p t s e)) := by
  obtain ⟨hc, ok, ht, hs, hth, hpl, hv⟩ := H
  obtain ⟨kd, th, tx, pl, v, x, y⟩ := e
  simp only at hth hpl hv
  have HTH := Lib.hid hth
  clear hth
  have hg := hc.lt
  have i1 : (0 : Int) ≤ (s : Int) := by omega
  have i2 : (s : Int) < 32 := by omega
  have U1 : Hid (UpdC w g T V S p (w.alloc (.cells #[.int .u8 kd, .int .i64 th, .int .i64 tx, .int .i64 pl, .int .i64 v, .int .i64 x, .int .u8 y] 50))) := (UpdC.refl hc).alloc _
  have E1 : Hid (∀ i, (w.alloc (.cells #[.int .u8 kd, .int .i64 th, .int .i64 tx, .int .i64 pl, .int .i64 v, .int .i64 x, .int .u8 y] 50)).cell? ⟨w.heap.size, i, none⟩ = (#[.int .u8 kd, .int .i64 th, .int .i64 tx, .int .i64 pl, .int .i64 v, .int .i64 x, .int .u8 y] : Array Value)[i]?) := fun i => World.cell?_alloc_mark w _ _ (0, 0) i
  have hb : Hid (w.heap.size < (w.alloc (.cells #[.int .u8 kd, .int .i64 th, .int .i64 tx, .int .i64 pl, .int .i64 v, .int .i64 x, .int .u8 y] 50)).heap.size) := by show _ < _; simp
  have hbg : Hid (w.heap.size ≠ g) := by show _ ≠ _; omega
  unfold evV
  simp only
  clear hc
  go_enter Tryz.func144, Tryz.ntmps144
  go_wp2_with fail
  generalize w.alloc (.cells #[.int .u8 kd, .int .i64 th, .int .i64 tx, .int .i64 pl, .int .i64 v, .int .i64 x, .int .u8 y] 50) = W1 at U1 E1 hb ⊢
  have e_1 := E1.out 1
  simp only [List.getElem?_toArray, List.getElem?_cons_zero, List.getElem?_cons_succ] at e_1
  have HD : Hid (∀ w1, Below W1.heap.size W1 w1 → w1.cell? ⟨g, 5 + s * 2, none⟩ = some (.int .i64 (p.own s)) ∧ w1.cell? ⟨g, 5 + s * 2 + 1, none⟩ = some (.int .i64 (p.ver s)) ∧ w1.cell? ⟨g, 69 + t * 71 + 70, none⟩ = some (.int .i64 (p.last t))) := fun w1 h1 => ⟨(U1.out.of h1).at'.own hs, (U1.out.of h1).at'.ver hs, (U1.out.of h1).at'.last ht⟩
  have HE : Hid (∀ w1, Below W1.heap.size W1 w1 → w1.cell? ⟨w.heap.size, 1, none⟩ = some (.int .i64 th)) := fun w1 h1 => (h1.cell (p := ⟨w.heap.size, 1, none⟩) hb.out).trans e_1
  have HA : Hid (∀ w1, Calls Tryz.prog 157 #[.agg #[.int .i64 (p.own s), .int .i64 (p.ver s)], .int .i64 th] w1 fun e w' => e = .returned (.bool (othersP p s th)) ∧ Below w1.heap.size w1 w') := fun w1 => anothers_any (p.own s) (p.ver s) th w1
  by_cases h1 : (s : Int) ≤ p.last t
  · have e1 : decide ((s : Int) ≤ p.last t) = true := by simp [h1]
    have HP : Hid (busyP p t s ⟨kd, th, tx, pl, v, x, y⟩ = none) := if_pos (.inl h1)
    clear h1
    refine rgBusyA rfl _ (by simp) _ g s _ hs _ _ _ _ e1 HD.out rfl rfl rfl rfl ?_
    intro w5 h5
    simp only [putAll, List.setIfInBounds_toArray, List.set_cons_succ, List.set_cons_zero]
    go_wp2_with fail
    go_ret
    exact StepPost.no HP.out rfl (U1.out.of h5)
  have e1 : decide ((s : Int) ≤ p.last t) = false := by simpa using h1
  have hcase : othersP p s th = false ∨ othersP p s th = true := by cases othersP p s th <;> simp
  rcases hcase with h2 | h2
  · rw [h2] at HA
    have HP : Hid (busyP p t s ⟨kd, th, tx, pl, v, x, y⟩ = none) := if_pos (.inr h2)
    clear h1 h2
    refine rgBusyB rfl _ (by simp) _ g s _ hs _ _ _ th _ e1 HD.out HE.out HA rfl rfl rfl rfl ?_
    intro w5 h5
    simp only [putAll, List.setIfInBounds_toArray, List.set_cons_succ, List.set_cons_zero]
    go_wp2_with fail
    go_ret
    exact StepPost.no HP.out rfl (U1.out.of h5)
  · rw [h2] at HA
    have h0 : busyP p t s ⟨kd, th, tx, pl, v, x, y⟩ = some (goP p t (if leastP p th = -1 then 0 else 7)) := if_neg (by simp [h2]; omega)
    have HL : Hid (∀ w1, Below W1.heap.size W1 w1 → _) := fun w1 h1 => least_any (U1.out.of h1).at' th
    obtain ⟨l, hl⟩ : ∃ l, l = leastP p th := ⟨_, rfl⟩
    rw [← hl] at HL h0
    by_cases h3 : l = -1
    · have HW : Hid ((l == -1) = true) := by show _ = _; simp [h3]
      have HP : Hid (busyP p t s ⟨kd, th, tx, pl, v, x, y⟩ = some (goP p t 0)) := by show _ = _; rw [h0, if_pos h3]
      clear h1 h2 h3 h0 hl
      refine rgBusyC rfl _ (by simp) _ g s _ hs _ _ _ th _ e1 HD.out HE.out HA rfl rfl rfl rfl ?_
      intro w5 h5
      simp only [putAll, List.setIfInBounds_toArray, List.set_cons_succ, List.set_cons_zero]
      have k5 := HE.out _ h5
      go_wp2_with fail
      refine (HL.out _ h5).mono ?_
      rintro e w6 ⟨rfl, b6⟩
      have e3 := HW.out
      have U6 := Lib.hid ((U1.out.of h5).of b6)
      clear b6 h5 k5
      go_wp2_with fail
      refine (goes_any U6.out.at' ht 0).mono ?_
      rintro e w7 ⟨rfl, hu⟩
      go_wp2_with fail
      go_ret
      exact StepPost.yes HP.out rfl (U6.out.trans hu)
    · have HW : Hid ((l == -1) = false) := by show _ = _; simp [h3]
      have HP : Hid (busyP p t s ⟨kd, th, tx, pl, v, x, y⟩ = some (goP p t 7)) := by show _ = _; rw [h0, if_neg h3]
      clear h1 h2 h3 h0 hl
      refine rgBusyC rfl _ (by simp) _ g s _ hs _ _ _ th _ e1 HD.out HE.out HA rfl rfl rfl rfl ?_
      intro w5 h5
      simp only [putAll, List.setIfInBounds_toArray, List.set_cons_succ, List.set_cons_zero]
      have k5 := HE.out _ h5
      go_wp2_with fail
      refine (HL.out _ h5).mono ?_
      rintro e w6 ⟨rfl, b6⟩
      have e3 := HW.out
      have U6 := Lib.hid ((U1.out.of h5).of b6)
      clear b6 h5 k5
      go_wp2_with fail
      refine (goes_any U6.out.at' ht 7).mono ?_
      rintro e w7 ⟨rfl, hu⟩
      go_wp2_with fail
      go_ret
      exact StepPost.yes HP.out rfl (U6.out.trans hu)
set_option maxHeartbeats 4000000 in
theorem stale_step (H : StepIn w g T V S p t s e) : Calls Tryz.prog 151 #[.pointer (some ⟨g, 0, none⟩), .pointer (some ⟨g, 69 + t * 71, none⟩), .int .i64 (s : Int), evV e] w (StepPost w g T V S p (staleP p t s e)) := by
  obtain ⟨hc, ok, ht, hs, hth, hpl, hv⟩ := H
  obtain ⟨kd, th, tx, pl, v, x, y⟩ := e
  simp only at hth hpl hv
  have HTH := Lib.hid hth
  clear hth
  have hg := hc.lt
  have i1 : (0 : Int) ≤ (s : Int) := by omega
  have i2 : (s : Int) < 32 := by omega
  have U1 : Hid (UpdC w g T V S p (w.alloc (.cells #[.int .u8 kd, .int .i64 th, .int .i64 tx, .int .i64 pl, .int .i64 v, .int .i64 x, .int .u8 y] 50))) := (UpdC.refl hc).alloc _
  have E1 : Hid (∀ i, (w.alloc (.cells #[.int .u8 kd, .int .i64 th, .int .i64 tx, .int .i64 pl, .int .i64 v, .int .i64 x, .int .u8 y] 50)).cell? ⟨w.heap.size, i, none⟩ = (#[.int .u8 kd, .int .i64 th, .int .i64 tx, .int .i64 pl, .int .i64 v, .int .i64 x, .int .u8 y] : Array Value)[i]?) := fun i => World.cell?_alloc_mark w _ _ (0, 0) i
  have hb : Hid (w.heap.size < (w.alloc (.cells #[.int .u8 kd, .int .i64 th, .int .i64 tx, .int .i64 pl, .int .i64 v, .int .i64 x, .int .u8 y] 50)).heap.size) := by show _ < _; simp
  have hbg : Hid (w.heap.size ≠ g) := by show _ ≠ _; omega
  have hla := ok.last t
  unfold evV
  simp only
  have HN := Lib.hid (next_any U1.out.at' ht hla)
  have HOU : Hid (∀ w1, Below (w.alloc (.cells #[.int .u8 kd, .int .i64 th, .int .i64 tx, .int .i64 pl, .int .i64 v, .int .i64 x, .int .u8 y] 50)).heap.size (w.alloc (.cells #[.int .u8 kd, .int .i64 th, .int .i64 tx, .int .i64 pl, .int .i64 v, .int .i64 x, .int .u8 y] 50)) w1 → _) := fun w1 h1 => outdated_any (U1.out.of h1).at' ht hs th
  obtain ⟨n, hn⟩ : ∃ n, n = nextP p t := ⟨_, rfl⟩
  rw [← hn] at HN
  by_cases h1 : (s : Int) = n
  rotate_left
  · have e1 : ((s : Int) == n) = false := by simp [h1]
    have HP : Hid (staleP p t s ⟨kd, th, tx, pl, v, x, y⟩ = none) := if_neg (fun h => h1 (by rw [hn]; exact h.1))
    clear h1 hc hn
    go_enter Tryz.func151, Tryz.ntmps151
    go_wp2_with fail
    refine HN.out.mono ?_
    rintro e w1 ⟨rfl, rfl⟩
    go_wp2_with fail
    go_ret
    exact StepPost.no HP.out rfl U1.out
  · have e1 : ((s : Int) == n) = true := by simp [h1]
    have hcase : oldP p t s th = true ∨ oldP p t s th = false := by cases oldP p t s th <;> simp
    rcases hcase with h2 | h2
    · rw [h2] at HOU
      have HP : Hid (staleP p t s ⟨kd, th, tx, pl, v, x, y⟩ = some (goP p t 7)) := if_pos ⟨by rw [← hn]; exact h1, h2⟩
      clear h1 h2 hc hn
      go_enter Tryz.func151, Tryz.ntmps151
      go_wp2_with fail
      refine HN.out.mono ?_
      rintro e w1 ⟨rfl, rfl⟩
      go_wp2_with fail
      refine (HOU.out _ (Below.refl _ _)).mono ?_
      rintro e w2 ⟨rfl, b2⟩
      have U2 := Lib.hid (U1.out.of b2)
      clear b2
      go_wp2_with fail
      refine (goes_any U2.out.at' ht 7).mono ?_
      rintro e w3 ⟨rfl, hu⟩
      go_wp2_with fail
      go_ret
      exact StepPost.yes HP.out rfl (U2.out.trans hu)
    · rw [h2] at HOU
      have HP : Hid (staleP p t s ⟨kd, th, tx, pl, v, x, y⟩ = none) := if_neg (fun h => by rw [h2] at h; exact absurd h.2 (by simp))
      clear h1 h2 hc hn
      go_enter Tryz.func151, Tryz.ntmps151
      go_wp2_with fail
      refine HN.out.mono ?_
      rintro e w1 ⟨rfl, rfl⟩
      go_wp2_with fail
      refine (HOU.out _ (Below.refl _ _)).mono ?_
      rintro e w2 ⟨rfl, b2⟩
      go_wp2_with fail
      go_ret
      exact StepPost.no HP.out rfl (U1.out.of b2)
end
end Go.Proofs.YteigglhhnemngaaGreatDoor
