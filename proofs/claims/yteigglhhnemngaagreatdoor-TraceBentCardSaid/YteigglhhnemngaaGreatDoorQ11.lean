/-
  SEVERAL TEXTS IN ONE (a claim has sixty files at most): So, Sq: the head of each stands ahead of it. No condition but theirs.
-/
import Derived.Test.YteigglhhnemngaaGreatDoorSp
import Derived.BigRegion
namespace Go.Proofs.YteigglhhnemngaaGreatDoor
set_option maxRecDepth 100000
open Go.RowKit Go.Deep
set_option linter.unusedVariables false
set_option linter.unusedSimpArgs false
theorem drewN_below2 (w : World) (n : Nat) : Below w.heap.size w (w.drewN n) := ⟨rfl, rfl, rfl, Nat.le_refl _, fun _ _ => rfl⟩
theorem ChkAt.clk {w : World} {g : Nat} {T V S : Int} {p : PS} (h : ChkAt w g T V S p) : w.cell? ⟨g, 4, none⟩ = some (.int .i64 p.clk) := h.cell (i := 4) (by omega)
section
variable {w : World} {g : Nat} {T V S : Int} {p : PS} {t s : Nat} {e : Ev}
set_option maxHeartbeats 4000000 in
theorem wait_step (H : StepIn w g T V S p t s e) : Calls Tryz.prog 141 #[.pointer (some ⟨g, 0, none⟩), .pointer (some ⟨g, 69 + t * 71, none⟩), .int .i64 (s : Int), evV e] w (StepPost w g T V S p (waitP p t s e)) := by
  obtain ⟨hc, ok, ht, hs, hth, hpl, hv⟩ := H
  obtain ⟨kd, th, tx, pl, v, x, y⟩ := e
  simp only at hth hpl hv
  have HTH := Lib.hid hth
  clear hth
  have hg := hc.lt
  have i1 : (0 : Int) ≤ (s : Int) := by omega
  have i2 : (s : Int) < 32 := by omega
  have U1 : Hid (UpdC w g T V S p (w.alloc (.cells #[.int .u8 kd, .int .i64 th, .int .i64 tx, .int .i64 pl, .int .i64 v, .int .i64 x, .int .u8 y] 50))) := (UpdC.refl hc).alloc _
  have E1 : Hid (∀ i, (w.alloc (.cells #[.int .u8 kd, .int .i64 th, .int .i64 tx, .int .i64 pl, .int .i64 v, .int .i64 x, .int .u8 y] 50)).cell? ⟨w.heap.size, i, none⟩ = (#[.int .u8 kd, .int .i64 th, .int .i64 tx, .int .i64 pl, .int .i64 v, .int .i64 x, .int .u8 y] : Array Value)[i]?) := fun i => World.cell?_alloc_mark w _ _ (0, 0) i
  have hb : Hid (w.heap.size < (w.alloc (.cells #[.int .u8 kd, .int .i64 th, .int .i64 tx, .int .i64 pl, .int .i64 v, .int .i64 x, .int .u8 y] 50)).heap.size) := by show _ < _; simp
  have hbg : Hid (w.heap.size ≠ g) := by show _ ≠ _; omega
  unfold evV
  simp only
  clear hc
  go_enter Tryz.func141, Tryz.ntmps141
  go_wp2_with fail
  refine (goes_any U1.out.at' ht 9).mono ?_
  rintro e w1 ⟨rfl, hu⟩
  go_wp2_with fail
  go_ret
  exact StepPost.yes rfl rfl (U1.out.trans hu)
set_option maxHeartbeats 4000000 in
theorem full_step (H : StepIn w g T V S p t s e) : Calls Tryz.prog 148 #[.pointer (some ⟨g, 0, none⟩), .pointer (some ⟨g, 69 + t * 71, none⟩), .int .i64 (s : Int), evV e] w (StepPost w g T V S p (fullP p t s e)) := by
  obtain ⟨hc, ok, ht, hs, hth, hpl, hv⟩ := H
  obtain ⟨kd, th, tx, pl, v, x, y⟩ := e
  simp only at hth hpl hv
  have HTH := Lib.hid hth
  clear hth
  have hg := hc.lt
  have i1 : (0 : Int) ≤ (s : Int) := by omega
  have i2 : (s : Int) < 32 := by omega
  have U1 : Hid (UpdC w g T V S p (w.alloc (.cells #[.int .u8 kd, .int .i64 th, .int .i64 tx, .int .i64 pl, .int .i64 v, .int .i64 x, .int .u8 y] 50))) := (UpdC.refl hc).alloc _
  have E1 : Hid (∀ i, (w.alloc (.cells #[.int .u8 kd, .int .i64 th, .int .i64 tx, .int .i64 pl, .int .i64 v, .int .i64 x, .int .u8 y] 50)).cell? ⟨w.heap.size, i, none⟩ = (#[.int .u8 kd, .int .i64 th, .int .i64 tx, .int .i64 pl, .int .i64 v, .int .i64 x, .int .u8 y] : Array Value)[i]?) := fun i => World.cell?_alloc_mark w _ _ (0, 0) i
  have hb : Hid (w.heap.size < (w.alloc (.cells #[.int .u8 kd, .int .i64 th, .int .i64 tx, .int .i64 pl, .int .i64 v, .int .i64 x, .int .u8 y] 50)).heap.size) := by show _ < _; simp
  have hbg : Hid (w.heap.size ≠ g) := by show _ ≠ _; omega
  unfold evV
  simp only
  clear hc
  go_enter Tryz.func148, Tryz.ntmps148
  go_wp2_with fail
  refine (goes_any U1.out.at' ht 8).mono ?_
  rintro e w1 ⟨rfl, hu⟩
  go_wp2_with fail
  go_ret
  exact StepPost.yes rfl rfl (U1.out.trans hu)
set_option maxHeartbeats 4000000 in
theorem rest_step (H : StepIn w g T V S p t s e) : Calls Tryz.prog 140 #[.pointer (some ⟨g, 0, none⟩), .pointer (some ⟨g, 69 + t * 71, none⟩), .int .i64 (s : Int), evV e] w (StepPost w g T V S p (restP p t s e)) := by
  obtain ⟨hc, ok, ht, hs, hth, hpl, hv⟩ := H
  obtain ⟨kd, th, tx, pl, v, x, y⟩ := e
  simp only at hth hpl hv
  have HTH := Lib.hid hth
  clear hth
  have hg := hc.lt
  have i1 : (0 : Int) ≤ (s : Int) := by omega
  have i2 : (s : Int) < 32 := by omega
  have U1 : Hid (UpdC w g T V S p (w.alloc (.cells #[.int .u8 kd, .int .i64 th, .int .i64 tx, .int .i64 pl, .int .i64 v, .int .i64 x, .int .u8 y] 50))) := (UpdC.refl hc).alloc _
  have E1 : Hid (∀ i, (w.alloc (.cells #[.int .u8 kd, .int .i64 th, .int .i64 tx, .int .i64 pl, .int .i64 v, .int .i64 x, .int .u8 y] 50)).cell? ⟨w.heap.size, i, none⟩ = (#[.int .u8 kd, .int .i64 th, .int .i64 tx, .int .i64 pl, .int .i64 v, .int .i64 x, .int .u8 y] : Array Value)[i]?) := fun i => World.cell?_alloc_mark w _ _ (0, 0) i
  have hb : Hid (w.heap.size < (w.alloc (.cells #[.int .u8 kd, .int .i64 th, .int .i64 tx, .int .i64 pl, .int .i64 v, .int .i64 x, .int .u8 y] 50)).heap.size) := by show _ < _; simp
  have hbg : Hid (w.heap.size ≠ g) := by show _ ≠ _; omega
  have c_com := hc.com ht
  have fz1 := hc.fr (69 + t * 71 + 1)
  have hcm := ok.com t
  have hca := ok.came
  unfold evV
  simp only
  by_cases h1 : v = 0
  · have e1 : (v != 0) = false := by simp [h1]
    have HP : Hid (restP p t s ⟨kd, th, tx, pl, v, x, y⟩ = some { p with com := upN p.com t (p.com t + 1), wh := upN p.wh t 0 }) := if_neg (by simpa using h1)
    have U2 : Hid (UpdC w g T V S { p with com := upN p.com t (p.com t + 1) } ((w.setCell ⟨g, 69 + t * 71 + 1, none⟩ (.int .i64 (p.com t + 1))).alloc (.cells #[.int .u8 kd, .int .i64 th, .int .i64 tx, .int .i64 pl, .int .i64 v, .int .i64 x, .int .u8 y] 50))) := ((UpdC.refl hc).com ht _).alloc _
    clear h1 hc
    go_enter Tryz.func140, Tryz.ntmps140
    go_wp2_with fail
    refine (goes_any U2.out.at' ht 0).mono ?_
    rintro e w1 ⟨rfl, hu⟩
    go_wp2_with fail
    go_ret
    exact StepPost.yes HP.out rfl (U2.out.trans hu)
  · have e1 : (v != 0) = true := by simp [h1]
    have HP : Hid (restP p t s ⟨kd, th, tx, pl, v, x, y⟩ = none) := if_pos h1
    clear h1 hc
    go_enter Tryz.func140, Tryz.ntmps140
    go_wp2_with fail
    go_ret
    exact StepPost.no HP.out rfl U1.out
set_option maxHeartbeats 4000000 in
theorem begin_step (H : StepIn w g T V S p t s e) : Calls Tryz.prog 137 #[.pointer (some ⟨g, 0, none⟩), .pointer (some ⟨g, 69 + t * 71, none⟩), .int .i64 (s : Int), evV e] w (StepPost w g T V S p (beginPS p t s e)) := by
  obtain ⟨hc, ok, ht, hs, hth, hpl, hv⟩ := H
  obtain ⟨kd, th, tx, pl, v, x, y⟩ := e
  simp only at hth hpl hv
  have HTH := Lib.hid hth
  clear hth
  have hg := hc.lt
  have i1 : (0 : Int) ≤ (s : Int) := by omega
  have i2 : (s : Int) < 32 := by omega
  have U1 : Hid (UpdC w g T V S p (w.alloc (.cells #[.int .u8 kd, .int .i64 th, .int .i64 tx, .int .i64 pl, .int .i64 v, .int .i64 x, .int .u8 y] 50))) := (UpdC.refl hc).alloc _
  have E1 : Hid (∀ i, (w.alloc (.cells #[.int .u8 kd, .int .i64 th, .int .i64 tx, .int .i64 pl, .int .i64 v, .int .i64 x, .int .u8 y] 50)).cell? ⟨w.heap.size, i, none⟩ = (#[.int .u8 kd, .int .i64 th, .int .i64 tx, .int .i64 pl, .int .i64 v, .int .i64 x, .int .u8 y] : Array Value)[i]?) := fun i => World.cell?_alloc_mark w _ _ (0, 0) i
  have hb : Hid (w.heap.size < (w.alloc (.cells #[.int .u8 kd, .int .i64 th, .int .i64 tx, .int .i64 pl, .int .i64 v, .int .i64 x, .int .u8 y] 50)).heap.size) := by show _ < _; simp
  have hbg : Hid (w.heap.size ≠ g) := by show _ ≠ _; omega
  unfold evV
  simp only
  clear hc
  go_enter Tryz.func137, Tryz.ntmps137
  go_wp2_with fail
  generalize w.alloc (.cells #[.int .u8 kd, .int .i64 th, .int .i64 tx, .int .i64 pl, .int .i64 v, .int .i64 x, .int .u8 y] 50) = W1 at U1 E1 hb ⊢
  have e_2 := E1.out 2
  have e_4 := E1.out 4
  simp only [List.getElem?_toArray, List.getElem?_cons_zero, List.getElem?_cons_succ] at e_2 e_4
  have c_com := (U1.out.at').com ht
  have c_clk := (U1.out.at').clk
  have fz := (U1.out.at').fr
  by_cases h1 : tx = p.com t
  rotate_left
  · have e1 : (tx != p.com t) = true := by simp [h1]
    have HP : Hid (beginPS p t s ⟨kd, th, tx, pl, v, x, y⟩ = none) := if_pos (.inl h1)
    clear h1
    go_quiet (fail)
    go_wp2_with fail
    go_ret
    exact StepPost.no HP.out rfl (U1.out.of (drewN_below2 _ _))
  · have e1 : (tx != p.com t) = false := by simp [h1]
    by_cases h2 : v < p.clk
    · have e2 : decide (v < p.clk) = true := by simp [h2]
      have HP : Hid (beginPS p t s ⟨kd, th, tx, pl, v, x, y⟩ = none) := if_pos (.inr h2)
      clear h1
      go_quiet (fail)
      go_wp2_with fail
      go_ret
      exact StepPost.no HP.out rfl (U1.out.of (drewN_below2 _ _))
    · have e2 : decide (v < p.clk) = false := by simp [h2]
      have HP : Hid (beginPS p t s ⟨kd, th, tx, pl, v, x, y⟩ = some { p with clk := v, wh := upN p.wh t 1, rv := upN p.rv t v, wv := upN p.wv t 0, pos := upN p.pos t 0, seen := upN p.seen t 0, rd := upN p.rd t (fun _ => false), st := upN p.st t (fun _ => false), last := upN p.last t (-1) }) := if_neg (by simp [h1, h2])
      clear h1 h2
      go_quiet (fail)
      have fz4 := fz 4
      clear fz
      go_wp2_with fail
      refine rgBegin4 rfl _ (by simp) _ g t s _ { p with clk := v } T V S ht hs (((UpdC.refl U1.out.at').of (drewN_below2 _ _)).clk v).at' (Nat.lt_of_lt_of_le hb.out (((UpdC.refl U1.out.at').of (drewN_below2 _ _)).clk v).size) hbg.out v (((((UpdC.refl U1.out.at').of (drewN_below2 _ _)).clk v).cellE hb.out hbg.out 4).trans e_4) rfl rfl rfl rfl ?_
      intro w5 h5
      simp only [putAll, List.setIfInBounds_toArray, List.set_cons_succ, List.set_cons_zero]
      go_wp2_with fail
      go_ret
      exact StepPost.yes HP.out rfl (((U1.out.of (drewN_below2 _ _)).clk v).trans h5)
set_option maxHeartbeats 4000000 in
theorem look_step (H : StepIn w g T V S p t s e) : Calls Tryz.prog 138 #[.pointer (some ⟨g, 0, none⟩), .pointer (some ⟨g, 69 + t * 71, none⟩), .int .i64 (s : Int), evV e] w (StepPost w g T V S p (lookPS p t s e)) := by
  obtain ⟨hc, ok, ht, hs, hth, hpl, hv⟩ := H
  obtain ⟨kd, th, tx, pl, v, x, y⟩ := e
  simp only at hth hpl hv
  have HTH := Lib.hid hth
  clear hth
  have hg := hc.lt
  have i1 : (0 : Int) ≤ (s : Int) := by omega
  have i2 : (s : Int) < 32 := by omega
  have U1 : Hid (UpdC w g T V S p (w.alloc (.cells #[.int .u8 kd, .int .i64 th, .int .i64 tx, .int .i64 pl, .int .i64 v, .int .i64 x, .int .u8 y] 50))) := (UpdC.refl hc).alloc _
  have E1 : Hid (∀ i, (w.alloc (.cells #[.int .u8 kd, .int .i64 th, .int .i64 tx, .int .i64 pl, .int .i64 v, .int .i64 x, .int .u8 y] 50)).cell? ⟨w.heap.size, i, none⟩ = (#[.int .u8 kd, .int .i64 th, .int .i64 tx, .int .i64 pl, .int .i64 v, .int .i64 x, .int .u8 y] : Array Value)[i]?) := fun i => World.cell?_alloc_mark w _ _ (0, 0) i
  have hb : Hid (w.heap.size < (w.alloc (.cells #[.int .u8 kd, .int .i64 th, .int .i64 tx, .int .i64 pl, .int .i64 v, .int .i64 x, .int .u8 y] 50)).heap.size) := by show _ < _; simp
  have hbg : Hid (w.heap.size ≠ g) := by show _ ≠ _; omega
  unfold evV
  simp only
  clear hc
  go_enter Tryz.func138, Tryz.ntmps138
  go_wp2_with fail
  generalize w.alloc (.cells #[.int .u8 kd, .int .i64 th, .int .i64 tx, .int .i64 pl, .int .i64 v, .int .i64 x, .int .u8 y] 50) = W1 at U1 E1 hb ⊢
  have e_4 := E1.out 4
  simp only [List.getElem?_toArray, List.getElem?_cons_zero, List.getElem?_cons_succ] at e_4
  have c_own := (U1.out.at').own hs
  have c_ver := (U1.out.at').ver hs
  have c_rv := (U1.out.at').rv ht
  by_cases h1 : p.own s = -1
  rotate_left
  · have e1 : (p.own s != -1) = true := by simp [h1]
    have HP : Hid (lookPS p t s ⟨kd, th, tx, pl, v, x, y⟩ = none) := if_pos (.inl h1)
    clear h1
    go_quiet (fail)
    go_wp2_with fail
    go_ret
    exact StepPost.no HP.out rfl (U1.out.of (drewN_below2 _ _))
  · have e1 : (p.own s != -1) = false := by simp [h1]
    by_cases h2 : v < p.ver s
    · have e2 : decide (v < p.ver s) = true := by simp [h2]
      have HP : Hid (lookPS p t s ⟨kd, th, tx, pl, v, x, y⟩ = none) := if_pos (.inr (.inl h2))
      clear h1
      go_quiet (fail)
      go_wp2_with fail
      go_ret
      exact StepPost.no HP.out rfl (U1.out.of (drewN_below2 _ _))
    · have e2 : decide (v < p.ver s) = false := by simp [h2]
      by_cases h3 : p.rv t < v
      · have e3 : decide (p.rv t < v) = true := by simp [h3]
        have HP : Hid (lookPS p t s ⟨kd, th, tx, pl, v, x, y⟩ = none) := if_pos (.inr (.inr h3))
        clear h1
        go_quiet (fail)
        go_wp2_with fail
        go_ret
        exact StepPost.no HP.out rfl (U1.out.of (drewN_below2 _ _))
      · have e3 : decide (p.rv t < v) = false := by simp [h3]
        have HP : Hid (lookPS p t s ⟨kd, th, tx, pl, v, x, y⟩ = some { p with ver := upN p.ver s v, wh := upN p.wh t 2, pos := upN p.pos t s, seen := upN p.seen t v }) := if_neg (by simp [h1, h2, h3])
        clear h1 h2 h3
        go_quiet (fail)
        go_wp2_with fail
        refine rgLook3 rfl _ (by simp) _ g t s _ p T V S ht hs (U1.out.of (drewN_below2 _ _)).at' hb.out hbg.out v e_4 rfl rfl rfl rfl ?_
        intro w5 h5
        simp only [putAll, List.setIfInBounds_toArray, List.set_cons_succ, List.set_cons_zero]
        go_wp2_with fail
        refine rgLook4 rfl _ (by simp) _ g t s _ _ T V S ht hs h5.at' (Nat.lt_of_lt_of_le hb.out h5.size) hbg.out v ((h5.cellE hb.out hbg.out 4).trans e_4) rfl rfl rfl rfl ?_
        intro w6 h6
        simp only [putAll, List.setIfInBounds_toArray, List.set_cons_succ, List.set_cons_zero]
        go_wp2_with fail
        go_ret
        exact StepPost.yes HP.out rfl ((U1.out.of (drewN_below2 _ _)).trans (h5.trans h6))
set_option maxHeartbeats 4000000 in
theorem load_step (H : StepIn w g T V S p t s e) : Calls Tryz.prog 145 #[.pointer (some ⟨g, 0, none⟩), .pointer (some ⟨g, 69 + t * 71, none⟩), .int .i64 (s : Int), evV e] w (StepPost w g T V S p (loadP p t s e)) := by
  obtain ⟨hc, ok, ht, hs, hth, hpl, hv⟩ := H
  obtain ⟨kd, th, tx, pl, v, x, y⟩ := e
  simp only at hth hpl hv
  have HTH := Lib.hid hth
  clear hth
  have hg := hc.lt
  have i1 : (0 : Int) ≤ (s : Int) := by omega
  have i2 : (s : Int) < 32 := by omega
  have U1 : Hid (UpdC w g T V S p (w.alloc (.cells #[.int .u8 kd, .int .i64 th, .int .i64 tx, .int .i64 pl, .int .i64 v, .int .i64 x, .int .u8 y] 50))) := (UpdC.refl hc).alloc _
  have E1 : Hid (∀ i, (w.alloc (.cells #[.int .u8 kd, .int .i64 th, .int .i64 tx, .int .i64 pl, .int .i64 v, .int .i64 x, .int .u8 y] 50)).cell? ⟨w.heap.size, i, none⟩ = (#[.int .u8 kd, .int .i64 th, .int .i64 tx, .int .i64 pl, .int .i64 v, .int .i64 x, .int .u8 y] : Array Value)[i]?) := fun i => World.cell?_alloc_mark w _ _ (0, 0) i
  have hb : Hid (w.heap.size < (w.alloc (.cells #[.int .u8 kd, .int .i64 th, .int .i64 tx, .int .i64 pl, .int .i64 v, .int .i64 x, .int .u8 y] 50)).heap.size) := by show _ < _; simp
  have hbg : Hid (w.heap.size ≠ g) := by show _ ≠ _; omega
  have c_pos := hc.pos ht
  unfold evV
  simp only
  by_cases h1 : (s : Int) = p.pos t
  rotate_left
  · have e1 : ((s : Int) != p.pos t) = true := by simp [h1]
    have HP : Hid (loadP p t s ⟨kd, th, tx, pl, v, x, y⟩ = none) := if_pos (.inl h1)
    clear h1 hc
    go_enter Tryz.func145, Tryz.ntmps145
    go_wp2_with fail
    go_ret
    exact StepPost.no HP.out rfl U1.out
  · have HS := Lib.hid (still_any U1.out.at' ht hs h1.symm)
    rw [← h1] at c_pos
    have hcase : stillP p t = false ∨ stillP p t = true := by cases stillP p t <;> simp
    rcases hcase with h2 | h2
    · rw [h2] at HS
      have HP : Hid (loadP p t s ⟨kd, th, tx, pl, v, x, y⟩ = none) := if_pos (.inr h2)
      clear h1 h2 hc
      go_enter Tryz.func145, Tryz.ntmps145
      go_wp2_with fail
      refine HS.out.mono ?_
      rintro e w1 ⟨rfl, n1, rfl⟩
      go_wp2_with fail
      go_ret
      exact StepPost.no HP.out rfl (U1.out.of (drewN_below2 _ _))
    · rw [h2] at HS
      have HP : Hid (loadP p t s ⟨kd, th, tx, pl, v, x, y⟩ = some { p with wh := upN p.wh t 1, rd := upN p.rd t (upN (p.rd t) s true) }) := if_neg (by simp [h1, h2])
      clear h1 h2 hc
      go_enter Tryz.func145, Tryz.ntmps145
      go_wp2_with fail
      refine HS.out.mono ?_
      rintro e w1 ⟨rfl, n1, rfl⟩
      go_wp2_with fail
      refine rgLoad3 rfl _ (by simp) _ g t s _ p T V S ht hs (U1.out.of (drewN_below2 _ _)).at' hb.out hbg.out rfl rfl rfl rfl ?_
      intro w5 h5
      simp only [putAll, List.setIfInBounds_toArray, List.set_cons_succ, List.set_cons_zero]
      go_wp2_with fail
      go_ret
      exact StepPost.yes HP.out rfl ((U1.out.of (drewN_below2 _ _)).trans h5)
set_option maxHeartbeats 4000000 in
theorem lock_step (H : StepIn w g T V S p t s e) : Calls Tryz.prog 139 #[.pointer (some ⟨g, 0, none⟩), .pointer (some ⟨g, 69 + t * 71, none⟩), .int .i64 (s : Int), evV e] w (StepPost w g T V S p (lockP p t s e)) := by
  obtain ⟨hc, ok, ht, hs, hth, hpl, hv⟩ := H
  obtain ⟨kd, th, tx, pl, v, x, y⟩ := e
  simp only at hth hpl hv
  have HTH := Lib.hid hth
  clear hth
  have hg := hc.lt
  have i1 : (0 : Int) ≤ (s : Int) := by omega
  have i2 : (s : Int) < 32 := by omega
  have U1 : Hid (UpdC w g T V S p (w.alloc (.cells #[.int .u8 kd, .int .i64 th, .int .i64 tx, .int .i64 pl, .int .i64 v, .int .i64 x, .int .u8 y] 50))) := (UpdC.refl hc).alloc _
  have E1 : Hid (∀ i, (w.alloc (.cells #[.int .u8 kd, .int .i64 th, .int .i64 tx, .int .i64 pl, .int .i64 v, .int .i64 x, .int .u8 y] 50)).cell? ⟨w.heap.size, i, none⟩ = (#[.int .u8 kd, .int .i64 th, .int .i64 tx, .int .i64 pl, .int .i64 v, .int .i64 x, .int .u8 y] : Array Value)[i]?) := fun i => World.cell?_alloc_mark w _ _ (0, 0) i
  have hb : Hid (w.heap.size < (w.alloc (.cells #[.int .u8 kd, .int .i64 th, .int .i64 tx, .int .i64 pl, .int .i64 v, .int .i64 x, .int .u8 y] 50)).heap.size) := by show _ < _; simp
  have hbg : Hid (w.heap.size ≠ g) := by show _ ≠ _; omega
  have c_last := hc.last ht
  have c_own := hc.own hs
  unfold evV
  simp only
  by_cases h1 : (s : Int) ≤ p.last t
  · have e1 : decide ((s : Int) ≤ p.last t) = true := by simp [h1]
    have HP : Hid (lockP p t s ⟨kd, th, tx, pl, v, x, y⟩ = none) := if_pos (.inl h1)
    clear hc
    go_enter Tryz.func139, Tryz.ntmps139
    go_wp2_with fail
    go_ret
    exact StepPost.no HP.out rfl U1.out
  · have e1 : decide ((s : Int) ≤ p.last t) = false := by simp [h1]
    by_cases h2 : p.own s = -1
    rotate_left
    · have e2 : (p.own s != -1) = true := by simp [h2]
      have HP : Hid (lockP p t s ⟨kd, th, tx, pl, v, x, y⟩ = none) := if_pos (.inr h2)
      clear h2 hc
      go_enter Tryz.func139, Tryz.ntmps139
      go_wp2_with fail
      go_ret
      exact StepPost.no HP.out rfl U1.out
    · have e2 : (p.own s != -1) = false := by simp [h2]
      have HP : Hid (lockP p t s ⟨kd, th, tx, pl, v, x, y⟩ = some { p with own := upN p.own s th, wh := upN p.wh t 3, last := upN p.last t s }) := if_neg (by simp [h2]; omega)
      clear h2 hc
      go_enter Tryz.func139, Tryz.ntmps139
      go_wp2_with fail
      refine rgLock3 rfl _ (by simp) _ g t s _ p T V S ht hs U1.out.at' hb.out hbg.out th (E1.out 1) rfl rfl rfl rfl ?_
      intro w5 h5
      simp only [putAll, List.setIfInBounds_toArray, List.set_cons_succ, List.set_cons_zero]
      have k1 := h5.at'.wh ht
      have k2 := h5.at'.last ht
      have f1 := h5.at'.fr (69 + t * 71)
      have f2 := h5.at'.fr (69 + t * 71 + 70)
      go_wp2_with fail
      go_ret
      exact StepPost.yes HP.out rfl (U1.out.trans ((h5.wh ht 3).last ht s))
end
end Go.Proofs.YteigglhhnemngaaGreatDoor
namespace Go.Proofs.YteigglhhnemngaaGreatDoor
set_option maxRecDepth 100000
open Go.RowKit Go.Deep
set_option linter.unusedVariables false
set_option linter.unusedSimpArgs false
theorem wpList_builtS {P : Program} {ops : Array Oper} {rest : List Oper} {o : Oper} {a : Act} {w : World} {Q : Exit → Act → World → Prop} (hg : o.guard = none) (t : TypeId) (parts : Array (Nat × Operand)) (ho : o.op = .build t parts) (cs : Array Value)
    (hf : P.built t (parts.map fun (i, x) => (i, a.eval x)).toList = some cs)
    (h : wpList P ops Q rest (a.put o.dst (.agg cs)) w) : wpList P ops Q (o :: rest) a w :=
  wpList_build hg t parts ho (by rw [hf]; rfl) (by rw [hf]; exact h)
def zset : Array Value := rowV 32 fun _ => .bool false
theorem zset_one : zset.all (·.oneCell') = true := by
  refine Array.all_eq_true_iff_forall_mem.2 fun x hx => ?_
  unfold zset rowV at hx
  simp at hx
  obtain ⟨_, rfl⟩ := hx
  rfl
theorem UpdC.setZ {w w' : World} {g t : Nat} {T V S : Int} {p : PS} (h : UpdC w g T V S p w') (ht : t < 6) : UpdC w g T V S { p with rd := upN p.rd t (fun _ => false) } (w'.setCells g (69 + t * 71 + 6) zset.toList) := by
  have hl : zset.toList.length = 32 := by simp [zset, rowV]
  refine h.setCells (by omega) (fun j x hj => ?_) (fun j hj hr => ?_)
  · have hj32 : j < 32 := by rw [← hl]; exact (List.getElem?_eq_some_iff.1 hj).1
    have h2 : zset[j]? = some x := by simpa using hj
    unfold zset at h2
    rw [rowV_get _ _ hj32] at h2
    cases h2
    rw [show 69 + t * 71 + 6 + j = 69 + t * 71 + (6 + j) by omega, c_thr ht (by omega), if_neg (by omega), if_neg (by omega), if_neg (by omega), if_neg (by omega), if_neg (by omega), if_neg (by omega), if_pos (by omega)]
    simp only [upN_same]
  · rw [hl] at hr
    clear hl
    unfold cellP
    by_cases h69 : j < 69
    · simp only [h69, if_true]
    · by_cases hq : (j - 69) / 71 = t
      · by_cases h6 : (j - 69) % 71 < 6
        · have : (j - 69) % 71 = 0 ∨ (j - 69) % 71 = 1 ∨ (j - 69) % 71 = 2 ∨ (j - 69) % 71 = 3 ∨ (j - 69) % 71 = 4 ∨ (j - 69) % 71 = 5 := by omega
          rcases this with h | h | h | h | h | h <;> simp [h]
        · have : ¬ (j - 69) % 71 < 38 := by omega
          simp only [this, if_false]
      · simp only [upN, hq, if_false]
section
variable {w : World} {g : Nat} {T V S : Int} {p : PS} {t s : Nat} {e : Ev}
set_option maxHeartbeats 4000000 in
theorem bump_step (H : StepIn w g T V S p t s e) : Calls Tryz.prog 147 #[.pointer (some ⟨g, 0, none⟩), .pointer (some ⟨g, 69 + t * 71, none⟩), .int .i64 (s : Int), evV e] w (StepPost w g T V S p (bumpPS p t s e)) := by
  obtain ⟨hc, ok, ht, hs, hth, hpl, hv⟩ := H
  obtain ⟨kd, th, tx, pl, v, x, y⟩ := e
  simp only at hth hpl hv
  have HTH := Lib.hid hth
  clear hth
  have hg := hc.lt
  have i1 : (0 : Int) ≤ (s : Int) := by omega
  have i2 : (s : Int) < 32 := by omega
  have U1 : Hid (UpdC w g T V S p (w.alloc (.cells #[.int .u8 kd, .int .i64 th, .int .i64 tx, .int .i64 pl, .int .i64 v, .int .i64 x, .int .u8 y] 50))) := (UpdC.refl hc).alloc _
  have E1 : Hid (∀ i, (w.alloc (.cells #[.int .u8 kd, .int .i64 th, .int .i64 tx, .int .i64 pl, .int .i64 v, .int .i64 x, .int .u8 y] 50)).cell? ⟨w.heap.size, i, none⟩ = (#[.int .u8 kd, .int .i64 th, .int .i64 tx, .int .i64 pl, .int .i64 v, .int .i64 x, .int .u8 y] : Array Value)[i]?) := fun i => World.cell?_alloc_mark w _ _ (0, 0) i
  have hb : Hid (w.heap.size < (w.alloc (.cells #[.int .u8 kd, .int .i64 th, .int .i64 tx, .int .i64 pl, .int .i64 v, .int .i64 x, .int .u8 y] 50)).heap.size) := by show _ < _; simp
  have hbg : Hid (w.heap.size ≠ g) := by show _ ≠ _; omega
  have hrv := ok.rv t
  unfold evV
  simp only
  clear hc
  go_enter Tryz.func147, Tryz.ntmps147
  go_wp2_with fail
  generalize w.alloc (.cells #[.int .u8 kd, .int .i64 th, .int .i64 tx, .int .i64 pl, .int .i64 v, .int .i64 x, .int .u8 y] 50) = W1 at U1 E1 hb ⊢
  have e_4 := E1.out 4
  simp only [List.getElem?_toArray, List.getElem?_cons_zero, List.getElem?_cons_succ] at e_4
  have c_clk := (U1.out.at').clk
  have fz := (U1.out.at').fr
  by_cases h1 : v ≤ p.clk
  · have e1 : decide (v ≤ p.clk) = true := by simp [h1]
    have HP : Hid (bumpPS p t s ⟨kd, th, tx, pl, v, x, y⟩ = none) := if_pos h1
    go_quiet (fail)
    go_wp2_with fail
    go_ret
    exact StepPost.no HP.out rfl (U1.out.of (drewN_below2 _ _))
  · have e1 : decide (v ≤ p.clk) = false := by simp [h1]
    go_quiet (fail)
    have fz4 := fz 4
    clear fz
    go_wp2_with fail
    refine rgBump4 rfl _ (by simp) _ g t s _ { p with clk := v } T V S ht hs (((UpdC.refl U1.out.at').of (drewN_below2 _ _)).clk v).at' (Nat.lt_of_lt_of_le hb.out (((UpdC.refl U1.out.at').of (drewN_below2 _ _)).clk v).size) hbg.out v (((((UpdC.refl U1.out.at').of (drewN_below2 _ _)).clk v).cellE hb.out hbg.out 4).trans e_4) rfl rfl rfl rfl ?_
    intro w5 h5
    simp only [putAll, List.setIfInBounds_toArray, List.set_cons_succ, List.set_cons_zero]
    have U5 : Hid (UpdC w g T V S { p with clk := v, wh := upN p.wh t 4, wv := upN p.wv t v, last := upN p.last t (-1) } w5) := ((U1.out.of (drewN_below2 _ _)).clk v).trans h5
    have k1 := h5.at'.wv ht
    have k2 := h5.at'.rv ht
    simp only [upN_same] at k1 k2
    have C5 := Lib.hid h5.at'
    clear e_4 h5 c_clk fz4
    by_cases h2 : v = p.rv t + 1
    · have e2 : (v == p.rv t + 1) = true := by simp [h2]
      have HP : Hid (bumpPS p t s ⟨kd, th, tx, pl, v, x, y⟩ = some { p with clk := v, wh := upN p.wh t 4, wv := upN p.wv t v, last := upN p.last t (-1), rd := upN p.rd t (fun _ => false) }) := by show _ = _; unfold bumpPS; rw [if_neg (by simpa using h1)]; simp only [if_pos h2]
      clear h2 h1 e1
      go_wp2_with fail
      go_quiet (fail)
      go_wp2_with (first | (refine wpList_builtS rfl 156 _ rfl zset (by kernel_rfl) ?_) | (refine wpList_store_mid rfl 156 _ _ rfl g (69 + t * 71 + 6) zset rfl rfl ((U5.out.of (drewN_below2 _ _)).at'.there (by show 69 + t * 71 + 6 + zset.size ≤ 495; rw [show zset.size = 32 from rowV_size _ _]; omega)) (by rw [show zset.size = 32 from rowV_size _ _]; kernel_rfl) zset_one ?_) | fail)
      go_ret
      exact StepPost.yes HP.out rfl ((U5.out.of (drewN_below2 _ _)).setZ ht)
    · have e2 : (v == p.rv t + 1) = false := by simp [h2]
      have HP : Hid (bumpPS p t s ⟨kd, th, tx, pl, v, x, y⟩ = some { p with clk := v, wh := upN p.wh t 4, wv := upN p.wv t v, last := upN p.last t (-1) }) := by show _ = _; unfold bumpPS; rw [if_neg (by simpa using h1)]; simp only [if_neg h2]
      clear h2 h1 e1
      go_wp2_with fail
      go_quiet (fail)
      go_wp2_with fail
      go_ret
      exact StepPost.yes HP.out rfl (U5.out.of (drewN_below2 _ _))
set_option maxHeartbeats 4000000 in
theorem check_step (H : StepIn w g T V S p t s e) : Calls Tryz.prog 149 #[.pointer (some ⟨g, 0, none⟩), .pointer (some ⟨g, 69 + t * 71, none⟩), .int .i64 (s : Int), evV e] w (StepPost w g T V S p (checkP p t s e)) := by
  obtain ⟨hc, ok, ht, hs, hth, hpl, hv⟩ := H
  obtain ⟨kd, th, tx, pl, v, x, y⟩ := e
  simp only at hth hpl hv
  have HTH := Lib.hid hth
  clear hth
  have hg := hc.lt
  have i1 : (0 : Int) ≤ (s : Int) := by omega
  have i2 : (s : Int) < 32 := by omega
  have U1 : Hid (UpdC w g T V S p (w.alloc (.cells #[.int .u8 kd, .int .i64 th, .int .i64 tx, .int .i64 pl, .int .i64 v, .int .i64 x, .int .u8 y] 50))) := (UpdC.refl hc).alloc _
  have E1 : Hid (∀ i, (w.alloc (.cells #[.int .u8 kd, .int .i64 th, .int .i64 tx, .int .i64 pl, .int .i64 v, .int .i64 x, .int .u8 y] 50)).cell? ⟨w.heap.size, i, none⟩ = (#[.int .u8 kd, .int .i64 th, .int .i64 tx, .int .i64 pl, .int .i64 v, .int .i64 x, .int .u8 y] : Array Value)[i]?) := fun i => World.cell?_alloc_mark w _ _ (0, 0) i
  have hb : Hid (w.heap.size < (w.alloc (.cells #[.int .u8 kd, .int .i64 th, .int .i64 tx, .int .i64 pl, .int .i64 v, .int .i64 x, .int .u8 y] 50)).heap.size) := by show _ < _; simp
  have hbg : Hid (w.heap.size ≠ g) := by show _ ≠ _; omega
  have hla := ok.last t
  have fz1 := hc.fr (69 + t * 71 + 70)
  unfold evV
  simp only
  have HN := Lib.hid (next_any U1.out.at' ht hla)
  have HOU : Hid (∀ w1, Below (w.alloc (.cells #[.int .u8 kd, .int .i64 th, .int .i64 tx, .int .i64 pl, .int .i64 v, .int .i64 x, .int .u8 y] 50)).heap.size (w.alloc (.cells #[.int .u8 kd, .int .i64 th, .int .i64 tx, .int .i64 pl, .int .i64 v, .int .i64 x, .int .u8 y] 50)) w1 → _) := fun w1 h1 => outdated_any (U1.out.of h1).at' ht hs th
  obtain ⟨n, hn⟩ : ∃ n, n = nextP p t := ⟨_, rfl⟩
  have HNN := Lib.hid hn
  rw [← hn] at HN
  by_cases h1 : (s : Int) = n
  rotate_left
  · have e1 : ((s : Int) != n) = true := by simp [h1]
    have HP : Hid (checkP p t s ⟨kd, th, tx, pl, v, x, y⟩ = none) := if_pos (.inl (by rw [← hn]; exact h1))
    clear h1 hc hn
    go_enter Tryz.func149, Tryz.ntmps149
    go_wp2_with fail
    refine HN.out.mono ?_
    rintro e w1 ⟨rfl, rfl⟩
    go_wp2_with fail
    go_ret
    exact StepPost.no HP.out rfl U1.out
  · have e1 : ((s : Int) != n) = false := by simp [h1]
    have hcase : oldP p t s th = true ∨ oldP p t s th = false := by cases oldP p t s th <;> simp
    have hq : ¬ (oldP p t s th = true) → checkP p t s ⟨kd, th, tx, pl, v, x, y⟩ = some { p with last := upN p.last t s } := fun h => if_neg (by rw [← hn]; simp [h1, h])
    rcases hcase with h2 | h2
    · rw [h2] at HOU
      have HP : Hid (checkP p t s ⟨kd, th, tx, pl, v, x, y⟩ = none) := if_pos (.inr h2)
      clear h1 h2 hc hn hq
      go_enter Tryz.func149, Tryz.ntmps149
      go_wp2_with fail
      refine HN.out.mono ?_
      rintro e w1 ⟨rfl, rfl⟩
      go_wp2_with fail
      refine (HOU.out _ (Below.refl _ _)).mono ?_
      rintro e w2 ⟨rfl, b2⟩
      go_wp2_with fail
      go_ret
      exact StepPost.no HP.out rfl (U1.out.of b2)
    · rw [h2] at HOU
      have HP : Hid (checkP p t s ⟨kd, th, tx, pl, v, x, y⟩ = some { p with last := upN p.last t s }) := hq (by rw [h2]; simp)
      clear h1 h2 hc hn hq
      go_enter Tryz.func149, Tryz.ntmps149
      go_wp2_with fail
      refine HN.out.mono ?_
      rintro e w1 ⟨rfl, rfl⟩
      go_wp2_with fail
      refine (HOU.out _ (Below.refl _ _)).mono ?_
      rintro e w2 ⟨rfl, b2⟩
      have U2 := Lib.hid (U1.out.of b2)
      have k1 := U2.out.at'.last ht
      have f1 := U2.out.at'.fr (69 + t * 71 + 70)
      clear b2
      go_wp2_with fail
      go_ret
      exact StepPost.yes HP.out rfl (U2.out.last ht s)
set_option maxHeartbeats 4000000 in
theorem commit_step (H : StepIn w g T V S p t s e) : Calls Tryz.prog 150 #[.pointer (some ⟨g, 0, none⟩), .pointer (some ⟨g, 69 + t * 71, none⟩), .int .i64 (s : Int), evV e] w (StepPost w g T V S p (commitPS p t s e)) := by
  obtain ⟨hc, ok, ht, hs, hth, hpl, hv⟩ := H
  obtain ⟨kd, th, tx, pl, v, x, y⟩ := e
  simp only at hth hpl hv
  have HTH := Lib.hid hth
  clear hth
  have hg := hc.lt
  have i1 : (0 : Int) ≤ (s : Int) := by omega
  have i2 : (s : Int) < 32 := by omega
  have U1 : Hid (UpdC w g T V S p (w.alloc (.cells #[.int .u8 kd, .int .i64 th, .int .i64 tx, .int .i64 pl, .int .i64 v, .int .i64 x, .int .u8 y] 50))) := (UpdC.refl hc).alloc _
  have E1 : Hid (∀ i, (w.alloc (.cells #[.int .u8 kd, .int .i64 th, .int .i64 tx, .int .i64 pl, .int .i64 v, .int .i64 x, .int .u8 y] 50)).cell? ⟨w.heap.size, i, none⟩ = (#[.int .u8 kd, .int .i64 th, .int .i64 tx, .int .i64 pl, .int .i64 v, .int .i64 x, .int .u8 y] : Array Value)[i]?) := fun i => World.cell?_alloc_mark w _ _ (0, 0) i
  have hb : Hid (w.heap.size < (w.alloc (.cells #[.int .u8 kd, .int .i64 th, .int .i64 tx, .int .i64 pl, .int .i64 v, .int .i64 x, .int .u8 y] 50)).heap.size) := by show _ < _; simp
  have hbg : Hid (w.heap.size ≠ g) := by show _ ≠ _; omega
  have hla := ok.last t
  unfold evV
  simp only
  clear hc
  go_enter Tryz.func150, Tryz.ntmps150
  go_wp2_with fail
  generalize w.alloc (.cells #[.int .u8 kd, .int .i64 th, .int .i64 tx, .int .i64 pl, .int .i64 v, .int .i64 x, .int .u8 y] 50) = W1 at U1 E1 hb ⊢
  have e_4 := E1.out 4
  simp only [List.getElem?_toArray, List.getElem?_cons_zero, List.getElem?_cons_succ] at e_4
  have c_wv := (U1.out.at').wv ht
  have fz := (U1.out.at').fr
  have HN : Hid (∀ w1, Below W1.heap.size W1 w1 → Calls Tryz.prog 160 #[.pointer (some ⟨g, 69 + t * 71, none⟩)] w1 fun e w' => e = .returned (.int .i64 (nextP p t)) ∧ w1 = w') := fun w1 h1 => next_any (U1.out.of h1).at' ht hla
  have HD : Hid (∀ w1, Below W1.heap.size W1 w1 → w1.cell? ⟨w.heap.size, 4, none⟩ = some (.int .i64 v) ∧ w1.cell? ⟨g, 69 + t * 71 + 3, none⟩ = some (.int .i64 (p.wv t))) := fun w1 h1 => ⟨(h1.cell (p := ⟨w.heap.size, 4, none⟩) hb.out).trans e_4, (U1.out.of h1).at'.wv ht⟩
  obtain ⟨n, hn⟩ : ∃ n, n = nextP p t := ⟨_, rfl⟩
  rw [← hn] at HN
  by_cases h1 : n = -1
  rotate_left
  · have e1 : (n != -1) = true := by simp [h1]
    have HP : Hid (commitPS p t s ⟨kd, th, tx, pl, v, x, y⟩ = none) := if_pos (.inl (by rw [← hn]; exact h1))
    clear h1 hn fz
    refine rgComA rfl _ (by simp) _ g _ _ n e1 HN rfl rfl rfl ?_
    intro w5 h5
    simp only [putAll, List.setIfInBounds_toArray, List.set_cons_succ, List.set_cons_zero]
    go_wp2_with fail
    go_ret
    exact StepPost.no HP.out rfl (U1.out.of h5)
  · have e1 : (n != -1) = false := by simp [h1]
    by_cases h2 : v = p.wv t
    rotate_left
    · have e2 : (v != p.wv t) = true := by simp [h2]
      have HP : Hid (commitPS p t s ⟨kd, th, tx, pl, v, x, y⟩ = none) := if_pos (.inr h2)
      clear h1 h2 hn fz
      refine rgComB rfl _ (by simp) _ g _ _ n v _ e1 true e2 HD.out HN rfl rfl rfl ?_
      intro w5 h5
      simp only [putAll, List.setIfInBounds_toArray, List.set_cons_succ, List.set_cons_zero]
      go_wp2_with fail
      go_ret
      exact StepPost.no HP.out rfl (U1.out.of h5)
    · have e2 : (v != p.wv t) = false := by simp [h2]
      have HP : Hid (commitPS p t s ⟨kd, th, tx, pl, v, x, y⟩ = some { p with last := upN p.last t (-1), wh := upN p.wh t 5 }) := if_neg (by rw [← hn]; simp [h1, h2])
      clear h1 h2 hn fz
      refine rgComB rfl _ (by simp) _ g _ _ n v _ e1 false e2 HD.out HN rfl rfl rfl ?_
      intro w5 h5
      simp only [putAll, List.setIfInBounds_toArray, List.set_cons_succ, List.set_cons_zero]
      have U5 := Lib.hid (U1.out.of h5)
      have k1 := U5.out.at'.last ht
      have f1 := U5.out.at'.fr (69 + t * 71 + 70)
      go_wp2_with fail
      refine (goes_any (U5.out.last ht (-1)).at' ht 5).mono ?_
      rintro e w2 ⟨rfl, hu⟩
      go_wp2_with fail
      go_ret
      exact StepPost.yes HP.out rfl ((U5.out.last ht (-1)).trans hu)
set_option maxHeartbeats 4000000 in
theorem store_step (H : StepIn w g T V S p t s e) : Calls Tryz.prog 152 #[.pointer (some ⟨g, 0, none⟩), .pointer (some ⟨g, 69 + t * 71, none⟩), .int .i64 (s : Int), evV e] w (StepPost w g T V S p (storeP p t s e)) := by
  obtain ⟨hc, ok, ht, hs, hth, hpl, hv⟩ := H
  obtain ⟨kd, th, tx, pl, v, x, y⟩ := e
  simp only at hth hpl hv
  have HTH := Lib.hid hth
  clear hth
  have hg := hc.lt
  have i1 : (0 : Int) ≤ (s : Int) := by omega
  have i2 : (s : Int) < 32 := by omega
  have U1 : Hid (UpdC w g T V S p (w.alloc (.cells #[.int .u8 kd, .int .i64 th, .int .i64 tx, .int .i64 pl, .int .i64 v, .int .i64 x, .int .u8 y] 50))) := (UpdC.refl hc).alloc _
  have E1 : Hid (∀ i, (w.alloc (.cells #[.int .u8 kd, .int .i64 th, .int .i64 tx, .int .i64 pl, .int .i64 v, .int .i64 x, .int .u8 y] 50)).cell? ⟨w.heap.size, i, none⟩ = (#[.int .u8 kd, .int .i64 th, .int .i64 tx, .int .i64 pl, .int .i64 v, .int .i64 x, .int .u8 y] : Array Value)[i]?) := fun i => World.cell?_alloc_mark w _ _ (0, 0) i
  have hb : Hid (w.heap.size < (w.alloc (.cells #[.int .u8 kd, .int .i64 th, .int .i64 tx, .int .i64 pl, .int .i64 v, .int .i64 x, .int .u8 y] 50)).heap.size) := by show _ < _; simp
  have hbg : Hid (w.heap.size ≠ g) := by show _ ≠ _; omega
  unfold evV
  simp only
  clear hc
  go_enter Tryz.func152, Tryz.ntmps152
  go_wp2_with fail
  generalize w.alloc (.cells #[.int .u8 kd, .int .i64 th, .int .i64 tx, .int .i64 pl, .int .i64 v, .int .i64 x, .int .u8 y] 50) = W1 at U1 E1 hb ⊢
  have e_1 := E1.out 1
  have e_3 := E1.out 3
  simp only [List.getElem?_toArray, List.getElem?_cons_zero, List.getElem?_cons_succ] at e_1 e_3
  have c_own := (U1.out.at').own hs
  have c_last := (U1.out.at').last ht
  by_cases h1 : pl ≤ p.last t
  · have e1 : decide (pl ≤ p.last t) = true := by simp [h1]
    have HP : Hid (storeP p t s ⟨kd, th, tx, pl, v, x, y⟩ = none) := if_pos (.inl h1)
    go_quiet (fail)
    go_wp2_with fail
    go_ret
    exact StepPost.no HP.out rfl (U1.out.of (drewN_below2 _ _))
  · have e1 : decide (pl ≤ p.last t) = false := by simp [h1]
    by_cases h2 : p.own s = th
    rotate_left
    · have e2 : (p.own s != th) = true := by simp [h2]
      have HP : Hid (storeP p t s ⟨kd, th, tx, pl, v, x, y⟩ = none) := if_pos (.inr h2)
      clear h2
      go_quiet (fail)
      go_wp2_with fail
      go_ret
      exact StepPost.no HP.out rfl (U1.out.of (drewN_below2 _ _))
    · have e2 : (p.own s != th) = false := by simp [h2]
      have HP : Hid (storeP p t s ⟨kd, th, tx, pl, v, x, y⟩ = some { p with last := upN p.last t pl, st := upN p.st t (upN (p.st t) s true) }) := if_neg (by simp [h2]; omega)
      clear h2
      go_quiet (fail)
      go_wp2_with fail
      refine rgStore3 rfl _ (by simp) _ g t s _ p T V S ht hs (U1.out.of (drewN_below2 _ _)).at' hb.out hbg.out pl e_3 rfl rfl rfl rfl ?_
      intro w5 h5
      simp only [putAll, List.setIfInBounds_toArray, List.set_cons_succ, List.set_cons_zero]
      go_wp2_with fail
      go_ret
      exact StepPost.yes HP.out rfl ((U1.out.of (drewN_below2 _ _)).trans h5)
end
end Go.Proofs.YteigglhhnemngaaGreatDoor
