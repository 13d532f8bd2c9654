/-
  CONTRACTS OF PACKAGE shape: the checker's steps, one by one. Laid by gen/gen_so.py. Conditions: StepIn.
-/
import Derived.Test.YtjennlkindbpoaaDoorSp
import Derived.BigRegion
namespace Go.Proofs.YtjennlkindbpoaaDoor
set_option maxRecDepth 100000
open Go.RowKit Go.Deep
set_option linter.unusedVariables false
set_option linter.unusedSimpArgs false
theorem drewN_below2 (w : World) (n : Nat) : Below w.heap.size w (w.drewN n) := ⟨rfl, rfl, rfl, Nat.le_refl _, fun _ _ => rfl⟩
theorem ChkAt.clk {w : World} {g : Nat} {T V S : Int} {p : PS} (h : ChkAt w g T V S p) : w.cell? ⟨g, 4, none⟩ = some (.int .i64 p.clk) := h.cell (i := 4) (by omega)
section
variable {w : World} {g : Nat} {T V S : Int} {p : PS} {t s : Nat} {e : Ev}
set_option maxHeartbeats 4000000 in
theorem wait_step (H : StepIn w g T V S p t s e) : Calls Tryd.prog 61 #[.pointer (some ⟨g, 0, none⟩), .pointer (some ⟨g, 69 + t * 71, none⟩), .int .i64 (s : Int), evV e] w (StepPost w g T V S p (waitP p t s e)) := by
  obtain ⟨hc, ok, ht, hs, hth, hpl, hv⟩ := H
  obtain ⟨kd, th, tx, pl, v, x, y⟩ := e
  simp only at hth hpl hv
  have HTH := Lib.hid hth
  clear hth
  have hg := hc.lt
  have i1 : (0 : Int) ≤ (s : Int) := by omega
  have i2 : (s : Int) < 32 := by omega
  have U1 : Hid (UpdC w g T V S p (w.alloc (.cells #[.int .u8 kd, .int .i64 th, .int .i64 tx, .int .i64 pl, .int .i64 v, .int .i64 x, .int .u8 y] 27))) := (UpdC.refl hc).alloc _
  have E1 : Hid (∀ i, (w.alloc (.cells #[.int .u8 kd, .int .i64 th, .int .i64 tx, .int .i64 pl, .int .i64 v, .int .i64 x, .int .u8 y] 27)).cell? ⟨w.heap.size, i, none⟩ = (#[.int .u8 kd, .int .i64 th, .int .i64 tx, .int .i64 pl, .int .i64 v, .int .i64 x, .int .u8 y] : Array Value)[i]?) := fun i => World.cell?_alloc_mark w _ _ (0, 0) i
  have hb : Hid (w.heap.size < (w.alloc (.cells #[.int .u8 kd, .int .i64 th, .int .i64 tx, .int .i64 pl, .int .i64 v, .int .i64 x, .int .u8 y] 27)).heap.size) := by show _ < _; simp
  have hbg : Hid (w.heap.size ≠ g) := by show _ ≠ _; omega
  unfold evV
  simp only
  clear hc
  go_enter Tryd.func61, Tryd.ntmps61
  go_wp2_with fail
  refine (goes_any U1.out.at' ht 9).mono ?_
  rintro e w1 ⟨rfl, hu⟩
  go_wp2_with fail
  go_ret
  exact StepPost.yes rfl rfl (U1.out.trans hu)
set_option maxHeartbeats 4000000 in
theorem full_step (H : StepIn w g T V S p t s e) : Calls Tryd.prog 68 #[.pointer (some ⟨g, 0, none⟩), .pointer (some ⟨g, 69 + t * 71, none⟩), .int .i64 (s : Int), evV e] w (StepPost w g T V S p (fullP p t s e)) := by
  obtain ⟨hc, ok, ht, hs, hth, hpl, hv⟩ := H
  obtain ⟨kd, th, tx, pl, v, x, y⟩ := e
  simp only at hth hpl hv
  have HTH := Lib.hid hth
  clear hth
  have hg := hc.lt
  have i1 : (0 : Int) ≤ (s : Int) := by omega
  have i2 : (s : Int) < 32 := by omega
  have U1 : Hid (UpdC w g T V S p (w.alloc (.cells #[.int .u8 kd, .int .i64 th, .int .i64 tx, .int .i64 pl, .int .i64 v, .int .i64 x, .int .u8 y] 27))) := (UpdC.refl hc).alloc _
  have E1 : Hid (∀ i, (w.alloc (.cells #[.int .u8 kd, .int .i64 th, .int .i64 tx, .int .i64 pl, .int .i64 v, .int .i64 x, .int .u8 y] 27)).cell? ⟨w.heap.size, i, none⟩ = (#[.int .u8 kd, .int .i64 th, .int .i64 tx, .int .i64 pl, .int .i64 v, .int .i64 x, .int .u8 y] : Array Value)[i]?) := fun i => World.cell?_alloc_mark w _ _ (0, 0) i
  have hb : Hid (w.heap.size < (w.alloc (.cells #[.int .u8 kd, .int .i64 th, .int .i64 tx, .int .i64 pl, .int .i64 v, .int .i64 x, .int .u8 y] 27)).heap.size) := by show _ < _; simp
  have hbg : Hid (w.heap.size ≠ g) := by show _ ≠ _; omega
  unfold evV
  simp only
  clear hc
  go_enter Tryd.func68, Tryd.ntmps68
  go_wp2_with fail
  refine (goes_any U1.out.at' ht 8).mono ?_
  rintro e w1 ⟨rfl, hu⟩
  go_wp2_with fail
  go_ret
  exact StepPost.yes rfl rfl (U1.out.trans hu)
set_option maxHeartbeats 4000000 in
theorem rest_step (H : StepIn w g T V S p t s e) : Calls Tryd.prog 60 #[.pointer (some ⟨g, 0, none⟩), .pointer (some ⟨g, 69 + t * 71, none⟩), .int .i64 (s : Int), evV e] w (StepPost w g T V S p (restP p t s e)) := by
  obtain ⟨hc, ok, ht, hs, hth, hpl, hv⟩ := H
  obtain ⟨kd, th, tx, pl, v, x, y⟩ := e
  simp only at hth hpl hv
  have HTH := Lib.hid hth
  clear hth
  have hg := hc.lt
  have i1 : (0 : Int) ≤ (s : Int) := by omega
  have i2 : (s : Int) < 32 := by omega
  have U1 : Hid (UpdC w g T V S p (w.alloc (.cells #[.int .u8 kd, .int .i64 th, .int .i64 tx, .int .i64 pl, .int .i64 v, .int .i64 x, .int .u8 y] 27))) := (UpdC.refl hc).alloc _
  have E1 : Hid (∀ i, (w.alloc (.cells #[.int .u8 kd, .int .i64 th, .int .i64 tx, .int .i64 pl, .int .i64 v, .int .i64 x, .int .u8 y] 27)).cell? ⟨w.heap.size, i, none⟩ = (#[.int .u8 kd, .int .i64 th, .int .i64 tx, .int .i64 pl, .int .i64 v, .int .i64 x, .int .u8 y] : Array Value)[i]?) := fun i => World.cell?_alloc_mark w _ _ (0, 0) i
  have hb : Hid (w.heap.size < (w.alloc (.cells #[.int .u8 kd, .int .i64 th, .int .i64 tx, .int .i64 pl, .int .i64 v, .int .i64 x, .int .u8 y] 27)).heap.size) := by show _ < _; simp
  have hbg : Hid (w.heap.size ≠ g) := by show _ ≠ _; omega
  have c_com := hc.com ht
  have fz1 := hc.fr (69 + t * 71 + 1)
  have hcm := ok.com t
  have hca := ok.came
  unfold evV
  simp only
  by_cases h1 : v = 0
  · have e1 : (v != 0) = false := by simp [h1]
    have HP : Hid (restP p t s ⟨kd, th, tx, pl, v, x, y⟩ = some { p with com := upN p.com t (p.com t + 1), wh := upN p.wh t 0 }) := if_neg (by simpa using h1)
    have U2 : Hid (UpdC w g T V S { p with com := upN p.com t (p.com t + 1) } ((w.setCell ⟨g, 69 + t * 71 + 1, none⟩ (.int .i64 (p.com t + 1))).alloc (.cells #[.int .u8 kd, .int .i64 th, .int .i64 tx, .int .i64 pl, .int .i64 v, .int .i64 x, .int .u8 y] 27))) := ((UpdC.refl hc).com ht _).alloc _
    clear h1 hc
    go_enter Tryd.func60, Tryd.ntmps60
    go_wp2_with fail
    refine (goes_any U2.out.at' ht 0).mono ?_
    rintro e w1 ⟨rfl, hu⟩
    go_wp2_with fail
    go_ret
    exact StepPost.yes HP.out rfl (U2.out.trans hu)
  · have e1 : (v != 0) = true := by simp [h1]
    have HP : Hid (restP p t s ⟨kd, th, tx, pl, v, x, y⟩ = none) := if_pos h1
    clear h1 hc
    go_enter Tryd.func60, Tryd.ntmps60
    go_wp2_with fail
    go_ret
    exact StepPost.no HP.out rfl U1.out
set_option maxHeartbeats 4000000 in
theorem begin_step (H : StepIn w g T V S p t s e) : Calls Tryd.prog 57 #[.pointer (some ⟨g, 0, none⟩), .pointer (some ⟨g, 69 + t * 71, none⟩), .int .i64 (s : Int), evV e] w (StepPost w g T V S p (beginP p t s e)) := by
  obtain ⟨hc, ok, ht, hs, hth, hpl, hv⟩ := H
  obtain ⟨kd, th, tx, pl, v, x, y⟩ := e
  simp only at hth hpl hv
  have HTH := Lib.hid hth
  clear hth
  have hg := hc.lt
  have i1 : (0 : Int) ≤ (s : Int) := by omega
  have i2 : (s : Int) < 32 := by omega
  have U1 : Hid (UpdC w g T V S p (w.alloc (.cells #[.int .u8 kd, .int .i64 th, .int .i64 tx, .int .i64 pl, .int .i64 v, .int .i64 x, .int .u8 y] 27))) := (UpdC.refl hc).alloc _
  have E1 : Hid (∀ i, (w.alloc (.cells #[.int .u8 kd, .int .i64 th, .int .i64 tx, .int .i64 pl, .int .i64 v, .int .i64 x, .int .u8 y] 27)).cell? ⟨w.heap.size, i, none⟩ = (#[.int .u8 kd, .int .i64 th, .int .i64 tx, .int .i64 pl, .int .i64 v, .int .i64 x, .int .u8 y] : Array Value)[i]?) := fun i => World.cell?_alloc_mark w _ _ (0, 0) i
  have hb : Hid (w.heap.size < (w.alloc (.cells #[.int .u8 kd, .int .i64 th, .int .i64 tx, .int .i64 pl, .int .i64 v, .int .i64 x, .int .u8 y] 27)).heap.size) := by show _ < _; simp
  have hbg : Hid (w.heap.size ≠ g) := by show _ ≠ _; omega
  unfold evV
  simp only
  clear hc
  go_enter Tryd.func57, Tryd.ntmps57
  go_wp2_with fail
  generalize w.alloc (.cells #[.int .u8 kd, .int .i64 th, .int .i64 tx, .int .i64 pl, .int .i64 v, .int .i64 x, .int .u8 y] 27) = W1 at U1 E1 hb ⊢
  have e_2 := E1.out 2
  have e_4 := E1.out 4
  simp only [List.getElem?_toArray, List.getElem?_cons_zero, List.getElem?_cons_succ] at e_2 e_4
  have c_com := (U1.out.at').com ht
  have c_clk := (U1.out.at').clk
  have fz := (U1.out.at').fr
  by_cases h1 : tx = p.com t
  rotate_left
  · have e1 : (tx != p.com t) = true := by simp [h1]
    have HP : Hid (beginP p t s ⟨kd, th, tx, pl, v, x, y⟩ = none) := if_pos (.inl h1)
    clear h1
    go_quiet (fail)
    go_wp2_with fail
    go_ret
    exact StepPost.no HP.out rfl (U1.out.of (drewN_below2 _ _))
  · have e1 : (tx != p.com t) = false := by simp [h1]
    by_cases h2 : v < p.clk
    · have e2 : decide (v < p.clk) = true := by simp [h2]
      have HP : Hid (beginP p t s ⟨kd, th, tx, pl, v, x, y⟩ = none) := if_pos (.inr h2)
      clear h1
      go_quiet (fail)
      go_wp2_with fail
      go_ret
      exact StepPost.no HP.out rfl (U1.out.of (drewN_below2 _ _))
    · have e2 : decide (v < p.clk) = false := by simp [h2]
      have HP : Hid (beginP p t s ⟨kd, th, tx, pl, v, x, y⟩ = some { p with clk := v, wh := upN p.wh t 1, rv := upN p.rv t v, wv := upN p.wv t 0, pos := upN p.pos t 0, seen := upN p.seen t 0, rd := upN p.rd t (fun _ => false), st := upN p.st t (fun _ => false), last := upN p.last t (-1) }) := if_neg (by simp [h1, h2])
      clear h1 h2
      go_quiet (fail)
      have fz4 := fz 4
      clear fz
      go_wp2_with fail
      refine rgBegin4 rfl _ (by simp) _ g t s _ { p with clk := v } T V S ht hs (((UpdC.refl U1.out.at').of (drewN_below2 _ _)).clk v).at' (Nat.lt_of_lt_of_le hb.out (((UpdC.refl U1.out.at').of (drewN_below2 _ _)).clk v).size) hbg.out v (((((UpdC.refl U1.out.at').of (drewN_below2 _ _)).clk v).cellE hb.out hbg.out 4).trans e_4) rfl rfl rfl rfl ?_
      intro w5 h5
      simp only [putAll, List.setIfInBounds_toArray, List.set_cons_succ, List.set_cons_zero]
      go_wp2_with fail
      go_ret
      exact StepPost.yes HP.out rfl (((U1.out.of (drewN_below2 _ _)).clk v).trans h5)
set_option maxHeartbeats 4000000 in
theorem look_step (H : StepIn w g T V S p t s e) : Calls Tryd.prog 58 #[.pointer (some ⟨g, 0, none⟩), .pointer (some ⟨g, 69 + t * 71, none⟩), .int .i64 (s : Int), evV e] w (StepPost w g T V S p (lookP p t s e)) := by
  obtain ⟨hc, ok, ht, hs, hth, hpl, hv⟩ := H
  obtain ⟨kd, th, tx, pl, v, x, y⟩ := e
  simp only at hth hpl hv
  have HTH := Lib.hid hth
  clear hth
  have hg := hc.lt
  have i1 : (0 : Int) ≤ (s : Int) := by omega
  have i2 : (s : Int) < 32 := by omega
  have U1 : Hid (UpdC w g T V S p (w.alloc (.cells #[.int .u8 kd, .int .i64 th, .int .i64 tx, .int .i64 pl, .int .i64 v, .int .i64 x, .int .u8 y] 27))) := (UpdC.refl hc).alloc _
  have E1 : Hid (∀ i, (w.alloc (.cells #[.int .u8 kd, .int .i64 th, .int .i64 tx, .int .i64 pl, .int .i64 v, .int .i64 x, .int .u8 y] 27)).cell? ⟨w.heap.size, i, none⟩ = (#[.int .u8 kd, .int .i64 th, .int .i64 tx, .int .i64 pl, .int .i64 v, .int .i64 x, .int .u8 y] : Array Value)[i]?) := fun i => World.cell?_alloc_mark w _ _ (0, 0) i
  have hb : Hid (w.heap.size < (w.alloc (.cells #[.int .u8 kd, .int .i64 th, .int .i64 tx, .int .i64 pl, .int .i64 v, .int .i64 x, .int .u8 y] 27)).heap.size) := by show _ < _; simp
  have hbg : Hid (w.heap.size ≠ g) := by show _ ≠ _; omega
  unfold evV
  simp only
  clear hc
  go_enter Tryd.func58, Tryd.ntmps58
  go_wp2_with fail
  generalize w.alloc (.cells #[.int .u8 kd, .int .i64 th, .int .i64 tx, .int .i64 pl, .int .i64 v, .int .i64 x, .int .u8 y] 27) = W1 at U1 E1 hb ⊢
  have e_4 := E1.out 4
  simp only [List.getElem?_toArray, List.getElem?_cons_zero, List.getElem?_cons_succ] at e_4
  have c_own := (U1.out.at').own hs
  have c_ver := (U1.out.at').ver hs
  have c_rv := (U1.out.at').rv ht
  by_cases h1 : p.own s = -1
  rotate_left
  · have e1 : (p.own s != -1) = true := by simp [h1]
    have HP : Hid (lookP p t s ⟨kd, th, tx, pl, v, x, y⟩ = none) := if_pos (.inl h1)
    clear h1
    go_quiet (fail)
    go_wp2_with fail
    go_ret
    exact StepPost.no HP.out rfl (U1.out.of (drewN_below2 _ _))
  · have e1 : (p.own s != -1) = false := by simp [h1]
    by_cases h2 : v < p.ver s
    · have e2 : decide (v < p.ver s) = true := by simp [h2]
      have HP : Hid (lookP p t s ⟨kd, th, tx, pl, v, x, y⟩ = none) := if_pos (.inr (.inl h2))
      clear h1
      go_quiet (fail)
      go_wp2_with fail
      go_ret
      exact StepPost.no HP.out rfl (U1.out.of (drewN_below2 _ _))
    · have e2 : decide (v < p.ver s) = false := by simp [h2]
      by_cases h3 : p.rv t < v
      · have e3 : decide (p.rv t < v) = true := by simp [h3]
        have HP : Hid (lookP p t s ⟨kd, th, tx, pl, v, x, y⟩ = none) := if_pos (.inr (.inr h3))
        clear h1
        go_quiet (fail)
        go_wp2_with fail
        go_ret
        exact StepPost.no HP.out rfl (U1.out.of (drewN_below2 _ _))
      · have e3 : decide (p.rv t < v) = false := by simp [h3]
        have HP : Hid (lookP p t s ⟨kd, th, tx, pl, v, x, y⟩ = some { p with ver := upN p.ver s v, wh := upN p.wh t 2, pos := upN p.pos t s, seen := upN p.seen t v }) := if_neg (by simp [h1, h2, h3])
        clear h1 h2 h3
        go_quiet (fail)
        go_wp2_with fail
        refine rgLook3 rfl _ (by simp) _ g t s _ p T V S ht hs (U1.out.of (drewN_below2 _ _)).at' hb.out hbg.out v e_4 rfl rfl rfl rfl ?_
        intro w5 h5
        simp only [putAll, List.setIfInBounds_toArray, List.set_cons_succ, List.set_cons_zero]
        go_wp2_with fail
        refine rgLook4 rfl _ (by simp) _ g t s _ _ T V S ht hs h5.at' (Nat.lt_of_lt_of_le hb.out h5.size) hbg.out v ((h5.cellE hb.out hbg.out 4).trans e_4) rfl rfl rfl rfl ?_
        intro w6 h6
        simp only [putAll, List.setIfInBounds_toArray, List.set_cons_succ, List.set_cons_zero]
        go_wp2_with fail
        go_ret
        exact StepPost.yes HP.out rfl ((U1.out.of (drewN_below2 _ _)).trans (h5.trans h6))
set_option maxHeartbeats 4000000 in
theorem load_step (H : StepIn w g T V S p t s e) : Calls Tryd.prog 65 #[.pointer (some ⟨g, 0, none⟩), .pointer (some ⟨g, 69 + t * 71, none⟩), .int .i64 (s : Int), evV e] w (StepPost w g T V S p (loadP p t s e)) := by
  obtain ⟨hc, ok, ht, hs, hth, hpl, hv⟩ := H
  obtain ⟨kd, th, tx, pl, v, x, y⟩ := e
  simp only at hth hpl hv
  have HTH := Lib.hid hth
  clear hth
  have hg := hc.lt
  have i1 : (0 : Int) ≤ (s : Int) := by omega
  have i2 : (s : Int) < 32 := by omega
  have U1 : Hid (UpdC w g T V S p (w.alloc (.cells #[.int .u8 kd, .int .i64 th, .int .i64 tx, .int .i64 pl, .int .i64 v, .int .i64 x, .int .u8 y] 27))) := (UpdC.refl hc).alloc _
  have E1 : Hid (∀ i, (w.alloc (.cells #[.int .u8 kd, .int .i64 th, .int .i64 tx, .int .i64 pl, .int .i64 v, .int .i64 x, .int .u8 y] 27)).cell? ⟨w.heap.size, i, none⟩ = (#[.int .u8 kd, .int .i64 th, .int .i64 tx, .int .i64 pl, .int .i64 v, .int .i64 x, .int .u8 y] : Array Value)[i]?) := fun i => World.cell?_alloc_mark w _ _ (0, 0) i
  have hb : Hid (w.heap.size < (w.alloc (.cells #[.int .u8 kd, .int .i64 th, .int .i64 tx, .int .i64 pl, .int .i64 v, .int .i64 x, .int .u8 y] 27)).heap.size) := by show _ < _; simp
  have hbg : Hid (w.heap.size ≠ g) := by show _ ≠ _; omega
  have c_pos := hc.pos ht
  unfold evV
  simp only
  by_cases h1 : (s : Int) = p.pos t
  rotate_left
  · have e1 : ((s : Int) != p.pos t) = true := by simp [h1]
    have HP : Hid (loadP p t s ⟨kd, th, tx, pl, v, x, y⟩ = none) := if_pos (.inl h1)
    clear h1 hc
    go_enter Tryd.func65, Tryd.ntmps65
    go_wp2_with fail
    go_ret
    exact StepPost.no HP.out rfl U1.out
  · have HS := Lib.hid (still_any U1.out.at' ht hs h1.symm)
    rw [← h1] at c_pos
    have hcase : stillP p t = false ∨ stillP p t = true := by cases stillP p t <;> simp
    rcases hcase with h2 | h2
    · rw [h2] at HS
      have HP : Hid (loadP p t s ⟨kd, th, tx, pl, v, x, y⟩ = none) := if_pos (.inr h2)
      clear h1 h2 hc
      go_enter Tryd.func65, Tryd.ntmps65
      go_wp2_with fail
      refine HS.out.mono ?_
      rintro e w1 ⟨rfl, n1, rfl⟩
      go_wp2_with fail
      go_ret
      exact StepPost.no HP.out rfl (U1.out.of (drewN_below2 _ _))
    · rw [h2] at HS
      have HP : Hid (loadP p t s ⟨kd, th, tx, pl, v, x, y⟩ = some { p with wh := upN p.wh t 1, rd := upN p.rd t (upN (p.rd t) s true) }) := if_neg (by simp [h1, h2])
      clear h1 h2 hc
      go_enter Tryd.func65, Tryd.ntmps65
      go_wp2_with fail
      refine HS.out.mono ?_
      rintro e w1 ⟨rfl, n1, rfl⟩
      go_wp2_with fail
      refine rgLoad3 rfl _ (by simp) _ g t s _ p T V S ht hs (U1.out.of (drewN_below2 _ _)).at' hb.out hbg.out rfl rfl rfl rfl ?_
      intro w5 h5
      simp only [putAll, List.setIfInBounds_toArray, List.set_cons_succ, List.set_cons_zero]
      go_wp2_with fail
      go_ret
      exact StepPost.yes HP.out rfl ((U1.out.of (drewN_below2 _ _)).trans h5)
set_option maxHeartbeats 4000000 in
theorem lock_step (H : StepIn w g T V S p t s e) : Calls Tryd.prog 59 #[.pointer (some ⟨g, 0, none⟩), .pointer (some ⟨g, 69 + t * 71, none⟩), .int .i64 (s : Int), evV e] w (StepPost w g T V S p (lockP p t s e)) := by
  obtain ⟨hc, ok, ht, hs, hth, hpl, hv⟩ := H
  obtain ⟨kd, th, tx, pl, v, x, y⟩ := e
  simp only at hth hpl hv
  have HTH := Lib.hid hth
  clear hth
  have hg := hc.lt
  have i1 : (0 : Int) ≤ (s : Int) := by omega
  have i2 : (s : Int) < 32 := by omega
  have U1 : Hid (UpdC w g T V S p (w.alloc (.cells #[.int .u8 kd, .int .i64 th, .int .i64 tx, .int .i64 pl, .int .i64 v, .int .i64 x, .int .u8 y] 27))) := (UpdC.refl hc).alloc _
  have E1 : Hid (∀ i, (w.alloc (.cells #[.int .u8 kd, .int .i64 th, .int .i64 tx, .int .i64 pl, .int .i64 v, .int .i64 x, .int .u8 y] 27)).cell? ⟨w.heap.size, i, none⟩ = (#[.int .u8 kd, .int .i64 th, .int .i64 tx, .int .i64 pl, .int .i64 v, .int .i64 x, .int .u8 y] : Array Value)[i]?) := fun i => World.cell?_alloc_mark w _ _ (0, 0) i
  have hb : Hid (w.heap.size < (w.alloc (.cells #[.int .u8 kd, .int .i64 th, .int .i64 tx, .int .i64 pl, .int .i64 v, .int .i64 x, .int .u8 y] 27)).heap.size) := by show _ < _; simp
  have hbg : Hid (w.heap.size ≠ g) := by show _ ≠ _; omega
  have c_last := hc.last ht
  have c_own := hc.own hs
  unfold evV
  simp only
  by_cases h1 : (s : Int) ≤ p.last t
  · have e1 : decide ((s : Int) ≤ p.last t) = true := by simp [h1]
    have HP : Hid (lockP p t s ⟨kd, th, tx, pl, v, x, y⟩ = none) := if_pos (.inl h1)
    clear hc
    go_enter Tryd.func59, Tryd.ntmps59
    go_wp2_with fail
    go_ret
    exact StepPost.no HP.out rfl U1.out
  · have e1 : decide ((s : Int) ≤ p.last t) = false := by simp [h1]
    by_cases h2 : p.own s = -1
    rotate_left
    · have e2 : (p.own s != -1) = true := by simp [h2]
      have HP : Hid (lockP p t s ⟨kd, th, tx, pl, v, x, y⟩ = none) := if_pos (.inr h2)
      clear h2 hc
      go_enter Tryd.func59, Tryd.ntmps59
      go_wp2_with fail
      go_ret
      exact StepPost.no HP.out rfl U1.out
    · have e2 : (p.own s != -1) = false := by simp [h2]
      have HP : Hid (lockP p t s ⟨kd, th, tx, pl, v, x, y⟩ = some { p with own := upN p.own s th, wh := upN p.wh t 3, last := upN p.last t s }) := if_neg (by simp [h2]; omega)
      clear h2 hc
      go_enter Tryd.func59, Tryd.ntmps59
      go_wp2_with fail
      refine rgLock3 rfl _ (by simp) _ g t s _ p T V S ht hs U1.out.at' hb.out hbg.out th (E1.out 1) rfl rfl rfl rfl ?_
      intro w5 h5
      simp only [putAll, List.setIfInBounds_toArray, List.set_cons_succ, List.set_cons_zero]
      have k1 := h5.at'.wh ht
      have k2 := h5.at'.last ht
      have f1 := h5.at'.fr (69 + t * 71)
      have f2 := h5.at'.fr (69 + t * 71 + 70)
      go_wp2_with fail
      go_ret
      exact StepPost.yes HP.out rfl (U1.out.trans ((h5.wh ht 3).last ht s))
end
end Go.Proofs.YtjennlkindbpoaaDoor
