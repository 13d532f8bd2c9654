/-
  CONTRACTS OF PACKAGE shape: the checker's steps, one by one. Laid by gen/gen_so.py. Conditions: StepIn.
-/
import Derived.Test.YtjennlkindbpoaaDoorSo
import Derived.BigRegion
namespace Go.Proofs.YtjennlkindbpoaaDoor
set_option maxRecDepth 100000
open Go.RowKit Go.Deep
set_option linter.unusedVariables false
set_option linter.unusedSimpArgs false
theorem wpList_builtS {P : Program} {ops : Array Oper} {rest : List Oper} {o : Oper} {a : Act} {w : World} {Q : Exit → Act → World → Prop} (hg : o.guard = none) (t : TypeId) (parts : Array (Nat × Operand)) (ho : o.op = .build t parts) (cs : Array Value)
    (hf : P.built t (parts.map fun (i, x) => (i, a.eval x)).toList = some cs)
    (h : wpList P ops Q rest (a.put o.dst (.agg cs)) w) : wpList P ops Q (o :: rest) a w :=
  wpList_build hg t parts ho (by rw [hf]; rfl) (by rw [hf]; exact h)
/-- No stripes. -/
def zset : Array Value := rowV 32 fun _ => .bool false
theorem zset_one : zset.all (·.oneCell') = true := by
  refine Array.all_eq_true_iff_forall_mem.2 fun x hx => ?_
  unfold zset rowV at hx
  simp at hx
  obtain ⟨_, rfl⟩ := hx
  rfl
theorem UpdC.setZ {w w' : World} {g t : Nat} {T V S : Int} {p : PS} (h : UpdC w g T V S p w') (ht : t < 6) : UpdC w g T V S { p with rd := upN p.rd t (fun _ => false) } (w'.setCells g (69 + t * 71 + 6) zset.toList) := by
  have hl : zset.toList.length = 32 := by simp [zset, rowV]
  refine h.setCells (by omega) (fun j x hj => ?_) (fun j hj hr => ?_)
  · have hj32 : j < 32 := by rw [← hl]; exact (List.getElem?_eq_some_iff.1 hj).1
    have h2 : zset[j]? = some x := by simpa using hj
    unfold zset at h2
    rw [rowV_get _ _ hj32] at h2
    cases h2
    rw [show 69 + t * 71 + 6 + j = 69 + t * 71 + (6 + j) by omega, c_thr ht (by omega), if_neg (by omega), if_neg (by omega), if_neg (by omega), if_neg (by omega), if_neg (by omega), if_neg (by omega), if_pos (by omega)]
    simp only [upN_same]
  · rw [hl] at hr
    clear hl
    unfold cellP
    by_cases h69 : j < 69
    · simp only [h69, if_true]
    · by_cases hq : (j - 69) / 71 = t
      · by_cases h6 : (j - 69) % 71 < 6
        · have : (j - 69) % 71 = 0 ∨ (j - 69) % 71 = 1 ∨ (j - 69) % 71 = 2 ∨ (j - 69) % 71 = 3 ∨ (j - 69) % 71 = 4 ∨ (j - 69) % 71 = 5 := by omega
          rcases this with h | h | h | h | h | h <;> simp [h]
        · have : ¬ (j - 69) % 71 < 38 := by omega
          simp only [this, if_false]
      · simp only [upN, hq, if_false]
section
variable {w : World} {g : Nat} {T V S : Int} {p : PS} {t s : Nat} {e : Ev}
set_option maxHeartbeats 4000000 in
theorem bump_step (H : StepIn w g T V S p t s e) : Calls Tryd.prog 67 #[.pointer (some ⟨g, 0, none⟩), .pointer (some ⟨g, 69 + t * 71, none⟩), .int .i64 (s : Int), evV e] w (StepPost w g T V S p (bumpP p t s e)) := by
  obtain ⟨hc, ok, ht, hs, hth, hpl, hv⟩ := H
  obtain ⟨kd, th, tx, pl, v, x, y⟩ := e
  simp only at hth hpl hv
  have HTH := Lib.hid hth
  clear hth
  have hg := hc.lt
  have i1 : (0 : Int) ≤ (s : Int) := by omega
  have i2 : (s : Int) < 32 := by omega
  have U1 : Hid (UpdC w g T V S p (w.alloc (.cells #[.int .u8 kd, .int .i64 th, .int .i64 tx, .int .i64 pl, .int .i64 v, .int .i64 x, .int .u8 y] 27))) := (UpdC.refl hc).alloc _
  have E1 : Hid (∀ i, (w.alloc (.cells #[.int .u8 kd, .int .i64 th, .int .i64 tx, .int .i64 pl, .int .i64 v, .int .i64 x, .int .u8 y] 27)).cell? ⟨w.heap.size, i, none⟩ = (#[.int .u8 kd, .int .i64 th, .int .i64 tx, .int .i64 pl, .int .i64 v, .int .i64 x, .int .u8 y] : Array Value)[i]?) := fun i => World.cell?_alloc_mark w _ _ (0, 0) i
  have hb : Hid (w.heap.size < (w.alloc (.cells #[.int .u8 kd, .int .i64 th, .int .i64 tx, .int .i64 pl, .int .i64 v, .int .i64 x, .int .u8 y] 27)).heap.size) := by show _ < _; simp
  have hbg : Hid (w.heap.size ≠ g) := by show _ ≠ _; omega
  have hrv := ok.rv t
  unfold evV
  simp only
  clear hc
  go_enter Tryd.func67, Tryd.ntmps67
  go_wp2_with fail
  generalize w.alloc (.cells #[.int .u8 kd, .int .i64 th, .int .i64 tx, .int .i64 pl, .int .i64 v, .int .i64 x, .int .u8 y] 27) = W1 at U1 E1 hb ⊢
  have e_4 := E1.out 4
  simp only [List.getElem?_toArray, List.getElem?_cons_zero, List.getElem?_cons_succ] at e_4
  have c_clk := (U1.out.at').clk
  have fz := (U1.out.at').fr
  by_cases h1 : v ≤ p.clk
  · have e1 : decide (v ≤ p.clk) = true := by simp [h1]
    have HP : Hid (bumpP p t s ⟨kd, th, tx, pl, v, x, y⟩ = none) := if_pos h1
    go_quiet (fail)
    go_wp2_with fail
    go_ret
    exact StepPost.no HP.out rfl (U1.out.of (drewN_below2 _ _))
  · have e1 : decide (v ≤ p.clk) = false := by simp [h1]
    go_quiet (fail)
    have fz4 := fz 4
    clear fz
    go_wp2_with fail
    refine rgBump4 rfl _ (by simp) _ g t s _ { p with clk := v } T V S ht hs (((UpdC.refl U1.out.at').of (drewN_below2 _ _)).clk v).at' (Nat.lt_of_lt_of_le hb.out (((UpdC.refl U1.out.at').of (drewN_below2 _ _)).clk v).size) hbg.out v (((((UpdC.refl U1.out.at').of (drewN_below2 _ _)).clk v).cellE hb.out hbg.out 4).trans e_4) rfl rfl rfl rfl ?_
    intro w5 h5
    simp only [putAll, List.setIfInBounds_toArray, List.set_cons_succ, List.set_cons_zero]
    have U5 : Hid (UpdC w g T V S { p with clk := v, wh := upN p.wh t 4, wv := upN p.wv t v, last := upN p.last t (-1) } w5) := ((U1.out.of (drewN_below2 _ _)).clk v).trans h5
    have k1 := h5.at'.wv ht
    have k2 := h5.at'.rv ht
    simp only [upN_same] at k1 k2
    have C5 := Lib.hid h5.at'
    clear e_4 h5 c_clk fz4
    by_cases h2 : v = p.rv t + 1
    · have e2 : (v == p.rv t + 1) = true := by simp [h2]
      have HP : Hid (bumpP p t s ⟨kd, th, tx, pl, v, x, y⟩ = some { p with clk := v, wh := upN p.wh t 4, wv := upN p.wv t v, last := upN p.last t (-1), rd := upN p.rd t (fun _ => false) }) := by show _ = _; unfold bumpP; rw [if_neg (by simpa using h1)]; simp only [if_pos h2]
      clear h2 h1 e1
      go_wp2_with fail
      go_quiet (fail)
      go_wp2_with (first | (refine wpList_builtS rfl 53 _ rfl zset (by kernel_rfl) ?_) | (refine wpList_store_mid rfl 53 _ _ rfl g (69 + t * 71 + 6) zset rfl rfl ((U5.out.of (drewN_below2 _ _)).at'.there (by show 69 + t * 71 + 6 + zset.size ≤ 495; rw [show zset.size = 32 from rowV_size _ _]; omega)) (by rw [show zset.size = 32 from rowV_size _ _]; kernel_rfl) zset_one ?_) | fail)
      go_ret
      exact StepPost.yes HP.out rfl ((U5.out.of (drewN_below2 _ _)).setZ ht)
    · have e2 : (v == p.rv t + 1) = false := by simp [h2]
      have HP : Hid (bumpP p t s ⟨kd, th, tx, pl, v, x, y⟩ = some { p with clk := v, wh := upN p.wh t 4, wv := upN p.wv t v, last := upN p.last t (-1) }) := by show _ = _; unfold bumpP; rw [if_neg (by simpa using h1)]; simp only [if_neg h2]
      clear h2 h1 e1
      go_wp2_with fail
      go_quiet (fail)
      go_wp2_with fail
      go_ret
      exact StepPost.yes HP.out rfl (U5.out.of (drewN_below2 _ _))
set_option maxHeartbeats 4000000 in
theorem check_step (H : StepIn w g T V S p t s e) : Calls Tryd.prog 69 #[.pointer (some ⟨g, 0, none⟩), .pointer (some ⟨g, 69 + t * 71, none⟩), .int .i64 (s : Int), evV e] w (StepPost w g T V S p (checkP p t s e)) := by
  obtain ⟨hc, ok, ht, hs, hth, hpl, hv⟩ := H
  obtain ⟨kd, th, tx, pl, v, x, y⟩ := e
  simp only at hth hpl hv
  have HTH := Lib.hid hth
  clear hth
  have hg := hc.lt
  have i1 : (0 : Int) ≤ (s : Int) := by omega
  have i2 : (s : Int) < 32 := by omega
  have U1 : Hid (UpdC w g T V S p (w.alloc (.cells #[.int .u8 kd, .int .i64 th, .int .i64 tx, .int .i64 pl, .int .i64 v, .int .i64 x, .int .u8 y] 27))) := (UpdC.refl hc).alloc _
  have E1 : Hid (∀ i, (w.alloc (.cells #[.int .u8 kd, .int .i64 th, .int .i64 tx, .int .i64 pl, .int .i64 v, .int .i64 x, .int .u8 y] 27)).cell? ⟨w.heap.size, i, none⟩ = (#[.int .u8 kd, .int .i64 th, .int .i64 tx, .int .i64 pl, .int .i64 v, .int .i64 x, .int .u8 y] : Array Value)[i]?) := fun i => World.cell?_alloc_mark w _ _ (0, 0) i
  have hb : Hid (w.heap.size < (w.alloc (.cells #[.int .u8 kd, .int .i64 th, .int .i64 tx, .int .i64 pl, .int .i64 v, .int .i64 x, .int .u8 y] 27)).heap.size) := by show _ < _; simp
  have hbg : Hid (w.heap.size ≠ g) := by show _ ≠ _; omega
  have hla := ok.last t
  have fz1 := hc.fr (69 + t * 71 + 70)
  unfold evV
  simp only
  have HN := Lib.hid (next_any U1.out.at' ht hla)
  have HOU : Hid (∀ w1, Below (w.alloc (.cells #[.int .u8 kd, .int .i64 th, .int .i64 tx, .int .i64 pl, .int .i64 v, .int .i64 x, .int .u8 y] 27)).heap.size (w.alloc (.cells #[.int .u8 kd, .int .i64 th, .int .i64 tx, .int .i64 pl, .int .i64 v, .int .i64 x, .int .u8 y] 27)) w1 → _) := fun w1 h1 => outdated_any (U1.out.of h1).at' ht hs th
  obtain ⟨n, hn⟩ : ∃ n, n = nextP p t := ⟨_, rfl⟩
  have HNN := Lib.hid hn
  rw [← hn] at HN
  by_cases h1 : (s : Int) = n
  rotate_left
  · have e1 : ((s : Int) != n) = true := by simp [h1]
    have HP : Hid (checkP p t s ⟨kd, th, tx, pl, v, x, y⟩ = none) := if_pos (.inl (by rw [← hn]; exact h1))
    clear h1 hc hn
    go_enter Tryd.func69, Tryd.ntmps69
    go_wp2_with fail
    refine HN.out.mono ?_
    rintro e w1 ⟨rfl, rfl⟩
    go_wp2_with fail
    go_ret
    exact StepPost.no HP.out rfl U1.out
  · have e1 : ((s : Int) != n) = false := by simp [h1]
    have hcase : oldP p t s th = true ∨ oldP p t s th = false := by cases oldP p t s th <;> simp
    have hq : ¬ (oldP p t s th = true) → checkP p t s ⟨kd, th, tx, pl, v, x, y⟩ = some { p with last := upN p.last t s } := fun h => if_neg (by rw [← hn]; simp [h1, h])
    rcases hcase with h2 | h2
    · rw [h2] at HOU
      have HP : Hid (checkP p t s ⟨kd, th, tx, pl, v, x, y⟩ = none) := if_pos (.inr h2)
      clear h1 h2 hc hn hq
      go_enter Tryd.func69, Tryd.ntmps69
      go_wp2_with fail
      refine HN.out.mono ?_
      rintro e w1 ⟨rfl, rfl⟩
      go_wp2_with fail
      refine (HOU.out _ (Below.refl _ _)).mono ?_
      rintro e w2 ⟨rfl, b2⟩
      go_wp2_with fail
      go_ret
      exact StepPost.no HP.out rfl (U1.out.of b2)
    · rw [h2] at HOU
      have HP : Hid (checkP p t s ⟨kd, th, tx, pl, v, x, y⟩ = some { p with last := upN p.last t s }) := hq (by rw [h2]; simp)
      clear h1 h2 hc hn hq
      go_enter Tryd.func69, Tryd.ntmps69
      go_wp2_with fail
      refine HN.out.mono ?_
      rintro e w1 ⟨rfl, rfl⟩
      go_wp2_with fail
      refine (HOU.out _ (Below.refl _ _)).mono ?_
      rintro e w2 ⟨rfl, b2⟩
      have U2 := Lib.hid (U1.out.of b2)
      have k1 := U2.out.at'.last ht
      have f1 := U2.out.at'.fr (69 + t * 71 + 70)
      clear b2
      go_wp2_with fail
      go_ret
      exact StepPost.yes HP.out rfl (U2.out.last ht s)
set_option maxHeartbeats 4000000 in
theorem commit_step (H : StepIn w g T V S p t s e) : Calls Tryd.prog 70 #[.pointer (some ⟨g, 0, none⟩), .pointer (some ⟨g, 69 + t * 71, none⟩), .int .i64 (s : Int), evV e] w (StepPost w g T V S p (commitP p t s e)) := by
  obtain ⟨hc, ok, ht, hs, hth, hpl, hv⟩ := H
  obtain ⟨kd, th, tx, pl, v, x, y⟩ := e
  simp only at hth hpl hv
  have HTH := Lib.hid hth
  clear hth
  have hg := hc.lt
  have i1 : (0 : Int) ≤ (s : Int) := by omega
  have i2 : (s : Int) < 32 := by omega
  have U1 : Hid (UpdC w g T V S p (w.alloc (.cells #[.int .u8 kd, .int .i64 th, .int .i64 tx, .int .i64 pl, .int .i64 v, .int .i64 x, .int .u8 y] 27))) := (UpdC.refl hc).alloc _
  have E1 : Hid (∀ i, (w.alloc (.cells #[.int .u8 kd, .int .i64 th, .int .i64 tx, .int .i64 pl, .int .i64 v, .int .i64 x, .int .u8 y] 27)).cell? ⟨w.heap.size, i, none⟩ = (#[.int .u8 kd, .int .i64 th, .int .i64 tx, .int .i64 pl, .int .i64 v, .int .i64 x, .int .u8 y] : Array Value)[i]?) := fun i => World.cell?_alloc_mark w _ _ (0, 0) i
  have hb : Hid (w.heap.size < (w.alloc (.cells #[.int .u8 kd, .int .i64 th, .int .i64 tx, .int .i64 pl, .int .i64 v, .int .i64 x, .int .u8 y] 27)).heap.size) := by show _ < _; simp
  have hbg : Hid (w.heap.size ≠ g) := by show _ ≠ _; omega
  have hla := ok.last t
  unfold evV
  simp only
  clear hc
  go_enter Tryd.func70, Tryd.ntmps70
  go_wp2_with fail
  generalize w.alloc (.cells #[.int .u8 kd, .int .i64 th, .int .i64 tx, .int .i64 pl, .int .i64 v, .int .i64 x, .int .u8 y] 27) = W1 at U1 E1 hb ⊢
  have e_4 := E1.out 4
  simp only [List.getElem?_toArray, List.getElem?_cons_zero, List.getElem?_cons_succ] at e_4
  have c_wv := (U1.out.at').wv ht
  have fz := (U1.out.at').fr
  have HN : Hid (∀ w1, Below W1.heap.size W1 w1 → Calls Tryd.prog 83 #[.pointer (some ⟨g, 69 + t * 71, none⟩)] w1 fun e w' => e = .returned (.int .i64 (nextP p t)) ∧ w1 = w') := fun w1 h1 => next_any (U1.out.of h1).at' ht hla
  have HD : Hid (∀ w1, Below W1.heap.size W1 w1 → w1.cell? ⟨w.heap.size, 4, none⟩ = some (.int .i64 v) ∧ w1.cell? ⟨g, 69 + t * 71 + 3, none⟩ = some (.int .i64 (p.wv t))) := fun w1 h1 => ⟨(h1.cell (p := ⟨w.heap.size, 4, none⟩) hb.out).trans e_4, (U1.out.of h1).at'.wv ht⟩
  obtain ⟨n, hn⟩ : ∃ n, n = nextP p t := ⟨_, rfl⟩
  rw [← hn] at HN
  by_cases h1 : n = -1
  rotate_left
  · have e1 : (n != -1) = true := by simp [h1]
    have HP : Hid (commitP p t s ⟨kd, th, tx, pl, v, x, y⟩ = none) := if_pos (.inl (by rw [← hn]; exact h1))
    clear h1 hn fz
    refine rgComA rfl _ (by simp) _ g _ _ n e1 HN rfl rfl rfl ?_
    intro w5 h5
    simp only [putAll, List.setIfInBounds_toArray, List.set_cons_succ, List.set_cons_zero]
    go_wp2_with fail
    go_ret
    exact StepPost.no HP.out rfl (U1.out.of h5)
  · have e1 : (n != -1) = false := by simp [h1]
    by_cases h2 : v = p.wv t
    rotate_left
    · have e2 : (v != p.wv t) = true := by simp [h2]
      have HP : Hid (commitP p t s ⟨kd, th, tx, pl, v, x, y⟩ = none) := if_pos (.inr h2)
      clear h1 h2 hn fz
      refine rgComB rfl _ (by simp) _ g _ _ n v _ e1 true e2 HD.out HN rfl rfl rfl ?_
      intro w5 h5
      simp only [putAll, List.setIfInBounds_toArray, List.set_cons_succ, List.set_cons_zero]
      go_wp2_with fail
      go_ret
      exact StepPost.no HP.out rfl (U1.out.of h5)
    · have e2 : (v != p.wv t) = false := by simp [h2]
      have HP : Hid (commitP p t s ⟨kd, th, tx, pl, v, x, y⟩ = some { p with last := upN p.last t (-1), wh := upN p.wh t 5 }) := if_neg (by rw [← hn]; simp [h1, h2])
      clear h1 h2 hn fz
      refine rgComB rfl _ (by simp) _ g _ _ n v _ e1 false e2 HD.out HN rfl rfl rfl ?_
      intro w5 h5
      simp only [putAll, List.setIfInBounds_toArray, List.set_cons_succ, List.set_cons_zero]
      have U5 := Lib.hid (U1.out.of h5)
      have k1 := U5.out.at'.last ht
      have f1 := U5.out.at'.fr (69 + t * 71 + 70)
      go_wp2_with fail
      refine (goes_any (U5.out.last ht (-1)).at' ht 5).mono ?_
      rintro e w2 ⟨rfl, hu⟩
      go_wp2_with fail
      go_ret
      exact StepPost.yes HP.out rfl ((U5.out.last ht (-1)).trans hu)
set_option maxHeartbeats 4000000 in
theorem store_step (H : StepIn w g T V S p t s e) : Calls Tryd.prog 72 #[.pointer (some ⟨g, 0, none⟩), .pointer (some ⟨g, 69 + t * 71, none⟩), .int .i64 (s : Int), evV e] w (StepPost w g T V S p (storeP p t s e)) := by
  obtain ⟨hc, ok, ht, hs, hth, hpl, hv⟩ := H
  obtain ⟨kd, th, tx, pl, v, x, y⟩ := e
  simp only at hth hpl hv
  have HTH := Lib.hid hth
  clear hth
  have hg := hc.lt
  have i1 : (0 : Int) ≤ (s : Int) := by omega
  have i2 : (s : Int) < 32 := by omega
  have U1 : Hid (UpdC w g T V S p (w.alloc (.cells #[.int .u8 kd, .int .i64 th, .int .i64 tx, .int .i64 pl, .int .i64 v, .int .i64 x, .int .u8 y] 27))) := (UpdC.refl hc).alloc _
  have E1 : Hid (∀ i, (w.alloc (.cells #[.int .u8 kd, .int .i64 th, .int .i64 tx, .int .i64 pl, .int .i64 v, .int .i64 x, .int .u8 y] 27)).cell? ⟨w.heap.size, i, none⟩ = (#[.int .u8 kd, .int .i64 th, .int .i64 tx, .int .i64 pl, .int .i64 v, .int .i64 x, .int .u8 y] : Array Value)[i]?) := fun i => World.cell?_alloc_mark w _ _ (0, 0) i
  have hb : Hid (w.heap.size < (w.alloc (.cells #[.int .u8 kd, .int .i64 th, .int .i64 tx, .int .i64 pl, .int .i64 v, .int .i64 x, .int .u8 y] 27)).heap.size) := by show _ < _; simp
  have hbg : Hid (w.heap.size ≠ g) := by show _ ≠ _; omega
  unfold evV
  simp only
  clear hc
  go_enter Tryd.func72, Tryd.ntmps72
  go_wp2_with fail
  generalize w.alloc (.cells #[.int .u8 kd, .int .i64 th, .int .i64 tx, .int .i64 pl, .int .i64 v, .int .i64 x, .int .u8 y] 27) = W1 at U1 E1 hb ⊢
  have e_1 := E1.out 1
  have e_3 := E1.out 3
  simp only [List.getElem?_toArray, List.getElem?_cons_zero, List.getElem?_cons_succ] at e_1 e_3
  have c_own := (U1.out.at').own hs
  have c_last := (U1.out.at').last ht
  by_cases h1 : pl ≤ p.last t
  · have e1 : decide (pl ≤ p.last t) = true := by simp [h1]
    have HP : Hid (storeP p t s ⟨kd, th, tx, pl, v, x, y⟩ = none) := if_pos (.inl h1)
    go_quiet (fail)
    go_wp2_with fail
    go_ret
    exact StepPost.no HP.out rfl (U1.out.of (drewN_below2 _ _))
  · have e1 : decide (pl ≤ p.last t) = false := by simp [h1]
    by_cases h2 : p.own s = th
    rotate_left
    · have e2 : (p.own s != th) = true := by simp [h2]
      have HP : Hid (storeP p t s ⟨kd, th, tx, pl, v, x, y⟩ = none) := if_pos (.inr h2)
      clear h2
      go_quiet (fail)
      go_wp2_with fail
      go_ret
      exact StepPost.no HP.out rfl (U1.out.of (drewN_below2 _ _))
    · have e2 : (p.own s != th) = false := by simp [h2]
      have HP : Hid (storeP p t s ⟨kd, th, tx, pl, v, x, y⟩ = some { p with last := upN p.last t pl, st := upN p.st t (upN (p.st t) s true) }) := if_neg (by simp [h2]; omega)
      clear h2
      go_quiet (fail)
      go_wp2_with fail
      refine rgStore3 rfl _ (by simp) _ g t s _ p T V S ht hs (U1.out.of (drewN_below2 _ _)).at' hb.out hbg.out pl e_3 rfl rfl rfl rfl ?_
      intro w5 h5
      simp only [putAll, List.setIfInBounds_toArray, List.set_cons_succ, List.set_cons_zero]
      go_wp2_with fail
      go_ret
      exact StepPost.yes HP.out rfl ((U1.out.of (drewN_below2 _ _)).trans h5)
end
end Go.Proofs.YtjennlkindbpoaaDoor
