/-
  CONTRACTS OF PACKAGE shape: Next, New, Check: CheckC of Ek. Conditions: as they stand.
-/
import Derived.Test.YtjennlkindbpoaaDoorSw
import Derived.Test.YtjennlkindbpoaaDoorSe
import Derived.Test.YtjennlkindbpoaaDoorOf
import Derived.Test.YtjennlkindbpoaaDoorWj
namespace Go.Proofs.YtjennlkindbpoaaDoor
set_option maxRecDepth 100000
open Go.RowKit Go.Deep
set_option linter.unusedVariables false
set_option linter.unusedSimpArgs false
/-- What Next answers, and leaves. -/
def nxO (T V S : Int) (p : PS) (e : Ev) : Option PS := if mayB e T V S = true then stepP S p e else none
def nxE (o : Option PS) : Int := if o.isSome = true then 0 else 4
def nxP (p : PS) (o : Option PS) : PS := match o with
  | some p' => { p' with came := p'.came + 1 }
  | none => p
section
variable {w : World} {g : Nat} {T V S : Int} {p : PS} {e : Ev}
theorem ChkAt.sizes (h : ChkAt w g T V S p) : w.cell? ⟨g, 0, none⟩ = some (.int .i64 T) ∧ w.cell? ⟨g, 1, none⟩ = some (.int .i64 V) ∧ w.cell? ⟨g, 2, none⟩ = some (.int .i64 S) := ⟨h.cell (i := 0) (by omega), h.cell (i := 1) (by omega), h.cell (i := 2) (by omega)⟩
theorem ChkAt.came (h : ChkAt w g T V S p) : w.cell? ⟨g, 3, none⟩ = some (.int .i64 p.came) := h.cell (i := 3) (by omega)
theorem kind_le {e : Ev} {T V S : Int} (h : mayB e T V S = true) : kindX e ≤ 19 ∧ ((0 ≤ e.pl ∧ e.pl < 32) ∧ (0 ≤ e.v ∧ e.v ≤ 1099511627776)) := by
  obtain ⟨hsz, hth, hk⟩ := (may_iff _ _ _ _).1 h
  simp only [sizesB, Bool.and_eq_true, decide_eq_true_eq] at hsz
  unfold MayK at hk
  unfold kindX
  constructor
  · split <;> omega
  · omega
theorem nx_ok {o : Option PS} (ok : OkP p) (hc : p.came < 1048576) (h : nxO T V S p e = o) : OkP (nxP p o) ∧ (o.isSome = true → (nxP p o).came = p.came + 1) := by
  subst h
  unfold nxO
  by_cases hm : mayB e T V S = true
  · rw [if_pos hm]
    cases hs : stepP S p e with
    | none => exact ⟨ok, fun h => by cases h⟩
    | some p' =>
      obtain ⟨h1, h2⟩ := ok_step ok (kind_le hm).2 (stripe_is hm).2 hc (kind_le hm).1 hs
      exact ⟨h2, fun _ => by show p'.came + 1 = _; rw [h1]⟩
  · rw [if_neg hm]
    exact ⟨ok, fun h => by cases h⟩
theorem ek_upd {w w' : World} {g : Nat} {T V S : Int} {p p0 : PS} (h : Ek w) (hc : ChkAt w g T V S p0) (hu : UpdC w g T V S p w') : Ek w' := by
  have hne : 0 ≠ g := by
    intro hg
    have h1 := h.nm 0 (by omega)
    subst hg
    rw [hc.sizes.1] at h1
    cases h1
  refine ⟨fun k hk => ?_⟩
  have h1 := h.nm k hk
  rw [← h1]
  unfold World.cell?
  rw [hu.far _ (there_blockW h1) hne]
set_option maxHeartbeats 8000000 in
theorem nextC_any (hc : ChkAt w g T V S p) (ok : OkP p) (hcm : p.came < 1048576) (hev : EvOk e) (he : Ek w) : Calls Tryd.prog 6 #[.pointer (some ⟨g, 0, none⟩), evV e] w fun r w' => r = .returned (.int .i64 (nxE (nxO T V S p e))) ∧ UpdC w g T V S (nxP p (nxO T V S p e)) w' := by
  have HMAY : Hid (∀ w1, Ek w1 → Calls Tryd.prog 24 #[evV e, .int .i64 T, .int .i64 V, .int .i64 S] w1 fun r w' => r = .returned (.bool (mayB e T V S)) ∧ Below w1.heap.size w1 w') := fun w1 h1 => may_any e hev T V S w1 h1
  have HCM : Hid (mayB e T V S = true → ∀ w1, ChkAt w1 g T V S p → Calls Tryd.prog 25 #[.pointer (some ⟨g, 0, none⟩), evV e] w1 (StepPost w1 g T V S p (stepP S p e))) := fun hm w1 h1 => comes_any h1 ok hm
  have HOK := Lib.hid (fun (o : Option PS) (h : nxO T V S p e = o) => nx_ok ok hcm h)
  have hcame := ok.came
  have hg := hc.lt
  have c_came := hc.came
  have e0 : (p.came == 1048576) = false := beq_eq_false_iff_ne.2 (by omega)
  have HN0 : Hid (mayB e T V S = false → nxO T V S p e = none) := fun h => if_neg (by rw [h]; decide)
  have HN1 : Hid (mayB e T V S = true → nxO T V S p e = stepP S p e) := fun h => if_pos h
  obtain ⟨kd, th, tx, pl, v, x, y⟩ := e
  unfold evV at HMAY HCM ⊢
  simp only at HMAY HCM ⊢
  have U1 : Hid (UpdC w g T V S p (w.alloc (.cells #[.int .u8 kd, .int .i64 th, .int .i64 tx, .int .i64 pl, .int .i64 v, .int .i64 x, .int .u8 y] 27))) := (UpdC.refl hc).alloc _
  have R1 : Hid ((w.alloc (.cells #[.int .u8 kd, .int .i64 th, .int .i64 tx, .int .i64 pl, .int .i64 v, .int .i64 x, .int .u8 y] 27)).heap[w.heap.size]? = some (.cells #[.int .u8 kd, .int .i64 th, .int .i64 tx, .int .i64 pl, .int .i64 v, .int .i64 x, .int .u8 y] 27 (0, 0))) := heap_alloc_new w _
  have hb : Hid (w.heap.size < (w.alloc (.cells #[.int .u8 kd, .int .i64 th, .int .i64 tx, .int .i64 pl, .int .i64 v, .int .i64 x, .int .u8 y] 27)).heap.size) := by show _ < _; simp
  have hbg : Hid (w.heap.size ≠ g) := by show _ ≠ _; omega
  have HEK : Hid (Ek (w.alloc (.cells #[.int .u8 kd, .int .i64 th, .int .i64 tx, .int .i64 pl, .int .i64 v, .int .i64 x, .int .u8 y] 27))) := he.below ((Below.refl _ _).alloc (Nat.le_refl _) _)
  clear hc he hev
  have hcase : mayB ⟨kd, th, tx, pl, v, x, y⟩ T V S = false ∨ mayB ⟨kd, th, tx, pl, v, x, y⟩ T V S = true := by cases mayB ⟨kd, th, tx, pl, v, x, y⟩ T V S <;> simp
  rcases hcase with hm | hm
  · have hn := HN0.out hm
    rw [hm] at HMAY
    rw [hn]
    have ho : nxE none = 4 := rfl
    rw [ho, show nxP p none = p from rfl]
    clear hm hn ho HCM HOK HN0 HN1
    go_enter Tryd.func6, Tryd.ntmps6
    go_wp2_with fail
    generalize w.alloc (.cells #[.int .u8 kd, .int .i64 th, .int .i64 tx, .int .i64 pl, .int .i64 v, .int .i64 x, .int .u8 y] 27) = W1 at U1 R1 hb HEK ⊢
    have HE1 : Hid (∀ w1, Below W1.heap.size W1 w1 → w1.heap[w.heap.size]? = some (.cells #[.int .u8 kd, .int .i64 th, .int .i64 tx, .int .i64 pl, .int .i64 v, .int .i64 x, .int .u8 y] 27 (0, 0))) := fun w1 h => (h.block _ hb.out).trans R1.out
    have HZ1 : Hid (∀ w1, Below W1.heap.size W1 w1 → w1.cell? ⟨g, 0, none⟩ = some (.int .i64 T) ∧ w1.cell? ⟨g, 1, none⟩ = some (.int .i64 V) ∧ w1.cell? ⟨g, 2, none⟩ = some (.int .i64 S)) := fun w1 h => (U1.out.of h).at'.sizes
    clear c_came
    refine rgNxA rfl _ (by simp) _ g _ T V S kd th tx pl v x y (fun w1 h => HE1.out w1 h) (fun w1 h => HZ1.out w1 h) (fun w1 h => HMAY.out w1 (HEK.out.below h)) rfl rfl ?_
    intro w5 h5
    simp only [putAll, List.setIfInBounds_toArray, List.set_cons_succ, List.set_cons_zero]
    go_wp2_with fail
    go_ret
    exact ⟨rfl, U1.out.of h5⟩
  · have hn := HN1.out hm
    have HCM2 := Lib.hid (HCM.out hm)
    rw [hm] at HMAY
    rw [hn] at HOK ⊢
    obtain ⟨o, ho⟩ : ∃ o, o = stepP S p ⟨kd, th, tx, pl, v, x, y⟩ := ⟨_, rfl⟩
    rw [← ho] at HOK HCM2 ⊢
    have HOK2 := Lib.hid (HOK.out o rfl)
    clear hn hm HN0 HN1 HCM ho HOK
    cases o with
    | none =>
      rw [show nxE none = 4 from rfl, show nxP p none = p from rfl]
      go_enter Tryd.func6, Tryd.ntmps6
      go_wp2_with fail
      generalize w.alloc (.cells #[.int .u8 kd, .int .i64 th, .int .i64 tx, .int .i64 pl, .int .i64 v, .int .i64 x, .int .u8 y] 27) = W1 at U1 R1 hb HEK ⊢
      have HE1 : Hid (∀ w1, Below W1.heap.size W1 w1 → w1.heap[w.heap.size]? = some (.cells #[.int .u8 kd, .int .i64 th, .int .i64 tx, .int .i64 pl, .int .i64 v, .int .i64 x, .int .u8 y] 27 (0, 0))) := fun w1 h => (h.block _ hb.out).trans R1.out
      have HZ1 : Hid (∀ w1, Below W1.heap.size W1 w1 → w1.cell? ⟨g, 0, none⟩ = some (.int .i64 T) ∧ w1.cell? ⟨g, 1, none⟩ = some (.int .i64 V) ∧ w1.cell? ⟨g, 2, none⟩ = some (.int .i64 S)) := fun w1 h => (U1.out.of h).at'.sizes
      clear c_came
      have HEG : Hid (∀ p1 w1, UpdC W1 g T V S p1 w1 ∨ Below W1.heap.size W1 w1 → w1.heap[w.heap.size]? = some (.cells #[.int .u8 kd, .int .i64 th, .int .i64 tx, .int .i64 pl, .int .i64 v, .int .i64 x, .int .u8 y] 27 (0, 0))) := fun p1 w1 h => h.elim (fun h => (h.far _ hb.out hbg.out).trans R1.out) (fun h => HE1.out w1 h)
      have HZG : Hid (∀ p1 w1, UpdC W1 g T V S p1 w1 ∨ Below W1.heap.size W1 w1 → w1.cell? ⟨g, 0, none⟩ = some (.int .i64 T) ∧ w1.cell? ⟨g, 1, none⟩ = some (.int .i64 V) ∧ w1.cell? ⟨g, 2, none⟩ = some (.int .i64 S)) := fun p1 w1 h => h.elim (fun h => h.at'.sizes) (fun h => HZ1.out w1 h)
      have HEKG : Hid (∀ p1 w1, UpdC W1 g T V S p1 w1 ∨ Below W1.heap.size W1 w1 → Ek w1) := fun p1 w1 h => h.elim (fun h => ek_upd HEK.out U1.out.at' h) (fun h => HEK.out.below h)
      refine rgNxB rfl _ (by simp) _ (fun w1 => UpdC W1 g T V S p w1) (fun w1 w' h1 h2 => h1.of h2) g _ T V S kd th tx pl v x y (fun w1 h => HEG.out p w1 h) (fun w1 h => HZG.out p w1 h) (fun w1 h => HMAY.out w1 (HEKG.out p w1 h)) (fun w1 h => (HCM2.out w1 (U1.out.of h).at').mono fun r w' hr => ⟨hr.1, ((UpdC.refl U1.out.at').of h).trans hr.2⟩) rfl rfl ?_
      intro w5 h5
      simp only [putAll, List.setIfInBounds_toArray, List.set_cons_succ, List.set_cons_zero]
      go_wp2_with fail
      go_ret
      exact ⟨rfl, U1.out.trans h5⟩
    | some p' =>
      rw [show nxE (some p') = 0 from rfl, show nxP p (some p') = { p' with came := p'.came + 1 } from rfl]
      have hk : p'.came + 1 = p.came + 1 := HOK2.out.2 rfl
      go_enter Tryd.func6, Tryd.ntmps6
      go_wp2_with fail
      generalize w.alloc (.cells #[.int .u8 kd, .int .i64 th, .int .i64 tx, .int .i64 pl, .int .i64 v, .int .i64 x, .int .u8 y] 27) = W1 at U1 R1 hb HEK ⊢
      have HE1 : Hid (∀ w1, Below W1.heap.size W1 w1 → w1.heap[w.heap.size]? = some (.cells #[.int .u8 kd, .int .i64 th, .int .i64 tx, .int .i64 pl, .int .i64 v, .int .i64 x, .int .u8 y] 27 (0, 0))) := fun w1 h => (h.block _ hb.out).trans R1.out
      have HZ1 : Hid (∀ w1, Below W1.heap.size W1 w1 → w1.cell? ⟨g, 0, none⟩ = some (.int .i64 T) ∧ w1.cell? ⟨g, 1, none⟩ = some (.int .i64 V) ∧ w1.cell? ⟨g, 2, none⟩ = some (.int .i64 S)) := fun w1 h => (U1.out.of h).at'.sizes
      clear c_came
      have HEG : Hid (∀ p1 w1, UpdC W1 g T V S p1 w1 ∨ Below W1.heap.size W1 w1 → w1.heap[w.heap.size]? = some (.cells #[.int .u8 kd, .int .i64 th, .int .i64 tx, .int .i64 pl, .int .i64 v, .int .i64 x, .int .u8 y] 27 (0, 0))) := fun p1 w1 h => h.elim (fun h => (h.far _ hb.out hbg.out).trans R1.out) (fun h => HE1.out w1 h)
      have HZG : Hid (∀ p1 w1, UpdC W1 g T V S p1 w1 ∨ Below W1.heap.size W1 w1 → w1.cell? ⟨g, 0, none⟩ = some (.int .i64 T) ∧ w1.cell? ⟨g, 1, none⟩ = some (.int .i64 V) ∧ w1.cell? ⟨g, 2, none⟩ = some (.int .i64 S)) := fun p1 w1 h => h.elim (fun h => h.at'.sizes) (fun h => HZ1.out w1 h)
      have HEKG : Hid (∀ p1 w1, UpdC W1 g T V S p1 w1 ∨ Below W1.heap.size W1 w1 → Ek w1) := fun p1 w1 h => h.elim (fun h => ek_upd HEK.out U1.out.at' h) (fun h => HEK.out.below h)
      refine rgNxC rfl _ (by simp) _ (fun w1 => UpdC W1 g T V S p' w1) (fun w1 w' h1 h2 => h1.of h2) g _ T V S kd th tx pl v x y (fun w1 h => HEG.out p' w1 h) (fun w1 h => HZG.out p' w1 h) (fun w1 h => HMAY.out w1 (HEKG.out p' w1 h)) (fun w1 h => (HCM2.out w1 (U1.out.of h).at').mono fun r w' hr => ⟨hr.1, ((UpdC.refl U1.out.at').of h).trans hr.2⟩) rfl rfl ?_
      intro w5 h5
      simp only [putAll, List.setIfInBounds_toArray, List.set_cons_succ, List.set_cons_zero]
      have k5 := h5.at'.came
      have f5 := h5.at'.fr 3
      have i5 : 0 ≤ p'.came := by omega
      have i6 : p'.came ≤ 1048576 := by omega
      clear hk
      go_wp2_with fail
      go_ret
      exact ⟨rfl, (U1.out.trans h5).came (p'.came + 1)⟩
end
end Go.Proofs.YtjennlkindbpoaaDoor
