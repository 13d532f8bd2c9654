/-
  SEVERAL TEXTS IN ONE (a claim has sixty files at most): Of, Sx, Sy: the head of each stands ahead of it. No condition but theirs.
-/
import Derived.Test.YteigglhhnemngaaGreatDoorQ08
import Derived.Great.BuildSlice
import Derived.Test.YteigglhhnemngaaGreatDoorQ12
import Derived.Test.YteigglhhnemngaaGreatDoorSe
import Derived.Test.YteigglhhnemngaaGreatDoorQ06
namespace Go.Proofs.YteigglhhnemngaaGreatDoor
set_option maxRecDepth 100000
open Go.RowKit
set_option linter.unusedVariables false
def i64P (n : Int) : Prop := -9223372036854775808 ≤ n ∧ n ≤ 9223372036854775807
structure CheckC (Tb : World → Prop) : Prop where
  below : ∀ w w', Tb w → Below w.heap.size w w' → Tb w'
  check : ∀ w, Tb w → ∀ (T V S : Int) (A : Option Addr) (L : List Ev) (c : Nat), i64P T → i64P V → i64P S → L.length ≤ 2000 → EvsAt w w.heap.size A L →
    Calls Tryz.prog 19 #[trV T V S A L.length c] w fun r w' => r = .returned (.tuple #[.int .i64 ((checkF T V S L).1 : Nat), .int .i64 (checkF T V S L).2]) ∧ Below w.heap.size w w'
end Go.Proofs.YteigglhhnemngaaGreatDoor
namespace Go.Proofs.YteigglhhnemngaaGreatDoor
set_option maxRecDepth 100000
open Go.RowKit Go.Deep
set_option linter.unusedVariables false
set_option linter.unusedSimpArgs false
def nxO (T V S : Int) (p : PS) (e : Ev) : Option PS := if mayB e T V S = true then stepP S p e else none
def nxE (o : Option PS) : Int := if o.isSome = true then 0 else 4
def nxP (p : PS) (o : Option PS) : PS := match o with
  | some p' => { p' with came := p'.came + 1 }
  | none => p
section
variable {w : World} {g : Nat} {T V S : Int} {p : PS} {e : Ev}
theorem ChkAt.sizes (h : ChkAt w g T V S p) : w.cell? ⟨g, 0, none⟩ = some (.int .i64 T) ∧ w.cell? ⟨g, 1, none⟩ = some (.int .i64 V) ∧ w.cell? ⟨g, 2, none⟩ = some (.int .i64 S) := ⟨h.cell (i := 0) (by omega), h.cell (i := 1) (by omega), h.cell (i := 2) (by omega)⟩
theorem ChkAt.came (h : ChkAt w g T V S p) : w.cell? ⟨g, 3, none⟩ = some (.int .i64 p.came) := h.cell (i := 3) (by omega)
theorem kind_le {e : Ev} {T V S : Int} (h : mayB e T V S = true) : kindX e ≤ 19 ∧ ((0 ≤ e.pl ∧ e.pl < 32) ∧ (0 ≤ e.v ∧ e.v ≤ 1099511627776)) := by
  obtain ⟨hsz, hth, hk⟩ := (may_iff _ _ _ _).1 h
  simp only [sizesB, Bool.and_eq_true, decide_eq_true_eq] at hsz
  unfold MayK at hk
  unfold kindX
  constructor
  · split <;> omega
  · omega
theorem nx_ok {o : Option PS} (ok : OkP p) (hc : p.came < 1048576) (h : nxO T V S p e = o) : OkP (nxP p o) ∧ (o.isSome = true → (nxP p o).came = p.came + 1) := by
  subst h
  unfold nxO
  by_cases hm : mayB e T V S = true
  · rw [if_pos hm]
    cases hs : stepP S p e with
    | none => exact ⟨ok, fun h => by cases h⟩
    | some p' =>
      obtain ⟨h1, h2⟩ := ok_step ok (kind_le hm).2 (stripe_is hm).2 hc (kind_le hm).1 hs
      exact ⟨h2, fun _ => by show p'.came + 1 = _; rw [h1]⟩
  · rw [if_neg hm]
    exact ⟨ok, fun h => by cases h⟩
theorem ek_upd {w w' : World} {g : Nat} {T V S : Int} {p p0 : PS} (h : Ek w) (hc : ChkAt w g T V S p0) (hu : UpdC w g T V S p w') : Ek w' := by
  have hne : 1 ≠ g := by
    intro hg
    have h1 := h.nm 0 (by omega)
    subst hg
    rw [hc.sizes.1] at h1
    cases h1
  refine ⟨fun k hk => ?_⟩
  have h1 := h.nm k hk
  rw [← h1]
  unfold World.cell?
  rw [hu.far _ (there_blockW h1) hne]
set_option maxHeartbeats 8000000 in
theorem nextC_any (hc : ChkAt w g T V S p) (ok : OkP p) (hcm : p.came < 1048576) (hev : EvOk e) (he : Ek w) : Calls Tryz.prog 47 #[.pointer (some ⟨g, 0, none⟩), evV e] w fun r w' => r = .returned (.int .i64 (nxE (nxO T V S p e))) ∧ UpdC w g T V S (nxP p (nxO T V S p e)) w' := by
  have HMAY : Hid (∀ w1, Ek w1 → Calls Tryz.prog 86 #[evV e, .int .i64 T, .int .i64 V, .int .i64 S] w1 fun r w' => r = .returned (.bool (mayB e T V S)) ∧ Below w1.heap.size w1 w') := fun w1 h1 => may_any e hev T V S w1 h1
  have HCM : Hid (mayB e T V S = true → ∀ w1, ChkAt w1 g T V S p → Calls Tryz.prog 87 #[.pointer (some ⟨g, 0, none⟩), evV e] w1 (StepPost w1 g T V S p (stepP S p e))) := fun hm w1 h1 => comes_any h1 ok hm
  have HOK := Lib.hid (fun (o : Option PS) (h : nxO T V S p e = o) => nx_ok ok hcm h)
  have hcame := ok.came
  have hg := hc.lt
  have c_came := hc.came
  have e0 : (p.came == 1048576) = false := beq_eq_false_iff_ne.2 (by omega)
  have HN0 : Hid (mayB e T V S = false → nxO T V S p e = none) := fun h => if_neg (by rw [h]; decide)
  have HN1 : Hid (mayB e T V S = true → nxO T V S p e = stepP S p e) := fun h => if_pos h
  obtain ⟨kd, th, tx, pl, v, x, y⟩ := e
  unfold evV at HMAY HCM ⊢
  simp only at HMAY HCM ⊢
  have U1 : Hid (UpdC w g T V S p (w.alloc (.cells #[.int .u8 kd, .int .i64 th, .int .i64 tx, .int .i64 pl, .int .i64 v, .int .i64 x, .int .u8 y] 50))) := (UpdC.refl hc).alloc _
  have R1 : Hid ((w.alloc (.cells #[.int .u8 kd, .int .i64 th, .int .i64 tx, .int .i64 pl, .int .i64 v, .int .i64 x, .int .u8 y] 50)).heap[w.heap.size]? = some (.cells #[.int .u8 kd, .int .i64 th, .int .i64 tx, .int .i64 pl, .int .i64 v, .int .i64 x, .int .u8 y] 50 (0, 0))) := heap_alloc_new w _
  have hb : Hid (w.heap.size < (w.alloc (.cells #[.int .u8 kd, .int .i64 th, .int .i64 tx, .int .i64 pl, .int .i64 v, .int .i64 x, .int .u8 y] 50)).heap.size) := by show _ < _; simp
  have hbg : Hid (w.heap.size ≠ g) := by show _ ≠ _; omega
  have HEK : Hid (Ek (w.alloc (.cells #[.int .u8 kd, .int .i64 th, .int .i64 tx, .int .i64 pl, .int .i64 v, .int .i64 x, .int .u8 y] 50))) := he.below ((Below.refl _ _).alloc (Nat.le_refl _) _)
  clear hc he hev
  have hcase : mayB ⟨kd, th, tx, pl, v, x, y⟩ T V S = false ∨ mayB ⟨kd, th, tx, pl, v, x, y⟩ T V S = true := by cases mayB ⟨kd, th, tx, pl, v, x, y⟩ T V S <;> simp
  rcases hcase with hm | hm
  · have hn := HN0.out hm
    rw [hm] at HMAY
    rw [hn]
    have ho : nxE none = 4 := rfl
    rw [ho, show nxP p none = p from rfl]
    clear hm hn ho HCM HOK HN0 HN1
    go_enter Tryz.func47, Tryz.ntmps47
    go_wp2_with fail
    generalize w.alloc (.cells #[.int .u8 kd, .int .i64 th, .int .i64 tx, .int .i64 pl, .int .i64 v, .int .i64 x, .int .u8 y] 50) = W1 at U1 R1 hb HEK ⊢
    have HE1 : Hid (∀ w1, Below W1.heap.size W1 w1 → w1.heap[w.heap.size]? = some (.cells #[.int .u8 kd, .int .i64 th, .int .i64 tx, .int .i64 pl, .int .i64 v, .int .i64 x, .int .u8 y] 50 (0, 0))) := fun w1 h => (h.block _ hb.out).trans R1.out
    have HZ1 : Hid (∀ w1, Below W1.heap.size W1 w1 → w1.cell? ⟨g, 0, none⟩ = some (.int .i64 T) ∧ w1.cell? ⟨g, 1, none⟩ = some (.int .i64 V) ∧ w1.cell? ⟨g, 2, none⟩ = some (.int .i64 S)) := fun w1 h => (U1.out.of h).at'.sizes
    clear c_came
    refine rgNxA rfl _ (by simp) _ g _ T V S kd th tx pl v x y (fun w1 h => HE1.out w1 h) (fun w1 h => HZ1.out w1 h) (fun w1 h => HMAY.out w1 (HEK.out.below h)) rfl rfl ?_
    intro w5 h5
    simp only [putAll, List.setIfInBounds_toArray, List.set_cons_succ, List.set_cons_zero]
    go_wp2_with fail
    go_ret
    exact ⟨rfl, U1.out.of h5⟩
  · have hn := HN1.out hm
    have HCM2 := Lib.hid (HCM.out hm)
    rw [hm] at HMAY
    rw [hn] at HOK ⊢
    obtain ⟨o, ho⟩ : ∃ o, o = stepP S p ⟨kd, th, tx, pl, v, x, y⟩ := ⟨_, rfl⟩
    rw [← ho] at HOK HCM2 ⊢
    have HOK2 := Lib.hid (HOK.out o rfl)
    clear hn hm HN0 HN1 HCM ho HOK
    cases o with
    | none =>
      rw [show nxE none = 4 from rfl, show nxP p none = p from rfl]
      go_enter Tryz.func47, Tryz.ntmps47
      go_wp2_with fail
      generalize w.alloc (.cells #[.int .u8 kd, .int .i64 th, .int .i64 tx, .int .i64 pl, .int .i64 v, .int .i64 x, .int .u8 y] 50) = W1 at U1 R1 hb HEK ⊢
      have HE1 : Hid (∀ w1, Below W1.heap.size W1 w1 → w1.heap[w.heap.size]? = some (.cells #[.int .u8 kd, .int .i64 th, .int .i64 tx, .int .i64 pl, .int .i64 v, .int .i64 x, .int .u8 y] 50 (0, 0))) := fun w1 h => (h.block _ hb.out).trans R1.out
      have HZ1 : Hid (∀ w1, Below W1.heap.size W1 w1 → w1.cell? ⟨g, 0, none⟩ = some (.int .i64 T) ∧ w1.cell? ⟨g, 1, none⟩ = some (.int .i64 V) ∧ w1.cell? ⟨g, 2, none⟩ = some (.int .i64 S)) := fun w1 h => (U1.out.of h).at'.sizes
      clear c_came
      have HEG : Hid (∀ p1 w1, UpdC W1 g T V S p1 w1 ∨ Below W1.heap.size W1 w1 → w1.heap[w.heap.size]? = some (.cells #[.int .u8 kd, .int .i64 th, .int .i64 tx, .int .i64 pl, .int .i64 v, .int .i64 x, .int .u8 y] 50 (0, 0))) := fun p1 w1 h => h.elim (fun h => (h.far _ hb.out hbg.out).trans R1.out) (fun h => HE1.out w1 h)
      have HZG : Hid (∀ p1 w1, UpdC W1 g T V S p1 w1 ∨ Below W1.heap.size W1 w1 → w1.cell? ⟨g, 0, none⟩ = some (.int .i64 T) ∧ w1.cell? ⟨g, 1, none⟩ = some (.int .i64 V) ∧ w1.cell? ⟨g, 2, none⟩ = some (.int .i64 S)) := fun p1 w1 h => h.elim (fun h => h.at'.sizes) (fun h => HZ1.out w1 h)
      have HEKG : Hid (∀ p1 w1, UpdC W1 g T V S p1 w1 ∨ Below W1.heap.size W1 w1 → Ek w1) := fun p1 w1 h => h.elim (fun h => ek_upd HEK.out U1.out.at' h) (fun h => HEK.out.below h)
      refine rgNxB rfl _ (by simp) _ (fun w1 => UpdC W1 g T V S p w1) (fun w1 w' h1 h2 => h1.of h2) g _ T V S kd th tx pl v x y (fun w1 h => HEG.out p w1 h) (fun w1 h => HZG.out p w1 h) (fun w1 h => HMAY.out w1 (HEKG.out p w1 h)) (fun w1 h => (HCM2.out w1 (U1.out.of h).at').mono fun r w' hr => ⟨hr.1, ((UpdC.refl U1.out.at').of h).trans hr.2⟩) rfl rfl ?_
      intro w5 h5
      simp only [putAll, List.setIfInBounds_toArray, List.set_cons_succ, List.set_cons_zero]
      go_wp2_with fail
      go_ret
      exact ⟨rfl, U1.out.trans h5⟩
    | some p' =>
      rw [show nxE (some p') = 0 from rfl, show nxP p (some p') = { p' with came := p'.came + 1 } from rfl]
      have hk : p'.came + 1 = p.came + 1 := HOK2.out.2 rfl
      go_enter Tryz.func47, Tryz.ntmps47
      go_wp2_with fail
      generalize w.alloc (.cells #[.int .u8 kd, .int .i64 th, .int .i64 tx, .int .i64 pl, .int .i64 v, .int .i64 x, .int .u8 y] 50) = W1 at U1 R1 hb HEK ⊢
      have HE1 : Hid (∀ w1, Below W1.heap.size W1 w1 → w1.heap[w.heap.size]? = some (.cells #[.int .u8 kd, .int .i64 th, .int .i64 tx, .int .i64 pl, .int .i64 v, .int .i64 x, .int .u8 y] 50 (0, 0))) := fun w1 h => (h.block _ hb.out).trans R1.out
      have HZ1 : Hid (∀ w1, Below W1.heap.size W1 w1 → w1.cell? ⟨g, 0, none⟩ = some (.int .i64 T) ∧ w1.cell? ⟨g, 1, none⟩ = some (.int .i64 V) ∧ w1.cell? ⟨g, 2, none⟩ = some (.int .i64 S)) := fun w1 h => (U1.out.of h).at'.sizes
      clear c_came
      have HEG : Hid (∀ p1 w1, UpdC W1 g T V S p1 w1 ∨ Below W1.heap.size W1 w1 → w1.heap[w.heap.size]? = some (.cells #[.int .u8 kd, .int .i64 th, .int .i64 tx, .int .i64 pl, .int .i64 v, .int .i64 x, .int .u8 y] 50 (0, 0))) := fun p1 w1 h => h.elim (fun h => (h.far _ hb.out hbg.out).trans R1.out) (fun h => HE1.out w1 h)
      have HZG : Hid (∀ p1 w1, UpdC W1 g T V S p1 w1 ∨ Below W1.heap.size W1 w1 → w1.cell? ⟨g, 0, none⟩ = some (.int .i64 T) ∧ w1.cell? ⟨g, 1, none⟩ = some (.int .i64 V) ∧ w1.cell? ⟨g, 2, none⟩ = some (.int .i64 S)) := fun p1 w1 h => h.elim (fun h => h.at'.sizes) (fun h => HZ1.out w1 h)
      have HEKG : Hid (∀ p1 w1, UpdC W1 g T V S p1 w1 ∨ Below W1.heap.size W1 w1 → Ek w1) := fun p1 w1 h => h.elim (fun h => ek_upd HEK.out U1.out.at' h) (fun h => HEK.out.below h)
      refine rgNxC rfl _ (by simp) _ (fun w1 => UpdC W1 g T V S p' w1) (fun w1 w' h1 h2 => h1.of h2) g _ T V S kd th tx pl v x y (fun w1 h => HEG.out p' w1 h) (fun w1 h => HZG.out p' w1 h) (fun w1 h => HMAY.out w1 (HEKG.out p' w1 h)) (fun w1 h => (HCM2.out w1 (U1.out.of h).at').mono fun r w' hr => ⟨hr.1, ((UpdC.refl U1.out.at').of h).trans hr.2⟩) rfl rfl ?_
      intro w5 h5
      simp only [putAll, List.setIfInBounds_toArray, List.set_cons_succ, List.set_cons_zero]
      have k5 := h5.at'.came
      have f5 := h5.at'.fr 3
      have i5 : 0 ≤ p'.came := by omega
      have i6 : p'.came ≤ 1048576 := by omega
      clear hk
      go_wp2_with fail
      go_ret
      exact ⟨rfl, (U1.out.trans h5).came (p'.came + 1)⟩
end
end Go.Proofs.YteigglhhnemngaaGreatDoor
namespace Go.Proofs.YteigglhhnemngaaGreatDoor
set_option maxRecDepth 100000
open Go.RowKit Go.Deep
set_option linter.unusedVariables false
set_option linter.unusedSimpArgs false
theorem key_rel {T V S : Int} {p : PS} {q : Sh} {e : Ev} (hI : Inv S T q) (hR : Rel S T p q) (hb : mayB e T V S = true) : Good S T (stepP S p e) (mayQ S q (q.att e.th) e) (stepS S q e) := by
  have hb0 := hb
  obtain ⟨hsz, hth, hk⟩ := (may_iff _ _ _ _).1 hb
  simp only [sizesB, Bool.and_eq_true, decide_eq_true_eq] at hsz
  have hS : 1 ≤ S ∧ S ≤ 32 := by omega
  obtain ⟨kd, th, tx, pl, v, x, y⟩ := e
  unfold MayK at hk
  simp only at hk hth ⊢
  obtain ⟨t, rfl⟩ : ∃ t : Nat, th = t := ⟨th.toNat, by omega⟩
  have ht : (t : Int) < T := by omega
  have hem : 0 ≤ pl % S ∧ pl % S < S := ⟨Int.emod_nonneg _ (by omega), Int.emod_lt_of_pos _ (by omega)⟩
  rcases hk with ⟨rfl, h1, rfl, h2, rfl, rfl⟩ | ⟨rfl, rfl, h1, h2, rfl, rfl⟩ | ⟨hkd, rfl, h1, rfl, h2, rfl⟩ | ⟨hkd, rfl, h1, rfl, rfl, rfl⟩ | ⟨rfl, rfl, rfl, h1, rfl, rfl⟩ | ⟨rfl, rfl, rfl, h1, rfl, rfl⟩ | ⟨rfl, rfl, h1, rfl, rfl, h2, h3⟩ | ⟨hkd, rfl, rfl, rfl, rfl, rfl⟩
  · exact st_begin hI hR hS ht tx v
  · obtain ⟨s, rfl⟩ : ∃ s : Nat, pl = s := ⟨pl.toNat, by omega⟩
    exact st_look hI hR hS ht s h1.2 v
  · rcases hkd with rfl | rfl
    · exact st_load hI hR hS ht pl (pl % S).toNat (by omega) x
    · exact st_store hI hR hS ht pl (pl % S).toNat (by omega) x
  · obtain ⟨s, rfl⟩ : ∃ s : Nat, pl = s := ⟨pl.toNat, by omega⟩
    rcases hkd with rfl | rfl | rfl | rfl
    · exact st_lock hI hR hS ht s h1.2
    · exact st_check hI hR hS ht s h1.2
    · exact st_free hI hR hS ht s h1.2 hb0
    · exact st_undo hI hR hS ht s h1.2 hb0
  · exact st_bump hI hR hS ht v h1.1
  · exact st_commit hI hR hS ht v
  · obtain ⟨s, rfl⟩ : ∃ s : Nat, pl = s := ⟨pl.toNat, by omega⟩
    have : y = 1 ∨ y = 2 ∨ y = 3 ∨ y = 4 ∨ y = 5 ∨ y = 6 := by omega
    rcases this with rfl | rfl | rfl | rfl | rfl | rfl
    · exact st_held hI hR hS ht s h1.2
    · exact st_newer hI hR hS ht s h1.2
    · exact st_moved hI hR hS ht s h1.2
    · exact st_busy hI hR hS ht s h1.2
    · exact st_stale hI hR hS ht s h1.2
    · obtain rfl : s = 0 := by have := h3 rfl; omega
      exact st_full hI hR hS ht
  · rcases hkd with rfl | rfl
    · exact st_wait hI hR hS ht
    · exact st_wake hI hR hS ht
theorem nx_rel {T V S : Int} {p : PS} {q : Sh} {e : Ev} (hI : Inv S T q) (hR : Rel S T p q) : Good S T (nxO T V S p e) (mayS T V S q e = true) (stepS S q e) := by
  unfold nxO mayS
  by_cases hb : mayB e T V S = true
  · rw [if_pos hb, hb]
    have := key_rel hI hR hb
    simpa using this
  · rw [if_neg hb]
    refine ⟨fun h => ?_, fun _ => rfl⟩
    simp [hb] at h
theorem Rel.came {S T : Int} {p : PS} {q : Sh} (h : Rel S T p q) (c : Int) : Rel S T { p with came := c } q where
  t := fun u hu => (h.t u hu).same ⟨rfl, rfl, rfl, rfl, rfl, rfl, rfl, rfl, rfl⟩
  own := h.own
  ver := h.ver
  clk := h.clk
theorem check_at {T V S : Int} {L : List Ev} {i : Nat} {e : Ev} (h1 : size13 T V S = true) (h2 : L.length ≤ 1048576) (he : L[i]? = some e) (hF : Fine T V S (L.take i)) (hm : mayS T V S (behind S (L.take i)) e = false) : checkF T V S L = (i, 4) := by
  rcases check_cases T V S L h1 h2 with ⟨_, h⟩ | ⟨j, e', he', hm', hF', h⟩
  · have := h i e he
    rw [this] at hm
    cases hm
  · have : j = i := by
      rcases Nat.lt_trichotomy j i with hlt | heq | hgt
      · have := hF j e' (by rw [List.getElem?_take, if_pos hlt]; exact he')
        rw [List.take_take, Nat.min_eq_left (by omega), hm'] at this
        cases this
      · exact heq
      · have := hF' i e (by rw [List.getElem?_take, if_pos hgt]; exact he)
        rw [List.take_take, Nat.min_eq_left (by omega), hm] at this
        cases this
    subst this
    exact h
theorem fine_next {T V S : Int} {L : List Ev} {i : Nat} {e : Ev} (he : L[i]? = some e) (hF : Fine T V S (L.take i)) (hm : mayS T V S (behind S (L.take i)) e = true) : Fine T V S (L.take (i + 1)) := by
  intro j x hx
  rw [List.getElem?_take] at hx
  split at hx
  · rw [List.take_take, Nat.min_eq_left (by omega)]
    by_cases hj : j < i
    · have := hF j x (by rw [List.getElem?_take, if_pos hj]; exact hx)
      rwa [List.take_take, Nat.min_eq_left (by omega)] at this
    · obtain rfl : j = i := by omega
      rw [he] at hx
      cases hx
      exact hm
  · cases hx
def ownK (k : Nat) : Nat → Int := fun s => if s < k then -1 else 0
def psK (k : Nat) : PS := ⟨0, 0, ownK k, fun _ => 0, fun _ => 0, fun _ => 0, fun _ => 0, fun _ => 0, fun _ => 0, fun _ => 0, fun _ _ => false, fun _ _ => false, fun _ => 0⟩
theorem ownK_next (k : Nat) : upN (ownK k) k (-1) = ownK (k + 1) := by
  funext s
  unfold upN ownK
  by_cases h : s = k
  · rw [if_pos h, if_pos (by omega)]
  · rw [if_neg h]
    by_cases h2 : s < k
    · rw [if_pos h2, if_pos (by omega)]
    · rw [if_neg h2, if_neg (by omega)]
theorem psK_next (k : Nat) : { psK k with own := upN (psK k).own k (-1) } = psK (k + 1) := by
  show PS.mk _ _ (upN (ownK k) k (-1)) _ _ _ _ _ _ _ _ _ _ = psK (k + 1)
  rw [ownK_next]
  rfl
theorem psK_end (T V S : Int) : rowP T V S (psK 32) = rowP T V S ps0 := by
  unfold rowP
  refine rowV_congr fun j hj => ?_
  unfold cellP
  by_cases h69 : j < 69
  · have h : (j - 5) / 2 < 32 := by omega
    simp only [psK, ps0, ownK, h, if_true]
  · simp only [h69, if_false, psK, ps0]
theorem ps0_ok : OkP ps0 := ⟨fun _ => by simp [ps0], fun _ => by simp [ps0], fun _ => by simp [ps0], fun _ => by simp [ps0], fun _ => by simp [ps0], by simp [ps0]⟩
set_option maxHeartbeats 4000000 in
theorem newC_no (T V S : Int) (h : size13 T V S = false) (w : World) : Calls Tryz.prog 46 #[.int .i64 T, .int .i64 V, .int .i64 S] w fun r w' => r = .returned (.tuple #[.pointer none, .int .i64 1]) ∧ w = w' := by
  have h9 : T < 0 ∨ 6 < T ∨ V < 1 ∨ 32 < V ∨ S < 1 ∨ V < S := by
    rw [← Bool.not_eq_true] at h
    simp only [size13, Bool.and_eq_true, decide_eq_true_eq] at h
    omega
  clear h
  by_cases h1 : T < 0
  · have e1 : decide (T < 0) = true := by simpa using h1
    clear h9
    go_enter Tryz.func46, Tryz.ntmps46
    go_wp2_with fail
    go_ret2
    exact ⟨rfl, rfl⟩
  have e1 : decide (T < 0) = false := by simpa using h1
  by_cases h2 : 6 < T
  · have e2 : decide (6 < T) = true := by simpa using h2
    clear h9
    go_enter Tryz.func46, Tryz.ntmps46
    go_wp2_with fail
    go_ret2
    exact ⟨rfl, rfl⟩
  have e2 : decide (6 < T) = false := by simpa using h2
  by_cases h3 : V < 1
  · have e3 : decide (V < 1) = true := by simpa using h3
    clear h9
    go_enter Tryz.func46, Tryz.ntmps46
    go_wp2_with fail
    go_ret2
    exact ⟨rfl, rfl⟩
  have e3 : decide (V < 1) = false := by simpa using h3
  by_cases h4 : 32 < V
  · have e4 : decide (32 < V) = true := by simpa using h4
    clear h9
    go_enter Tryz.func46, Tryz.ntmps46
    go_wp2_with fail
    go_ret2
    exact ⟨rfl, rfl⟩
  have e4 : decide (32 < V) = false := by simpa using h4
  by_cases h5 : S < 1
  · have e5 : decide (S < 1) = true := by simpa using h5
    clear h9
    go_enter Tryz.func46, Tryz.ntmps46
    go_wp2_with fail
    go_ret2
    exact ⟨rfl, rfl⟩
  have e5 : decide (S < 1) = false := by simpa using h5
  have h6 : V < S := by omega
  have e6 : decide (V < S) = true := by simpa using h6
  clear h9
  go_enter Tryz.func46, Tryz.ntmps46
  go_wp2_with fail
  go_ret2
  exact ⟨rfl, rfl⟩
set_option maxHeartbeats 8000000 in
theorem newC_yes (T V S : Int) (h : size13 T V S = true) (w : World) : Calls Tryz.prog 46 #[.int .i64 T, .int .i64 V, .int .i64 S] w fun r w' => ∃ g, r = .returned (.tuple #[.pointer (some ⟨g, 0, none⟩), .int .i64 0]) ∧ ChkAt w' g T V S ps0 ∧ w.heap.size ≤ g ∧ Below w.heap.size w w' := by
  simp only [size13, Bool.and_eq_true, decide_eq_true_eq] at h
  have e1 : decide (T < 0) = false := by simp; omega
  have e2 : decide (6 < T) = false := by simp; omega
  have e3 : decide (V < 1) = false := by simp; omega
  have e4 : decide (32 < V) = false := by simp; omega
  have e5 : decide (S < 1) = false := by simp; omega
  have e6 : decide (V < S) = false := by simp; omega
  have h1 : ¬ T < 0 := by omega
  have h2 : ¬ 6 < T := by omega
  have h3 : ¬ V < 1 := by omega
  have h4 : ¬ 32 < V := by omega
  have h5 : ¬ S < 1 := by omega
  have h6 : ¬ V < S := by omega
  clear h
  go_enter Tryz.func46, Tryz.ntmps46
  go_wp2_with (first
    | (refine wpList_builtS rfl 161 _ rfl (rowP T V S (psK 0)) (by kernel_rfl) ?_)
    | fail)
  have hC : Hid (ChkAt (w.alloc (.cells (rowP T V S (psK 0)) 161)) w.heap.size T V S (psK 0)) := heap_alloc_new w _
  have hB : Hid (Below w.heap.size w (w.alloc (.cells (rowP T V S (psK 0)) 161))) := (Below.refl _ _).alloc (Nat.le_refl _) _
  obtain ⟨g, hg⟩ : ∃ g, g = w.heap.size := ⟨_, rfl⟩
  have HG : Hid (w.heap.size ≤ g) := by show _ ≤ _; omega
  rw [← hg] at hC ⊢
  generalize w.alloc (.cells (rowP T V S (psK 0)) 161) = W1 at hC hB ⊢
  clear hg
  go_loopw [39] (fun iv wr => ∃ k : Nat, k ≤ 32 ∧ iv = .int .i64 k ∧ Hid (UpdC W1 g T V S (psK k) wr)) (fun iv _ => 32 - (intOf iv).toNat)
  case atStart => exact ⟨0, by omega, rfl, UpdC.refl hC.out⟩
  case round =>
    obtain ⟨k, hk, rfl, hU⟩ := hrel
    by_cases hlt : k < 32
    · have hii : (k : Int) < 32 := by omega
      have hi0 : (0 : Int) ≤ (k : Int) := by omega
      have c1 := hU.out.at'.own hlt
      have f1 := hU.out.at'.fr (5 + k * 2)
      have HN : Hid (UpdC W1 g T V S (psK (k + 1)) (wr.setCell ⟨g, 5 + k * 2, none⟩ (.int .i64 (-1)))) := by
        have := hU.out.own hlt (-1)
        rwa [psK_next] at this
      go_wp2_with fail
      go_roundw
      case rel => exact ⟨k + 1, by omega, by go_num, HN⟩
      case measure => simp [intOf]; omega
    · obtain rfl : k = 32 := by omega
      have HN : Hid (ChkAt wr g T V S ps0) := by
        have := hU.out.at'
        show ChkAt _ _ _ _ _ _
        unfold ChkAt at this ⊢
        rwa [psK_end] at this
      have HF : Hid (Below w.heap.size w wr) := hB.out.trans (hU.out.low _ HG.out)
      clear hB hU
      go_wp2_with fail
      go_ret2
      exact ⟨g, rfl, HN.out, HG.out, HF.out⟩
structure AtI (T V S : Int) (L : List Ev) (i : Nat) (p : PS) : Prop where
  rel : Rel S T p (behind S (L.take i))
  fine : Fine T V S (L.take i)
  ok : OkP p
  came : p.came = i
theorem atI_0 (T V S : Int) (L : List Ev) : AtI T V S L 0 ps0 := ⟨by rw [List.take_zero]; exact rel0 S T, by rw [List.take_zero]; exact fun i e h => by simp at h, ps0_ok, rfl⟩
theorem atI_next {T V S : Int} {L : List Ev} {i : Nat} {p : PS} {e : Ev} (h : AtI T V S L i p) (he : L[i]? = some e) (hi : i < 1048576) : (nxE (nxO T V S p e) = 0 ∧ AtI T V S L (i + 1) (nxP p (nxO T V S p e))) ∨ (nxE (nxO T V S p e) = 4 ∧ mayS T V S (behind S (L.take i)) e = false) := by
  have hlt : i < L.length := (List.getElem?_eq_some_iff.1 he).1
  have hI : Inv S T (behind S (L.take i)) := by
    have := fine_inv h.fine i (by simp; omega)
    rwa [List.take_take, Nat.min_self] at this
  have hG := nx_rel (e := e) (V := V) hI h.rel
  obtain ⟨k1, k2⟩ := nx_ok (T := T) (V := V) (S := S) (e := e) h.ok (by rw [h.came]; omega) rfl
  by_cases hm : mayS T V S (behind S (L.take i)) e = true
  · obtain ⟨p', h1, h2⟩ := hG.1 hm
    rw [h1] at k1 k2 ⊢
    refine .inl ⟨rfl, ?_, fine_next he h.fine hm, k1, ?_⟩
    · rw [behind_next he]
      exact h2.came _
    · rw [k2 rfl, h.came]
      omega
  · refine .inr ⟨by rw [hG.2 hm]; rfl, by simpa using hm⟩
theorem atI_end {T V S : Int} {L : List Ev} {p : PS} (h1 : size13 T V S = true) (h2 : L.length ≤ 1048576) (h : AtI T V S L L.length p) : checkF T V S L = (L.length, 0) := by
  have := h.fine
  rw [List.take_length] at this
  exact fine_iff.2 ⟨h1, h2, this⟩
theorem retT {q : Nat × Int} {i : Nat} {k : Int} (h : q = (i, k)) : Ending.returned (.tuple #[.int .i64 (i : Int), .int .i64 k]) = .returned (.tuple #[.int .i64 (q.1 : Nat), .int .i64 q.2]) := by rw [h]
set_option maxHeartbeats 8000000 in
theorem check_any13 (w : World) (hek : Ek w) (T V S : Int) (A : Option Addr) (L : List Ev) (c : Nat) (hT : i64P T) (hV : i64P V) (hS : i64P S) (hl : L.length ≤ 100000) (he : EvsAt w w.heap.size A L) :
    Calls Tryz.prog 19 #[trV T V S A L.length c] w fun r w' => r = .returned (.tuple #[.int .i64 ((checkF T V S L).1 : Nat), .int .i64 (checkF T V S L).2]) ∧ Below w.heap.size w w' := by
  have hcase : size13 T V S = false ∨ size13 T V S = true := by cases size13 T V S <;> simp
  have hB : Hid (Below w.heap.size w (w.alloc (.cells #[.int .i64 T, .int .i64 V, .int .i64 S, .slice A L.length c] 25))) := (Below.refl _ _).alloc (Nat.le_refl _) _
  have hR : Hid ((w.alloc (.cells #[.int .i64 T, .int .i64 V, .int .i64 S, .slice A L.length c] 25)).heap[w.heap.size]? = some (.cells #[.int .i64 T, .int .i64 V, .int .i64 S, .slice A L.length c] 25 (0, 0))) := heap_alloc_new w _
  rcases hcase with hs | hs
  · have hF : checkF T V S L = (0, 1) := by unfold checkF; rw [if_pos hs]
    rw [hF]
    have HN := Lib.hid (fun w1 => newC_no T V S hs w1)
    clear hs hF he hek hT hV hS hl
    unfold trV
    generalize L.length = n at *
    go_enter Tryz.func19, Tryz.ntmps19
    go_wp2_with fail
    refine (HN.out _).mono ?_
    rintro r w1 ⟨rfl, rfl⟩
    go_wp2_with fail
    go_ret2
    exact ⟨rfl, hB.out⟩
  · have HNW := Lib.hid (fun w1 => newC_yes T V S hs w1)
    have HEND : Hid (∀ p, AtI T V S L L.length p → checkF T V S L = (L.length, 0)) := fun p h => atI_end hs (by omega) h
    have HBAD : Hid (∀ i e p, L[i]? = some e → AtI T V S L i p → mayS T V S (behind S (L.take i)) e = false → checkF T V S L = (i, 4)) := fun i e p h1 h2 h3 => check_at hs (by omega) h1 h2.fine h3
    have HE := Lib.hid he
    have HEK := Lib.hid hek
    obtain ⟨cf, hcf⟩ : ∃ cf, cf = checkF T V S L := ⟨_, rfl⟩
    rw [← hcf] at HEND HBAD ⊢
    obtain ⟨n, hn⟩ : ∃ n, n = L.length := ⟨_, rfl⟩
    rw [← hn] at HEND hl hB hR ⊢
    have HN := Lib.hid hn
    have i9 : (n : Int) ≤ 100000 := by omega
    clear hs he hek hT hV hS hn hcf hl
    unfold trV
    go_enter Tryz.func19, Tryz.ntmps19
    go_wp2_with fail
    refine (HNW.out _).mono ?_
    rintro r w1 ⟨g, rfl, hC, hg, hb1⟩
    generalize w.alloc (.cells #[.int .i64 T, .int .i64 V, .int .i64 S, .slice A n c] 25) = W1 at hB hR hg hb1
    have hlt1 : w.heap.size < W1.heap.size := (Array.getElem?_eq_some_iff.1 hR.out).1
    have R1 : Hid (w1.heap[w.heap.size]? = some (.cells #[.int .i64 T, .int .i64 V, .int .i64 S, .slice A n c] 25 (0, 0))) := row_stays hR.out hb1
    have B1 : Hid (Below w.heap.size w w1) := hB.out.trans (hb1.mono hB.out.size)
    have HC := Lib.hid hC
    have HG : Hid (w.heap.size < g) := by show _ < _; omega
    have x3 := cell_of_row w1 _ 3 _ _ _ R1.out
    simp only [List.getElem?_toArray, List.getElem?_cons_zero, List.getElem?_cons_succ] at x3
    clear hB hR hC hg hb1 HNW hlt1
    go_wp2_with fail
    clear x3
    go_loopw [28] (fun iv wr => ∃ (i : Nat) (p : PS), i ≤ n ∧ iv = .int .i64 i ∧ Hid (AtI T V S L i p) ∧ Hid (UpdC w1 g T V S p wr)) (fun iv _ => n - (intOf iv).toNat)
    case atStart => exact ⟨0, ps0, by omega, rfl, atI_0 T V S L, UpdC.refl HC.out⟩
    case round =>
      obtain ⟨i, p, hi, rfl, hA, hU⟩ := hrel
      have hB : Hid (Below w.heap.size w wr) := B1.out.trans (hU.out.low _ (Nat.le_of_lt HG.out))
      by_cases hlt : i < n
      · obtain ⟨a, rfl, ha, hev⟩ := HE.out i (by rw [← HN.out]; exact hlt)
        have hev := hev.below hB.out (by rw [add_blockO]; exact ha)
        have hei := nthE_of (L := L) (i := i) (by rw [← HN.out]; exact hlt)
        have hnx := atI_next hA.out hei (by omega)
        have hii : (i : Int) < (n : Int) := by omega
        have HBD : Hid (mayS T V S (behind S (L.take i)) (nthE L i) = false → cf = (i, 4)) := fun h => HBAD.out i _ p hei hA.out h
        have HNX : Hid (∀ w2, UpdC w1 g T V S p w2 → Ek w2 → Calls Tryz.prog 47 #[.pointer (some ⟨g, 0, none⟩), evV (nthE L i)] w2 fun r w' => r = .returned (.int .i64 (nxE (nxO T V S p (nthE L i)))) ∧ UpdC w2 g T V S (nxP p (nxO T V S p (nthE L i))) w') := fun w2 h1 h2 => nextC_any h1.at' hA.out.ok (by rw [hA.out.came]; omega) hev.ok h2
        have HUA : Hid (∀ o : Go.Obj, UpdC w1 g T V S p (wr.alloc o)) := fun o => hU.out.alloc o
        have HEA : Hid (∀ o : Go.Obj, Ek (wr.alloc o)) := fun o => HEK.out.below (hB.out.alloc hB.out.size o)
        obtain ⟨c0, c1, c2, c3, c4, c5, c6, _⟩ := hev
        obtain ⟨p2, hp2⟩ : ∃ p2, p2 = nxP p (nxO T V S p (nthE L i)) := ⟨_, rfl⟩
        rw [← hp2] at hnx HNX
        clear hp2 hlt hei
        rcases hnx with ⟨h0, h1⟩ | ⟨h0, h1⟩
        · have HA2 := Lib.hid h1
          rw [h0] at HNX
          clear h0 h1 HBD HE HBAD HEND ha
          generalize nthE L i = e at *
          obtain ⟨kd, th, tx, pl, v, x, y⟩ := e
          unfold evV at HNX
          simp only at c0 c1 c2 c3 c4 c5 c6 HNX
          go_wp2_with fail
          refine (HNX.out _ (HUA.out _) (HEA.out _)).mono ?_
          rintro r w2 ⟨rfl, hu⟩
          have HU2 := Lib.hid ((HUA.out _).trans hu)
          clear hu HUA HEA HNX c0 c1 c2 c3 c4 c5 c6
          go_wp2_with fail
          go_roundw
          case rel => exact ⟨i + 1, p2, by omega, by go_num, HA2, HU2⟩
          case measure => simp [intOf]; omega
        · have HF := Lib.hid (HBD.out h1)
          rw [h0] at HNX
          clear h0 h1 HBD HE HBAD HEND ha
          generalize nthE L i = e at *
          obtain ⟨kd, th, tx, pl, v, x, y⟩ := e
          unfold evV at HNX
          simp only at c0 c1 c2 c3 c4 c5 c6 HNX
          go_wp2_with fail
          refine (HNX.out _ (HUA.out _) (HEA.out _)).mono ?_
          rintro r w2 ⟨rfl, hu⟩
          have HU2 : Hid (Below w.heap.size w w2) := B1.out.trans (((HUA.out _).trans hu).low _ (Nat.le_of_lt HG.out))
          clear hu HUA HEA HNX c0 c1 c2 c3 c4 c5 c6
          go_wp2_with fail
          go_ret2
          exact ⟨retT HF.out, HU2.out⟩
      · obtain rfl : i = n := by omega
        have hii : ¬ (i : Int) < (i : Int) := by omega
        have hF : Hid (cf = (i, 0)) := HEND.out p hA.out
        have rt : wr.heap[w.heap.size]? = some (.cells #[.int .i64 T, .int .i64 V, .int .i64 S, .slice A i c] 25 (0, 0)) := (hU.out.far _ (Array.getElem?_eq_some_iff.1 R1.out).1 (by have := HG.out; omega)).trans R1.out
        have x3 := cell_of_row wr _ 3 _ _ _ rt
        simp only [List.getElem?_toArray, List.getElem?_cons_zero, List.getElem?_cons_succ] at x3
        clear rt HE HBAD HEND
        go_wp2_with fail
        go_ret2
        exact ⟨retT hF.out, hB.out⟩
end Go.Proofs.YteigglhhnemngaaGreatDoor
