/-
  THE DOCUMENT'S OWN HEAP (seesawref11): a step done as the document does it. Conditions: as they stand.
-/
import Derived.Test.YtokhcogmoleocaaTe
namespace Go.Proofs.Ytokhcogmoleocaa
set_option maxRecDepth 100000
open Go.RowKit Go.Deep
set_option linter.unusedVariables false
theorem HO.put1 {c : Nat → Int} (h : HO c) {k : Nat} {v : Int} (hv : -1 ≤ v) : HO (put c (1 + k) v) := fun j hj => by
  by_cases hjk : j = k
  · subst hjk; rw [put_at]; exact hv
  · rw [put_far (by omega)]; exact h j hj
theorem HO.far {c : Nat → Int} (h : HO c) {i : Nat} {v : Int} (hi : 33 ≤ i) : HO (put c i v) := fun j hj => by
  rw [put_far (by omega)]; exact h j hj
theorem HO.step {c : Nat → Int} (h : HO c) (s : S11) : HO (doC c s) := by
  unfold doC
  split
  · unfold ownC
    split
    · rename_i h0
      exact h.put1 (by have := (own_ok.1 h0).2.1; omega)
    · exact h
  · split
    · unfold letC
      split
      · exact h.put1 (by omega)
      · exact h
    · split
      · unfold freeC
        split
        · exact (h.far (by omega)).put1 (by omega)
        · exact h
      · split
        · unfold bumpC
          split
          · exact h
          · exact h.far (by omega)
        · unfold setC11
          split
          · exact h.far (by omega)
          · exact h
theorem HO.new {L : List Int} {st limit : Int} (h : badH L.length st limit = false) : HO (newF L st limit) := fun k hk => by
  obtain ⟨h1, h2, h3, h4, h5, h6⟩ := badH_no h
  by_cases hs : (k : Int) < st
  · rw [new_owner hs (by omega)]; omega
  · have : newF L st limit (1 + k) = 0 := by
      unfold newF lockF
      rw [if_pos (by omega)]
      repeat (first | rw [if_neg (by omega)] | rfl)
    omega
theorem UpdR.boxed {w w' : World} {q lo : Nat} {c : Nat → Int} {o : Obj} (h : UpdR (w.alloc o) q lo c w') (hq : q < w.heap.size) : UpdR w q lo c w' :=
  ⟨h.at', fun b hb hl => (h.far b hb (by simp; omega)).trans (heap_alloc_old w o hl), by have := h.size; simp at this; omega, fun B hB => ((Below.refl B w).alloc (by omega) o).trans (h.low B hB)⟩
set_option maxHeartbeats 4000000 in
theorem rdo_any {w : World} {q lo : Nat} {c : Nat → Int} (h : RefH w q lo c) (hb : HB c) (ho : HO c) (hlo : lo ≤ w.heap.size) (s : S11) : Calls Try.prog 31 #[s.v, .pointer (some ⟨q, 0, none⟩)] w fun e w' => e = .returned (.tuple #[.int .i64 (doN c s), .int .i64 (doE c s)]) ∧ UpdR w q lo (doC c s) w' := by
  have hgl := h.lt
  obtain ⟨kind, at', who, ver, x⟩ := s
  have h' : RefH (w.alloc (.cells #[.int .u8 kind, .int .i64 at', .int .i64 who, .int .i64 ver, .int .i64 x] 48)) q lo c := h.below ((Below.refl w.heap.size w).alloc (Nat.le_refl _) _)
  have hlo' : lo ≤ (w.alloc (.cells #[.int .u8 kind, .int .i64 at', .int .i64 who, .int .i64 ver, .int .i64 x] 48)).heap.size := by simp; omega
  by_cases k0 : kind = 0
  · subst k0
    have HO := Lib.hid (rown_any h' hb ho hlo' at' who)
    rw [show doN c ⟨0, at', who, ver, x⟩ = 0 from rfl, show doE c ⟨0, at', who, ver, x⟩ = ownE c at' who from rfl, show doC c ⟨0, at', who, ver, x⟩ = ownC c at' who from rfl]
    obtain ⟨r, hr⟩ : ∃ r, r = ownE c at' who := ⟨_, rfl⟩
    rw [← hr] at HO ⊢
    unfold S11.v
    clear h h' hb hr ho hlo' hlo
    go_enter Try.func31, Try.ntmps31
    go_wp2_with fail
    refine HO.out.mono ?_
    rintro e w' ⟨rfl, hU⟩
    have HU := Lib.hid (hU.boxed hgl)
    clear hU
    go_wp2_with fail
    go_ret2
    exact ⟨rfl, HU.out⟩
  have q0 : ((kind : Int) == 0) = false := beq_eq_false_iff_ne.2 (by omega)
  by_cases k1 : kind = 1
  · subst k1
    have HO := Lib.hid (rlet_any h' hb ho hlo' at' who)
    rw [show doN c ⟨1, at', who, ver, x⟩ = 0 from rfl, show doE c ⟨1, at', who, ver, x⟩ = ownedE c at' who from rfl, show doC c ⟨1, at', who, ver, x⟩ = letC c at' who from rfl]
    obtain ⟨r, hr⟩ : ∃ r, r = ownedE c at' who := ⟨_, rfl⟩
    rw [← hr] at HO ⊢
    unfold S11.v
    clear h h' hb hr ho hlo' hlo
    go_enter Try.func31, Try.ntmps31
    go_wp2_with fail
    refine HO.out.mono ?_
    rintro e w' ⟨rfl, hU⟩
    have HU := Lib.hid (hU.boxed hgl)
    clear hU
    go_wp2_with fail
    go_ret2
    exact ⟨rfl, HU.out⟩
  have q1 : ((kind : Int) == 1) = false := beq_eq_false_iff_ne.2 (by omega)
  by_cases k2 : kind = 2
  · subst k2
    have HO := Lib.hid (rfree_any h' hb ho hlo' at' who ver)
    rw [show doN c ⟨2, at', who, ver, x⟩ = 0 from rfl, show doE c ⟨2, at', who, ver, x⟩ = freeE c at' who ver from rfl, show doC c ⟨2, at', who, ver, x⟩ = freeC c at' who ver from rfl]
    obtain ⟨r, hr⟩ : ∃ r, r = freeE c at' who ver := ⟨_, rfl⟩
    rw [← hr] at HO ⊢
    unfold S11.v
    clear h h' hb hr ho hlo' hlo
    go_enter Try.func31, Try.ntmps31
    go_wp2_with fail
    refine HO.out.mono ?_
    rintro e w' ⟨rfl, hU⟩
    have HU := Lib.hid (hU.boxed hgl)
    clear hU
    go_wp2_with fail
    go_ret2
    exact ⟨rfl, HU.out⟩
  have q2 : ((kind : Int) == 2) = false := beq_eq_false_iff_ne.2 (by omega)
  by_cases k3 : kind = 3
  · subst k3
    have HO := Lib.hid (rbump_any h' hb)
    rw [show doN c ⟨3, at', who, ver, x⟩ = bumpN c from rfl, show doE c ⟨3, at', who, ver, x⟩ = bumpE c from rfl, show doC c ⟨3, at', who, ver, x⟩ = bumpC c from rfl]
    obtain ⟨r, hr⟩ : ∃ r, r = bumpE c := ⟨_, rfl⟩
    obtain ⟨n, hn⟩ : ∃ n, n = bumpN c := ⟨_, rfl⟩
    rw [← hr, ← hn] at HO ⊢
    unfold S11.v
    clear h h' hb hr ho hlo' hlo hn
    go_enter Try.func31, Try.ntmps31
    go_wp2_with fail
    refine HO.out.mono ?_
    rintro e w' ⟨rfl, hU⟩
    have HU := Lib.hid (hU.boxed hgl)
    clear hU
    go_wp2_with fail
    go_ret2
    exact ⟨rfl, HU.out⟩
  have q3 : ((kind : Int) == 3) = false := beq_eq_false_iff_ne.2 (by omega)
  have HO := Lib.hid (rset_any h' hb hlo' at' x)
  rw [show doN c ⟨kind, at', who, ver, x⟩ = 0 from if_neg k3, show doE c ⟨kind, at', who, ver, x⟩ = setE c at' by unfold doE; dsimp only; rw [if_neg k0, if_neg k1, if_neg k2, if_neg k3], show doC c ⟨kind, at', who, ver, x⟩ = setC11 c at' x by unfold doC; dsimp only; rw [if_neg k0, if_neg k1, if_neg k2, if_neg k3]]
  obtain ⟨r, hr⟩ : ∃ r, r = setE c at' := ⟨_, rfl⟩
  rw [← hr] at HO ⊢
  unfold S11.v
  clear h h' hb hr ho hlo' hlo k0 k1 k2 k3
  go_enter Try.func31, Try.ntmps31
  go_wp2_with fail
  refine HO.out.mono ?_
  rintro e w' ⟨rfl, hU⟩
  have HU := Lib.hid (hU.boxed hgl)
  clear hU
  go_wp2_with fail
  go_ret2
  exact ⟨rfl, HU.out⟩
end Go.Proofs.Ytokhcogmoleocaa
