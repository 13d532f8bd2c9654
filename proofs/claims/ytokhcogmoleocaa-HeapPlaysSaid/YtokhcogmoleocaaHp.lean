/-
  Values, Owners and Versions of a Heap that is nil. Conditions: as they stand.
-/
import Derived.Test.YtokhcogmoleocaaHo
import Derived.StillTailTactics
namespace Go.Proofs.Ytokhcogmoleocaa
set_option maxRecDepth 100000
open Go.RowKit Go.Deep
set_option linter.unusedVariables false
set_option maxHeartbeats 8000000 in
theorem values_nil (w0 : World) : Calls Try.prog 23 #[.pointer none] w0 fun e w' => ∃ (A : Option Addr) (cap : Nat), e = .returned (.slice A 0 cap) ∧ Below w0.heap.size w0 w' := by
  have HH := Lib.hid (here_nil w0)
  go_enter Try.func23, Try.ntmps23
  go_wp2_with fail
  refine HH.out.mono ?_
  rintro e w ⟨rfl, h, hb0⟩
  have HB0 := Lib.hid hb0
  clear hb0 HH
  obtain ⟨g, hg⟩ : ∃ g, g = w0.heap.size := ⟨_, rfl⟩
  obtain ⟨c, hc⟩ : ∃ c, c = zeroH := ⟨_, rfl⟩
  rw [← hg, ← hc] at h
  rw [← hg]
  obtain ⟨n, hn0⟩ : ∃ n : Nat, n = 0 := ⟨_, rfl⟩
  have hn : c 67 = n := by rw [hc, hn0]; rfl
  have hn32 : n ≤ 32 := by omega
  have hlen : (valuesL c).length = n := by simp [valuesL, hn]
  have hgl := h.lt
  have c1 := h.cell (i := 67) (by decide)
  rw [hn] at c1
  have CC : Hid (∀ W, Below w.heap.size w W → Calls Try.prog 43 #[.slice (some ⟨g, 68, none⟩) n 32] W (Cloned1H 2 ((valuesL c).map (Value.int .i64)) n W)) := fun W hW => clone_intsH _ n (by rw [List.length_map]; exact hlen) (by simp [Value.oneCell']) (by omega) (some ⟨g, 68, none⟩) 32 W (fun j hj => by
    rw [List.length_map] at hj
    refine ⟨_, rfl, ?_⟩
    have ea : (⟨g, 68, none⟩ : Addr).add j = ⟨g, 68 + j, none⟩ := by unfold Addr.add; split <;> simp_all
    have hc := h.cell (i := 68 + j) (by omega)
    rw [ea]
    refine ((hW.cell (p := ⟨g, 68 + j, none⟩) hgl).trans hc).trans ?_
    simp [valuesL])
  have HE : Hid (∀ {e : Ending} {W w' : World}, Below w.heap.size w W → Cloned1H 2 ((valuesL c).map (Value.int .i64)) n W e w' → ∃ (A : Option Addr) (cap : Nat), e = .returned (.slice A (valuesL c).length cap) ∧ Ints w' w'.heap.size A (valuesL c) ∧ w'.ownsRow w.heap.size 2 1 (.slice A (valuesL c).length cap) (valuesL c).length ((valuesL c).map (Value.int .i64)) ∧ Below w.heap.size w w') := fun {e W w'} hW hC => by
    obtain ⟨A, cap, rfl, hr, hb'⟩ := hC
    rw [← hlen] at hr ⊢
    obtain ⟨A2, c2, hv, hi⟩ := ints_ownH hr (by omega)
    injection hv with e1 _ e3
    subst e1 e3
    refine ⟨A, cap, rfl, hi, ?_, hW.trans (hb'.mono hW.size)⟩
    exact ownsRow_lowH hr hW.size
  have HLEN : Hid ((valuesL c).length = n ∧ n = 0) := ⟨hlen, hn0⟩
  clear hlen hc hg hn0
  clear h
  have i0 : (0 : Int) ≤ (n : Int) := by omega
  have i1 : (n : Int) ≤ 32 := by omega
  go_upto_region 2 with fail
  have CC2 := Lib.hid (CC.out w.drew ((Below.refl _ _).drew))
  clear CC
  go_still_tail 8, (by kernel_rfl)
  change wpList _ _ _ _ _ w.drew
  go_wp2_with fail
  refine CC2.out.mono ?_
  rintro e w' hC
  obtain ⟨A, cap, rfl, hI, hO, hB⟩ := HE.out ((Below.refl _ _).drew) hC
  rw [HLEN.out.1, HLEN.out.2]
  clear hO
  have HB := Lib.hid hB
  clear hC hI hB HE
  go_wp2_with fail
  go_ret
  exact ⟨A, cap, rfl, HB0.out.trans (HB.out.mono HB0.out.size)⟩
set_option maxHeartbeats 8000000 in
theorem owners_nil (w0 : World) : Calls Try.prog 24 #[.pointer none] w0 fun e w' => ∃ (A : Option Addr) (cap : Nat), e = .returned (.slice A 0 cap) ∧ Below w0.heap.size w0 w' := by
  have HH := Lib.hid (here_nil w0)
  go_enter Try.func24, Try.ntmps24
  go_wp2_with fail
  refine HH.out.mono ?_
  rintro e w ⟨rfl, h, hb0⟩
  have HB0 := Lib.hid hb0
  clear hb0 HH
  obtain ⟨g, hg⟩ : ∃ g, g = w0.heap.size := ⟨_, rfl⟩
  obtain ⟨c, hc⟩ : ∃ c, c = zeroH := ⟨_, rfl⟩
  rw [← hg, ← hc] at h
  rw [← hg]
  obtain ⟨n, hn0⟩ : ∃ n : Nat, n = 0 := ⟨_, rfl⟩
  have hn : c 0 = n := by rw [hc, hn0]; rfl
  have hn32 : n ≤ 32 := by omega
  have hlen : (ownersL c).length = n := by simp [ownersL, hn]
  have hgl := h.lt
  have c1 := h.cell (i := 0) (by decide)
  rw [hn] at c1
  have CC : Hid (∀ W, Below w.heap.size w W → Calls Try.prog 44 #[.slice (some ⟨g, 1, none⟩) n 32] W (Cloned1H 3 ((ownersL c).map (Value.int .i64)) n W)) := fun W hW => clone_intsHI _ n (by rw [List.length_map]; exact hlen) (by simp [Value.oneCell']) (by omega) (some ⟨g, 1, none⟩) 32 W (fun j hj => by
    rw [List.length_map] at hj
    refine ⟨_, rfl, ?_⟩
    have ea : (⟨g, 1, none⟩ : Addr).add j = ⟨g, 1 + j, none⟩ := by unfold Addr.add; split <;> simp_all
    have hc := h.cell (i := 1 + j) (by omega)
    rw [ea]
    refine ((hW.cell (p := ⟨g, 1 + j, none⟩) hgl).trans hc).trans ?_
    simp [ownersL])
  have HE : Hid (∀ {e : Ending} {W w' : World}, Below w.heap.size w W → Cloned1H 3 ((ownersL c).map (Value.int .i64)) n W e w' → ∃ (A : Option Addr) (cap : Nat), e = .returned (.slice A (ownersL c).length cap) ∧ Ints w' w'.heap.size A (ownersL c) ∧ w'.ownsRow w.heap.size 3 1 (.slice A (ownersL c).length cap) (ownersL c).length ((ownersL c).map (Value.int .i64)) ∧ Below w.heap.size w w') := fun {e W w'} hW hC => by
    obtain ⟨A, cap, rfl, hr, hb'⟩ := hC
    rw [← hlen] at hr ⊢
    obtain ⟨A2, c2, hv, hi⟩ := ints_ownH hr (by omega)
    injection hv with e1 _ e3
    subst e1 e3
    refine ⟨A, cap, rfl, hi, ?_, hW.trans (hb'.mono hW.size)⟩
    exact ownsRow_lowH hr hW.size
  have HLEN : Hid ((ownersL c).length = n ∧ n = 0) := ⟨hlen, hn0⟩
  clear hlen hc hg hn0
  clear h
  have i0 : (0 : Int) ≤ (n : Int) := by omega
  have i1 : (n : Int) ≤ 32 := by omega
  go_upto_region 2 with fail
  have CC2 := Lib.hid (CC.out w.drew ((Below.refl _ _).drew))
  clear CC
  go_still_tail 10, (by kernel_rfl)
  change wpList _ _ _ _ _ w.drew
  go_wp2_with fail
  refine CC2.out.mono ?_
  rintro e w' hC
  obtain ⟨A, cap, rfl, hI, hO, hB⟩ := HE.out ((Below.refl _ _).drew) hC
  rw [HLEN.out.1, HLEN.out.2]
  clear hO
  have HB := Lib.hid hB
  clear hC hI hB HE
  go_wp2_with fail
  go_ret
  exact ⟨A, cap, rfl, HB0.out.trans (HB.out.mono HB0.out.size)⟩
set_option maxHeartbeats 8000000 in
theorem versions_nil (w0 : World) : Calls Try.prog 25 #[.pointer none] w0 fun e w' => ∃ (A : Option Addr) (cap : Nat), e = .returned (.slice A 0 cap) ∧ Below w0.heap.size w0 w' := by
  have HH := Lib.hid (here_nil w0)
  go_enter Try.func25, Try.ntmps25
  go_wp2_with fail
  refine HH.out.mono ?_
  rintro e w ⟨rfl, h, hb0⟩
  have HB0 := Lib.hid hb0
  clear hb0 HH
  obtain ⟨g, hg⟩ : ∃ g, g = w0.heap.size := ⟨_, rfl⟩
  obtain ⟨c, hc⟩ : ∃ c, c = zeroH := ⟨_, rfl⟩
  rw [← hg, ← hc] at h
  rw [← hg]
  obtain ⟨n, hn0⟩ : ∃ n : Nat, n = 0 := ⟨_, rfl⟩
  have hn : c 0 = n := by rw [hc, hn0]; rfl
  have hn32 : n ≤ 32 := by omega
  have hlen : (versionsL c).length = n := by simp [versionsL, hn]
  have hgl := h.lt
  have c1 := h.cell (i := 0) (by decide)
  rw [hn] at c1
  have CC : Hid (∀ W, Below w.heap.size w W → Calls Try.prog 44 #[.slice (some ⟨g, 33, none⟩) n 32] W (Cloned1H 3 ((versionsL c).map (Value.int .i64)) n W)) := fun W hW => clone_intsHI _ n (by rw [List.length_map]; exact hlen) (by simp [Value.oneCell']) (by omega) (some ⟨g, 33, none⟩) 32 W (fun j hj => by
    rw [List.length_map] at hj
    refine ⟨_, rfl, ?_⟩
    have ea : (⟨g, 33, none⟩ : Addr).add j = ⟨g, 33 + j, none⟩ := by unfold Addr.add; split <;> simp_all
    have hc := h.cell (i := 33 + j) (by omega)
    rw [ea]
    refine ((hW.cell (p := ⟨g, 33 + j, none⟩) hgl).trans hc).trans ?_
    simp [versionsL])
  have HE : Hid (∀ {e : Ending} {W w' : World}, Below w.heap.size w W → Cloned1H 3 ((versionsL c).map (Value.int .i64)) n W e w' → ∃ (A : Option Addr) (cap : Nat), e = .returned (.slice A (versionsL c).length cap) ∧ Ints w' w'.heap.size A (versionsL c) ∧ w'.ownsRow w.heap.size 3 1 (.slice A (versionsL c).length cap) (versionsL c).length ((versionsL c).map (Value.int .i64)) ∧ Below w.heap.size w w') := fun {e W w'} hW hC => by
    obtain ⟨A, cap, rfl, hr, hb'⟩ := hC
    rw [← hlen] at hr ⊢
    obtain ⟨A2, c2, hv, hi⟩ := ints_ownH hr (by omega)
    injection hv with e1 _ e3
    subst e1 e3
    refine ⟨A, cap, rfl, hi, ?_, hW.trans (hb'.mono hW.size)⟩
    exact ownsRow_lowH hr hW.size
  have HLEN : Hid ((versionsL c).length = n ∧ n = 0) := ⟨hlen, hn0⟩
  clear hlen hc hg hn0
  clear h
  have i0 : (0 : Int) ≤ (n : Int) := by omega
  have i1 : (n : Int) ≤ 32 := by omega
  go_upto_region 2 with fail
  have CC2 := Lib.hid (CC.out w.drew ((Below.refl _ _).drew))
  clear CC
  go_still_tail 10, (by kernel_rfl)
  change wpList _ _ _ _ _ w.drew
  go_wp2_with fail
  refine CC2.out.mono ?_
  rintro e w' hC
  obtain ⟨A, cap, rfl, hI, hO, hB⟩ := HE.out ((Below.refl _ _).drew) hC
  rw [HLEN.out.1, HLEN.out.2]
  clear hO
  have HB := Lib.hid hB
  clear hC hI hB HE
  go_wp2_with fail
  go_ret
  exact ⟨A, cap, rfl, HB0.out.trans (HB.out.mono HB0.out.size)⟩
end Go.Proofs.Ytokhcogmoleocaa
