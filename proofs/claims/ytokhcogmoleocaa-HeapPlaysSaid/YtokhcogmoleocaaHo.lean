/-
  CALLS OF A HEAP THAT IS nil (and of one that New has not made). Conditions: as they stand.
-/
import Derived.Test.YtokhcogmoleocaaHj
namespace Go.Proofs.Ytokhcogmoleocaa
set_option maxRecDepth 100000
open Go.RowKit Go.Deep
set_option linter.unusedVariables false
set_option maxHeartbeats 8000000 in
theorem values_gen {w : World} {g : Nat} {c : Nat → Int} (h : HeapAt w g c) {n : Nat} (hn : c 67 = n) (hn32 : n ≤ 32) : Calls Try.prog 23 #[.pointer (some ⟨g, 0, none⟩)] w fun e w' => ∃ (A : Option Addr) (cap : Nat), e = .returned (.slice A (valuesL c).length cap) ∧ Ints w' w'.heap.size A (valuesL c) ∧ w'.ownsRow w.heap.size 2 1 (.slice A (valuesL c).length cap) (valuesL c).length ((valuesL c).map (Value.int .i64)) ∧ Below w.heap.size w w' := by
  have HH := Lib.hid (here_any w g)
  have hlen : (valuesL c).length = n := by simp [valuesL, hn]
  have hgl := h.lt
  have c1 := h.cell (i := 67) (by decide)
  rw [hn] at c1
  have CC : Hid (∀ W, Below w.heap.size w W → Calls Try.prog 43 #[.slice (some ⟨g, 68, none⟩) n 32] W (Cloned1H 2 ((valuesL c).map (Value.int .i64)) n W)) := fun W hW => clone_intsH _ n (by rw [List.length_map]; exact hlen) (by simp [Value.oneCell']) (by omega) (some ⟨g, 68, none⟩) 32 W (fun j hj => by
    rw [List.length_map] at hj
    refine ⟨_, rfl, ?_⟩
    have ea : (⟨g, 68, none⟩ : Addr).add j = ⟨g, 68 + j, none⟩ := by unfold Addr.add; split <;> simp_all
    have hc := h.cell (i := 68 + j) (by omega)
    rw [ea]
    refine ((hW.cell (p := ⟨g, 68 + j, none⟩) hgl).trans hc).trans ?_
    simp [valuesL])
  have HE : Hid (∀ {e : Ending} {W w' : World}, Below w.heap.size w W → Cloned1H 2 ((valuesL c).map (Value.int .i64)) n W e w' → ∃ (A : Option Addr) (cap : Nat), e = .returned (.slice A (valuesL c).length cap) ∧ Ints w' w'.heap.size A (valuesL c) ∧ w'.ownsRow w.heap.size 2 1 (.slice A (valuesL c).length cap) (valuesL c).length ((valuesL c).map (Value.int .i64)) ∧ Below w.heap.size w w') := fun {e W w'} hW hC => by
    obtain ⟨A, cap, rfl, hr, hb'⟩ := hC
    rw [← hlen] at hr ⊢
    obtain ⟨A2, c2, hv, hi⟩ := ints_ownH hr (by omega)
    injection hv with e1 _ e3
    subst e1 e3
    refine ⟨A, cap, rfl, hi, ?_, hW.trans (hb'.mono hW.size)⟩
    exact ownsRow_lowH hr hW.size
  clear h hlen
  go_enter Try.func23, Try.ntmps23
  go_wp2_with fail
  refine HH.out.mono ?_
  rintro e w' ⟨rfl, rfl⟩
  clear HH
  have i0 : (0 : Int) ≤ (n : Int) := by omega
  have i1 : (n : Int) ≤ 32 := by omega
  go_upto_region 2 with fail
  have CC2 := Lib.hid (CC.out w.drew ((Below.refl _ _).drew))
  clear CC
  go_still_tail 8, (by kernel_rfl)
  change wpList _ _ _ _ _ w.drew
  go_wp2_with fail
  refine CC2.out.mono ?_
  rintro e w' hC
  obtain ⟨A, cap, rfl, hI, hO, hB⟩ := HE.out ((Below.refl _ _).drew) hC
  obtain ⟨L, hL⟩ : ∃ L, L = valuesL c := ⟨_, rfl⟩
  rw [← hL] at hI hO
  have HL := Lib.hid hL
  have HI := Lib.hid hI
  have HO := Lib.hid hO
  have HB := Lib.hid hB
  clear hC hL hI hO hB HE
  go_wp2_with fail
  go_ret
  rw [← HL.out]
  exact ⟨A, cap, rfl, HI.out, HO.out, HB.out⟩
set_option maxHeartbeats 8000000 in
theorem owners_gen {w : World} {g : Nat} {c : Nat → Int} (h : HeapAt w g c) {n : Nat} (hn : c 0 = n) (hn32 : n ≤ 32) : Calls Try.prog 24 #[.pointer (some ⟨g, 0, none⟩)] w fun e w' => ∃ (A : Option Addr) (cap : Nat), e = .returned (.slice A (ownersL c).length cap) ∧ Ints w' w'.heap.size A (ownersL c) ∧ w'.ownsRow w.heap.size 3 1 (.slice A (ownersL c).length cap) (ownersL c).length ((ownersL c).map (Value.int .i64)) ∧ Below w.heap.size w w' := by
  have HH := Lib.hid (here_any w g)
  have hlen : (ownersL c).length = n := by simp [ownersL, hn]
  have hgl := h.lt
  have c1 := h.cell (i := 0) (by decide)
  rw [hn] at c1
  have CC : Hid (∀ W, Below w.heap.size w W → Calls Try.prog 44 #[.slice (some ⟨g, 1, none⟩) n 32] W (Cloned1H 3 ((ownersL c).map (Value.int .i64)) n W)) := fun W hW => clone_intsHI _ n (by rw [List.length_map]; exact hlen) (by simp [Value.oneCell']) (by omega) (some ⟨g, 1, none⟩) 32 W (fun j hj => by
    rw [List.length_map] at hj
    refine ⟨_, rfl, ?_⟩
    have ea : (⟨g, 1, none⟩ : Addr).add j = ⟨g, 1 + j, none⟩ := by unfold Addr.add; split <;> simp_all
    have hc := h.cell (i := 1 + j) (by omega)
    rw [ea]
    refine ((hW.cell (p := ⟨g, 1 + j, none⟩) hgl).trans hc).trans ?_
    simp [ownersL])
  have HE : Hid (∀ {e : Ending} {W w' : World}, Below w.heap.size w W → Cloned1H 3 ((ownersL c).map (Value.int .i64)) n W e w' → ∃ (A : Option Addr) (cap : Nat), e = .returned (.slice A (ownersL c).length cap) ∧ Ints w' w'.heap.size A (ownersL c) ∧ w'.ownsRow w.heap.size 3 1 (.slice A (ownersL c).length cap) (ownersL c).length ((ownersL c).map (Value.int .i64)) ∧ Below w.heap.size w w') := fun {e W w'} hW hC => by
    obtain ⟨A, cap, rfl, hr, hb'⟩ := hC
    rw [← hlen] at hr ⊢
    obtain ⟨A2, c2, hv, hi⟩ := ints_ownH hr (by omega)
    injection hv with e1 _ e3
    subst e1 e3
    refine ⟨A, cap, rfl, hi, ?_, hW.trans (hb'.mono hW.size)⟩
    exact ownsRow_lowH hr hW.size
  clear h hlen
  go_enter Try.func24, Try.ntmps24
  go_wp2_with fail
  refine HH.out.mono ?_
  rintro e w' ⟨rfl, rfl⟩
  clear HH
  have i0 : (0 : Int) ≤ (n : Int) := by omega
  have i1 : (n : Int) ≤ 32 := by omega
  go_upto_region 2 with fail
  have CC2 := Lib.hid (CC.out w.drew ((Below.refl _ _).drew))
  clear CC
  go_still_tail 10, (by kernel_rfl)
  change wpList _ _ _ _ _ w.drew
  go_wp2_with fail
  refine CC2.out.mono ?_
  rintro e w' hC
  obtain ⟨A, cap, rfl, hI, hO, hB⟩ := HE.out ((Below.refl _ _).drew) hC
  obtain ⟨L, hL⟩ : ∃ L, L = ownersL c := ⟨_, rfl⟩
  rw [← hL] at hI hO
  have HL := Lib.hid hL
  have HI := Lib.hid hI
  have HO := Lib.hid hO
  have HB := Lib.hid hB
  clear hC hL hI hO hB HE
  go_wp2_with fail
  go_ret
  rw [← HL.out]
  exact ⟨A, cap, rfl, HI.out, HO.out, HB.out⟩
set_option maxHeartbeats 8000000 in
theorem versions_gen {w : World} {g : Nat} {c : Nat → Int} (h : HeapAt w g c) {n : Nat} (hn : c 0 = n) (hn32 : n ≤ 32) : Calls Try.prog 25 #[.pointer (some ⟨g, 0, none⟩)] w fun e w' => ∃ (A : Option Addr) (cap : Nat), e = .returned (.slice A (versionsL c).length cap) ∧ Ints w' w'.heap.size A (versionsL c) ∧ w'.ownsRow w.heap.size 3 1 (.slice A (versionsL c).length cap) (versionsL c).length ((versionsL c).map (Value.int .i64)) ∧ Below w.heap.size w w' := by
  have HH := Lib.hid (here_any w g)
  have hlen : (versionsL c).length = n := by simp [versionsL, hn]
  have hgl := h.lt
  have c1 := h.cell (i := 0) (by decide)
  rw [hn] at c1
  have CC : Hid (∀ W, Below w.heap.size w W → Calls Try.prog 44 #[.slice (some ⟨g, 33, none⟩) n 32] W (Cloned1H 3 ((versionsL c).map (Value.int .i64)) n W)) := fun W hW => clone_intsHI _ n (by rw [List.length_map]; exact hlen) (by simp [Value.oneCell']) (by omega) (some ⟨g, 33, none⟩) 32 W (fun j hj => by
    rw [List.length_map] at hj
    refine ⟨_, rfl, ?_⟩
    have ea : (⟨g, 33, none⟩ : Addr).add j = ⟨g, 33 + j, none⟩ := by unfold Addr.add; split <;> simp_all
    have hc := h.cell (i := 33 + j) (by omega)
    rw [ea]
    refine ((hW.cell (p := ⟨g, 33 + j, none⟩) hgl).trans hc).trans ?_
    simp [versionsL])
  have HE : Hid (∀ {e : Ending} {W w' : World}, Below w.heap.size w W → Cloned1H 3 ((versionsL c).map (Value.int .i64)) n W e w' → ∃ (A : Option Addr) (cap : Nat), e = .returned (.slice A (versionsL c).length cap) ∧ Ints w' w'.heap.size A (versionsL c) ∧ w'.ownsRow w.heap.size 3 1 (.slice A (versionsL c).length cap) (versionsL c).length ((versionsL c).map (Value.int .i64)) ∧ Below w.heap.size w w') := fun {e W w'} hW hC => by
    obtain ⟨A, cap, rfl, hr, hb'⟩ := hC
    rw [← hlen] at hr ⊢
    obtain ⟨A2, c2, hv, hi⟩ := ints_ownH hr (by omega)
    injection hv with e1 _ e3
    subst e1 e3
    refine ⟨A, cap, rfl, hi, ?_, hW.trans (hb'.mono hW.size)⟩
    exact ownsRow_lowH hr hW.size
  clear h hlen
  go_enter Try.func25, Try.ntmps25
  go_wp2_with fail
  refine HH.out.mono ?_
  rintro e w' ⟨rfl, rfl⟩
  clear HH
  have i0 : (0 : Int) ≤ (n : Int) := by omega
  have i1 : (n : Int) ≤ 32 := by omega
  go_upto_region 2 with fail
  have CC2 := Lib.hid (CC.out w.drew ((Below.refl _ _).drew))
  clear CC
  go_still_tail 10, (by kernel_rfl)
  change wpList _ _ _ _ _ w.drew
  go_wp2_with fail
  refine CC2.out.mono ?_
  rintro e w' hC
  obtain ⟨A, cap, rfl, hI, hO, hB⟩ := HE.out ((Below.refl _ _).drew) hC
  obtain ⟨L, hL⟩ : ∃ L, L = versionsL c := ⟨_, rfl⟩
  rw [← hL] at hI hO
  have HL := Lib.hid hL
  have HI := Lib.hid hI
  have HO := Lib.hid hO
  have HB := Lib.hid hB
  clear hC hL hI hO hB HE
  go_wp2_with fail
  go_ret
  rw [← HL.out]
  exact ⟨A, cap, rfl, HI.out, HO.out, HB.out⟩
set_option maxHeartbeats 4000000 in
theorem own_nil (s who : Int) (w : World) : Calls Try.prog 11 #[.pointer none, .int .i64 s, .int .i64 who] w fun e w' => e = .returned (.int .i64 2) ∧ w = w' := by
  go_enter Try.func11, Try.ntmps11
  go_wp2_with fail
  go_ret
  exact ⟨rfl, rfl⟩
set_option maxHeartbeats 4000000 in
theorem let_nil (s who : Int) (w : World) : Calls Try.prog 12 #[.pointer none, .int .i64 s, .int .i64 who] w fun e w' => e = .returned (.int .i64 2) ∧ w = w' := by
  go_enter Try.func12, Try.ntmps12
  go_wp2_with fail
  go_ret
  exact ⟨rfl, rfl⟩
set_option maxHeartbeats 4000000 in
theorem free_nil (s who v : Int) (w : World) : Calls Try.prog 13 #[.pointer none, .int .i64 s, .int .i64 who, .int .i64 v] w fun e w' => e = .returned (.int .i64 2) ∧ w = w' := by
  go_enter Try.func13, Try.ntmps13
  go_wp2_with fail
  go_ret
  exact ⟨rfl, rfl⟩
set_option maxHeartbeats 4000000 in
theorem set_nil (v x : Int) (w : World) : Calls Try.prog 14 #[.pointer none, .int .i64 v, .int .i64 x] w fun e w' => e = .returned (.int .i64 2) ∧ w = w' := by
  go_enter Try.func14, Try.ntmps14
  go_wp2_with fail
  go_ret
  exact ⟨rfl, rfl⟩
set_option maxHeartbeats 4000000 in
theorem bump_nil (w : World) : Calls Try.prog 9 #[.pointer none] w fun e w' => e = .returned (.tuple #[.int .i64 0, .int .i64 2]) ∧ w = w' := by
  go_enter Try.func9, Try.ntmps9
  go_wp2_with fail
  go_ret2
  exact ⟨rfl, rfl⟩
set_option maxHeartbeats 4000000 in
theorem copy_nil (w : World) : Calls Try.prog 26 #[.pointer none] w fun e w' => e = .returned (.pointer none) ∧ w = w' := by
  go_enter Try.func26, Try.ntmps26
  go_wp2_with fail
  go_ret
  exact ⟨rfl, rfl⟩
def zeroH : Nat → Int := fun _ => 0
set_option maxHeartbeats 4000000 in
theorem here_nil (w : World) : Calls Try.prog 40 #[.pointer none] w fun e w' => e = .returned (.pointer (some ⟨w.heap.size, 0, none⟩)) ∧ HeapAt w' w.heap.size zeroH ∧ Below w.heap.size w w' := by
  have hz := zero_heap
  go_enter Try.func40, Try.ntmps40
  go_wp2_with (first
    | (refine wpList_built rfl 64 _ rfl (rowC 100 zeroH) (by kernel_rfl) ?_)
    | fail)
  go_ret
  exact ⟨rfl, heap_alloc_new w _, (Below.refl _ _).alloc (Nat.le_refl _) _⟩
theorem is_nil {w : World} {g : Nat} (h : HeapAt w g zeroH) (n : Int) : Calls Try.prog 55 #[.pointer (some ⟨g, 0, none⟩), .int .i64 n] w fun e w' => e = .returned (.bool false) ∧ w = w' := by
  have := is_any h n
  rw [show isS zeroH n = false by unfold isS zeroH; by_cases h : 0 ≤ n <;> simp [h]] at this
  exact this
theorem has_nil {w : World} {g : Nat} (h : HeapAt w g zeroH) (n : Int) : Calls Try.prog 39 #[.pointer (some ⟨g, 0, none⟩), .int .i64 n] w fun e w' => e = .returned (.bool false) ∧ w = w' := by
  have := hasv_any h n
  rw [show isV zeroH n = false by unfold isV zeroH; by_cases h : 0 ≤ n <;> simp [h]] at this
  exact this
set_option maxHeartbeats 4000000 in
theorem owner_nil {w : World} {g : Nat} (h : HeapAt w g zeroH) (s : Int) : Calls Try.prog 41 #[.pointer (some ⟨g, 0, none⟩), .int .i64 s] w fun e w' => e = .returned (.int .i64 (-1)) ∧ w = w' := by
  have hi := is_nil h s
  clear h
  go_enter Try.func41, Try.ntmps41
  go_wp2_with fail
  refine hi.mono ?_
  rintro e w' ⟨rfl, rfl⟩
  go_wp2_with fail
  go_ret
  exact ⟨rfl, rfl⟩
set_option maxHeartbeats 4000000 in
theorem version_nil {w : World} {g : Nat} (h : HeapAt w g zeroH) (s : Int) : Calls Try.prog 42 #[.pointer (some ⟨g, 0, none⟩), .int .i64 s] w fun e w' => e = .returned (.int .i64 0) ∧ w = w' := by
  have hi := is_nil h s
  clear h
  go_enter Try.func42, Try.ntmps42
  go_wp2_with fail
  refine hi.mono ?_
  rintro e w' ⟨rfl, rfl⟩
  go_wp2_with fail
  go_ret
  exact ⟨rfl, rfl⟩
set_option maxHeartbeats 4000000 in
theorem vars_nil (w : World) : Calls Try.prog 15 #[.pointer none] w fun e w' => e = .returned (.int .i64 0) ∧ Below w.heap.size w w' := by
  have HH := Lib.hid (here_nil w)
  go_enter Try.func15, Try.ntmps15
  go_wp2_with fail
  refine HH.out.mono ?_
  rintro e w1 ⟨rfl, hH, hb⟩
  have c1 : w1.cell? ⟨w.heap.size, 67, none⟩ = some (.int .i64 0) := hH.cell (i := 67) (by decide)
  have HB := Lib.hid hb
  clear hH hb HH
  go_wp2_with fail
  go_ret
  exact ⟨rfl, HB.out⟩
set_option maxHeartbeats 4000000 in
theorem stripes_nil (w : World) : Calls Try.prog 16 #[.pointer none] w fun e w' => e = .returned (.int .i64 0) ∧ Below w.heap.size w w' := by
  have HH := Lib.hid (here_nil w)
  go_enter Try.func16, Try.ntmps16
  go_wp2_with fail
  refine HH.out.mono ?_
  rintro e w1 ⟨rfl, hH, hb⟩
  have c1 : w1.cell? ⟨w.heap.size, 0, none⟩ = some (.int .i64 0) := hH.cell (i := 0) (by decide)
  have HB := Lib.hid hb
  clear hH hb HH
  go_wp2_with fail
  go_ret
  exact ⟨rfl, HB.out⟩
set_option maxHeartbeats 4000000 in
theorem clock_nil (w : World) : Calls Try.prog 17 #[.pointer none] w fun e w' => e = .returned (.int .i64 0) ∧ Below w.heap.size w w' := by
  have HH := Lib.hid (here_nil w)
  go_enter Try.func17, Try.ntmps17
  go_wp2_with fail
  refine HH.out.mono ?_
  rintro e w1 ⟨rfl, hH, hb⟩
  have c1 : w1.cell? ⟨w.heap.size, 65, none⟩ = some (.int .i64 0) := hH.cell (i := 65) (by decide)
  have HB := Lib.hid hb
  clear hH hb HH
  go_wp2_with fail
  go_ret
  exact ⟨rfl, HB.out⟩
set_option maxHeartbeats 4000000 in
theorem limit_nil (w : World) : Calls Try.prog 18 #[.pointer none] w fun e w' => e = .returned (.int .i64 0) ∧ Below w.heap.size w w' := by
  have HH := Lib.hid (here_nil w)
  go_enter Try.func18, Try.ntmps18
  go_wp2_with fail
  refine HH.out.mono ?_
  rintro e w1 ⟨rfl, hH, hb⟩
  have c1 : w1.cell? ⟨w.heap.size, 66, none⟩ = some (.int .i64 0) := hH.cell (i := 66) (by decide)
  have HB := Lib.hid hb
  clear hH hb HH
  go_wp2_with fail
  go_ret
  exact ⟨rfl, HB.out⟩
set_option maxHeartbeats 4000000 in
theorem howner_nil (s : Int) (w : World) : Calls Try.prog 20 #[.pointer none, .int .i64 s] w fun e w' => e = .returned (.int .i64 (-1)) ∧ Below w.heap.size w w' := by
  have HH := Lib.hid (here_nil w)
  go_enter Try.func20, Try.ntmps20
  go_wp2_with fail
  refine HH.out.mono ?_
  rintro e w1 ⟨rfl, hH, hb⟩
  have HO := Lib.hid (owner_nil hH s)
  have HB := Lib.hid hb
  clear hH hb HH
  go_wp2_with fail
  refine HO.out.mono ?_
  rintro e w' ⟨rfl, rfl⟩
  go_wp2_with fail
  go_ret
  exact ⟨rfl, HB.out⟩
set_option maxHeartbeats 4000000 in
theorem hversion_nil (s : Int) (w : World) : Calls Try.prog 21 #[.pointer none, .int .i64 s] w fun e w' => e = .returned (.int .i64 (0)) ∧ Below w.heap.size w w' := by
  have HH := Lib.hid (here_nil w)
  go_enter Try.func21, Try.ntmps21
  go_wp2_with fail
  refine HH.out.mono ?_
  rintro e w1 ⟨rfl, hH, hb⟩
  have HO := Lib.hid (version_nil hH s)
  have HB := Lib.hid hb
  clear hH hb HH
  go_wp2_with fail
  refine HO.out.mono ?_
  rintro e w' ⟨rfl, rfl⟩
  go_wp2_with fail
  go_ret
  exact ⟨rfl, HB.out⟩
set_option maxHeartbeats 4000000 in
theorem stripe_nil (s : Int) (w : World) : Calls Try.prog 19 #[.pointer none, .int .i64 s] w fun e w' => e = .returned (.int .i64 (-1)) ∧ Below w.heap.size w w' := by
  have HH := Lib.hid (here_nil w)
  go_enter Try.func19, Try.ntmps19
  go_wp2_with fail
  refine HH.out.mono ?_
  rintro e w1 ⟨rfl, hH, hb⟩
  have HO := Lib.hid (has_nil hH s)
  have HB := Lib.hid hb
  clear hH hb HH
  go_wp2_with fail
  refine HO.out.mono ?_
  rintro e w' ⟨rfl, rfl⟩
  go_wp2_with fail
  go_ret
  exact ⟨rfl, HB.out⟩
set_option maxHeartbeats 4000000 in
theorem value_nil (s : Int) (w : World) : Calls Try.prog 22 #[.pointer none, .int .i64 s] w fun e w' => e = .returned (.int .i64 (0)) ∧ Below w.heap.size w w' := by
  have HH := Lib.hid (here_nil w)
  go_enter Try.func22, Try.ntmps22
  go_wp2_with fail
  refine HH.out.mono ?_
  rintro e w1 ⟨rfl, hH, hb⟩
  have HO := Lib.hid (has_nil hH s)
  have HB := Lib.hid hb
  clear hH hb HH
  go_wp2_with fail
  refine HO.out.mono ?_
  rintro e w' ⟨rfl, rfl⟩
  go_wp2_with fail
  go_ret
  exact ⟨rfl, HB.out⟩
end Go.Proofs.Ytokhcogmoleocaa
