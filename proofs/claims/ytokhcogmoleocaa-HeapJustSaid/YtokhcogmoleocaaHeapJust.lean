/-
  HeapJust: for every input the call returns true, and each argument reads behind it as before. No condition. (Each call changes just what it names: no other variable, stripe, nor the clock.) Laid by gen/gen_hj.py.
-/
import Derived.Test.YtokhcogmoleocaaHl
import Derived.Test.YtokhcogmoleocaaLift
import Derived.Deep.RegionHeld3
namespace Go.Proofs.Ytokhcogmoleocaa
set_option maxRecDepth 100000
open Go.RowKit Go.Deep
open Go.ChangeShapes Go.WideShapes
set_option linter.unusedVariables false
theorem doE_stripe {c : Nat → Int} {s : S11} (h : doE c s = 0) (hk : s.kind ≤ 2) : isS c s.at' = true := by
  unfold doE at h
  by_cases k0 : s.kind = 0
  · rw [if_pos k0] at h; exact ownE_isS h
  rw [if_neg k0] at h
  by_cases k1 : s.kind = 1
  · rw [if_pos k1] at h; exact ownedE_isS h
  rw [if_neg k1] at h
  by_cases k2 : s.kind = 2
  · rw [if_pos k2] at h; exact ownedE_isS (freeE_owned h)
  omega
theorem just_stripe {c : Nat → Int} {s : S11} (hb : HB c) (h : doE c s = 0) {j : Nat} (hj : j < 32) (hc : 2 < s.kind ∨ (j : Int) ≠ s.at') : doC c s (1 + j) = c (1 + j) ∧ doC c s (33 + j) = c (33 + j) := by
  by_cases hk : s.kind ≤ 2
  · have hi := doE_stripe h hk
    obtain ⟨k, hk1, hk2, _⟩ := isS_nat hb hi
    have hjk : j ≠ s.at'.toNat := by omega
    have hk3 : s.at'.toNat < 32 := by omega
    unfold doC
    by_cases k0 : s.kind = 0
    · rw [if_pos k0]; exact ⟨ownC_far (by omega), ownC_far (by omega)⟩
    rw [if_neg k0]
    by_cases k1 : s.kind = 1
    · rw [if_pos k1]; exact ⟨letC_far (by omega), letC_far (by omega)⟩
    rw [if_neg k1]
    by_cases k2 : s.kind = 2
    · rw [if_pos k2]; exact ⟨freeC_far (by omega) (by omega), freeC_far (by omega) (by omega)⟩
    omega
  · unfold doC
    rw [if_neg (by omega), if_neg (by omega), if_neg (by omega)]
    split
    · exact ⟨bumpC_far (by omega), bumpC_far (by omega)⟩
    · exact ⟨setC_far (by omega), setC_far (by omega)⟩
theorem just_value {c : Nat → Int} {s : S11} (hb : HB c) (h : doE c s = 0) {v : Nat} (hv : v < 32) (hc : s.kind < 4 ∨ (v : Int) ≠ s.at') : doC c s (68 + v) = c (68 + v) := by
  by_cases hk : s.kind ≤ 2
  · have hi := isS_lt hb (doE_stripe h hk)
    unfold doC
    by_cases k0 : s.kind = 0
    · rw [if_pos k0]; exact ownC_far (by omega)
    rw [if_neg k0]
    by_cases k1 : s.kind = 1
    · rw [if_pos k1]; exact letC_far (by omega)
    rw [if_neg k1]
    by_cases k2 : s.kind = 2
    · rw [if_pos k2]; exact freeC_far (by omega) (by omega)
    omega
  · unfold doC
    unfold doE at h
    rw [if_neg (by omega), if_neg (by omega), if_neg (by omega)] at h ⊢
    by_cases k3 : s.kind = 3
    · rw [if_pos k3]; exact bumpC_far (by omega)
    · rw [if_neg k3] at h ⊢
      have hi : isV c s.at' = true := by
        unfold setE at h
        by_cases hv : isV c s.at' = true
        · exact hv
        · rw [if_neg hv] at h; cases h
      obtain ⟨k, hk1, hk2, _⟩ := isV_nat hb hi
      exact setC_far (by omega)
theorem doN_refused {c : Nat → Int} {s : S11} (h : doE c s ≠ 0) : doN c s = 0 := by
  unfold doN
  by_cases k3 : s.kind = 3
  · rw [if_pos k3]
    unfold doE at h
    rw [if_neg (by omega), if_neg (by omega), if_neg (by omega), if_pos k3] at h
    unfold bumpE at h
    unfold bumpN
    by_cases hc : c 66 ≤ c 65
    · rw [if_pos hc]
    · rw [if_neg hc] at h; exact absurd rfl h
  · exact if_neg k3
theorem just_012 {c : Nat → Int} {s : S11} (hb : HB c) (h : doE c s = 0) (hk : s.kind ≤ 2) : isS c s.at' = true ∧ isS (doC c s) s.at' = true ∧ doC c s 65 = c 65 ∧ doC c s (1 + s.at'.toNat) = (if s.kind = 0 then s.who else -1) ∧ doC c s (33 + s.at'.toNat) = (if s.kind = 2 then s.ver else c (33 + s.at'.toNat)) := by
  have hi := doE_stripe h hk
  have hlt := isS_lt hb hi
  have h0 := doC_keep hb s (.inl rfl)
  refine ⟨hi, by unfold isS at hi ⊢; rw [h0]; exact hi, ?_⟩
  unfold doC
  unfold doE at h
  by_cases k0 : s.kind = 0
  · rw [if_pos k0] at h
    rw [if_pos k0, if_pos k0, if_neg (by omega)]
    refine ⟨ownC_far (by omega), ?_, ownC_far (by omega)⟩
    unfold ownC; rw [if_pos h, put_at]
  rw [if_neg k0] at h
  rw [if_neg k0, if_neg k0]
  by_cases k1 : s.kind = 1
  · rw [if_pos k1] at h
    rw [if_pos k1, if_neg (by omega)]
    refine ⟨letC_far (by omega), ?_, letC_far (by omega)⟩
    unfold letC; rw [if_pos h, put_at]
  rw [if_neg k1] at h
  rw [if_neg k1]
  have k2 : s.kind = 2 := by omega
  rw [if_pos k2] at h
  rw [if_pos k2, if_pos k2]
  refine ⟨freeC_far (by omega) (by omega), ?_, ?_⟩
  · unfold freeC; rw [if_pos h, put_at]
  · unfold freeC; rw [if_pos h, put_far (by omega), put_at]
theorem just_3 {c : Nat → Int} {s : S11} (h : doE c s = 0) (hk : s.kind = 3) : doN c s = c 65 + 1 ∧ doC c s 65 = c 65 + 1 := by
  unfold doE at h
  rw [if_neg (by omega), if_neg (by omega), if_neg (by omega), if_pos hk] at h
  unfold doN doC
  rw [if_pos hk, if_neg (by omega), if_neg (by omega), if_neg (by omega), if_pos hk]
  unfold bumpE at h
  unfold bumpN bumpC
  by_cases hc : c 66 ≤ c 65
  · rw [if_pos hc] at h; cases h
  · rw [if_neg hc, if_neg hc, put_at]; exact ⟨rfl, rfl⟩
theorem just_4 {c : Nat → Int} {s : S11} (hb : HB c) (h : doE c s = 0) (hk : 3 < s.kind) : isV (doC c s) s.at' = true ∧ doC c s (68 + s.at'.toNat) = s.x ∧ doC c s 65 = c 65 := by
  have h67 := doC_keep hb s (j := 67) (.inr (.inr rfl))
  unfold doE at h
  rw [if_neg (by omega), if_neg (by omega), if_neg (by omega), if_neg (by omega)] at h
  have hi : isV c s.at' = true := by
    unfold setE at h
    by_cases hv : isV c s.at' = true
    · exact hv
    · rw [if_neg hv] at h; cases h
  refine ⟨by unfold isV at hi ⊢; rw [h67]; exact hi, ?_⟩
  unfold doC
  rw [if_neg (by omega), if_neg (by omega), if_neg (by omega), if_neg (by omega)]
  refine ⟨?_, setC_far (by omega)⟩
  unfold setC11; rw [if_pos hi, put_at]
set_option maxHeartbeats 4000000 in
theorem just_big (A A' : Option Addr) (c c' : Nat) (n m : Nat) (hn : n ≤ 9223372036854775807) (hm : m ≤ 9223372036854775807) (h : 100 < n ∨ 300 < m) (st limit : Int) (kind at' who ver x : Int) (w : World) : Calls Try.prog 7 #[.slice A n c, .int .i64 st, .int .i64 limit, .slice A' m c', .agg #[.int .u8 kind, .int .i64 at', .int .i64 who, .int .i64 ver, .int .i64 x]] w fun e w' => e = .returned (.bool true) ∧ Below w.heap.size w w' := by
  by_cases h1 : 100 < n
  · have q1 : (100 : Int) < (n : Int) := by omega
    go_enter Try.func7, Try.ntmps7
    go_wp2_with fail
    have BX : Hid (Below w.heap.size w (w.alloc (.cells #[.int .u8 kind, .int .i64 at', .int .i64 who, .int .i64 ver, .int .i64 x] 48))) := (Below.refl _ _).alloc (Nat.le_refl _) _
    refine (works11_any _).mono ?_
    rintro e w1 ⟨rfl, hb0⟩
    have hb1 := BX.out.trans (hb0.mono BX.out.size)
    go_wp2_with fail
    refine (works11_any w1).mono ?_
    rintro e w2 ⟨rfl, hb2⟩
    have HB := Lib.hid (hb1.trans (hb2.mono hb1.size))
    clear hb1 hb2
    go_wp2_with fail
    go_ret
    exact ⟨rfl, HB.out⟩
  · have q1 : ¬ (100 : Int) < (n : Int) := by omega
    have q2 : (300 : Int) < (m : Int) := by omega
    go_enter Try.func7, Try.ntmps7
    go_wp2_with fail
    have BX : Hid (Below w.heap.size w (w.alloc (.cells #[.int .u8 kind, .int .i64 at', .int .i64 who, .int .i64 ver, .int .i64 x] 48))) := (Below.refl _ _).alloc (Nat.le_refl _) _
    refine (works11_any _).mono ?_
    rintro e w1 ⟨rfl, hb0⟩
    have hb1 := BX.out.trans (hb0.mono BX.out.size)
    go_wp2_with fail
    refine (works11_any w1).mono ?_
    rintro e w2 ⟨rfl, hb2⟩
    have HB := Lib.hid (hb1.trans (hb2.mono hb1.size))
    clear hb1 hb2
    go_wp2_with fail
    go_ret
    exact ⟨rfl, HB.out⟩
set_option maxHeartbeats 4000000 in
theorem just_no {L : List Int} {st limit : Int} (hbad : badH L.length st limit = true) (A A' : Option Addr) (c c' : Nat) (m : Nat) (h1 : L.length ≤ 100) (h2 : m ≤ 300) (kind at' who ver x : Int) (w : World) : Calls Try.prog 7 #[.slice A L.length c, .int .i64 st, .int .i64 limit, .slice A' m c', .agg #[.int .u8 kind, .int .i64 at', .int .i64 who, .int .i64 ver, .int .i64 x]] w fun e w' => e = .returned (.bool true) ∧ Below w.heap.size w w' := by
  have q1 : ¬ (100 : Int) < (L.length : Int) := by omega
  have q2 : ¬ (300 : Int) < (m : Int) := by omega
  have HP := Lib.hid (played_no hbad A c (by omega) (.slice A' m c'))
  go_enter Try.func7, Try.ntmps7
  go_wp2_with fail
  have BX : Hid (Below w.heap.size w (w.alloc (.cells #[.int .u8 kind, .int .i64 at', .int .i64 who, .int .i64 ver, .int .i64 x] 48))) := (Below.refl _ _).alloc (Nat.le_refl _) _
  refine (works11_any _).mono ?_
  rintro e w1 ⟨rfl, hb0⟩
  have hb1 := BX.out.trans (hb0.mono BX.out.size)
  have HB := Lib.hid hb1
  clear hb1
  go_wp2_with fail
  refine (HP.out w1).mono ?_
  rintro e w' ⟨rfl, rfl⟩
  go_wp2_with fail
  go_ret
  exact ⟨rfl, HB.out⟩
set_option maxHeartbeats 32000000 in
theorem just_yes {L : List Int} {st limit : Int} (hok : badH L.length st limit = false) {w : World} {A A' : Option Addr} (c c' : Nat) (hI : Ints w w.heap.size A L) {S : List S11} (hS : Steps11 w w.heap.size A' S) (h1 : L.length ≤ 100) (h2 : S.length ≤ 300) (s : S11) : Calls Try.prog 7 #[.slice A L.length c, .int .i64 st, .int .i64 limit, .slice A' S.length c', s.v] w fun e w' => e = .returned (.bool true) ∧ Below w.heap.size w w' := by
  have q1 : ¬ (100 : Int) < (L.length : Int) := by omega
  have q2 : ¬ (300 : Int) < (S.length : Int) := by omega
  have HOK := Lib.hid hok
  have HI := Lib.hid hI
  have HS := Lib.hid hS
  have HBP := Lib.hid ((HB.new hok).play S S.length)
  have HP0 : Hid (playF (newF L st limit) S S.length 0 = st) := (playF_keep (HB.new hok) S (.inl rfl) _).trans new_st
  have HP67 : Hid (playF (newF L st limit) S S.length 67 = L.length) := (playF_keep (HB.new hok) S (.inr (.inr rfl)) _).trans new_vars
  obtain ⟨h3, h4, h5, h6, h7, h8⟩ := badH_no hok
  obtain ⟨st, rfl⟩ : ∃ s : Nat, st = s := ⟨st.toNat, by omega⟩
  have hst : st ≤ 32 := by omega
  obtain ⟨kind, at', who, ver, x⟩ := s
  unfold S11.v
  have BX : Hid (Below w.heap.size w (w.alloc (.cells #[.int .u8 kind, .int .i64 at', .int .i64 who, .int .i64 ver, .int .i64 x] 48))) := (Below.refl _ _).alloc (Nat.le_refl _) _
  have RX : Hid ((w.alloc (.cells #[.int .u8 kind, .int .i64 at', .int .i64 who, .int .i64 ver, .int .i64 x] 48)).heap[w.heap.size]? = some (.cells #[.int .u8 kind, .int .i64 at', .int .i64 who, .int .i64 ver, .int .i64 x] 48 (0, 0))) := heap_alloc_new w _
  have ZX : Hid ((w.alloc (.cells #[.int .u8 kind, .int .i64 at', .int .i64 who, .int .i64 ver, .int .i64 x] 48)).heap.size = w.heap.size + 1) := by show _ = _; simp
  clear hok hI hS h3 h4 h5 h6 h7 h8
  go_enter Try.func7, Try.ntmps7
  go_wp2_with fail
  refine (works11_any _).mono ?_
  rintro e w1 ⟨rfl, hb1⟩
  have hb1' := BX.out.trans (hb1.mono BX.out.size)
  have HB1 := Lib.hid hb1'
  have HI1 := Lib.hid (ints_up11 (HI.out.below hb1' (Nat.le_refl _)) hb1'.size)
  have HS1 : Hid (Steps11 w1 w1.heap.size A' S) := fun i hi => by
    obtain ⟨p, e, m, hs⟩ := (HS.out.below hb1') i hi
    exact ⟨p, e, Nat.lt_of_lt_of_le m hb1'.size, hs⟩
  have R1 : Hid (w1.heap[w.heap.size]? = some (.cells #[.int .u8 kind, .int .i64 at', .int .i64 who, .int .i64 ver, .int .i64 x] 48 (0, 0))) := (hb1.block _ (by have := ZX.out; omega)).trans RX.out
  have Z1 : Hid (w.heap.size < w1.heap.size) := by show _ < _; have := ZX.out; have := hb1.size; omega
  clear hb1 hb1' HI HS RX BX ZX
  obtain ⟨gb, hgb⟩ : ∃ gb, gb = w.heap.size := ⟨_, rfl⟩
  rw [← hgb] at R1 Z1 ⊢
  have HGB : Hid (w.heap.size ≤ gb) := by show _ ≤ _; omega
  clear hgb
  go_wp2_with fail
  refine (played_yes HOK.out c c' HI1.out HS1.out (by omega)).mono ?_
  rintro e w2 ⟨g, rfl, hH, hg, hb2⟩
  have HG : Hid (gb < g) := by show _ < _; have := Z1.out; omega
  have B2 := Lib.hid (HB1.out.trans (hb2.mono HB1.out.size))
  have R2 := Lib.hid ((hb2.block gb Z1.out).trans R1.out)
  obtain ⟨C0, hC0⟩ : ∃ C0, C0 = playF (newF L st limit) S S.length := ⟨_, rfl⟩
  rw [← hC0] at hH HBP HP0 HP67
  have H2 := Lib.hid hH
  clear hH hg hb2 hC0 HOK HI1 HS1 HB1 R1 Z1
  dsimp only
  go_wp2_with fail
  refine (hcopy_any H2.out).mono ?_
  rintro e w3 ⟨rfl, hC3, b3⟩
  obtain ⟨gu, hgu⟩ : ∃ gu, gu = w2.heap.size := ⟨_, rfl⟩
  have HGU : Hid (g < gu) := by show _ < _; have := H2.out.lt; omega
  have HGL : Hid (gu < w3.heap.size) := by show _ < _; rw [hgu]; exact hC3.lt
  rw [← hgu] at hC3 ⊢
  have U3 := Lib.hid hC3
  have H3 := Lib.hid (H2.out.below b3 H2.out.lt)
  have B3 := Lib.hid (B2.out.trans (b3.mono B2.out.size))
  have R3 := Lib.hid ((b3.block gb (by have := HG.out; have := H2.out.lt; omega)).trans R2.out)
  have HD := Lib.hid (do_any H3.out HBP.out ⟨kind, at', who, ver, x⟩)
  unfold S11.v at HD
  have f0 := cell_of_row _ _ 0 _ _ _ R3.out
  have f1 := cell_of_row _ _ 1 _ _ _ R3.out
  have f2 := cell_of_row _ _ 2 _ _ _ R3.out
  have f3 := cell_of_row _ _ 3 _ _ _ R3.out
  have f4 := cell_of_row _ _ 4 _ _ _ R3.out
  simp only [List.getElem?_toArray, List.getElem?_cons_zero, List.getElem?_cons_succ] at f0 f1 f2 f3 f4
  have HBD := Lib.hid (HBP.out.step ⟨kind, at', who, ver, x⟩)
  have HD0 : Hid (doC C0 ⟨kind, at', who, ver, x⟩ 0 = st) := (doC_keep HBP.out _ (.inl rfl)).trans HP0.out
  have HD67 : Hid (doC C0 ⟨kind, at', who, ver, x⟩ 67 = L.length) := (doC_keep HBP.out _ (.inr (.inr rfl))).trans HP67.out
  have HRF := Lib.hid (doC_refused (c := C0) (s := ⟨kind, at', who, ver, x⟩))
  have HRN := Lib.hid (doN_refused (c := C0) (s := ⟨kind, at', who, ver, x⟩))
  have HJS := Lib.hid (fun (he : doE C0 ⟨kind, at', who, ver, x⟩ = 0) (j : Nat) (hj : j < 32) => just_stripe HBP.out he hj)
  have HJV := Lib.hid (fun (he : doE C0 ⟨kind, at', who, ver, x⟩ = 0) (j : Nat) (hj : j < 32) => just_value HBP.out he hj)
  have HJ0 := Lib.hid (fun (he : doE C0 ⟨kind, at', who, ver, x⟩ = 0) => just_012 HBP.out he)
  have HJ3 := Lib.hid (fun (he : doE C0 ⟨kind, at', who, ver, x⟩ = 0) => just_3 he)
  have HJ4 := Lib.hid (fun (he : doE C0 ⟨kind, at', who, ver, x⟩ = 0) => just_4 HBP.out he)
  obtain ⟨d, hd⟩ : ∃ d, d = doC C0 ⟨kind, at', who, ver, x⟩ := ⟨_, rfl⟩
  obtain ⟨er, her⟩ : ∃ er, er = doE C0 ⟨kind, at', who, ver, x⟩ := ⟨_, rfl⟩
  obtain ⟨nr, hnr⟩ : ∃ nr, nr = doN C0 ⟨kind, at', who, ver, x⟩ := ⟨_, rfl⟩
  rw [← hd, ← her, ← hnr] at HD
  rw [← hd] at HBD HD0 HD67
  rw [← hd, ← her] at HRF HJS HJV HJ0 HJ4
  rw [← her, ← hnr] at HRN
  rw [← her, ← hnr, ← hd] at HJ3
  dsimp only at HJS HJV HJ0 HJ3 HJ4
  clear hd her hnr hC3 b3 hgu H2 B2 R2
  dsimp only
  go_wp2_with fail
  refine HD.out.mono ?_
  rintro e w4 ⟨rfl, hU⟩
  have B4 := Lib.hid (B3.out.trans (hU.low _ (by have := HG.out; have := HGB.out; omega)))
  have U4 := Lib.hid (U3.out.same (hU.far gu (by have := HGU.out; omega) HGL.out))
  have H4 := Lib.hid hU.at'
  have R4 := Lib.hid ((hU.far gb (by have := HG.out; omega) (by have := H3.out.lt; have := HG.out; omega)).trans R3.out)
  clear hU HD U3 H3 B3 R3 f0 f1 f2 f3 f4
  dsimp only
  by_cases he0 : er = 0
  · have qe : (er != 0) = false := bne_eq_false_iff_eq.2 he0
    have HE := Lib.hid he0
    clear he0 HRF HRN
    have f0 := cell_of_row _ _ 0 _ _ _ R4.out
    have f1 := cell_of_row _ _ 1 _ _ _ R4.out
    have f2 := cell_of_row _ _ 2 _ _ _ R4.out
    have f3 := cell_of_row _ _ 3 _ _ _ R4.out
    have f4 := cell_of_row _ _ 4 _ _ _ R4.out
    simp only [List.getElem?_toArray, List.getElem?_cons_zero, List.getElem?_cons_succ] at f0 f1 f2 f3 f4
    have hgl4 := Lib.hid (And.intro H4.out.lt U4.out.lt)
    have TO : Hid (∀ W, Below w4.heap.size w4 W → ∀ j : Nat, j < st → Calls Try.prog 20 #[.pointer (some ⟨g, 0, none⟩), .int .i64 j] W fun e w' => e = .returned (.int .i64 (d (1 + j))) ∧ W = w') := fun W b j hj => by
      have := howner_any (H4.out.below b hgl4.out.1) HBD.out (j : Int)
      rw [show ownerF d (j : Int) = d (1 + j) from if_pos (by rw [isS_iff, HD0.out]; omega)] at this
      exact this
    have TU : Hid (∀ W, Below w4.heap.size w4 W → ∀ j : Nat, j < st → Calls Try.prog 20 #[.pointer (some ⟨gu, 0, none⟩), .int .i64 j] W fun e w' => e = .returned (.int .i64 (C0 (1 + j))) ∧ W = w') := fun W b j hj => by
      have := howner_any (U4.out.below b hgl4.out.2) HBP.out (j : Int)
      rw [show ownerF C0 (j : Int) = C0 (1 + j) from if_pos (by rw [isS_iff, HP0.out]; omega)] at this
      exact this
    have TV : Hid (∀ W, Below w4.heap.size w4 W → ∀ j : Nat, j < st → Calls Try.prog 21 #[.pointer (some ⟨g, 0, none⟩), .int .i64 j] W fun e w' => e = .returned (.int .i64 (d (33 + j))) ∧ W = w') := fun W b j hj => by
      have := hversion_any (H4.out.below b hgl4.out.1) HBD.out (j : Int)
      rw [show versionF d (j : Int) = d (33 + j) from if_pos (by rw [isS_iff, HD0.out]; omega)] at this
      exact this
    have TW : Hid (∀ W, Below w4.heap.size w4 W → ∀ j : Nat, j < st → Calls Try.prog 21 #[.pointer (some ⟨gu, 0, none⟩), .int .i64 j] W fun e w' => e = .returned (.int .i64 (C0 (33 + j))) ∧ W = w') := fun W b j hj => by
      have := hversion_any (U4.out.below b hgl4.out.2) HBP.out (j : Int)
      rw [show versionF C0 (j : Int) = C0 (33 + j) from if_pos (by rw [isS_iff, HP0.out]; omega)] at this
      exact this
    have VX : Hid (∀ W, Below w4.heap.size w4 W → ∀ j : Nat, j < L.length → Calls Try.prog 22 #[.pointer (some ⟨g, 0, none⟩), .int .i64 j] W fun e w' => e = .returned (.int .i64 (d (68 + j))) ∧ W = w') := fun W b j hj => by
      have := value_any (H4.out.below b hgl4.out.1) HBD.out (j : Int)
      rw [show valueF d (j : Int) = d (68 + j) from if_pos (by rw [isV_iff, HD67.out]; omega)] at this
      exact this
    have VY : Hid (∀ W, Below w4.heap.size w4 W → ∀ j : Nat, j < L.length → Calls Try.prog 22 #[.pointer (some ⟨gu, 0, none⟩), .int .i64 j] W fun e w' => e = .returned (.int .i64 (C0 (68 + j))) ∧ W = w') := fun W b j hj => by
      have := value_any (U4.out.below b hgl4.out.2) HBP.out (j : Int)
      rw [show valueF C0 (j : Int) = C0 (68 + j) from if_pos (by rw [isV_iff, HP67.out]; omega)] at this
      exact this
    have KX : Hid (∀ W, Below w4.heap.size w4 W → Calls Try.prog 17 #[.pointer (some ⟨g, 0, none⟩)] W fun e w' => e = .returned (.int .i64 (d 65)) ∧ W = w') := fun W b => clock_any (H4.out.below b hgl4.out.1)
    have KY : Hid (∀ W, Below w4.heap.size w4 W → Calls Try.prog 17 #[.pointer (some ⟨gu, 0, none⟩)] W fun e w' => e = .returned (.int .i64 (C0 65)) ∧ W = w') := fun W b => clock_any (U4.out.below b hgl4.out.2)
    go_wp2_with fail
    go_loopw [15] (fun i wr => ∃ j : Nat, j ≤ st ∧ i = .int .i64 j ∧ w4 = wr) (fun i _ => st - (intOf i).toNat)
    case atStart => exact ⟨0, by omega, by go_num, rfl⟩
    case round =>
      obtain ⟨j, hj, rfl, rfl⟩ := hrel
      by_cases hlt : j < st
      · have i1 : (0 : Int) ≤ (j : Int) := by omega
        have i2 : (j : Int) < (st : Int) := by omega
        have A1 := Lib.hid (TO.out w4 (Below.refl _ _) j hlt)
        have A2 := Lib.hid (TU.out w4 (Below.refl _ _) j hlt)
        have A3 := Lib.hid (TV.out w4 (Below.refl _ _) j hlt)
        have A4 := Lib.hid (TW.out w4 (Below.refl _ _) j hlt)
        by_cases hc : 2 < kind ∨ (j : Int) ≠ at'
        · obtain ⟨e1, e2⟩ := HJS.out HE.out j (by omega) hc
          rw [e1] at A1
          rw [e2] at A3
          obtain ⟨y1, hy1⟩ : ∃ y, y = C0 (1 + j) := ⟨_, rfl⟩
          obtain ⟨y2, hy2⟩ : ∃ y, y = C0 (33 + j) := ⟨_, rfl⟩
          rw [← hy1] at A1 A2
          rw [← hy2] at A3 A4
          clear e1 e2 hy1 hy2
          by_cases hk : 2 < kind
          · have k1 : (2 : Int) < (kind : Int) := by omega
            clear hc
            go_wp2_with fail
            refine A1.out.mono ?_
            rintro e w' ⟨rfl, rfl⟩
            dsimp only
            go_wp2_with fail
            refine A2.out.mono ?_
            rintro e w' ⟨rfl, rfl⟩
            dsimp only
            go_wp2_with fail
            refine A3.out.mono ?_
            rintro e w' ⟨rfl, rfl⟩
            dsimp only
            go_wp2_with fail
            refine A4.out.mono ?_
            rintro e w' ⟨rfl, rfl⟩
            dsimp only
            go_wp2_with fail
            go_roundw
            case rel => exact ⟨j + 1, by omega, by go_num, trivial⟩
            case measure => simp [intOf]; omega
          · have k1 : ¬ (2 : Int) < (kind : Int) := by omega
            have k2 : ((j : Int) != at') = true := bne_iff_ne.2 (by omega)
            clear hc
            go_wp2_with fail
            refine A1.out.mono ?_
            rintro e w' ⟨rfl, rfl⟩
            dsimp only
            go_wp2_with fail
            refine A2.out.mono ?_
            rintro e w' ⟨rfl, rfl⟩
            dsimp only
            go_wp2_with fail
            refine A3.out.mono ?_
            rintro e w' ⟨rfl, rfl⟩
            dsimp only
            go_wp2_with fail
            refine A4.out.mono ?_
            rintro e w' ⟨rfl, rfl⟩
            dsimp only
            go_wp2_with fail
            go_roundw
            case rel => exact ⟨j + 1, by omega, by go_num, trivial⟩
            case measure => simp [intOf]; omega
        · have k1 : ¬ (2 : Int) < (kind : Int) := by omega
          have k2 : ((j : Int) != at') = false := bne_eq_false_iff_eq.2 (by omega)
          clear hc
          go_wp2_with fail
          go_roundw
          case rel => exact ⟨j + 1, by omega, by go_num, trivial⟩
          case measure => simp [intOf]; omega
      · obtain rfl : j = st := by omega
        have i2 : ¬ (j : Int) < (j : Int) := by omega
        clear HJS
        go_wp2_with fail
        go_loopw [16] (fun i wr => ∃ v : Nat, v ≤ L.length ∧ i = .int .i64 v ∧ w4 = wr) (fun i _ => L.length - (intOf i).toNat)
        case atStart => exact ⟨0, by omega, by go_num, rfl⟩
        case round =>
          obtain ⟨v, hv, rfl, rfl⟩ := hrel
          by_cases hvl : v < L.length
          · have i1 : (0 : Int) ≤ (v : Int) := by omega
            have i3 : (v : Int) < (L.length : Int) := by omega
            have hv32 : v < 32 := by have := HBP.out.v2; rw [HP67.out] at this; omega
            have A1 := Lib.hid (VX.out w4 (Below.refl _ _) v hvl)
            have A2 := Lib.hid (VY.out w4 (Below.refl _ _) v hvl)
            by_cases hc : kind < 4 ∨ (v : Int) ≠ at'
            · have e1 := HJV.out HE.out v hv32 hc
              rw [e1] at A1
              obtain ⟨y1, hy1⟩ : ∃ y, y = C0 (68 + v) := ⟨_, rfl⟩
              rw [← hy1] at A1 A2
              clear e1 hy1
              by_cases hk : kind < 4
              · have k1 : (kind : Int) < 4 := by omega
                clear hc
                go_wp2_with fail
                refine A1.out.mono ?_
                rintro e w' ⟨rfl, rfl⟩
                dsimp only
                go_wp2_with fail
                refine A2.out.mono ?_
                rintro e w' ⟨rfl, rfl⟩
                dsimp only
                go_wp2_with fail
                go_roundw
                case rel => exact ⟨v + 1, by omega, by go_num, trivial⟩
                case measure => simp [intOf]; omega
              · have k1 : ¬ (kind : Int) < 4 := by omega
                have k2 : ((v : Int) != at') = true := bne_iff_ne.2 (by omega)
                clear hc
                go_wp2_with fail
                refine A1.out.mono ?_
                rintro e w' ⟨rfl, rfl⟩
                dsimp only
                go_wp2_with fail
                refine A2.out.mono ?_
                rintro e w' ⟨rfl, rfl⟩
                dsimp only
                go_wp2_with fail
                go_roundw
                case rel => exact ⟨v + 1, by omega, by go_num, trivial⟩
                case measure => simp [intOf]; omega
            · have k1 : ¬ (kind : Int) < 4 := by omega
              have k2 : ((v : Int) != at') = false := bne_eq_false_iff_eq.2 (by omega)
              clear hc
              go_wp2_with fail
              go_roundw
              case rel => exact ⟨v + 1, by omega, by go_num, trivial⟩
              case measure => simp [intOf]; omega
          · obtain rfl : v = L.length := by omega
            have i3 : ¬ (L.length : Int) < (L.length : Int) := by omega
            clear HJV
            by_cases k012 : kind ≤ 2
            · obtain ⟨a1, a2, a3, a4, a5⟩ := HJ0.out HE.out k012
              obtain ⟨K, hK, hK32, hKs⟩ := isS_nat HBP.out a1
              subst hK
              rw [HP0.out] at hKs
              have hKst : K < j := by omega
              have a4' : d (1 + K) = (if kind = 0 then who else -1) := a4
              have a5' : d (33 + K) = (if kind = 2 then ver else C0 (33 + K)) := a5
              have FX : Hid (∀ W, Below w4.heap.size w4 W → W.cell? ⟨gb, 1, none⟩ = some (.int .i64 (K : Int)) ∧ W.cell? ⟨gb, 2, none⟩ = some (.int .i64 who) ∧ W.cell? ⟨gb, 3, none⟩ = some (.int .i64 ver) ∧ W.cell? ⟨gb, 4, none⟩ = some (.int .i64 x)) := fun W b => by
                have hl : gb < w4.heap.size := (Array.getElem?_eq_some_iff.1 R4.out).1
                exact ⟨(b.cell (p := ⟨gb, 1, none⟩) hl).trans f1, (b.cell (p := ⟨gb, 2, none⟩) hl).trans f2, (b.cell (p := ⟨gb, 3, none⟩) hl).trans f3, (b.cell (p := ⟨gb, 4, none⟩) hl).trans f4⟩
              have Y1 : Hid (∀ W, Below w4.heap.size w4 W → _) := fun W b => TO.out W b K hKst
              have Y2 : Hid (∀ W, Below w4.heap.size w4 W → _) := fun W b => TV.out W b K hKst
              have Y3 : Hid (∀ W, Below w4.heap.size w4 W → _) := fun W b => TW.out W b K hKst
              have Y4 := KX
              rw [a4'] at Y1
              rw [a5'] at Y2
              rw [a3] at Y4
              obtain ⟨y, hy⟩ : ∃ y, y = C0 (33 + K) := ⟨_, rfl⟩
              obtain ⟨kc, hkc⟩ : ∃ kc, kc = C0 65 := ⟨_, rfl⟩
              rw [← hy] at Y2 Y3
              rw [← hkc] at Y4 KY
              have qw : (who == who) = true := beq_self_eq_true who
              have qv : (ver == ver) = true := beq_self_eq_true ver
              have qy : (y == y) = true := beq_self_eq_true y
              have qk : (kc == kc) = true := beq_self_eq_true kc
              clear a1 a2 a3 a4 a5 a4' a5' hK32 hKs hKst hy hkc TO TU TV TW VX VY HJ0 HJ3 HJ4 KX
              by_cases k0 : kind = 0
              · subst k0
                rw [if_pos rfl] at Y1
                rw [if_neg (by decide)] at Y2
                go_upto_region 22 with fail
                go_region_held3 (fun w' => w'.cell? ⟨gb, 1, none⟩ = some (.int .i64 (K : Int)) ∧ w'.cell? ⟨gb, 2, none⟩ = some (.int .i64 who) ∧ w'.cell? ⟨gb, 3, none⟩ = some (.int .i64 ver) ∧ w'.cell? ⟨gb, 4, none⟩ = some (.int .i64 x))
                  (first | exact FX.out _ (Below.refl _ _).drew | go_keep)
                  (first
                    | (go_at_call 17; with_reducible refine (KY.out _ (Below.refl _ _).drew).mono ?_; rintro e w' ⟨rfl, rfl⟩)
                    | (go_at_call 17; with_reducible refine (Y4.out _ (Below.refl _ _).drew).mono ?_; rintro e w' ⟨rfl, rfl⟩)
                    | (go_at_call 21; with_reducible refine (Y3.out _ (Below.refl _ _).drew).mono ?_; rintro e w' ⟨rfl, rfl⟩)
                    | (go_at_call 21; with_reducible refine (Y2.out _ (Below.refl _ _).drew).mono ?_; rintro e w' ⟨rfl, rfl⟩)
                    | (go_at_call 20; with_reducible refine (Y1.out _ (Below.refl _ _).drew).mono ?_; rintro e w' ⟨rfl, rfl⟩)
                    | fail)
                have B9 := Lib.hid (B4.out.trans (((Below.refl w4.heap.size w4).drew).mono B4.out.size))
                go_wp2_with fail
                go_ret
                exact ⟨rfl, B9.out⟩
              have q0 : ((kind : Int) == 0) = false := beq_eq_false_iff_ne.2 (by omega)
              by_cases k1 : kind = 1
              · subst k1
                rw [if_neg (by decide)] at Y1 Y2
                go_upto_region 24 with fail
                go_region_held3 (fun w' => w'.cell? ⟨gb, 1, none⟩ = some (.int .i64 (K : Int)) ∧ w'.cell? ⟨gb, 2, none⟩ = some (.int .i64 who) ∧ w'.cell? ⟨gb, 3, none⟩ = some (.int .i64 ver) ∧ w'.cell? ⟨gb, 4, none⟩ = some (.int .i64 x))
                  (first | exact FX.out _ (Below.refl _ _).drew | go_keep)
                  (first
                    | (go_at_call 17; with_reducible refine (KY.out _ (Below.refl _ _).drew).mono ?_; rintro e w' ⟨rfl, rfl⟩)
                    | (go_at_call 17; with_reducible refine (Y4.out _ (Below.refl _ _).drew).mono ?_; rintro e w' ⟨rfl, rfl⟩)
                    | (go_at_call 21; with_reducible refine (Y3.out _ (Below.refl _ _).drew).mono ?_; rintro e w' ⟨rfl, rfl⟩)
                    | (go_at_call 21; with_reducible refine (Y2.out _ (Below.refl _ _).drew).mono ?_; rintro e w' ⟨rfl, rfl⟩)
                    | (go_at_call 20; with_reducible refine (Y1.out _ (Below.refl _ _).drew).mono ?_; rintro e w' ⟨rfl, rfl⟩)
                    | fail)
                have B9 := Lib.hid (B4.out.trans (((Below.refl w4.heap.size w4).drew).mono B4.out.size))
                go_wp2_with fail
                go_ret
                exact ⟨rfl, B9.out⟩
              have q1' : ((kind : Int) == 1) = false := beq_eq_false_iff_ne.2 (by omega)
              obtain rfl : kind = 2 := by omega
              rw [if_neg (by decide)] at Y1
              rw [if_pos rfl] at Y2
              go_upto_region 26 with fail
              go_region_held3 (fun w' => w'.cell? ⟨gb, 1, none⟩ = some (.int .i64 (K : Int)) ∧ w'.cell? ⟨gb, 2, none⟩ = some (.int .i64 who) ∧ w'.cell? ⟨gb, 3, none⟩ = some (.int .i64 ver) ∧ w'.cell? ⟨gb, 4, none⟩ = some (.int .i64 x))
                (first | exact FX.out _ (Below.refl _ _).drew | go_keep)
                (first
                  | (go_at_call 17; with_reducible refine (KY.out _ (Below.refl _ _).drew).mono ?_; rintro e w' ⟨rfl, rfl⟩)
                  | (go_at_call 17; with_reducible refine (Y4.out _ (Below.refl _ _).drew).mono ?_; rintro e w' ⟨rfl, rfl⟩)
                  | (go_at_call 21; with_reducible refine (Y2.out _ (Below.refl _ _).drew).mono ?_; rintro e w' ⟨rfl, rfl⟩)
                  | (go_at_call 20; with_reducible refine (Y1.out _ (Below.refl _ _).drew).mono ?_; rintro e w' ⟨rfl, rfl⟩)
                  | fail)
              have B9 := Lib.hid (B4.out.trans (((Below.refl w4.heap.size w4).drew).mono B4.out.size))
              go_wp2_with fail
              go_ret
              exact ⟨rfl, B9.out⟩
            · have q0 : ((kind : Int) == 0) = false := beq_eq_false_iff_ne.2 (by omega)
              have q1' : ((kind : Int) == 1) = false := beq_eq_false_iff_ne.2 (by omega)
              have q2' : ((kind : Int) == 2) = false := beq_eq_false_iff_ne.2 (by omega)
              by_cases k3 : kind = 3
              · obtain ⟨a1, a2⟩ := HJ3.out HE.out k3
                have Y4 := Lib.hid (KX.out w4 (Below.refl _ _))
                have Y5 := Lib.hid (KY.out w4 (Below.refl _ _))
                rw [a2] at Y4
                subst a1
                have z1 := HBP.out.k1
                have z2 := HBP.out.k2
                have z3 := HBP.out.k3
                obtain ⟨kc, hkc⟩ : ∃ kc, kc = C0 65 := ⟨_, rfl⟩
                rw [← hkc] at Y4 Y5 z1 z2 ⊢
                have m1 : wrap64 (kc + 1) = kc + 1 := by unfold wrap64; omega
                have qk : ((kc + 1) == (kc + 1)) = true := beq_self_eq_true (kc + 1)
                clear a2 hkc z1 z2 z3 TO TU TV TW VX VY HJ0 HJ3 HJ4 KX KY
                subst k3
                go_wp2_with fail
                refine Y5.out.mono ?_
                rintro e w' ⟨rfl, rfl⟩
                dsimp only
                go_wp2_with fail
                refine Y4.out.mono ?_
                rintro e w' ⟨rfl, rfl⟩
                dsimp only
                go_wp2_with fail
                go_ret
                exact ⟨rfl, B4.out⟩
              · have q3' : ((kind : Int) == 3) = false := beq_eq_false_iff_ne.2 (by omega)
                obtain ⟨a1, a2, a3⟩ := HJ4.out HE.out (by omega)
                obtain ⟨K, hK, hK32, hKs⟩ := isV_nat HBD.out a1
                subst hK
                rw [HD67.out] at hKs
                have a2' : d (68 + K) = x := a2
                have FX : Hid (∀ W, Below w4.heap.size w4 W → W.cell? ⟨gb, 1, none⟩ = some (.int .i64 (K : Int)) ∧ W.cell? ⟨gb, 2, none⟩ = some (.int .i64 who) ∧ W.cell? ⟨gb, 3, none⟩ = some (.int .i64 ver) ∧ W.cell? ⟨gb, 4, none⟩ = some (.int .i64 x)) := fun W b => by
                  have hl : gb < w4.heap.size := (Array.getElem?_eq_some_iff.1 R4.out).1
                  exact ⟨(b.cell (p := ⟨gb, 1, none⟩) hl).trans f1, (b.cell (p := ⟨gb, 2, none⟩) hl).trans f2, (b.cell (p := ⟨gb, 3, none⟩) hl).trans f3, (b.cell (p := ⟨gb, 4, none⟩) hl).trans f4⟩
                have Y1 : Hid (∀ W, Below w4.heap.size w4 W → _) := fun W b => VX.out W b K (by omega)
                have Y4 := KX
                rw [a2'] at Y1
                rw [a3] at Y4
                obtain ⟨kc, hkc⟩ : ∃ kc, kc = C0 65 := ⟨_, rfl⟩
                rw [← hkc] at Y4 KY
                have qx : (x == x) = true := beq_self_eq_true x
                have qk : (kc == kc) = true := beq_self_eq_true kc
                clear a1 a2 a3 a2' hK32 hKs hkc TO TU TV TW VX VY HJ0 HJ3 HJ4 KX
                go_upto_region 29 with fail
                go_region_held3 (fun w' => w'.cell? ⟨gb, 1, none⟩ = some (.int .i64 (K : Int)) ∧ w'.cell? ⟨gb, 2, none⟩ = some (.int .i64 who) ∧ w'.cell? ⟨gb, 3, none⟩ = some (.int .i64 ver) ∧ w'.cell? ⟨gb, 4, none⟩ = some (.int .i64 x))
                  (first | exact FX.out _ (Below.refl _ _).drew | go_keep)
                  (first
                    | (go_at_call 17; with_reducible refine (KY.out _ (Below.refl _ _).drew).mono ?_; rintro e w' ⟨rfl, rfl⟩)
                    | (go_at_call 17; with_reducible refine (Y4.out _ (Below.refl _ _).drew).mono ?_; rintro e w' ⟨rfl, rfl⟩)
                    | (go_at_call 22; with_reducible refine (Y1.out _ (Below.refl _ _).drew).mono ?_; rintro e w' ⟨rfl, rfl⟩)
                    | fail)
                have B9 := Lib.hid (B4.out.trans (((Below.refl w4.heap.size w4).drew).mono B4.out.size))
                go_wp2_with fail
                go_ret
                exact ⟨rfl, B9.out⟩
  · have qe : (er != 0) = true := bne_iff_ne.2 he0
    have hn0 := HRN.out he0
    subst hn0
    have EQ := Lib.hid (HRF.out he0)
    have SM := Lib.hid (same_any H4.out U4.out)
    clear he0 HRF HRN HJS HJV HJ0 HJ3 HJ4
    go_wp2_with fail
    refine SM.out.mono ?_
    rintro e w6 ⟨r, rfl, hr, b6⟩
    obtain rfl : r = true := hr.2 (fun j _ => by rw [EQ.out])
    have B6 := Lib.hid (B4.out.trans (b6.mono B4.out.size))
    clear hr b6 EQ SM
    dsimp only
    go_wp2_with fail
    go_ret
    exact ⟨rfl, B6.out⟩
theorem HeapJust_walk (A : Option Addr) (c : Nat) (L : List Int) (w : World) (hI : Ints w w.heap.size A L) (st : Int) (h1 : (Lit.int .i64 st).wf = true) (limit : Int) (h2 : (Lit.int .i64 limit).wf = true) (A' : Option Addr) (c' : Nat) (S : List S11) (hn : S.length ≤ 9223372036854775807) (hS : Steps11 w w.heap.size A' S) (s : S11) :
    Calls Try.prog 7 #[.slice A L.length c, .int .i64 st, .int .i64 limit, .slice A' S.length c', s.v] w fun e w' => e = .returned (.bool true) ∧ Below w.heap.size w w' := by
  by_cases h : 100 < L.length ∨ 300 < S.length
  · exact just_big A A' c c' _ _ hI.len hn h st limit _ _ _ _ _ w
  · cases hb : badH L.length st limit with
    | true => exact just_no hb A A' c c' _ (by omega) (by omega) _ _ _ _ _ w
    | false => exact just_yes hb c c' hI hS (by omega) (by omega) s
theorem HeapJust_laid : laidOutB Try.prog = true := by kernel_rfl
set_option maxRecDepth 100000 in
theorem HeapJust_lifted (os : Os) (started : os.Started) (H : Type) (enc : TypeId × Value → H) :
    ReturnsInHanded {} Try.checked os 7 .any (Rows.heapJustSpec.pre6 enc Try.prog Try.f7 Rows.heapJustRow.domain false) (Rows.heapJustSpec.post enc Try.prog Try.f7 false true false false) := by
  refine returnsInHanded_of_change (C := Try.checked) lift_own started (by kernel_rfl) Try.func7
    (ChangeSpec.witness6 (enc := enc) (C := Try.checked) false ⟨#[], #[.slice none 0 0, .int .i64 0, .int .i64 0, .slice none 0 0, .agg #[.int .u8 0, .int .i64 0, .int .i64 0, .int .i64 0, .int .i64 0]], []⟩ 8 (by kernel_rfl) (by kernel_rfl) (by kernel_rfl) (by kernel_rfl)) ?_
  intro W base args ds gs before hval0 hW hcnd _
  have hval : ∀ (j : Nat) t v, Try.f7.params[j]? = some t → args[j]? = some v → Value.okWide Try.prog W .any base t v := hval0
  have hW' := hW
  obtain ⟨p, q, hA0, hV, rfl, hfz, hnd⟩ := hW
  have hA : DataW.TrodAll enc Try.prog W 0 (fun _ => true) true Try.f7.params.toList args.toList ds p := hA0
  rw [Try.params7] at hA hval
  obtain ⟨v0, vs0, d0, ds0, p0, q0, hargs, rfl, rfl, h0, r0⟩ := trodAll_cons hA
  obtain ⟨v1, vs1, d1, ds1, p1, q1, rfl, rfl, rfl, h1, r1⟩ := trodAll_cons r0
  obtain ⟨v2, vs2, d2, ds2, p2, q2, rfl, rfl, rfl, h2, r2⟩ := trodAll_cons r1
  obtain ⟨v3, vs3, d3, ds3, p3, q3, rfl, rfl, rfl, h3, r3⟩ := trodAll_cons r2
  obtain ⟨v4, vs4, d4, ds4, p4, q4, rfl, rfl, rfl, h4, r4⟩ := trodAll_cons r3
  obtain ⟨rfl, rfl, rfl⟩ := trodAll_nil r4
  obtain rfl : args = #[v0, v1, v2, v3, v4] := by cases args; simp_all
  obtain ⟨rfl, rfl⟩ := trodVars_none hV
  obtain ⟨A0, c0, L0, rfl, hI0⟩ := open_nums (hval 0 33 v0 rfl rfl) h0
  obtain ⟨a1, rfl, rfl, rfl, w1⟩ := open_int Try.underlying3 (hval 1 3 v1 rfl rfl) h1
  obtain ⟨a2, rfl, rfl, rfl, w2⟩ := open_int Try.underlying3 (hval 2 3 v2 rfl rfl) h2
  obtain ⟨A3, c3, L3, rfl, wl3, ws3⟩ := open_steps11 (hval 3 43 v3 rfl rfl) h3
  obtain ⟨s4, rfl⟩ := open_step11 (hval 4 48 v4 rfl rfl) h4
  clear hA0 hval0
  simp only [List.append_nil] at hW'
  refine (HeapJust_walk A0 c0 L0 W hI0 a1 w1 a2 w2 A3 c3 L3 wl3 ws3 s4).mono fun e W' ⟨he, hg⟩ => ?_
  subst he
  exact ⟨_, rfl, lift_post (pv := []) hW' (fun _ _ _ => (trodAll_cons_mk (shut_bool Try.underlying4 _) trodAll_mk0)) (fun sp hsp => (trodAll_cons_mk (WideElems.Trod_stays HeapJust_laid (by kernel_rfl) (of_decide_eq_true (by kernel_rfl)) h0 (fun x hx => hg.same (hW'.lt x (by simp [hx]))) (fun x hx => hsp x (by simp [hx]))) (trodAll_cons_mk (shut_int Try.underlying3 w1) (trodAll_cons_mk (shut_int Try.underlying3 w2) (trodAll_cons_mk (WideElems.Trod_stays HeapJust_laid (by kernel_rfl) (of_decide_eq_true (by kernel_rfl)) h3 (fun x hx => hg.same (hW'.lt x (by simp [hx]))) (fun x hx => hsp x (by simp [hx]))) (trodAll_cons_mk (WideElems.Trod_stays HeapJust_laid (by kernel_rfl) (of_decide_eq_true (by kernel_rfl)) h4 (fun x hx => hg.same (hW'.lt x (by simp [hx]))) (fun x hx => hsp x (by simp [hx]))) trodAll_mk0)))))) (fun _ _ => rfl) (by simp)
    hg (ok_one (by kernel_rfl) rfl (okWide_bool_mk Try.underlying4 _))⟩

/-- THE STATEMENT of HeapJust: for every input the call returns true, and each argument reads behind it as before. -/
theorem HeapJust_holds : Rows.HeapJustSaid :=
  OpenClaim.holds_of_wide 7 Try.f7 rfl rfl rfl rfl rfl rfl rfl ⟨rfl, rfl, rfl, rfl, rfl⟩ rfl rfl rfl rfl rfl (by kernel_rfl) Try.func7 (by kernel_rfl)
    (of_decide_eq_true (by kernel_rfl)) (by unfold Func.isWrapper; first | (rw [if_pos (by decide +kernel)]; kernel_rfl) | (rw [if_neg (by decide +kernel)]; exact ⟨rfl, rfl⟩))
    (fun os started H enc _ => HeapJust_lifted os started H enc)
end Go.Proofs.Ytokhcogmoleocaa
