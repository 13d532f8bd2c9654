/-
  WHAT A HEAP KEEPS, whatever is done to it (plain); the examples. Conditions: as they stand.
-/
import Derived.Test.YtokhcogmoleocaaHh
namespace Go.Proofs.Ytokhcogmoleocaa
set_option maxRecDepth 100000
open Go.RowKit Go.Deep
set_option linter.unusedVariables false
theorem HB.new {L : List Int} {st limit : Int} (h : badH L.length st limit = false) : HB (newF L st limit) := by
  obtain ⟨h1, h2, h3, h4, h5, h6⟩ := badH_no h
  have e0 : newF L st limit 0 = st := by simp [newF, lockF]
  have e65 : newF L st limit 65 = 0 := by
    unfold newF lockF
    rw [if_pos (by decide), if_neg (by decide), if_neg (by decide), if_neg (by omega)]
  have e66 : newF L st limit 66 = limit := by simp [newF, lockF]
  have e67 : newF L st limit 67 = L.length := by simp [newF]
  constructor <;> simp only [e0, e65, e66, e67] <;> omega
theorem HB.same {c c' : Nat → Int} (h : HB c) (e0 : c' 0 = c 0) (e65 : c' 65 = c 65) (e66 : c' 66 = c 66) (e67 : c' 67 = c 67) : HB c' := by
  obtain ⟨a1, a2, a3, a4, a5, a6, a7⟩ := h
  constructor <;> simp only [e0, e65, e66, e67] <;> assumption
theorem put_far {c : Nat → Int} {i j : Nat} {v : Int} (h : j ≠ i) : put c i v j = c j := if_neg h
theorem put_at {c : Nat → Int} {i : Nat} {v : Int} : put c i v i = v := if_pos rfl
theorem isS_lt {c : Nat → Int} (hb : HB c) {s : Int} (h : isS c s = true) : s.toNat < 32 := by
  obtain ⟨k, rfl, hk, _⟩ := isS_nat hb h
  exact hk
theorem ownE_isS {c : Nat → Int} {s who : Int} (h : ownE c s who = 0) : isS c s = true := by
  unfold ownE at h
  cases hs : isS c s with
  | true => rfl
  | false => rw [if_pos hs] at h; cases h
theorem ownedE_isS {c : Nat → Int} {s who : Int} (h : ownedE c s who = 0) : isS c s = true := by
  unfold ownedE at h
  cases hs : isS c s with
  | true => rfl
  | false => rw [if_pos hs] at h; cases h
theorem freeE_owned {c : Nat → Int} {s who v : Int} (h : freeE c s who v = 0) : ownedE c s who = 0 := by
  unfold freeE at h
  by_cases h0 : ownedE c s who = 0
  · exact h0
  · rw [if_pos h0] at h
    exact h
/-- What a call of a heap leaves elsewhere. -/
theorem ownC_far {c : Nat → Int} {s who : Int} {j : Nat} (hj : j ≠ 1 + s.toNat) : ownC c s who j = c j := by
  unfold ownC; split
  · exact put_far hj
  · rfl
theorem letC_far {c : Nat → Int} {s who : Int} {j : Nat} (hj : j ≠ 1 + s.toNat) : letC c s who j = c j := by
  unfold letC; split
  · exact put_far hj
  · rfl
theorem freeC_far {c : Nat → Int} {s who v : Int} {j : Nat} (hj : j ≠ 1 + s.toNat) (hj2 : j ≠ 33 + s.toNat) : freeC c s who v j = c j := by
  unfold freeC; split
  · rw [put_far hj, put_far hj2]
  · rfl
theorem bumpC_far {c : Nat → Int} {j : Nat} (hj : j ≠ 65) : bumpC c j = c j := by
  unfold bumpC; split
  · rfl
  · exact put_far hj
theorem setC_far {c : Nat → Int} {v x : Int} {j : Nat} (hj : j ≠ 68 + v.toNat) : setC11 c v x j = c j := by
  unfold setC11; split
  · exact put_far hj
  · rfl
theorem HB.own {c : Nat → Int} (h : HB c) (s who : Int) : HB (ownC c s who) := by
  by_cases h0 : ownE c s who = 0
  · have := isS_lt h (ownE_isS h0)
    exact h.same (ownC_far (by omega)) (ownC_far (by omega)) (ownC_far (by omega)) (ownC_far (by omega))
  · rw [show ownC c s who = c from if_neg h0]; exact h
theorem HB.let' {c : Nat → Int} (h : HB c) (s who : Int) : HB (letC c s who) := by
  by_cases h0 : ownedE c s who = 0
  · have := isS_lt h (ownedE_isS h0)
    exact h.same (letC_far (by omega)) (letC_far (by omega)) (letC_far (by omega)) (letC_far (by omega))
  · rw [show letC c s who = c from if_neg h0]; exact h
theorem HB.free {c : Nat → Int} (h : HB c) (s who v : Int) : HB (freeC c s who v) := by
  by_cases h0 : freeE c s who v = 0
  · have := isS_lt h (ownedE_isS (freeE_owned h0))
    exact h.same (freeC_far (by omega) (by omega)) (freeC_far (by omega) (by omega)) (freeC_far (by omega) (by omega)) (freeC_far (by omega) (by omega))
  · rw [show freeC c s who v = c from if_neg h0]; exact h
theorem HB.bump {c : Nat → Int} (h : HB c) : HB (bumpC c) := by
  unfold bumpC
  split
  · exact h
  · next hc =>
    obtain ⟨a1, a2, a3, a4, a5, a6, a7⟩ := h
    constructor <;> simp only [put_at, put_far (show (0 : Nat) ≠ 65 by decide), put_far (show (66 : Nat) ≠ 65 by decide), put_far (show (67 : Nat) ≠ 65 by decide)] <;> omega
theorem HB.set {c : Nat → Int} (h : HB c) (v x : Int) : HB (setC11 c v x) :=
  h.same (setC_far (by omega)) (setC_far (by omega)) (setC_far (by omega)) (setC_far (by omega))
theorem UpdH.below {w w' : World} {g : Nat} {c : Nat → Int} (h : UpdH w g c w') {B : Nat} {w0 : World} (hB : B ≤ g) (hb : Below B w0 w) : Below B w0 w' := hb.trans (h.low B hB)
theorem Ints.lit11 {w : World} {g hi : Nat} {t : TypeId} {cs : Array Value} (L : List Int) (h : w.heap[g]? = some (.cells cs t (0, 0))) (hc : cs = (L.map (Value.int .i64)).toArray) (hg : g < hi) (hl : L.length ≤ 1000) : Ints w hi (some ⟨g, 0, none⟩) L := by
  subst hc
  refine ⟨by omega, fun k hk => ⟨_, rfl, hg, ?_⟩⟩
  have : (⟨g, 0, none⟩ : Addr).add k = ⟨g, k, none⟩ := by cases k <;> simp [Addr.add]
  rw [this]
  simp [World.cell?, h, hk]
set_option maxHeartbeats 8000000 in
set_option maxRecDepth 100000 in
theorem works11_any (w : World) : Calls Try.prog 10 #[] w fun e w' => e = .returned (.bool true) ∧ Below w.heap.size w w' := by
  go_enter Try.func10, Try.ntmps10
  go_wp2_with fail
  have HB0 : Hid (Below w.heap.size w (w.alloc (.cells #[.int .i64 5, .int .i64 6, .int .i64 7] 2))) := (Below.refl _ _).alloc (Nat.le_refl _) _
  have hI0 : Ints (w.alloc (.cells #[.int .i64 5, .int .i64 6, .int .i64 7] 2)) (w.alloc (.cells #[.int .i64 5, .int .i64 6, .int .i64 7] 2)).heap.size (some ⟨w.heap.size, 0, none⟩) [5, 6, 7] := Ints.lit11 [5, 6, 7] (heap_alloc_new w _) rfl (by simp) (by simp)
  refine (hnew_yes (L := [5, 6, 7]) (st := 2) (limit := 9) (by kernel_rfl) 3 hI0).mono ?_
  rintro e w1 ⟨g, rfl, hH, hg, hb⟩
  obtain ⟨c0, hc0⟩ : ∃ c0, c0 = newF [5, 6, 7] 2 9 := ⟨_, rfl⟩
  rw [← hc0] at hH
  have b0 : HB c0 := by rw [hc0]; exact HB.new (by kernel_rfl)
  have s1 := stripe_any hH b0 0
  have s2 := stripe_any hH b0 2
  have s3 := stripe_any hH b0 1
  have o1 := own_any hH b0 0 1
  rw [show stripeF c0 0 = 0 by rw [hc0]; kernel_rfl] at s1
  rw [show stripeF c0 2 = 0 by rw [hc0]; kernel_rfl] at s2
  rw [show stripeF c0 1 = 1 by rw [hc0]; kernel_rfl] at s3
  rw [show ownE c0 0 1 = 0 by rw [hc0]; kernel_rfl] at o1
  have S1 := Lib.hid s1
  have S2 := Lib.hid s2
  have S3 := Lib.hid s3
  have O1 := Lib.hid o1
  have HG : Hid (w.heap.size ≤ g) := by show _ ≤ _; have := HB0.out.size; omega
  have B1 := Lib.hid (HB0.out.trans (hb.mono HB0.out.size))
  clear s1 s2 s3 o1 hH hb hg hI0 HB0
  go_wp2_with fail
  refine S1.out.mono ?_
  rintro e w' ⟨rfl, rfl⟩
  go_wp2_with fail
  refine S2.out.mono ?_
  rintro e w' ⟨rfl, rfl⟩
  go_wp2_with fail
  refine S3.out.mono ?_
  rintro e w' ⟨rfl, rfl⟩
  go_wp2_with fail
  refine O1.out.mono ?_
  rintro e w2 ⟨rfl, U2⟩
  obtain ⟨c1, hc1⟩ : ∃ c1, c1 = ownC c0 0 1 := ⟨_, rfl⟩
  rw [← hc1] at U2
  have b1 : HB c1 := by rw [hc1]; exact b0.own 0 1
  have o2 := own_any U2.at' b1 0 2
  rw [show ownE c1 0 2 = 6 by rw [hc1, hc0]; kernel_rfl] at o2
  have O2 := Lib.hid o2
  have B2 := Lib.hid (U2.below HG.out B1.out)
  clear U2 o2 S1 S2 S3 O1 B1
  go_wp2_with fail
  refine O2.out.mono ?_
  rintro e w3 ⟨rfl, U3⟩
  obtain ⟨c2, hc2⟩ : ∃ c2, c2 = ownC c1 0 2 := ⟨_, rfl⟩
  rw [← hc2] at U3
  have b2 : HB c2 := by rw [hc2]; exact b1.own 0 2
  have p1 := bump_any U3.at' b2
  rw [show bumpN c2 = 1 by rw [hc2, hc1, hc0]; kernel_rfl, show bumpE c2 = 0 by rw [hc2, hc1, hc0]; kernel_rfl] at p1
  have P1 := Lib.hid p1
  have B3 := Lib.hid (U3.below HG.out B2.out)
  clear U3 p1 O2 B2
  go_wp2_with fail
  refine P1.out.mono ?_
  rintro e w4 ⟨rfl, U4⟩
  obtain ⟨c3, hc3⟩ : ∃ c3, c3 = bumpC c2 := ⟨_, rfl⟩
  rw [← hc3] at U4
  have b3 : HB c3 := by rw [hc3]; exact b2.bump
  have B4 := Lib.hid (U4.below HG.out B3.out)
  have H4 := Lib.hid U4.at'
  clear U4 P1 B3
  go_wp2_with fail
  have B5 : Hid (Below w4.heap.size w4 (w4.alloc (.cells #[.int .i64 1] 2))) := (Below.refl _ _).alloc (Nat.le_refl _) _
  have hI5 : Ints (w4.alloc (.cells #[.int .i64 1] 2)) (w4.alloc (.cells #[.int .i64 1] 2)).heap.size (some ⟨w4.heap.size, 0, none⟩) [1] := Ints.lit11 [1] (heap_alloc_new w4 _) rfl (by simp) (by simp)
  refine (hnew_yes (L := [1]) (st := 1) (limit := 0) (by kernel_rfl) 1 hI5).mono ?_
  rintro e w6 ⟨g2, rfl, hH6, hg6, hb6⟩
  have b6 : HB (newF [1] 1 0) := HB.new (by kernel_rfl)
  have p6 := bump_any hH6 b6
  rw [show bumpN (newF [1] 1 0) = 0 by kernel_rfl, show bumpE (newF [1] 1 0) = 41 by kernel_rfl] at p6
  have P6 := Lib.hid p6
  have B6' := B5.out.trans (hb6.mono B5.out.size)
  have B6 := Lib.hid (B4.out.trans (B6'.mono B4.out.size))
  have H6 := Lib.hid (H4.out.below B6' H4.out.lt)
  have HG2 : Hid (w4.heap.size ≤ g2) := Nat.le_trans B5.out.size hg6
  have HL : Hid (g < w4.heap.size) := H4.out.lt
  have HW : Hid (w.heap.size ≤ w4.heap.size) := B4.out.size
  clear hH6 b6 p6 hb6 hg6 hI5 B6' B5 H4 B4
  go_wp2_with fail
  refine P6.out.mono ?_
  rintro e w7 ⟨rfl, U7⟩
  have H7 : HeapAt w7 g c3 := H6.out.same (U7.far g (by have := HG2.out; have := HL.out; omega))
  have B7 := Lib.hid (U7.below (by have := HG2.out; have := HW.out; omega) B6.out)
  have f7 := free_any H7 b3 0 1 1
  rw [show freeE c3 0 1 1 = 0 by rw [hc3, hc2, hc1, hc0]; kernel_rfl] at f7
  have F7 := Lib.hid f7
  clear f7 H7 U7 P6 H6 B6
  go_wp2_with fail
  refine F7.out.mono ?_
  rintro e w8 ⟨rfl, U8⟩
  have b8 : HB (freeC c3 0 1 1) := b3.free 0 1 1
  have v8 := hversion_any U8.at' b8 0
  have o8 := howner_any U8.at' b8 0
  rw [show versionF (freeC c3 0 1 1) 0 = 1 by rw [hc3, hc2, hc1, hc0]; kernel_rfl] at v8
  rw [show ownerF (freeC c3 0 1 1) 0 = -1 by rw [hc3, hc2, hc1, hc0]; kernel_rfl] at o8
  have V8 := Lib.hid v8
  have O8 := Lib.hid o8
  have B8 := Lib.hid (U8.below HG.out B7.out)
  clear v8 o8 U8 F7 B7
  go_wp2_with fail
  refine V8.out.mono ?_
  rintro e w' ⟨rfl, rfl⟩
  go_wp2_with fail
  refine O8.out.mono ?_
  rintro e w' ⟨rfl, rfl⟩
  go_wp2_with fail
  go_ret
  exact ⟨rfl, B8.out⟩
end Go.Proofs.Ytokhcogmoleocaa
