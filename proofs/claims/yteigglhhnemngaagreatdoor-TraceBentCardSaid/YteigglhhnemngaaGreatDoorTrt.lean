/-
  P15.4: THE WALK OF TraceBent, under way. Conditions: as they stand.
-/
import Derived.Test.YteigglhhnemngaaGreatDoorTrs
import Derived.Test.YteigglhhnemngaaGreatDoorFb
namespace Go.Proofs.YteigglhhnemngaaGreatDoor
set_option maxRecDepth 100000
open Go.RowKit Go.Deep
set_option linter.unusedVariables false
set_option linter.unusedSimpArgs false
theorem BRow.below {w w' : World} {g : Nat} {l : List UInt8} (h : BRow w g l) (hg : g < w.heap.size) (b : Below w.heap.size w w') : BRow w' g l := fun j hj => by
  have e := b.block g hg
  obtain ⟨h1, h2⟩ := h j hj
  refine ⟨(b.cell (p := ⟨g, j, none⟩) hg).trans h1, ?_⟩
  unfold World.frozen? at h2 ⊢
  simp only [e]
  exact h2
def DecF (s : ByteArray) (f : Int) : Prop := ∀ W, Ek W → Calls Tryz.prog 13 #[.string s] W fun r w' => (∃ T V S A n c p, r = .returned (.tuple #[.agg #[.int .i64 T, .int .i64 V, .int .i64 S, .slice A n c], .int .i64 p, .int .i64 f])) ∧ Below W.heap.size W w'
theorem decF_bad {s t : ByteArray} {place e : Nat} (he : e ≠ 0) (hu : UnwIs s t place e) : DecF s (e : Int) := fun W hW => (decode_bad s t place e he hu W).mono fun r w' h => ⟨⟨_, _, _, _, _, _, _, h.1⟩, h.2⟩
def spotB15 (y : Int) (n : Nat) : Nat := (IntKind.u64.wrap y).toNat % n
theorem u64_rng15 (y : Int) : 0 ≤ IntKind.u64.wrap y ∧ IntKind.u64.wrap y < 18446744073709551616 := by
  simp [IntKind.wrap, IntKind.bits, IntKind.signed]
  omega
theorem spot15 (y : Int) (n : Nat) (h : 0 < n) (h2 : n ≤ 1000000) : wrap64 ((IntKind.u64.wrap y).tmod (n : Int)) = (spotB15 y n : Nat) ∧ spotB15 y n < n := by
  obtain ⟨h0, h1⟩ := u64_rng15 y
  have hl : spotB15 y n < n := Nat.mod_lt _ h
  refine ⟨?_, hl⟩
  unfold spotB15 at hl ⊢
  obtain ⟨u, hu⟩ := Int.eq_ofNat_of_zero_le h0
  rw [hu] at hl ⊢
  rw [Int.tmod_eq_emod_of_nonneg (by omega)]
  simp only [Int.toNat_natCast] at hl ⊢
  rw [← Int.natCast_emod, IntWalk.wrap64_in _ ⟨by omega, by omega⟩]
theorem spot15k (y : Int) (a k : Nat) (h : k + 1 < a) (h2 : a ≤ 1000000) : wrap64 ((k : Int) + 1 + wrap64 ((IntKind.u64.wrap y).tmod ((a : Int) - ((k : Int) + 1)))) = ((k + 1 + spotB15 y (a - (k + 1)) : Nat) : Int) ∧ spotB15 y (a - (k + 1)) < a - (k + 1) := by
  obtain ⟨h3, h4⟩ := spot15 y (a - (k + 1)) (by omega) (by omega)
  refine ⟨?_, h4⟩
  rw [show (a : Int) - ((k : Int) + 1) = ((a - (k + 1) : Nat) : Int) by omega, h3, IntWalk.wrap64_in _ ⟨by omega, by omega⟩]
  omega
set_option maxHeartbeats 4000000 in
theorem bn_main (T V S : Int) (A : Option Addr) (L : List Ev) (c : Nat) (y : Int) (x : Nat) (beh : ByteArray) (hl0 : L.length ≤ 2000) (hb0 : beh.size ≤ 1000) (hx : x < 4294967296) (E : ByteArray) (n d : Nat) (hd : d + n + 4 = E.size) (hd1 : 1 ≤ d) (hEs : E.size ≤ 30000)
    (hhead : ∀ j, j < d → ∃ hs : j < E.size, (j + 1 < d → (128 : Int) ≤ ((E[j]).toNat : Int)) ∧ (j + 1 = d → ((E[j]).toNat : Int) < 128))
    (hN : ∀ W, Ek W → EvsAt W W.heap.size A L → Calls Tryz.prog 12 #[.agg #[.int .i64 T, .int .i64 V, .int .i64 S, .slice A L.length c]] W fun r w' => r = .returned (.tuple #[.string E, .int .i64 0]) ∧ Below W.heap.size W w')
    (f1 f3 : Int) (hD1 : DecF (bentS E (d + spotB15 y (E.size - d)) x) f1) (hD2 : DecF (E.extract 0 (spotB15 y E.size)) 8) (hD3 : DecF (E ++ beh) f3) (h1 : (f1 = 0 ∧ bentS E (d + spotB15 y (E.size - d)) x = E) ∨ (f1 = 9 ∧ bentS E (d + spotB15 y (E.size - d)) x ≠ E)) (h3 : (f3 = 0 ∧ beh = ⟨#[]⟩) ∨ (f3 = 10 ∧ beh ≠ ⟨#[]⟩))
    (w : World) (hek : Ek w) (he : EvsAt w w.heap.size A L) : Calls Tryz.prog 7 #[trV T V S A L.length c, .int .i64 y, .int .u32 (x : Int), .string beh] w fun r w' => r = .returned (.bool true) ∧ Below w.heap.size w w' := by
  have HW := Lib.hid (fun W (h : Ek W) => works_any W h)
  have HEK := Lib.hid hek
  have HN := Lib.hid hN
  have HE := Lib.hid he
  have HH := Lib.hid hhead
  have HD1 := Lib.hid hD1
  have HD2 := Lib.hid hD2
  have HD3 := Lib.hid hD3
  have H1 := Lib.hid h1
  have H3 := Lib.hid h3
  obtain ⟨m, hm⟩ : ∃ n, n = L.length := ⟨_, rfl⟩
  rw [← hm] at hl0 HN ⊢
  unfold trV
  obtain ⟨w1, hw1⟩ : ∃ W, w.alloc (.cells #[.int .i64 T, .int .i64 V, .int .i64 S, .slice A m c] 25) = W := ⟨_, rfl⟩
  have b1 : Below w.heap.size w w1 := by rw [← hw1]; exact (Below.refl _ _).alloc (Nat.le_refl _) _
  have R1 : Hid (w1.heap[w.heap.size]? = some (.cells #[.int .i64 T, .int .i64 V, .int .i64 S, .slice A m c] 25 (0, 0))) := by rw [← hw1]; exact heap_alloc_new w _
  have B1 := Lib.hid b1
  have HW1 := Lib.hid hw1
  clear hek hN he hm hw1 b1 hhead hD1 hD2 hD3 h1 h3
  have q1 : ¬ (2000 : Int) < (m : Int) := by omega
  have q2 : ¬ (1000 : Int) < (beh.size : Int) := by omega
  go_enter Tryz.func7, Tryz.ntmps7
  go_wp2_with fail
  rw [HW1.out]
  refine (HW.out w1 (HEK.out.below B1.out)).mono ?_
  rintro _ w2 ⟨rfl, b2⟩
  have B2 := Lib.hid (B1.out.trans (b2.mono B1.out.size))
  have R2 := Lib.hid (row_stays R1.out b2)
  have x0 := cell_of_row w2 w.heap.size 0 _ _ _ R2.out
  have x1 := cell_of_row w2 w.heap.size 1 _ _ _ R2.out
  have x2 := cell_of_row w2 w.heap.size 2 _ _ _ R2.out
  have x3 := cell_of_row w2 w.heap.size 3 _ _ _ R2.out
  simp only [List.getElem?_toArray, List.getElem?_cons_zero, List.getElem?_cons_succ] at x0 x1 x2 x3
  clear b2
  go_wp2_with fail
  refine (HN.out w2 (HEK.out.below B2.out) ((HE.out.below B2.out (Nat.le_refl _)).mono B2.out.size)).mono ?_
  rintro _ w3 ⟨rfl, b3⟩
  have B3 := Lib.hid (B2.out.trans (b3.mono B2.out.size))
  clear x0 x1 x2 x3 b3 B2 R2 B1 R1 HW1 HN q1 q2
  go_wp2_with fail
  go_loopw [11] (fun iv wr => ∃ k : Nat, k + 1 ≤ d ∧ iv = .int .i64 k ∧ wr = w3) (fun iv _ => d - (intOf iv).toNat)
  case atStart => exact ⟨0, by omega, rfl, rfl⟩
  case round =>
    obtain ⟨k, hk, rfl, rfl⟩ := hrel
    obtain ⟨hs, g1, g2⟩ := HH.out k (by omega)
    have i1 : (k : Int) < (E.size : Int) := by omega
    have hs0 : (0 : Int) ≤ (k : Int) := by omega
    by_cases hkd : k + 1 < d
    · have g3 := g1 hkd
      clear g1 g2
      go_wp2_with fail
      refine ⟨⟨k + 1, by omega, by go_num, trivial⟩, ?_⟩
      simp [intOf]
      omega
    · obtain rfl : d = k + 1 := by omega
      have g3 := g2 rfl
      have i2 : ¬ (E.size : Int) ≤ (k : Int) + 1 := by omega
      clear g1 g2 hkd HH
      have hcv := fun w s => run_bytes_of_string (P := Tryz.prog) w 9 43 5 s u_string u_bytes u_byte
      go_wp2_with fail
      clear hcv i2
      obtain ⟨sp1, sp2⟩ := spot15k y E.size k (by omega) (by omega)
      obtain ⟨r, hr⟩ : ∃ r, r = k + 1 + spotB15 y (E.size - (k + 1)) := ⟨_, rfl⟩
      rw [← hr] at sp1 HD1 H1
      have hrl : r < E.size := by omega
      rw [sp1]
      have hcap : E.size ≤ grownCap wr E.size 0 5 := grownCap_ge wr E.size 0 _
      obtain ⟨cc, hc⟩ : ∃ c, c = grownCap wr E.size 0 5 := ⟨_, rfl⟩
      rw [← hc] at hcap ⊢
      clear hc sp1 sp2 hr
      have r0 := BRow.start wr E cc 5 hcap
      have b0 : Below wr.heap.size wr (wr.alloc (.cells (bytesRow E cc) 5 ((bytesRow E cc).size, (bytesRow E cc).size + 1))).drew := by go_grown
      have z0 : wr.heap.size < (wr.alloc (.cells (bytesRow E cc) 5 ((bytesRow E cc).size, (bytesRow E cc).size + 1))).drew.heap.size := by simp
      obtain ⟨W, hW⟩ : ∃ W, W = (wr.alloc (.cells (bytesRow E cc) 5 ((bytesRow E cc).size, (bytesRow E cc).size + 1))).drew := ⟨_, rfl⟩
      rw [← hW] at r0 b0 z0 ⊢
      clear hW
      go_loopw [14] (fun i wz => ∃ j : Nat, j ≤ 4 ∧ i = .int .i64 j ∧ BRow wz wr.heap.size (bentL (bytes E) r x j) ∧ Below wr.heap.size wr wz ∧ wr.heap.size < wz.heap.size) (fun i _ => 4 - (intOf i).toNat)
      case atStart => exact ⟨0, by omega, rfl, by rw [bentL_zero]; exact r0, b0, z0⟩
      case round =>
        obtain ⟨j, hj, rfl, hr, hb, hz⟩ := hrel
        by_cases hlt : j < 4 ∧ r + j < E.size
        · obtain ⟨h1, h2⟩ := hlt
          have hl2 : r + j < (bytes E).length := by rw [bytes_length]; exact h2
          have hl3 : r + j < (bentL (bytes E) r x j).length := by rw [bentL_length]; exact hl2
          have hcell := (hr (r + j) hl3).1
          have hfz := (hr (r + j) hl3).2
          rw [bentL_at (bytes E) r x j hl2] at hcell
          have hstore := Lib.hid (bentL_step (bytes E) r x j hl2)
          obtain ⟨v, hv⟩ : ∃ v, v = (bytes E)[r + j] := ⟨_, rfl⟩
          rw [← hv] at hcell hstore
          have hv1 := v.toNat_lt
          have g1 : (0 : Int) ≤ (r : Int) + (j : Int) := by omega
          have g2 : (r : Int) + (j : Int) < (E.size : Int) := by omega
          clear hv hl2 hl3
          have HR := Lib.hid hr
          clear hr
          go_wp2_with fail
          go_region
          have hs2 := HR.out.store (r + j) (v ^^^ xb x j) _ (by rw [bentL_length, bytes_length]; exact h2) (xor_byte v x j)
          rw [hstore.out] at hs2
          go_wp2_with fail
          go_roundw
          case rel => exact ⟨j + 1, by omega, by go_num, hs2, (hb.setCell (Nat.le_refl _) _).drew, by simpa using hz⟩
          case measure => simp [intOf]; omega
        · have he := bentL_all (bytes E) r x j hj (by rw [bytes_length]; omega)
          have hrr := hr
          rw [he] at hrr
          have HC := hrr.text (P := Tryz.prog) 43 9 5 cc E.size u_bytes u_byte u_string (by rw [bentL_length, bytes_length])
          by_cases h4 : j < 4
          · have hd5 : decide ((r : Int) + (j : Int) < (E.size : Int)) = false := decide_eq_false (by omega)
            have hd6 : ¬ (r : Int) + (j : Int) < (E.size : Int) := by omega
            have BB := Lib.hid (B3.out.trans (hb.mono B3.out.size))
            have HC1 : Hid (DecF ⟨(bentL (bytes E) r x 4).toArray⟩ f1) := HD1
            obtain ⟨m2, hm2⟩ : ∃ n, n = spotB15 y E.size := ⟨_, rfl⟩
            obtain ⟨sq1, sq2⟩ := spot15 y E.size (by omega) (by omega)
            rw [← hm2] at sq1 sq2 HD2
            have SQ := Lib.hid sq1
            have m0 : (0 : Int) ≤ (m2 : Int) := by omega
            have m1 : (m2 : Int) ≤ (E.size : Int) := by omega
            clear hm2 sq1
            go_wp2_with fail
            refine (HC1.out _ (HEK.out.below BB.out)).mono ?_
            rintro _ v1 ⟨⟨T1, V1, S1, A1, n1, c1, p1, rfl⟩, b1⟩
            go_wp2_with (first
              | (rw [SQ.out])
              | fail)
            have B1' := Lib.hid (BB.out.trans (b1.mono BB.out.size))
            obtain ⟨v2, hv2⟩ : ∃ W, v1.alloc (.cells #[.int .i64 T1, .int .i64 V1, .int .i64 S1, .slice A1 n1 c1] 25) = W := ⟨_, rfl⟩
            rw [hv2]
            have b2 : Below v1.heap.size v1 v2 := by rw [← hv2]; exact (Below.refl _ _).alloc (Nat.le_refl _) _
            have C2 := Lib.hid (B1'.out.trans (b2.mono B1'.out.size))
            have D2 := Lib.hid (b1.trans (b2.mono b1.size))
            clear hv2 b2 b1
            refine (HD2.out v2 (HEK.out.below C2.out)).mono ?_
            rintro _ v3 ⟨⟨T2, V2, S2, A2, n2, c2, p2, rfl⟩, b3⟩
            have C3 := Lib.hid (C2.out.trans (b3.mono C2.out.size))
            have D3 := Lib.hid (D2.out.trans (b3.mono D2.out.size))
            clear b3
            go_wp2_with fail
            obtain ⟨v4, hv4⟩ : ∃ W, v3.alloc (.cells #[.int .i64 T2, .int .i64 V2, .int .i64 S2, .slice A2 n2 c2] 25) = W := ⟨_, rfl⟩
            rw [hv4]
            have b4 : Below v3.heap.size v3 v4 := by rw [← hv4]; exact (Below.refl _ _).alloc (Nat.le_refl _) _
            have C4 := Lib.hid (C3.out.trans (b4.mono C3.out.size))
            have D4 := Lib.hid (D3.out.trans (b4.mono D3.out.size))
            clear hv4 b4
            refine (HD3.out v4 (HEK.out.below C4.out)).mono ?_
            rintro _ v5 ⟨⟨T3, V3, S3, A3, n3, c3, p3, rfl⟩, b5⟩
            have C5 := Lib.hid (C4.out.trans (b5.mono C4.out.size))
            have D5 := Lib.hid (D4.out.trans (b5.mono D4.out.size))
            clear b5
            have D6 := D5.out.alloc D5.out.size (.cells #[.int .i64 T3, .int .i64 V3, .int .i64 S3, .slice A3 n3 c3] 25)
            have HC6 := (hrr.below hz D6).text (P := Tryz.prog) 43 9 5 cc E.size u_bytes u_byte u_string (by rw [bentL_length, bytes_length])
            have H1b : Hid ((f1 = 0 ∧ (⟨(bentL (bytes E) r x 4).toArray⟩ : ByteArray) = E) ∨ (f1 = 9 ∧ (⟨(bentL (bytes E) r x 4).toArray⟩ : ByteArray) ≠ E)) := H1
            obtain ⟨B, hB⟩ : ∃ B : ByteArray, B = ⟨(bentL (bytes E) r x 4).toArray⟩ := ⟨_, rfl⟩
            rw [← hB] at HC6 H1b
            have C6 := Lib.hid (C5.out.alloc C5.out.size (.cells #[.int .i64 T3, .int .i64 V3, .int .i64 S3, .slice A3 n3 c3] 25))
            clear hB HC hr hrr he D6
            rcases H1b.out with ⟨rfl, rfl⟩ | ⟨rfl, hne⟩ <;> rcases H3.out with ⟨rfl, hb2⟩ | ⟨rfl, hb2⟩
            · have e4 : beh.toList.isEmpty = true := by rw [toList_bytes, hb2]; rfl
              clear H1b H3 H1 hb2
              go_wp2_with fail
              go_ret
              exact ⟨rfl, C6.out⟩
            · have e4 : beh.toList.isEmpty = false := by rw [toList_bytes]; cases hq : bytes beh with
                | nil => exact absurd (bytes_inj (hq.trans rfl)) hb2
                | cons a l => rfl
              clear H1b H3 H1 hb2
              go_wp2_with fail
              go_ret
              exact ⟨rfl, C6.out⟩
            · have e4 : beh.toList.isEmpty = true := by rw [toList_bytes, hb2]; rfl
              have e1 : (B.toList == E.toList) = false := by rw [test_bytes]; exact decide_eq_false (fun h => hne (bytes_inj h))
              clear H1b H3 H1 hb2
              go_wp2_with fail
              go_ret
              exact ⟨rfl, C6.out⟩
            · have e4 : beh.toList.isEmpty = false := by rw [toList_bytes]; cases hq : bytes beh with
                | nil => exact absurd (bytes_inj (hq.trans rfl)) hb2
                | cons a l => rfl
              have e1 : (B.toList == E.toList) = false := by rw [test_bytes]; exact decide_eq_false (fun h => hne (bytes_inj h))
              clear H1b H3 H1 hb2
              go_wp2_with fail
              go_ret
              exact ⟨rfl, C6.out⟩
          · have hd5 : decide (j < 4) = false := decide_eq_false h4
            have hd6 : ¬ (j : Int) < 4 := by omega
            have BB := Lib.hid (B3.out.trans (hb.mono B3.out.size))
            have HC1 : Hid (DecF ⟨(bentL (bytes E) r x 4).toArray⟩ f1) := HD1
            obtain ⟨m2, hm2⟩ : ∃ n, n = spotB15 y E.size := ⟨_, rfl⟩
            obtain ⟨sq1, sq2⟩ := spot15 y E.size (by omega) (by omega)
            rw [← hm2] at sq1 sq2 HD2
            have SQ := Lib.hid sq1
            have m0 : (0 : Int) ≤ (m2 : Int) := by omega
            have m1 : (m2 : Int) ≤ (E.size : Int) := by omega
            clear hm2 sq1
            go_wp2_with fail
            refine (HC1.out _ (HEK.out.below BB.out)).mono ?_
            rintro _ v1 ⟨⟨T1, V1, S1, A1, n1, c1, p1, rfl⟩, b1⟩
            go_wp2_with (first
              | (rw [SQ.out])
              | fail)
            have B1' := Lib.hid (BB.out.trans (b1.mono BB.out.size))
            obtain ⟨v2, hv2⟩ : ∃ W, v1.alloc (.cells #[.int .i64 T1, .int .i64 V1, .int .i64 S1, .slice A1 n1 c1] 25) = W := ⟨_, rfl⟩
            rw [hv2]
            have b2 : Below v1.heap.size v1 v2 := by rw [← hv2]; exact (Below.refl _ _).alloc (Nat.le_refl _) _
            have C2 := Lib.hid (B1'.out.trans (b2.mono B1'.out.size))
            have D2 := Lib.hid (b1.trans (b2.mono b1.size))
            clear hv2 b2 b1
            refine (HD2.out v2 (HEK.out.below C2.out)).mono ?_
            rintro _ v3 ⟨⟨T2, V2, S2, A2, n2, c2, p2, rfl⟩, b3⟩
            have C3 := Lib.hid (C2.out.trans (b3.mono C2.out.size))
            have D3 := Lib.hid (D2.out.trans (b3.mono D2.out.size))
            clear b3
            go_wp2_with fail
            obtain ⟨v4, hv4⟩ : ∃ W, v3.alloc (.cells #[.int .i64 T2, .int .i64 V2, .int .i64 S2, .slice A2 n2 c2] 25) = W := ⟨_, rfl⟩
            rw [hv4]
            have b4 : Below v3.heap.size v3 v4 := by rw [← hv4]; exact (Below.refl _ _).alloc (Nat.le_refl _) _
            have C4 := Lib.hid (C3.out.trans (b4.mono C3.out.size))
            have D4 := Lib.hid (D3.out.trans (b4.mono D3.out.size))
            clear hv4 b4
            refine (HD3.out v4 (HEK.out.below C4.out)).mono ?_
            rintro _ v5 ⟨⟨T3, V3, S3, A3, n3, c3, p3, rfl⟩, b5⟩
            have C5 := Lib.hid (C4.out.trans (b5.mono C4.out.size))
            have D5 := Lib.hid (D4.out.trans (b5.mono D4.out.size))
            clear b5
            have D6 := D5.out.alloc D5.out.size (.cells #[.int .i64 T3, .int .i64 V3, .int .i64 S3, .slice A3 n3 c3] 25)
            have HC6 := (hrr.below hz D6).text (P := Tryz.prog) 43 9 5 cc E.size u_bytes u_byte u_string (by rw [bentL_length, bytes_length])
            have H1b : Hid ((f1 = 0 ∧ (⟨(bentL (bytes E) r x 4).toArray⟩ : ByteArray) = E) ∨ (f1 = 9 ∧ (⟨(bentL (bytes E) r x 4).toArray⟩ : ByteArray) ≠ E)) := H1
            obtain ⟨B, hB⟩ : ∃ B : ByteArray, B = ⟨(bentL (bytes E) r x 4).toArray⟩ := ⟨_, rfl⟩
            rw [← hB] at HC6 H1b
            have C6 := Lib.hid (C5.out.alloc C5.out.size (.cells #[.int .i64 T3, .int .i64 V3, .int .i64 S3, .slice A3 n3 c3] 25))
            clear hB HC hr hrr he D6
            rcases H1b.out with ⟨rfl, rfl⟩ | ⟨rfl, hne⟩ <;> rcases H3.out with ⟨rfl, hb2⟩ | ⟨rfl, hb2⟩
            · have e4 : beh.toList.isEmpty = true := by rw [toList_bytes, hb2]; rfl
              clear H1b H3 H1 hb2
              go_wp2_with fail
              go_ret
              exact ⟨rfl, C6.out⟩
            · have e4 : beh.toList.isEmpty = false := by rw [toList_bytes]; cases hq : bytes beh with
                | nil => exact absurd (bytes_inj (hq.trans rfl)) hb2
                | cons a l => rfl
              clear H1b H3 H1 hb2
              go_wp2_with fail
              go_ret
              exact ⟨rfl, C6.out⟩
            · have e4 : beh.toList.isEmpty = true := by rw [toList_bytes, hb2]; rfl
              have e1 : (B.toList == E.toList) = false := by rw [test_bytes]; exact decide_eq_false (fun h => hne (bytes_inj h))
              clear H1b H3 H1 hb2
              go_wp2_with fail
              go_ret
              exact ⟨rfl, C6.out⟩
            · have e4 : beh.toList.isEmpty = false := by rw [toList_bytes]; cases hq : bytes beh with
                | nil => exact absurd (bytes_inj (hq.trans rfl)) hb2
                | cons a l => rfl
              have e1 : (B.toList == E.toList) = false := by rw [test_bytes]; exact decide_eq_false (fun h => hne (bytes_inj h))
              clear H1b H3 H1 hb2
              go_wp2_with fail
              go_ret
              exact ⟨rfl, C6.out⟩
theorem bn_long (T V S : Int) (A : Option Addr) (L : List Ev) (c : Nat) (y x : Int) (beh : ByteArray) (hl0 : L.length ≤ 9223372036854775807) (hs0 : beh.size ≤ 9223372036854775807) (h : 2000 < L.length ∨ 1000 < beh.size) (w : World) (hek : Ek w) : Calls Tryz.prog 7 #[trV T V S A L.length c, .int .i64 y, .int .u32 x, .string beh] w fun r w' => r = .returned (.bool true) ∧ Below w.heap.size w w' := by
  have HW := Lib.hid (fun W (h : Ek W) => works_any W h)
  have HEK := Lib.hid hek
  obtain ⟨w1, hw1⟩ : ∃ W, w.alloc (.cells #[.int .i64 T, .int .i64 V, .int .i64 S, .slice A L.length c] 25) = W := ⟨_, rfl⟩
  have b1 : Below w.heap.size w w1 := by rw [← hw1]; exact (Below.refl _ _).alloc (Nat.le_refl _) _
  have R1 : Hid (w1.heap[w.heap.size]? = some (.cells #[.int .i64 T, .int .i64 V, .int .i64 S, .slice A L.length c] 25 (0, 0))) := by rw [← hw1]; exact heap_alloc_new w _
  have B1 := Lib.hid b1
  have HW1 := Lib.hid hw1
  obtain ⟨n, hn⟩ : ∃ n, n = L.length := ⟨_, rfl⟩
  rw [← hn] at hl0 h HW1 R1 ⊢
  unfold trV
  clear hek hw1 b1 hn
  by_cases hq : 2000 < n
  · have q1 : (2000 : Int) < (n : Int) := by omega
    clear h hq
    go_enter Tryz.func7, Tryz.ntmps7
    go_wp2_with fail
    rw [HW1.out]
    refine (HW.out w1 (HEK.out.below B1.out)).mono ?_
    rintro _ w2 ⟨rfl, b2⟩
    have x3 := cell_of_row w2 w.heap.size 3 _ _ _ (row_stays R1.out b2)
    simp only [List.getElem?_toArray, List.getElem?_cons_zero, List.getElem?_cons_succ] at x3
    have B2 := Lib.hid (B1.out.trans (b2.mono B1.out.size))
    clear b2
    go_wp2_with fail
    refine (HW.out w2 (HEK.out.below B2.out)).mono ?_
    rintro _ w3 ⟨rfl, b3⟩
    clear x3
    go_wp2_with fail
    go_ret
    exact ⟨rfl, B2.out.trans (b3.mono B2.out.size)⟩
  · have q1 : ¬ (2000 : Int) < (n : Int) := by omega
    have q2 : (1000 : Int) < (beh.size : Int) := by omega
    clear h hq
    go_enter Tryz.func7, Tryz.ntmps7
    go_wp2_with fail
    rw [HW1.out]
    refine (HW.out w1 (HEK.out.below B1.out)).mono ?_
    rintro _ w2 ⟨rfl, b2⟩
    have x3 := cell_of_row w2 w.heap.size 3 _ _ _ (row_stays R1.out b2)
    simp only [List.getElem?_toArray, List.getElem?_cons_zero, List.getElem?_cons_succ] at x3
    have B2 := Lib.hid (B1.out.trans (b2.mono B1.out.size))
    clear b2
    go_wp2_with fail
    refine (HW.out w2 (HEK.out.below B2.out)).mono ?_
    rintro _ w3 ⟨rfl, b3⟩
    clear x3
    go_wp2_with fail
    go_ret
    exact ⟨rfl, B2.out.trans (b3.mono B2.out.size)⟩
theorem bn_none (T V S : Int) (A : Option Addr) (L : List Ev) (c : Nat) (y x : Int) (beh : ByteArray) (hT : i64P T) (hV : i64P V) (hS : i64P S) (hl0 : L.length ≤ 2000) (hs0 : beh.size ≤ 1000) (hck : (checkF T V S L).2 ≠ 0) (w : World) (hek : Ek w) (he : EvsAt w w.heap.size A L) : Calls Tryz.prog 7 #[trV T V S A L.length c, .int .i64 y, .int .u32 x, .string beh] w fun r w' => r = .returned (.bool true) ∧ Below w.heap.size w w' := by
  obtain ⟨e, hee⟩ : ∃ e, e = (checkF T V S L).2 := ⟨_, rfl⟩
  obtain ⟨E, hE⟩ : ∃ E, E = encW T V S L := ⟨_, rfl⟩
  have HN : Hid (∀ W, Ek W → EvsAt W W.heap.size A L → Calls Tryz.prog 12 #[.agg #[.int .i64 T, .int .i64 V, .int .i64 S, .slice A L.length c]] W fun r w' => r = .returned (.tuple #[.string E, .int .i64 e]) ∧ Below W.heap.size W w') := fun W hW h => by
    rw [hE, hee]
    exact encode_any W hW T V S A L c hT hV hS (by omega) h
  rw [← hee] at hck
  have q2 : (e != 0) = true := bne_iff_ne.2 hck
  have HE := Lib.hid he
  clear hee hE hT hV hS he
  have HW := Lib.hid (fun W (h : Ek W) => works_any W h)
  have HEK := Lib.hid hek
  obtain ⟨w1, hw1⟩ : ∃ W, w.alloc (.cells #[.int .i64 T, .int .i64 V, .int .i64 S, .slice A L.length c] 25) = W := ⟨_, rfl⟩
  have b1 : Below w.heap.size w w1 := by rw [← hw1]; exact (Below.refl _ _).alloc (Nat.le_refl _) _
  have R1 : Hid (w1.heap[w.heap.size]? = some (.cells #[.int .i64 T, .int .i64 V, .int .i64 S, .slice A L.length c] 25 (0, 0))) := by rw [← hw1]; exact heap_alloc_new w _
  have B1 := Lib.hid b1
  have HW1 := Lib.hid hw1
  obtain ⟨n, hn⟩ : ∃ n, n = L.length := ⟨_, rfl⟩
  rw [← hn] at hl0 HN HW1 R1 ⊢
  unfold trV
  clear hek hw1 b1 hn
  have q1 : ¬ (2000 : Int) < (n : Int) := by omega
  have q3 : ¬ (1000 : Int) < (beh.size : Int) := by omega
  go_enter Tryz.func7, Tryz.ntmps7
  go_wp2_with fail
  rw [HW1.out]
  refine (HW.out w1 (HEK.out.below B1.out)).mono ?_
  rintro _ w2 ⟨rfl, b2⟩
  have x0 := cell_of_row w2 w.heap.size 0 _ _ _ (row_stays R1.out b2)
  have x1 := cell_of_row w2 w.heap.size 1 _ _ _ (row_stays R1.out b2)
  have x2 := cell_of_row w2 w.heap.size 2 _ _ _ (row_stays R1.out b2)
  have x3 := cell_of_row w2 w.heap.size 3 _ _ _ (row_stays R1.out b2)
  simp only [List.getElem?_toArray, List.getElem?_cons_zero, List.getElem?_cons_succ] at x0 x1 x2 x3
  have B2 := Lib.hid (B1.out.trans (b2.mono B1.out.size))
  clear b2
  go_wp2_with fail
  refine (HN.out w2 (HEK.out.below B2.out) ((HE.out.below B2.out (Nat.le_refl _)).mono B2.out.size)).mono ?_
  rintro _ w3 ⟨rfl, b3⟩
  clear x0 x1 x2 x3
  go_wp2_with fail
  go_ret
  exact ⟨rfl, B2.out.trans (b3.mono B2.out.size)⟩
end Go.Proofs.YteigglhhnemngaaGreatDoor
