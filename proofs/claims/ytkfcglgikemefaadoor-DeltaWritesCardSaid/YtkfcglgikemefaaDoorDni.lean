/-
  FOR DeltaWrites (layer 14): the walk. Laid by gen/gen_dni.py. Conditions: the tables of names lie, the program's and the document's.
-/
import Derived.Test.YtkfcglgikemefaaDoorDnh
import Derived.Test.YtkfcglgikemefaaDoorYa
namespace Go.Proofs.YtkfcglgikemefaaDoor
set_option maxRecDepth 100000
open Go.RowKit Go.Deep
set_option linter.unusedVariables false
set_option linter.unusedSimpArgs false
/-- Both coders and both writers, alike. -/
structure W14 (w0 : World) (gc gv gd gw B : Nat) (most : Int) (q : Cd) (l : List UInt8) (w : World) : Prop where
  bel : Below w0.heap.size w0 w
  b : B ≤ w.heap.size
  cod : CodAt w gc q
  wr : Wr w B gv most l
  rcod : RCod w gd q
  rwr : RWr w gw most l
  ok : CdOk q
  n1 : w0.heap.size ≤ gc
  n2 : w0.heap.size ≤ gv
  n3 : w0.heap.size ≤ B
  n4 : w0.heap.size ≤ gd
  n5 : w0.heap.size ≤ gw
theorem W14.below {w0 w w' : World} {gc gv gd gw B : Nat} {most : Int} {q : Cd} {l : List UInt8} (h : W14 w0 gc gv gd gw B most q l w) (b : Below w.heap.size w w') : W14 w0 gc gv gd gw B most q l w' :=
  ⟨h.bel.trans (b.mono h.bel.size), Nat.le_trans h.b b.size, h.cod.below b, h.wr.below b (Nat.le_refl _), h.rcod.below b, rwr_more h.rwr b, h.ok, h.n1, h.n2, h.n3, h.n4, h.n5⟩
theorem W14.start {w0 w : World} {gc gv gd gw B gx gy : Nat} {most : Int} {q : Cd} {l : List UInt8} (h : W14 w0 gc gv gd gw B most q l w) (cx : CodAt w gx q) (ry : RCod w gy q) (e : Ev) : J15 w0 gc gv gd gw gx gy B most q l e (fun _ => false) w :=
  ⟨h.bel, h.b, h.cod, h.wr, h.rcod, h.rwr, cx, ry⟩
theorem J15.keep {w0 w w' : World} {gc gv gd gw B gx gy : Nat} {most : Int} {q : Cd} {l : List UInt8} {e : Ev} {don : Nat → Bool} (h : J15 w0 gc gv gd gw gx gy B most q l e don w) (b : Below w.heap.size w w') : J15 w0 gc gv gd gw gx gy B most q l e don w' :=
  ⟨h.bel.trans (b.mono h.bel.size), Nat.le_trans h.b b.size, h.cod.below b, h.wr.below b (Nat.le_refl _), h.rcod.below b, rwr_more h.rwr b, h.cx.below b, h.ry.below b⟩
set_option maxHeartbeats 4000000 in
theorem writes_walk (w : World) (hek : Ek w) (her : Er w) (T V S most : Int) (hT : -9223372036854775808 ≤ T ∧ T ≤ 9223372036854775807) (hV : -9223372036854775808 ≤ V ∧ V ≤ 9223372036854775807) (hS : -9223372036854775808 ≤ S ∧ S ≤ 9223372036854775807) (hm : -9223372036854775808 ≤ most ∧ most ≤ 9223372036854775807) (A : Option Addr) (L : List Ev) (c : Nat) (hl : L.length ≤ 9223372036854775807) (he : EvsAt w w.heap.size A L) :
    Calls Tryd.prog 4 #[.int .i64 T, .int .i64 V, .int .i64 S, .int .i64 most, .slice A L.length c] w fun r w' => r = .returned (.bool true) ∧ Below w.heap.size w w' := by
  have HAW := Lib.hid (fun w' (hb : Below w.heap.size w w') => awake_any14 w' (hek.below hb))
  have HE := Lib.hid he
  have HEK := Lib.hid hek
  have HER := Lib.hid her
  obtain ⟨N, hN⟩ : ∃ N, N = L.length := ⟨_, rfl⟩
  have HNL := Lib.hid hN
  rw [← hN] at hl ⊢
  clear hN he hek her
  by_cases hlt : 400 < (N : Int)
  · go_enter Tryd.func4, Tryd.ntmps4
    go_wp2_with fail
    refine (HAW.out w (Below.refl _ _)).mono ?_
    rintro _ w1 ⟨rfl, b1⟩
    go_wp2_with fail
    go_ret
    exact ⟨rfl, b1⟩
  have hlt : (N : Int) ≤ 400 := by omega
  have hsz : sizeD T V S = true ∨ sizeD T V S = false := by cases sizeD T V S <;> simp
  have hmo : (0 ≤ most ∧ most ≤ 16777216) ∨ (most < 0 ∨ 16777216 < most) := by omega
  rcases hsz with hz | hz <;> rcases hmo with hw | hw
  rotate_left
  · have HN := Lib.hid (fun W => new_yesD T V S hz W)
    have HR := Lib.hid (fun W => rnew_yes T V S hz W)
    have HW := Lib.hid (fun W => new_writer_bad most hw W)
    have HV := Lib.hid (fun W => ref_writer_bad most hw W)
    clear hz hw HE HEK HER HNL hT hV hS hm
    go_enter Tryd.func4, Tryd.ntmps4
    go_wp2_with fail
    have B0 : Hid (Below w.heap.size w w) := Below.refl _ _
    refine (HN.out w).mono ?_
    rintro _ w1 ⟨rfl, h1⟩
    have B1 : Hid (Below w.heap.size w w1) := by show Below _ _ _; rw [h1]; exact B0.out.alloc B0.out.size _
    clear h1
    go_wp2_with fail
    refine (HR.out w1).mono ?_
    rintro _ w2 ⟨rfl, h2⟩
    have B2 : Hid (Below w.heap.size w w2) := by show Below _ _ _; rw [h2]; exact B1.out.alloc B1.out.size _
    clear h2
    go_wp2_with fail
    refine (HW.out w2).mono ?_
    rintro _ wz ⟨rfl, rfl⟩
    go_wp2_with fail
    refine (HV.out w2).mono ?_
    rintro _ wz ⟨rfl, rfl⟩
    go_wp2_with fail
    refine (HAW.out w2 B2.out).mono ?_
    rintro _ w9 ⟨rfl, b9⟩
    go_wp2_with fail
    go_ret
    exact ⟨rfl, B2.out.trans (b9.mono B2.out.size)⟩
  · have HN := Lib.hid (fun W => new_noD T V S hz W)
    have HR := Lib.hid (fun W => rnew_no T V S hz W)
    have HW := Lib.hid (fun W => new_writer most hw.1 hw.2 W)
    have HV := Lib.hid (fun W => ref_writer most hw.1 hw.2 W)
    clear hz hw HE HEK HER HNL hT hV hS hm
    go_enter Tryd.func4, Tryd.ntmps4
    go_wp2_with fail
    have B0 : Hid (Below w.heap.size w w) := Below.refl _ _
    refine (HN.out w).mono ?_
    rintro _ wz ⟨rfl, rfl⟩
    go_wp2_with fail
    refine (HR.out w).mono ?_
    rintro _ wz ⟨rfl, rfl⟩
    go_wp2_with fail
    refine (HW.out w).mono ?_
    rintro _ w1 ⟨rfl, h1⟩
    have B1 : Hid (Below w.heap.size w w1) := by show Below _ _ _; rw [h1]; exact B0.out.alloc B0.out.size _
    clear h1
    go_wp2_with fail
    refine (HV.out w1).mono ?_
    rintro _ w2 ⟨rfl, h2⟩
    have B2 : Hid (Below w.heap.size w w2) := by show Below _ _ _; rw [h2]; exact B1.out.alloc B1.out.size _
    clear h2
    go_wp2_with fail
    refine (HAW.out w2 B2.out).mono ?_
    rintro _ w9 ⟨rfl, b9⟩
    go_wp2_with fail
    go_ret
    exact ⟨rfl, B2.out.trans (b9.mono B2.out.size)⟩
  · have HN := Lib.hid (fun W => new_noD T V S hz W)
    have HR := Lib.hid (fun W => rnew_no T V S hz W)
    have HW := Lib.hid (fun W => new_writer_bad most hw W)
    have HV := Lib.hid (fun W => ref_writer_bad most hw W)
    clear hz hw HE HEK HER HNL hT hV hS hm
    go_enter Tryd.func4, Tryd.ntmps4
    go_wp2_with fail
    have B0 : Hid (Below w.heap.size w w) := Below.refl _ _
    refine (HN.out w).mono ?_
    rintro _ wz ⟨rfl, rfl⟩
    go_wp2_with fail
    refine (HR.out w).mono ?_
    rintro _ wz ⟨rfl, rfl⟩
    go_wp2_with fail
    refine (HW.out w).mono ?_
    rintro _ wz ⟨rfl, rfl⟩
    go_wp2_with fail
    refine (HV.out w).mono ?_
    rintro _ wz ⟨rfl, rfl⟩
    go_wp2_with fail
    refine (HAW.out w B0.out).mono ?_
    rintro _ w9 ⟨rfl, b9⟩
    go_wp2_with fail
    go_ret
    exact ⟨rfl, B0.out.trans (b9.mono B0.out.size)⟩
  have hq0 := newQ_ok hz
  have HN := Lib.hid (fun W => new_yesD T V S hz W)
  have HR := Lib.hid (fun W => rnew_yes T V S hz W)
  have HW := Lib.hid (fun W => new_writer most hw.1 hw.2 W)
  have HV := Lib.hid (fun W => ref_writer most hw.1 hw.2 W)
  have HQ0 := Lib.hid hq0
  have HMO := Lib.hid hw
  clear hz hq0 hw hT hV hS hm
  go_enter Tryd.func4, Tryd.ntmps4
  go_wp2_with fail
  refine (HN.out w).mono ?_
  rintro _ w1 ⟨rfl, h1⟩
  have b1 : Below w.heap.size w w1 := by rw [h1]; exact (Below.refl _ _).alloc (Nat.le_refl _) _
  have c1 : CodAt w1 w.heap.size (newQ T V S) := by rw [h1]; exact heap_alloc_new w _
  obtain ⟨gc, hgc⟩ : ∃ g, g = w.heap.size := ⟨_, rfl⟩
  have N1 : Hid (w.heap.size ≤ gc) := by show _ ≤ _; omega
  rw [← hgc] at c1 ⊢
  have C1 := Lib.hid c1
  have B1 := Lib.hid b1
  clear h1 b1 c1 hgc
  go_wp2_with fail
  refine (HR.out w1).mono ?_
  rintro _ w2 ⟨rfl, h2⟩
  have b2 : Below w1.heap.size w1 w2 := by rw [h2]; exact (Below.refl _ _).alloc (Nat.le_refl _) _
  have r2 : RCod w2 w1.heap.size (newQ T V S) := by rw [h2]; exact heap_alloc_new w1 _
  obtain ⟨gd, hgd⟩ : ∃ g, g = w1.heap.size := ⟨_, rfl⟩
  have N4 : Hid (w.heap.size ≤ gd) := by show _ ≤ _; rw [hgd]; exact B1.out.size
  rw [← hgd] at r2 ⊢
  have R2 := Lib.hid r2
  have C2 := Lib.hid (C1.out.below b2)
  have B2 := Lib.hid (B1.out.trans (b2.mono B1.out.size))
  clear h2 b2 r2 hgd C1
  go_wp2_with fail
  refine (HW.out w2).mono ?_
  rintro _ w3 ⟨rfl, h3⟩
  have b3 : Below w2.heap.size w2 w3 := by rw [h3]; exact (Below.refl _ _).alloc (Nat.le_refl _) _
  have wr3 : Wr w3 (w2.heap.size + 1) w2.heap.size most [] := by rw [h3]; exact wr_new most HMO.out.1 HMO.out.2 w2
  have z3 : w2.heap.size + 1 ≤ w3.heap.size := by rw [h3]; simp
  obtain ⟨gv, hgv⟩ : ∃ g, g = w2.heap.size := ⟨_, rfl⟩
  have N2 : Hid (w.heap.size ≤ gv) := by show _ ≤ _; rw [hgv]; exact B2.out.size
  rw [← hgv] at wr3 z3 ⊢
  have W3 := Lib.hid wr3
  have Z3 := Lib.hid z3
  have C3 := Lib.hid (C2.out.below b3)
  have R3 := Lib.hid (R2.out.below b3)
  have B3 := Lib.hid (B2.out.trans (b3.mono B2.out.size))
  clear h3 b3 wr3 z3 hgv C2 R2
  go_wp2_with fail
  refine (HV.out w3).mono ?_
  rintro _ w4 ⟨rfl, h4⟩
  have b4 : Below w3.heap.size w3 w4 := by rw [h4]; exact (Below.refl _ _).alloc (Nat.le_refl _) _
  have v4 : RWr w4 w3.heap.size most [] := by rw [h4]; exact ⟨heap_alloc_new w3 _, HMO.out.1, HMO.out.2, HMO.out.1⟩
  obtain ⟨gw, hgw⟩ : ∃ g, g = w3.heap.size := ⟨_, rfl⟩
  rw [← hgw] at v4 ⊢
  have W4 : Hid (W14 w gc gv gd gw (gv + 1) most (newQ T V S) [] w4) := ⟨B3.out.trans (b4.mono B3.out.size), Nat.le_trans Z3.out b4.size, C3.out.below b4, W3.out.below b4 (Nat.le_refl _), R3.out.below b4, v4, HQ0.out, N1.out, N2.out, Nat.le_succ_of_le N2.out, N4.out, by rw [hgw]; exact B3.out.size⟩
  clear h4 b4 v4 hgw C3 R3 W3 Z3 B3 B2 B1 N1 N2 N4 HN HR HW HV
  go_wp2_with fail
  go_loopw [11, 13, 19] (fun av bv iv wy => ∃ (k g1 g2 : Nat) (q : Cd) (l : List UInt8), k ≤ N ∧ av = .pointer (some ⟨g1, 0, none⟩) ∧ bv = .pointer (some ⟨g2, 0, none⟩) ∧ iv = .int .i64 k ∧ Hid (q.T = T ∧ q.V = V ∧ q.S = S) ∧ Hid (W14 w g1 gv g2 gw (gv + 1) most q l wy)) (fun _ _ iv _ => N - (intOf iv).toNat)
  case atStart => exact ⟨0, gc, gd, _, _, by omega, rfl, rfl, rfl, ⟨rfl, rfl, rfl⟩, W4⟩
  case round =>
    obtain ⟨k, g1, g2, q, l, hk, rfl, rfl, rfl, hsz, hA⟩ := hrel
    by_cases hkk : k < N
    · obtain ⟨a0, rfl, ha0, hev⟩ := HE.out k (by rw [← HNL.out]; exact hkk)
      have HA0 : Hid (a0.block < w.heap.size) := ha0
      have HEV := Lib.hid hev
      have HOK := Lib.hid hev.ok
      generalize nthE L k = e at *
      have i1 : (k : Int) < (N : Int) := by omega
      have hC := copy_anyD q g1 _ hA.out.cod
      have HC := Lib.hid hC
      clear hev ha0 hC
      go_wp2_with fail
      refine HC.out.mono ?_
      rintro _ w5 ⟨rfl, h5⟩
      have b5 : Below wr.heap.size wr w5 := by rw [h5]; exact (Below.refl _ _).alloc (Nat.le_refl _) _
      have c5 : CodAt w5 wr.heap.size q := by rw [h5]; exact heap_alloc_new wr _
      have hne : g1 < wr.heap.size := hA.out.cod.lt
      have hn5 : w.heap.size ≤ wr.heap.size := hA.out.bel.size
      obtain ⟨gx, hgx⟩ : ∃ g, g = wr.heap.size := ⟨_, rfl⟩
      rw [← hgx] at c5 ⊢
      have NX : Hid (gx ≠ g1 ∧ w.heap.size ≤ gx) := ⟨by omega, by omega⟩
      have A5 := Lib.hid (hA.out.below b5)
      have X5 := Lib.hid c5
      have HR := Lib.hid (rcopy_any q g2 w5 A5.out.rcod)
      clear h5 b5 c5 hne hn5 hgx HC
      go_wp2_with fail
      refine HR.out.mono ?_
      rintro _ w6 ⟨rfl, h6⟩
      have b6 : Below w5.heap.size w5 w6 := by rw [h6]; exact (Below.refl _ _).alloc (Nat.le_refl _) _
      have c6 : RCod w6 w5.heap.size q := by rw [h6]; exact heap_alloc_new w5 _
      have hne : g2 < w5.heap.size := A5.out.rcod.lt
      have hn5 : w.heap.size ≤ w5.heap.size := A5.out.bel.size
      obtain ⟨gy, hgy⟩ : ∃ g, g = w5.heap.size := ⟨_, rfl⟩
      rw [← hgy] at c6 ⊢
      have NY : Hid (gy ≠ g2 ∧ w.heap.size ≤ gy) := ⟨by omega, by omega⟩
      have A6 := Lib.hid (A5.out.below b6)
      have hJ := A6.out.start (X5.out.below b6) c6 e
      have HJ := Lib.hid (hJ.keep ((Below.refl w6.heap.size w6).drew))
      have HM : Hid (∀ w2, Below w.heap.size w w2 → Calls Tryd.prog 48 #[evV e, .int .i64 q.T, .int .i64 q.V, .int .i64 q.S] w2 fun r w' => r = .returned (.bool (mayB e q.T q.V q.S)) ∧ Below w2.heap.size w2 w') := fun w2 h2 => rmay_any e HOK.out q.T q.V q.S w2 (HER.out.below h2)
      clear h6 b6 c6 hne hn5 hgy hJ HR A5 X5
      go_wp2_with fail
      refine rgW15 rfl _ (by simp) w w6 HEK.out g1 gv g2 gw gx gy (gv + 1) most q A6.out.ok l e HOK.out HJ.out HM.out a0 N c k hkk HEV.out HA0.out NX.out.1 NY.out.1 A6.out.n1 A6.out.n2 A6.out.n3 A6.out.n4 A6.out.n5 rfl rfl rfl rfl rfl rfl ?_
      intro w7 j7
      simp only [rgW15_ds, rgW15_vs, putAll, List.setIfInBounds_toArray, List.set_cons_succ, List.set_cons_zero]
      have J7 : Hid (W14 w g1 gv g2 gw (gv + 1) most (wrQ q most l e) (wrL q most l e) w7 ∧ W14 w gx gv gy gw (gv + 1) most q (wrL q most l e) w7) := by
        have r1 : CodAt w7 g1 (wrQ q most l e) := j7.cod
        have r2 : Wr w7 (gv + 1) gv most (wrL q most l e) := j7.wr
        have r3 : RCod w7 g2 (wrQ q most l e) := j7.rcod
        have r4 : RWr w7 gw most (wrL q most l e) := j7.rwr
        exact ⟨⟨j7.bel, j7.b, r1, r2, r3, r4, wrQ_ok A6.out.ok HOK.out, A6.out.n1, A6.out.n2, A6.out.n3, A6.out.n4, A6.out.n5⟩, ⟨j7.bel, j7.b, j7.cx, r2, j7.ry, r4, A6.out.ok, NX.out.2, A6.out.n2, A6.out.n3, NY.out.2, A6.out.n5⟩⟩
      have HS2 : Hid ((wrQ q most l e).T = T ∧ (wrQ q most l e).V = V ∧ (wrQ q most l e).S = S) := by
        have := hsz.out
        show _ ∧ _
        unfold wrQ
        split <;> exact this
      clear j7 HJ HM NX NY
      have h0 : (0 : Int) ≤ (k : Int) := by omega
      have ht : ((k : Int).tmod 7) = (k : Int) % 7 := Int.tmod_eq_emod_of_nonneg h0
      by_cases h7 : (k : Int) % 7 = 6
      · have q7 : ((k : Int) % 7 == 6) = true := by rw [h7]; rfl
        clear ht h7
        go_wp2_with fail
        refine ⟨?_, ?measure⟩
        · exact ⟨k + 1, gx, gy, _, _, by omega, rfl, rfl, by go_num, hsz, J7.out.2⟩
        case measure => simp [intOf]; omega
      · have q7 : ((k : Int) % 7 == 6) = false := beq_eq_false_iff_ne.2 h7
        clear ht h7
        go_wp2_with fail
        refine ⟨?_, ?measure⟩
        · exact ⟨k + 1, g1, g2, _, _, by omega, rfl, rfl, by go_num, HS2, J7.out.1⟩
        case measure => simp [intOf]; omega
    · obtain rfl : k = N := by omega
      go_wp2_with fail
      refine (HAW.out _ hA.out.bel).mono ?_
      rintro _ w9 ⟨rfl, b9⟩
      go_wp2_with fail
      go_ret
      exact ⟨rfl, hA.out.bel.trans (b9.mono hA.out.bel.size)⟩
end Go.Proofs.YtkfcglgikemefaaDoor
