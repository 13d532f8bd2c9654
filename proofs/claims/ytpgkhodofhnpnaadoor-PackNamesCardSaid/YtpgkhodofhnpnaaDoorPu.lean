/-
  LAYER 7's WRITER: a setup (setup). Conditions: as XPr's; a setup whose numbers may be.
-/
import Derived.Test.YtpgkhodofhnpnaaDoorPt
import Derived.Test.YtpgkhodofhnpnaaDoorUm
namespace Go.Proofs.YtpgkhodofhnpnaaDoor
set_option maxRecDepth 100000
open Go.RowKit
set_option linter.unusedVariables false
theorem Ints.wf {w w' : World} {hi B g : Nat} {A : Option Addr} {xs : List Int} (h : Ints w hi A xs) (f : Wf B g w w') (hB : hi ≤ B) (hg : hi ≤ g) (hw : B ≤ w.heap.size) : Ints w' hi A xs :=
  ⟨h.len, fun k hk => by
    obtain ⟨a, rfl, b1, c⟩ := h.cell k hk
    exact ⟨a, rfl, b1, (World.cell?_of_block (f.fr.block (a.add k).block (by rw [ad_block]; omega) (by rw [ad_block]; omega) (by rw [ad_block]; omega))).trans c⟩⟩
/-- Txs.wf -/
theorem cell_wf {w w' : World} {hi B g : Nat} {p : Addr} {v : Value} (h : w.cell? p = some v) (f : Wf B g w w') (hp : p.block < hi) (hB : hi ≤ B) (hg : hi ≤ g) (hw : B ≤ w.heap.size) : w'.cell? p = some v :=
  (World.cell?_of_block (f.fr.block p.block (by omega) (by omega) (by omega))).trans h
def wuB (w : World) (g : Nat) (st cl tr : Int) (iv tv : Value) : World := (wrB w g).alloc (.cells #[.int .i64 st, .int .i64 cl, .int .i64 tr, iv, tv] 29)
theorem wuB_below (w : World) (g : Nat) (st cl tr : Int) (iv tv : Value) : Below w.heap.size w (wuB w g st cl tr iv tv) := (wrB_below w g).alloc (by simp [wrB]) _
/-- The boxes of a call that writes a setup. -/
structure WU (w : World) (B g : Nat) (st cl tr : Int) (iv tv : Value) (W : World) : Prop where
  bw : Obj W w.heap.size 49 #[.pointer (some ⟨g, 0, none⟩)]
  bs : Obj W (w.heap.size + 1) 29 #[.int .i64 st, .int .i64 cl, .int .i64 tr, iv, tv]
  wf : Wf B g w W
theorem WU.start (w : World) {B g : Nat} (st cl tr : Int) (iv tv : Value) : WU w B g st cl tr iv tv (wuB w g st cl tr iv tv) := by
  have h1 : (wrB w g).heap.size = w.heap.size + 1 := by simp [wrB]
  refine ⟨(Obj.made w _ _).same (heap_alloc_old _ _ (by omega)), ?_, Wf.of_below (wuB_below w g st cl tr iv tv)⟩
  have := Obj.made (wrB w g) 29 #[.int .i64 st, .int .i64 cl, .int .i64 tr, iv, tv]
  rw [h1] at this
  exact this
theorem WU.next {w : World} {B g : Nat} {st cl tr : Int} {iv tv : Value} {W W' : World} (h : WU w B g st cl tr iv tv W) (f : Wf B g W W') (hg : g < w.heap.size) : WU w B g st cl tr iv tv W' :=
  ⟨h.bw.wf f (by omega) (by decide), h.bs.wf f (by omega) (by decide), h.wf.trans f⟩
set_option maxRecDepth 100000 in
set_option maxHeartbeats 4000000 in
theorem wsetup_any (D : Nat) (hD : 6 ≤ D) (lo hi B g : Nat) (most : Int) (hhi : hi ≤ B) (hhg : hi ≤ g) (x : Su) (I T : Option Addr) (c c' : Nat) (l : List UInt8) (w : World) (h : SuAt w lo hi D I T x) (h0 : 0 ≤ x.st ∧ 0 ≤ x.cl ∧ 0 ≤ x.tr) (hP : ∀ th ∈ x.thr, ∀ tx ∈ th, ∀ u ∈ tx, GS 6 u) (hw : Wr w B g most l) (hB : B ≤ w.heap.size) (ht : Tb w B g) (hf : (l.length : Int) + (prSu x).length ≤ most) (hini : ∀ v ∈ x.init, -9223372036854775808 ≤ v ∧ v < 9223372036854775808) :
    Calls Tryd.prog 14 #[.agg #[.pointer (some ⟨g, 0, none⟩)], .agg #[.int .i64 x.st, .int .i64 x.cl, .int .i64 x.tr, .slice I x.init.length c, .slice T x.thr.length c']] w (Wp B g most (l ++ prSu x) w) := by
  obtain ⟨st, cl, tr, ini, thr⟩ := x
  dsimp only at h0 hP hini ⊢
  obtain ⟨s0, c0, t0⟩ := h0
  obtain ⟨sn, rfl⟩ := Int.eq_ofNat_of_zero_le s0
  obtain ⟨cn, rfl⟩ := Int.eq_ofNat_of_zero_le c0
  obtain ⟨tn, rfl⟩ := Int.eq_ofNat_of_zero_le t0
  have hst1 := h.st1
  have hcl1 := h.cl1
  have htr1 := h.tr1
  dsimp only at hst1 hcl1 htr1
  obtain ⟨L, hL⟩ : ∃ L, L = ini.length := ⟨_, rfl⟩
  obtain ⟨M, hM⟩ : ∃ M, M = thr.length := ⟨_, rfl⟩
  have hLl : L ≤ 9223372036854775807 := by rw [hL]; exact h.ini.len
  have hMl : M ≤ 9223372036854775807 := by rw [hM]; exact h.len
  have hpr : prSu ⟨sn, cn, tn, ini, thr⟩ = Vm.put L ++ (prAll (fun n => Vm.put (zigW n)) ini ++ (Vm.put sn ++ (Vm.put cn ++ (Vm.put tn ++ (Vm.put M ++ prAll prT thr))))) := by
    rw [prSu, hL, hM]
    dsimp only
    rw [Int.toNat_natCast, Int.toNat_natCast, Int.toNat_natCast]
  rw [hpr] at hf ⊢
  rw [← hL, ← hM]
  simp only [List.length_append] at hf
  have hbb := wuB_below w g sn cn tn (.slice I L c) (.slice T M c')
  have HNUM := Lib.hid (wnum_any B g most l L (by omega) (wuB w g sn cn tn (.slice I L c) (.slice T M c')) (hw.more hbb) (Nat.le_trans hB hbb.size) (by omega))
  have HU0 : Hid (∀ w', Wf B g (wuB w g sn cn tn (.slice I L c) (.slice T M c')) w' → WU w B g sn cn tn (.slice I L c) (.slice T M c') w') := fun w' f => (WU.start w sn cn tn _ _).next f hw.lt
  have HL := Lib.hid hL
  have HM := Lib.hid hM
  have HP := Lib.hid hP
  have HINI := Lib.hid hini
  have HF : Hid ((l.length : Int) + ((Vm.put L).length + ((prAll (fun n => Vm.put (zigW n)) ini).length + ((Vm.put sn).length + ((Vm.put cn).length + ((Vm.put tn).length + ((Vm.put M).length + (prAll prT thr).length))))) : Nat) ≤ most) := hf
  have HH := Lib.hid h
  have HG : Hid (g < w.heap.size ∧ B ≤ w.heap.size ∧ hi ≤ B ∧ hi ≤ g) := ⟨hw.lt, hB, hhi, hhg⟩
  have HT := Lib.hid ht
  have HDD := Lib.hid hD
  unfold wuB wrB at HNUM
  clear h hP hini hf hw hB ht hhi hhg hL hM hbb hpr s0 c0 t0 hD
  have i1 : (0 : Int) ≤ sn := by omega
  have i2 : (0 : Int) ≤ cn := by omega
  have i3 : (0 : Int) ≤ tn := by omega
  go_enter Tryd.func14, Tryd.ntmps14
  go_wp2_with fail
  refine HNUM.out.mono ?_
  rintro _ w1 ⟨rfl, hw1, hf1⟩
  have HW1 := Lib.hid hw1
  have hu1 := HU0.out w1 hf1
  have HU1 := Lib.hid hu1
  have bw := hu1.bw.cell 0
  have b0 := hu1.bs.cell 0
  have b1 := hu1.bs.cell 1
  have b2 := hu1.bs.cell 2
  have b3 := hu1.bs.cell 3
  have b4 := hu1.bs.cell 4
  simp at bw b0 b1 b2 b3 b4
  clear hw1 hf1 hu1
  go_wp2_with fail
  go_loopw [18] (fun i wr => ∃ k : Nat, k ≤ L ∧ i = .int .i64 k ∧ Hid (WU w B g sn cn tn (.slice I L c) (.slice T M c') wr) ∧ Hid (Wr wr B g most (l ++ (Vm.put L ++ prAll (fun n => Vm.put (zigW n)) (ini.take k))))) (fun i _ => L - (intOf i).toNat)
  case atStart => exact ⟨0, by omega, by go_num, HU1.out, by show Wr _ _ _ _ _; rw [List.take_zero]; simpa [prAll] using HW1.out⟩
  case round =>
    clear bw b0 b1 b2 b3 b4
    obtain ⟨k, hk, rfl, HUR, HWR⟩ := hrel
    by_cases hlt : k < L
    · have hk2 : k < ini.length := by have := HL.out; omega
      obtain ⟨a, rfl, m1, f1⟩ := (HH.out.ini.wf HUR.out.wf HG.out.2.2.1 HG.out.2.2.2 HG.out.2.1).cell k hk2
      have hpt := prAll_take (fun n => Vm.put (zigW n)) ini k hk2
      have hple := prAll_le (fun n => Vm.put (zigW n)) ini (k + 1)
      have hBr : B ≤ wr.heap.size := Nat.le_trans HG.out.2.1 HUR.out.wf.fr.size
      have hfx := HINI.out _ (List.getElem_mem hk2)
      obtain ⟨v, hv⟩ : ∃ v, v = ini[k] := ⟨_, rfl⟩
      dsimp only at f1
      rw [← hv] at f1 hpt hfx
      have HI := Lib.hid (wint_any B g most _ v hfx.1 hfx.2 wr HWR.out hBr (by
        have h1 := HF.out
        rw [hpt, List.length_append] at hple
        simp only [List.length_append]
        omega))
      have HPT := Lib.hid hpt
      have ik : (k : Int) < (L : Int) := by omega
      have bw := HUR.out.bw.cell 0
      simp at bw
      clear hpt hple hBr hv hfx
      go_wp2_with fail
      refine HI.out.mono ?_
      rintro _ w5 ⟨rfl, hw5, hf5⟩
      have HW5 := Lib.hid hw5
      have HU5 := Lib.hid (HUR.out.next hf5 HG.out.1)
      clear hw5 hf5 HI
      go_wp2_with fail
      go_roundw
      case rel => exact ⟨k + 1, by omega, by go_num, HU5.out, by show Wr _ _ _ _ _; rw [HPT.out]; simpa using HW5.out⟩
      case measure => simp [intOf]; omega
    · obtain rfl : k = L := by omega
      have hkl : k = ini.length := HL.out
      have HE := HWR.out
      rw [show ini.take k = ini by rw [hkl, List.take_length]] at HE
      have HW2 := Lib.hid HE
      have hu2 := HUR.out
      clear HE hkl hlt hk
      have bw := hu2.bw.cell 0
      have b0 := hu2.bs.cell 0
      have b1 := hu2.bs.cell 1
      have b2 := hu2.bs.cell 2
      have b3 := hu2.bs.cell 3
      have b4 := hu2.bs.cell 4
      simp at bw b0 b1 b2 b3 b4
      clear hu2
      have HN3 := Lib.hid (wnum_any B g most _ sn (by omega) wr HW2.out (Nat.le_trans HG.out.2.1 HUR.out.wf.fr.size) (by have h1 := HF.out; simp only [List.length_append]; omega))
      go_wp2_with fail
      refine HN3.out.mono ?_
      rintro _ w3 ⟨rfl, hw3, hf3⟩
      have HW3 := Lib.hid hw3
      have hu3 := HUR.out.next hf3 HG.out.1
      have HU3 := Lib.hid hu3
      clear bw b0 b1 b2 b3 b4
      have bw := hu3.bw.cell 0
      have b0 := hu3.bs.cell 0
      have b1 := hu3.bs.cell 1
      have b2 := hu3.bs.cell 2
      have b3 := hu3.bs.cell 3
      have b4 := hu3.bs.cell 4
      simp at bw b0 b1 b2 b3 b4
      clear hw3 hf3 hu3 HN3
      have HN4 := Lib.hid (wnum_any B g most _ cn (by omega) w3 HW3.out (Nat.le_trans HG.out.2.1 HU3.out.wf.fr.size) (by have h1 := HF.out; simp only [List.length_append]; omega))
      go_wp2_with fail
      refine HN4.out.mono ?_
      rintro _ w4 ⟨rfl, hw4, hf4⟩
      have HW4 := Lib.hid hw4
      have hu4 := HU3.out.next hf4 HG.out.1
      have HU4 := Lib.hid hu4
      clear bw b0 b1 b2 b3 b4
      have bw := hu4.bw.cell 0
      have b0 := hu4.bs.cell 0
      have b1 := hu4.bs.cell 1
      have b2 := hu4.bs.cell 2
      have b3 := hu4.bs.cell 3
      have b4 := hu4.bs.cell 4
      simp at bw b0 b1 b2 b3 b4
      clear hw4 hf4 hu4 HN4
      have HN5 := Lib.hid (wnum_any B g most _ tn (by omega) w4 HW4.out (Nat.le_trans HG.out.2.1 HU4.out.wf.fr.size) (by have h1 := HF.out; simp only [List.length_append]; omega))
      go_wp2_with fail
      refine HN5.out.mono ?_
      rintro _ w5 ⟨rfl, hw5, hf5⟩
      have HW5 := Lib.hid hw5
      have hu5 := HU4.out.next hf5 HG.out.1
      have HU5 := Lib.hid hu5
      clear bw b0 b1 b2 b3 b4
      have bw := hu5.bw.cell 0
      have b0 := hu5.bs.cell 0
      have b1 := hu5.bs.cell 1
      have b2 := hu5.bs.cell 2
      have b3 := hu5.bs.cell 3
      have b4 := hu5.bs.cell 4
      simp at bw b0 b1 b2 b3 b4
      clear hw5 hf5 hu5 HN5
      have HN6 := Lib.hid (wnum_any B g most _ M (by omega) w5 HW5.out (Nat.le_trans HG.out.2.1 HU5.out.wf.fr.size) (by have h1 := HF.out; simp only [List.length_append]; omega))
      go_wp2_with fail
      refine HN6.out.mono ?_
      rintro _ w6 ⟨rfl, hw6, hf6⟩
      have HW6 := Lib.hid hw6
      have hu6 := HU5.out.next hf6 HG.out.1
      have HU6 := Lib.hid hu6
      clear bw b0 b1 b2 b3 b4
      have bw := hu6.bw.cell 0
      have b0 := hu6.bs.cell 0
      have b1 := hu6.bs.cell 1
      have b2 := hu6.bs.cell 2
      have b3 := hu6.bs.cell 3
      have b4 := hu6.bs.cell 4
      simp at bw b0 b1 b2 b3 b4
      clear hw6 hf6 hu6 HN6
      obtain ⟨l6, hl6⟩ : ∃ l6, l6 = l ++ (Vm.put k ++ prAll (fun n => Vm.put (zigW n)) ini) ++ Vm.put sn ++ Vm.put cn ++ Vm.put tn ++ Vm.put M := ⟨_, rfl⟩
      have HL6 : Hid (l6 ++ prAll prT thr = l ++ (Vm.put k ++ (prAll (fun n => Vm.put (zigW n)) ini ++ (Vm.put sn ++ (Vm.put cn ++ (Vm.put tn ++ (Vm.put M ++ prAll prT thr))))))) := by show _ = _; rw [hl6]; simp
      have HF6 : Hid ((l6.length : Int) + (prAll prT thr).length ≤ most) := by
        have h1 := HF.out
        have h2 := congrArg List.length HL6.out
        simp only [List.length_append] at h2
        show _ ≤ _
        omega
      have HWX : Hid (Wr w6 B g most l6) := by show Wr _ _ _ _ _; rw [hl6]; exact HW6.out
      clear hl6 HW6 HW5 HW4 HW3 HW2 HU5 HU4 HU3
      go_wp2_with fail
      go_loopw [47] (fun i wr => ∃ m : Nat, m ≤ M ∧ i = .int .i64 m ∧ Hid (WU w B g sn cn tn (.slice I k c) (.slice T M c') wr) ∧ Hid (Wr wr B g most (l6 ++ prAll prT (thr.take m)))) (fun i _ => M - (intOf i).toNat)
      case atStart => exact ⟨0, by omega, by go_num, HU6.out, by show Wr _ _ _ _ _; rw [List.take_zero]; simpa [prAll] using HWX.out⟩
      case round =>
        clear bw b0 b1 b2 b3 b4
        obtain ⟨m, hm, rfl, HUM, HWM⟩ := hrel
        by_cases hltm : m < M
        · have hm2 : m < thr.length := by have := HM.out; omega
          obtain ⟨p, Bt, ct, hpT, m1, m2, f1, ln, htx⟩ := HH.out.thr m hm2
          subst hpT
          have f2 := cell_wf f1 HUM.out.wf (by rw [ad_block]; exact m2) HG.out.2.2.1 HG.out.2.2.2 HG.out.2.1
          have hpt := prAll_take prT thr m hm2
          have hple := prAll_le prT thr (m + 1)
          have hPt := HP.out _ (List.getElem_mem hm2)
          obtain ⟨th, hth⟩ : ∃ th, th = thr[m] := ⟨_, rfl⟩
          dsimp only at f2 ln htx
          rw [← hth] at f2 hpt ln htx hPt
          obtain ⟨N, hN⟩ : ∃ N, N = th.length := ⟨_, rfl⟩
          rw [← hN] at f2 ln
          have hprt : prT th = Vm.put N ++ prAll (prB 6) th := by rw [prT, hN]
          have hfit : (l6.length : Int) + (((prAll prT (thr.take m)).length + ((Vm.put N).length + (prAll (prB 6) th).length) : Nat) : Int) ≤ most := by
            have h1 := HF6.out
            rw [hpt, hprt, List.length_append, List.length_append] at hple
            omega
          have HFT := Lib.hid hfit
          have HPT := Lib.hid hpt
          have HPRT := Lib.hid hprt
          have HTX := Lib.hid htx
          have HN := Lib.hid hN
          have HPt := Lib.hid hPt
          have hBr : B ≤ wr.heap.size := Nat.le_trans HG.out.2.1 HUM.out.wf.fr.size
          have HN7 := Lib.hid (wnum_any B g most _ N (by omega) wr HWM.out hBr (by simp only [List.length_append]; omega))
          have bw := HUM.out.bw.cell 0
          simp at bw
          have im : (m : Int) < (M : Int) := by omega
          clear f1 m1 m2 hpt hple hth hprt hfit htx hN hPt hBr
          go_wp2_with fail
          refine HN7.out.mono ?_
          rintro _ w7 ⟨rfl, hw7, hf7⟩
          have HW7 := Lib.hid hw7
          have HU7 := Lib.hid (HUM.out.next hf7 HG.out.1)
          clear hw7 hf7 HN7 bw f2
          go_wp2_with fail
          go_loopw [57] (fun j wr => ∃ jj : Nat, jj ≤ N ∧ j = .int .i64 jj ∧ Hid (WU w B g sn cn tn (.slice I k c) (.slice (some p) M c') wr) ∧ Hid (Wr wr B g most (l6 ++ (prAll prT (thr.take m) ++ (Vm.put N ++ prAll (prB 6) (th.take jj)))))) (fun j _ => N - (intOf j).toNat)
          case atStart => exact ⟨0, by omega, by go_num, HU7.out, by show Wr _ _ _ _ _; rw [List.take_zero]; simpa [prAll] using HW7.out⟩
          case round =>
            obtain ⟨jj, hj, rfl, HUJ, HWJ⟩ := hrel
            by_cases hltj : jj < N
            · have hj2 : jj < th.length := by have := HN.out; omega
              obtain ⟨p2, C, cc, hp2, m1, m2, f1, ln2, hsk⟩ := HTX.out jj hj2
              subst hp2
              have f2 := cell_wf f1 HUJ.out.wf (by rw [ad_block]; exact m2) HG.out.2.2.1 HG.out.2.2.2 HG.out.2.1
              have hpt2 := prAll_take (prB 6) th jj hj2
              have hple2 := prAll_le (prB 6) th (jj + 1)
              have hPu := HPt.out _ (List.getElem_mem hj2)
              obtain ⟨tx, htx⟩ : ∃ tx, tx = th[jj] := ⟨_, rfl⟩
              rw [← htx] at f2 hpt2 ln2 hsk hPu
              have hBx : B ≤ wr.heap.size := Nat.le_trans HG.out.2.1 HUJ.out.wf.fr.size
              have HBL := Lib.hid (wblock_any 6 D lo hi B g most HG.out.2.2.1 HG.out.2.2.2 HDD.out tx C cc _ wr (hsk.wf HUJ.out.wf HG.out.2.2.1 HG.out.2.2.2 HG.out.2.1) hPu ln2 HWJ.out hBx (HT.out.wf HUJ.out.wf) (by
                have h1 := HFT.out
                rw [hpt2, List.length_append] at hple2
                simp only [List.length_append]
                omega))
              obtain ⟨q, hq⟩ : ∃ q, q = tx.length := ⟨_, rfl⟩
              rw [← hq] at f2 HBL
              have HPT2 := Lib.hid hpt2
              have bw := HUJ.out.bw.cell 0
              simp at bw
              have ij : (jj : Int) < (N : Int) := by omega
              clear f1 m1 m2 hpt2 hple2 htx hsk hPu hBx hq ln2
              go_wp2_with fail
              refine HBL.out.mono ?_
              rintro _ w8 ⟨rfl, hw8, hf8⟩
              have HW8 := Lib.hid hw8
              have HU8 := Lib.hid (HUJ.out.next hf8 HG.out.1)
              clear hw8 hf8 HBL bw f2
              go_wp2_with fail
              go_roundw
              case rel => exact ⟨jj + 1, by omega, by go_num, HU8.out, by show Wr _ _ _ _ _; rw [HPT2.out]; simpa using HW8.out⟩
              case measure => simp [intOf]; omega
            · obtain rfl : jj = N := by omega
              have HE := HWJ.out
              rw [show th.take jj = th by rw [HN.out, List.take_length], ← HPRT.out, ← HPT.out] at HE
              have HWN := Lib.hid HE
              clear HE
              go_wp2_with fail
              go_roundw
              case rel => exact ⟨m + 1, by omega, by go_num, HUJ.out, HWN.out⟩
              case measure => simp [intOf]; omega
        · obtain rfl : m = M := by omega
          have HE := HWM.out
          rw [show thr.take m = thr by rw [HM.out, List.take_length], HL6.out] at HE
          have HWN := Lib.hid HE
          clear HE
          go_wp2_with fail
          go_end0
          exact ⟨rfl, HWN.out, HUM.out.wf⟩
end Go.Proofs.YtpgkhodofhnpnaaDoor
