/-
  LAYER 7's WRITER: a statement (stmt), over what a block is written as. Conditions: as XPr's.
-/
import Derived.Test.YtpgkhodofhnpnaaDoorPr
namespace Go.Proofs.YtpgkhodofhnpnaaDoor
set_option maxRecDepth 100000
open Go.RowKit
set_option linter.unusedVariables false
def wsB (w : World) (g : Nat) (r : Raw) : World := (wrB w g).alloc (.cells #[.int .u8 r.k, .int .i64 r.t, .int .u8 r.ao, .int .i64 r.an, .slice r.aA r.al r.ac, .int .u8 r.bo, .int .i64 r.bn, .slice r.bA r.bl r.bc, .slice r.yA r.yl r.yc, .slice r.eA r.el r.ec] 33)
theorem wsB_below (w : World) (g : Nat) (r : Raw) : Below w.heap.size w (wsB w g r) := (wrB_below w g).alloc (by simp [wrB]) _
theorem WS.start {w w1 : World} {B g : Nat} {r : Raw} {txt : ByteArray} (f : Wf B g (wsB w g r) w1) (hg : g < w.heap.size) : WS w B g r w1.heap.size txt 0 (w1.iter txt 0) := by
  have h1 : (wrB w g).heap.size = w.heap.size + 1 := by simp [wrB]
  have h2 : (wsB w g r).heap.size = w.heap.size + 2 := by simp [wsB, h1]
  have hz := f.fr.size
  rw [h2] at hz
  have b1 : Obj (wsB w g r) w.heap.size 49 #[.pointer (some ⟨g, 0, none⟩)] := (Obj.made w _ _).same (heap_alloc_old _ _ (by omega))
  have b2 : Obj (wsB w g r) (w.heap.size + 1) 33 r.cells.toArray := by
    have := Obj.made (wrB w g) 33 r.cells.toArray
    rw [h1] at this
    exact this
  have c1 := b1.wf f (by omega) (by decide)
  have c2 := b2.wf f (by omega) (by decide)
  have hb : Below w1.heap.size w1 (w1.iter txt 0) := (Below.refl _ _).alloc (Nat.le_refl _) _
  exact ⟨c1.same (heap_alloc_old _ _ c1.lt), c2.same (heap_alloc_old _ _ c2.lt), World.iter_heap w1 txt 0, by omega, ((Wf.of_below (wsB_below w g r)).trans f).trans (Wf.of_below hb)⟩
set_option maxRecDepth 100000 in
set_option maxHeartbeats 4000000 in
theorem wstmt_any (d D : Nat) (lo hi B g : Nat) (most : Int)
    (HB : ∀ (z : List St) (A : Option Addr) (c : Nat) (l : List UInt8) (w : World), SKids w lo hi D A z → (∀ u ∈ z, GS d u) → z.length ≤ 9223372036854775807 → Wr w B g most l → B ≤ w.heap.size → Tb w B g → (l.length : Int) + (prB d z).length ≤ most →
      Calls Tryd.prog 30 #[.agg #[.pointer (some ⟨g, 0, none⟩)], .slice A z.length c] w (Wp B g most (l ++ prB d z) w))
    (x : St) (r : Raw) (l : List UInt8) (w : World) (h : SAt w lo hi (D + 1) r x) (hg : GS (d + 1) x) (hhi : hi ≤ B) (hhg : hi ≤ g) (hw : Wr w B g most l) (hB : B ≤ w.heap.size) (ht : Tb w B g) (hf : (l.length : Int) + (prS (prB d) x).length ≤ most) :
    Calls Tryd.prog 45 #[.agg #[.pointer (some ⟨g, 0, none⟩)], r.v] w (Wp B g most (l ++ prS (prB d) x) w) := by
  obtain ⟨k, t, a, b, y, e⟩ := x
  obtain ⟨hlt, hgy, hge⟩ := hg
  obtain ⟨⟨e1, e2, e3, e4⟩, ⟨q1, q2, q3, q4, q5⟩, ha, hb, hy, he⟩ := h.open_
  have hk1 := hlt.k1
  have hk8 := hlt.k8
  have hpr := prS_letters (prB d) (.node k t a b y e) hk1 hk8
  rw [hpr] at hf ⊢
  simp only [List.length_append] at hf
  have HS0 : Hid (∀ w1, Wf B g (wsB w g r) w1 → WS w B g r w1.heap.size (bs (letters k)) 0 (w1.iter (bs (letters k)) 0)) := fun w1 f => WS.start f hw.lt
  have hbb := wsB_below w g r
  have HNUM := Lib.hid (wnum_any B g most l k (by omega) (wsB w g r) (hw.more hbb) (Nat.le_trans hB hbb.size) (by show _ ≤ _; have : St.kind (.node k t a b y e) = k := rfl; rw [this] at hf; omega))
  have htb := ht.wf (Wf.of_below hbb)
  have HTB := Lib.hid htb
  have HT0 := Lib.hid ht
  have HBB := Lib.hid HB
  have HF := Lib.hid hf
  have HLT := Lib.hid hlt
  have HG : Hid (g < w.heap.size ∧ B ≤ w.heap.size ∧ hi ≤ B ∧ hi ≤ g) := ⟨hw.lt, hB, hhi, hhg⟩
  have HTR : Hid (At w lo hi D r.va a ∧ At w lo hi D r.vb b ∧ SKids w lo hi D r.yA y ∧ SKids w lo hi D r.eA e ∧ (∀ u ∈ y, GS d u) ∧ (∀ u ∈ e, GS d u) ∧ y.length ≤ 9223372036854775807 ∧ e.length ≤ 9223372036854775807) := ⟨ha, hb, hy, he, hgy, hge, q4, q5⟩
  have hk1' : 1 ≤ k := hk1
  have hk8' : (k : Int) ≤ 8 := by have : k ≤ 8 := hk8; omega
  have hk0 : (0 : Int) ≤ k := by omega
  obtain ⟨rk, rt, rao, ran, raA, ral, rac, rbo, rbn, rbA, rbl, rbc, ryA, ryl, ryc, reA, rel, r9c⟩ := r
  dsimp only at e1 e2 e3 e4
  subst e1 e2 e3 e4
  dsimp only [Raw.v]
  unfold wsB wrB at HNUM
  dsimp only at HNUM
  clear h ha hb hy he hgy hge hlt hk1 hk8 hpr hf hw hB HB hbb htb ht hhi hhg q1 q2 q3 q4 q5
  go_enter Tryd.func45, Tryd.ntmps45
  go_wp2_with fail
  refine HNUM.out.mono ?_
  rintro _ w1 ⟨rfl, hw1, hf1⟩
  have hs1 := HS0.out w1 hf1
  have htb1 := (HTB.out.wf hf1).pt rk (by omega)
  have HW0 : Hid (Wr (w1.iter (bs (letters rk)) 0) B g most (l ++ Vm.put rk)) := hw1.more ((Below.refl _ _).alloc (Nat.le_refl _) _)
  have HS1 := Lib.hid hs1
  have c1 : w1.cell? ⟨w.heap.size + 1, 0, none⟩ = some (.int .u8 rk) := by
    have h1 := hs1.bs.cell 0
    have h2 : w.heap.size + 1 < w1.heap.size := by have := hs1.il; omega
    have h3 : (w1.iter (bs (letters rk)) 0).cell? ⟨w.heap.size + 1, 0, none⟩ = w1.cell? ⟨w.heap.size + 1, 0, none⟩ := World.cell?_of_block (heap_alloc_old w1 (.stringIter (bs (letters rk)) 0) h2)
    rw [← h3, h1]
    rfl
  obtain ⟨L, hL⟩ : ∃ L, L = letters rk := ⟨_, rfl⟩
  rw [← hL] at htb1 HW0 HS1
  have HL := Lib.hid hL
  obtain ⟨X, hX⟩ : ∃ X, X = St.node rk rt a b y e := ⟨_, rfl⟩
  have HX := Lib.hid hX
  have HF2 : Hid ((l.length : Int) + ((Vm.put rk).length + (prAll (wL (prB d) X) L).length : Nat) ≤ most) := by
    have h := HF.out
    show _ ≤ _
    rw [hX, hL]
    exact h
  clear hL hX hs1 hw1 hf1
  go_wp2_with fail
  go_loopw [] (fun wr => ∃ (i : Nat), i ≤ L.length ∧ Hid (WS w B g ⟨rk, rt, rao, ran, raA, ral, rac, rbo, rbn, rbA, rbl, rbc, ryA, y.length, ryc, reA, e.length, r9c⟩ w1.heap.size (bs L) i wr) ∧ Hid (Wr wr B g most (l ++ (Vm.put rk ++ prAll (wL (prB d) X) (L.take i))))) (fun wr => L.length - wr.iterPos w1.heap.size)
  case atStart => exact ⟨0, by omega, HS1.out, by show Wr _ _ _ _ _; rw [List.take_zero]; simpa [prAll] using HW0.out⟩
  case round =>
    obtain ⟨i, hil, IS, IW⟩ := hrel
    by_cases hlt : i < L.length
    · obtain ⟨w5, hw5⟩ : ∃ w5, w5 = wr.iterAt w1.heap.size (bs L) (i + 1) := ⟨_, rfl⟩
      have hls5 := IS.out.next HG.out.2.1
      have hwr5 := IW.out.iter IS.out.it (i + 1)
      rw [← hw5] at hls5 hwr5
      have IS5 := Lib.hid hls5
      have HW5 := Lib.hid hwr5
      have hc0 := letters_one rk L[i] (by rw [← HL.out]; exact List.getElem_mem hlt)
      have hmem : L[i] ∈ letters rk := by rw [← HL.out]; exact List.getElem_mem hlt
      have htake := prAll_take (wL (prB d) X) L i hlt
      have hple := prAll_le (wL (prB d) X) L (i + 1)
      have hfit : ((l ++ (Vm.put rk ++ prAll (wL (prB d) X) (L.take i))).length : Int) + (wL (prB d) X L[i]).length ≤ most := by
        have h1 := HF2.out
        rw [htake, List.length_append] at hple
        simp only [List.length_append]
        omega
      have HB5 : Hid (B ≤ w5.heap.size) := Nat.le_trans HG.out.2.1 hls5.wf.fr.size
      have HT5 := Lib.hid (HT0.out.wf hls5.wf)
      have bw := hls5.bw.cell 0
      have b0 := hls5.bs.cell 0
      have b1 := hls5.bs.cell 1
      have b2 := hls5.bs.cell 2
      have b3 := hls5.bs.cell 3
      have b4 := hls5.bs.cell 4
      have b5 := hls5.bs.cell 5
      have b6 := hls5.bs.cell 6
      have b7 := hls5.bs.cell 7
      have b8 := hls5.bs.cell 8
      have b9 := hls5.bs.cell 9
      simp [Raw.cells] at bw b0 b1 b2 b3 b4 b5 b6 b7 b8 b9
      clear hls5 hwr5 hple
      rcases hc0 with hc | hc | hc | hc | hc
      · have hch : (((bs L)[i]'(by rw [bs_size]; omega)).toNat : Int) = 84 := by
          have : (bs L)[i]'(by rw [bs_size]; omega) = L[i] := rfl
          rw [this, hc]
          rfl
        have hnx : ∀ ty, (Instr.next (.pointer (some ⟨w1.heap.size, 0, none⟩)) true ty).run Tryd.prog wr = .ok (.tuple #[.bool true, .int .i64 i, .int .i32 84]) w5 := fun ty => by
          rw [hw5, Lib.run_next_ascii_at wr w1.heap.size (bs L) i ty IS.out.it (by rw [bs_size]; omega) (by omega), hch]
        have hwl : wL (prB d) X L[i] = Vm.put rt.toNat := by rw [hc, HX.out]; rfl
        rw [hwl] at hfit htake
        have HI := Lib.hid (by
          have h0 : 0 ≤ rt := HLT.out.t0
          have h8 : rt < 8 := HLT.out.t8
          have h9 := wnum_any B g most _ rt.toNat (by omega) w5 HW5.out HB5.out hfit
          rw [Int.toNat_of_nonneg h0] at h9
          exact h9)
        have HTK := Lib.hid htake
        clear hw5 hc hch hfit hwl htake
        go_wp2_with fail
        refine HI.out.mono ?_
        rintro _ w6 ⟨rfl, hw6, hf6⟩
        have HW6 := Lib.hid hw6
        have HS6 := Lib.hid (IS5.out.call hf6 HG.out.1)
        clear hw6 hf6 hnx HI
        go_wp2_with fail
        go_roundw
        case rel => exact ⟨i + 1, by omega, HS6.out, by show Wr _ _ _ _ _; rw [HTK.out]; simpa using HW6.out⟩
        case measure =>
          rw [iterPos_of IS.out.it, iterPos_of HS6.out.it]
          omega
      · have hch : (((bs L)[i]'(by rw [bs_size]; omega)).toNat : Int) = 65 := by
          have : (bs L)[i]'(by rw [bs_size]; omega) = L[i] := rfl
          rw [this, hc]
          rfl
        have hnx : ∀ ty, (Instr.next (.pointer (some ⟨w1.heap.size, 0, none⟩)) true ty).run Tryd.prog wr = .ok (.tuple #[.bool true, .int .i64 i, .int .i32 65]) w5 := fun ty => by
          rw [hw5, Lib.run_next_ascii_at wr w1.heap.size (bs L) i ty IS.out.it (by rw [bs_size]; omega) (by omega), hch]
        have hwl : wL (prB d) X L[i] = prE 6 a := by rw [hc, HX.out]; rfl
        rw [hwl] at hfit htake
        have HI := Lib.hid (wexpr_any 6 D a _ lo hi B g most _ w5 (HTR.out.1.wf IS5.out.wf HG.out.2.2.1 HG.out.2.2.2 HG.out.2.1) (HLT.out.a (by rw [← hc]; exact hmem)) HG.out.2.2.1 HG.out.2.2.2 HW5.out HB5.out hfit)
        have HTK := Lib.hid htake
        clear hw5 hc hch hfit hwl htake
        go_wp2_with fail
        refine HI.out.mono ?_
        rintro _ w6 ⟨rfl, hw6, hf6⟩
        have HW6 := Lib.hid hw6
        have HS6 := Lib.hid (IS5.out.call hf6 HG.out.1)
        clear hw6 hf6 hnx HI
        go_wp2_with fail
        go_roundw
        case rel => exact ⟨i + 1, by omega, HS6.out, by show Wr _ _ _ _ _; rw [HTK.out]; simpa using HW6.out⟩
        case measure =>
          rw [iterPos_of IS.out.it, iterPos_of HS6.out.it]
          omega
      · have hch : (((bs L)[i]'(by rw [bs_size]; omega)).toNat : Int) = 66 := by
          have : (bs L)[i]'(by rw [bs_size]; omega) = L[i] := rfl
          rw [this, hc]
          rfl
        have hnx : ∀ ty, (Instr.next (.pointer (some ⟨w1.heap.size, 0, none⟩)) true ty).run Tryd.prog wr = .ok (.tuple #[.bool true, .int .i64 i, .int .i32 66]) w5 := fun ty => by
          rw [hw5, Lib.run_next_ascii_at wr w1.heap.size (bs L) i ty IS.out.it (by rw [bs_size]; omega) (by omega), hch]
        have hwl : wL (prB d) X L[i] = prE 6 b := by rw [hc, HX.out]; rfl
        rw [hwl] at hfit htake
        have HI := Lib.hid (wexpr_any 6 D b _ lo hi B g most _ w5 (HTR.out.2.1.wf IS5.out.wf HG.out.2.2.1 HG.out.2.2.2 HG.out.2.1) (HLT.out.b (by rw [← hc]; exact hmem)) HG.out.2.2.1 HG.out.2.2.2 HW5.out HB5.out hfit)
        have HTK := Lib.hid htake
        clear hw5 hc hch hfit hwl htake
        go_wp2_with fail
        refine HI.out.mono ?_
        rintro _ w6 ⟨rfl, hw6, hf6⟩
        have HW6 := Lib.hid hw6
        have HS6 := Lib.hid (IS5.out.call hf6 HG.out.1)
        clear hw6 hf6 hnx HI
        go_wp2_with fail
        go_roundw
        case rel => exact ⟨i + 1, by omega, HS6.out, by show Wr _ _ _ _ _; rw [HTK.out]; simpa using HW6.out⟩
        case measure =>
          rw [iterPos_of IS.out.it, iterPos_of HS6.out.it]
          omega
      · have hch : (((bs L)[i]'(by rw [bs_size]; omega)).toNat : Int) = 98 := by
          have : (bs L)[i]'(by rw [bs_size]; omega) = L[i] := rfl
          rw [this, hc]
          rfl
        have hnx : ∀ ty, (Instr.next (.pointer (some ⟨w1.heap.size, 0, none⟩)) true ty).run Tryd.prog wr = .ok (.tuple #[.bool true, .int .i64 i, .int .i32 98]) w5 := fun ty => by
          rw [hw5, Lib.run_next_ascii_at wr w1.heap.size (bs L) i ty IS.out.it (by rw [bs_size]; omega) (by omega), hch]
        have hwl : wL (prB d) X L[i] = prB d y := by rw [hc, HX.out]; rfl
        rw [hwl] at hfit htake
        have HI := Lib.hid (HBB.out y ryA ryc _ w5 (HTR.out.2.2.1.wf IS5.out.wf HG.out.2.2.1 HG.out.2.2.2 HG.out.2.1) HTR.out.2.2.2.2.1 HTR.out.2.2.2.2.2.2.1 HW5.out HB5.out HT5.out hfit)
        have HTK := Lib.hid htake
        clear hw5 hc hch hfit hwl htake
        go_wp2_with fail
        refine HI.out.mono ?_
        rintro _ w6 ⟨rfl, hw6, hf6⟩
        have HW6 := Lib.hid hw6
        have HS6 := Lib.hid (IS5.out.call hf6 HG.out.1)
        clear hw6 hf6 hnx HI
        go_wp2_with fail
        go_roundw
        case rel => exact ⟨i + 1, by omega, HS6.out, by show Wr _ _ _ _ _; rw [HTK.out]; simpa using HW6.out⟩
        case measure =>
          rw [iterPos_of IS.out.it, iterPos_of HS6.out.it]
          omega
      · have hch : (((bs L)[i]'(by rw [bs_size]; omega)).toNat : Int) = 101 := by
          have : (bs L)[i]'(by rw [bs_size]; omega) = L[i] := rfl
          rw [this, hc]
          rfl
        have hnx : ∀ ty, (Instr.next (.pointer (some ⟨w1.heap.size, 0, none⟩)) true ty).run Tryd.prog wr = .ok (.tuple #[.bool true, .int .i64 i, .int .i32 101]) w5 := fun ty => by
          rw [hw5, Lib.run_next_ascii_at wr w1.heap.size (bs L) i ty IS.out.it (by rw [bs_size]; omega) (by omega), hch]
        have hwl : wL (prB d) X L[i] = prB d e := by rw [hc, HX.out]; rfl
        rw [hwl] at hfit htake
        have HI := Lib.hid (HBB.out e reA r9c _ w5 (HTR.out.2.2.2.1.wf IS5.out.wf HG.out.2.2.1 HG.out.2.2.2 HG.out.2.1) HTR.out.2.2.2.2.2.1 HTR.out.2.2.2.2.2.2.2 HW5.out HB5.out HT5.out hfit)
        have HTK := Lib.hid htake
        clear hw5 hc hch hfit hwl htake
        go_wp2_with fail
        refine HI.out.mono ?_
        rintro _ w6 ⟨rfl, hw6, hf6⟩
        have HW6 := Lib.hid hw6
        have HS6 := Lib.hid (IS5.out.call hf6 HG.out.1)
        clear hw6 hf6 hnx HI
        go_wp2_with fail
        go_roundw
        case rel => exact ⟨i + 1, by omega, HS6.out, by show Wr _ _ _ _ _; rw [HTK.out]; simpa using HW6.out⟩
        case measure =>
          rw [iterPos_of IS.out.it, iterPos_of HS6.out.it]
          omega
    · have hnx : ∀ ty, (Instr.next (.pointer (some ⟨w1.heap.size, 0, none⟩)) true ty).run Tryd.prog wr = .ok (.tuple #[.bool false]) wr := fun ty => Lib.run_next_end_at wr w1.heap.size (bs L) i ty IS.out.it (by rw [bs_size]; omega)
      obtain rfl : i = L.length := by omega
      have HE := IW.out
      rw [List.take_length, HX.out, HL.out] at HE
      have HEE := Lib.hid HE
      clear HE
      go_wp2_with fail
      go_end0
      exact ⟨rfl, HEE.out, IS.out.wf⟩
end Go.Proofs.YtpgkhodofhnpnaaDoor
