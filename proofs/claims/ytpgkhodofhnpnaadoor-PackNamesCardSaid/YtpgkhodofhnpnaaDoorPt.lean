/-
  LAYER 7's WRITER: a block, of whatever level. Conditions: as XPr's.
-/
import Derived.Test.YtpgkhodofhnpnaaDoorPs
namespace Go.Proofs.YtpgkhodofhnpnaaDoor
set_option maxRecDepth 100000
open Go.RowKit
set_option linter.unusedVariables false
set_option maxRecDepth 100000 in
set_option maxHeartbeats 4000000 in
theorem wblock_of (D : Nat) (lo hi B g : Nat) (most : Int) (f : St → List UInt8) (P : St → Prop)
    (HS : ∀ (x : St) (r : Raw) (l : List UInt8) (w : World), SAt w lo hi D r x → P x → Wr w B g most l → B ≤ w.heap.size → Tb w B g → (l.length : Int) + (f x).length ≤ most → Calls Tryd.prog 45 #[.agg #[.pointer (some ⟨g, 0, none⟩)], r.v] w (Wp B g most (l ++ f x) w))
    (hhi : hi ≤ B) (hhg : hi ≤ g) (z : List St) (A : Option Addr) (c : Nat) (l : List UInt8) (w : World) (hk : SKids w lo hi D A z) (hP : ∀ u ∈ z, P u) (hl : z.length ≤ 9223372036854775807) (hw : Wr w B g most l) (hB : B ≤ w.heap.size) (ht : Tb w B g) (hf : (l.length : Int) + ((Vm.put z.length).length + (prAll f z).length : Nat) ≤ most) :
      Calls Tryd.prog 30 #[.agg #[.pointer (some ⟨g, 0, none⟩)], .slice A z.length c] w (Wp B g most (l ++ (Vm.put z.length ++ prAll f z)) w) := by
  obtain ⟨L, hL⟩ : ∃ L, L = z.length := ⟨_, rfl⟩
  rw [← hL] at hl hf ⊢
  have hbb := wrB_below w g
  have HNUM := Lib.hid (wnum_any B g most l L (by omega) (wrB w g) (hw.more hbb) (Nat.le_trans hB hbb.size) (by omega))
  have HBX : Hid (∀ w', Wf B g (wrB w g) w' → Obj w' w.heap.size 49 #[.pointer (some ⟨g, 0, none⟩)] ∧ Wf B g w w') := fun w' f => ⟨(Obj.made w _ _).wf f (by have := hw.lt; omega) (by decide), (Wf.of_below hbb).trans f⟩
  have HL := Lib.hid hL
  have HK := Lib.hid hk
  have HP := Lib.hid hP
  have HF := Lib.hid hf
  have HSS := Lib.hid HS
  have HG : Hid (g < w.heap.size ∧ B ≤ w.heap.size ∧ hi ≤ B ∧ hi ≤ g) := ⟨hw.lt, hB, hhi, hhg⟩
  have HT := Lib.hid ht
  unfold wrB at HNUM
  clear hk hP hf HS hw hB ht hhi hhg hL hbb
  go_enter Tryd.func30, Tryd.ntmps30
  go_wp2_with fail
  refine HNUM.out.mono ?_
  rintro _ w1 ⟨rfl, hw1, hf1⟩
  have HW1 := Lib.hid hw1
  have hbx := HBX.out w1 hf1
  have HB1 := Lib.hid hbx
  have b0 := hbx.1.cell 0
  simp at b0
  clear hw1 hf1 hbx
  go_wp2_with fail
  go_loopw [12] (fun i wr => ∃ k : Nat, k ≤ L ∧ i = .int .i64 k ∧ Hid (Obj wr w.heap.size 49 #[.pointer (some ⟨g, 0, none⟩)] ∧ Wf B g w wr) ∧ Hid (Wr wr B g most (l ++ (Vm.put L ++ prAll f (z.take k))))) (fun i _ => L - (intOf i).toNat)
  case atStart => exact ⟨0, by omega, by go_num, HB1.out, by show Wr _ _ _ _ _; rw [List.take_zero]; simpa [prAll] using HW1.out⟩
  case round =>
    obtain ⟨k, hk, rfl, HBR, HWR⟩ := hrel
    by_cases hlt : k < L
    · have hk2 : k < z.length := by have := HL.out; omega
      obtain ⟨p, r, rfl, m1, m2, ht, hs⟩ := (HK.out.wf HBR.out.2 HG.out.2.2.1 HG.out.2.2.2 HG.out.2.1) k hk2
      obtain ⟨rk, rt, rao, ran, raA, ral, rac, rbo, rbn, rbA, rbl, rbc, ryA, ryl, ryc, reA, rel, r9c⟩ := r
      have g0 := ht.c0
      have g1 := ht.c1
      have g2 := ht.c2
      have g3 := ht.c3
      have g4 := ht.c4
      have g5 := ht.c5
      have g6 := ht.c6
      have g7 := ht.c7
      have g8 := ht.c8
      have g9 := ht.c9
      dsimp only at g0 g1 g2 g3 g4 g5 g6 g7 g8 g9
      have hb5 : Below wr.heap.size wr (wr.alloc (.cells #[.int .u8 rk, .int .i64 rt, .int .u8 rao, .int .i64 ran, .slice raA ral rac, .int .u8 rbo, .int .i64 rbn, .slice rbA rbl rbc, .slice ryA ryl ryc, .slice reA rel r9c] 33)) := (Below.refl _ _).alloc (Nat.le_refl _) _
      have bw := (HBR.out.1.same (heap_alloc_old wr (.cells #[.int .u8 rk, .int .i64 rt, .int .u8 rao, .int .i64 ran, .slice raA ral rac, .int .u8 rbo, .int .i64 rbn, .slice rbA rbl rbc, .slice ryA ryl ryc, .slice reA rel r9c] 33) HBR.out.1.lt)).cell 0
      simp at bw
      have hpt := prAll_take f z k hk2
      have hple := prAll_le f z (k + 1)
      have hBr : B ≤ wr.heap.size := Nat.le_trans HG.out.2.1 HBR.out.2.fr.size
      have HST := Lib.hid (HSS.out z[k] ⟨rk, rt, rao, ran, raA, ral, rac, rbo, rbn, rbA, rbl, rbc, ryA, ryl, ryc, reA, rel, r9c⟩ _ _ (hs.below hb5 (by have := HG.out; omega)) (HP.out _ (List.getElem_mem hk2)) (HWR.out.more hb5) (Nat.le_trans hBr hb5.size) ((HT.out.wf HBR.out.2).wf (Wf.of_below hb5)) (by
        have h1 := HF.out
        rw [hpt, List.length_append] at hple
        simp only [List.length_append]
        omega))
      have HPT := Lib.hid hpt
      have HB5 := Lib.hid hb5
      have ik : (k : Int) < (L : Int) := by omega
      dsimp only [Raw.v] at HST
      clear hs ht hb5 hpt hple hBr
      go_wp2_with fail
      refine HST.out.mono ?_
      rintro _ w5 ⟨rfl, hw5, hf5⟩
      have HW5 := Lib.hid hw5
      have hf6 := (Wf.of_below HB5.out).trans hf5
      have HBN : Hid (Obj w5 w.heap.size 49 #[.pointer (some ⟨g, 0, none⟩)] ∧ Wf B g w w5) := ⟨HBR.out.1.wf hf6 (by have := HG.out; omega) (by decide), HBR.out.2.trans hf6⟩
      clear hw5 hf5 hf6 HST
      go_wp2_with fail
      go_roundw
      case rel => exact ⟨k + 1, by omega, by go_num, HBN.out, by show Wr _ _ _ _ _; rw [HPT.out]; simpa using HW5.out⟩
      case measure => simp [intOf]; omega
    · obtain rfl : k = L := by omega
      have hkl : k = z.length := HL.out
      have HE := HWR.out
      rw [show z.take k = z by rw [hkl, List.take_length]] at HE
      have HEE := Lib.hid HE
      clear HE hkl
      go_wp2_with fail
      go_end0
      exact ⟨rfl, HEE.out, HBR.out.2⟩
/-- A block of level d. -/
theorem wblock_any (d : Nat) : ∀ (D : Nat) (lo hi B g : Nat) (most : Int), hi ≤ B → hi ≤ g → d ≤ D → ∀ (z : List St) (A : Option Addr) (c : Nat) (l : List UInt8) (w : World), SKids w lo hi D A z → (∀ u ∈ z, GS d u) → z.length ≤ 9223372036854775807 → Wr w B g most l → B ≤ w.heap.size → Tb w B g → (l.length : Int) + (prB d z).length ≤ most →
      Calls Tryd.prog 30 #[.agg #[.pointer (some ⟨g, 0, none⟩)], .slice A z.length c] w (Wp B g most (l ++ prB d z) w) := by
  induction d with
  | zero =>
    intro D lo hi B g most h1 h2 hD z A c l w hk hP hl hw hB ht hf
    have hz : z = [] := by
      match z, hP with
      | [], _ => rfl
      | u :: r, hP => exact (hP u (List.mem_cons_self ..)).elim
    subst hz
    have := wblock_of D lo hi B g most (fun _ => []) (fun _ => False) (fun _ _ _ _ _ h => h.elim) h1 h2 [] A c l w hk (fun u hu => by cases hu) hl hw hB ht (by simpa [prB, prAll] using hf)
    simpa [prB, prAll] using this
  | succ d ih =>
    intro D lo hi B g most h1 h2 hD z A c l w hk hP hl hw hB ht hf
    obtain ⟨D, rfl⟩ : ∃ q, D = q + 1 := ⟨D - 1, by omega⟩
    exact wblock_of (D + 1) lo hi B g most (prS (prB d)) (GS (d + 1)) (fun x r l w hs hg hw hB ht hf => wstmt_any d D lo hi B g most (fun z A c l w a1 a2 a3 a4 a5 a6 a7 => ih D lo hi B g most h1 h2 (by omega) z A c l w a1 a2 a3 a4 a5 a6 a7) x r l w hs hg h1 h2 hw hB ht hf) h1 h2 z A c l w hk hP hl hw hB ht (by simpa [prB] using hf)
end Go.Proofs.YtpgkhodofhnpnaaDoor
