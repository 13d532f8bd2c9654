/-
  PACKAGE trace (layer 15): what the iterator of events tells. Conditions: as they stand.
-/
import Derived.Test.YteigglhhnemngaaGreatDoorTre
namespace Go.Proofs.YteigglhhnemngaaGreatDoor
set_option maxRecDepth 100000
open Go.RowKit Go.Deep Go.Shelf
set_option linter.unusedVariables false
set_option linter.unusedSimpArgs false
attribute [local go_sem] Oper.semAt_some
section
variable {n₀ gr gc gk b3 : Nat} {S : ByteArray} {T V Z : Int} {R : List Ev × (Nat × Int)} {many : Nat} {L : List Ev} {p p' : PS} {a a1 : Nat} {w w' : World} {e : Ev}
theorem ItI.next (h : ItI n₀ gr gc gk b3 S T V Z R many L p a w) (hlt : L.length < many) (hx : rdX (knM (newQ T V Z) L) S a 0 = (e, (a1, 0))) (hm : mayS T V Z (behind Z L) e = true) (hn : n₀ ≤ w'.heap.size)
    (ek : Ek w') (cod : CodAt w' gc (knowQ (knM (newQ T V Z) L) e)) (chk : ChkAt w' gk T V Z p') (rd : Rd w' gr S a1 0) (box : w'.heap[b3]? = some (.cells #[.pointer (some ⟨gr, 0, none⟩)] 63 (0, 0))) (at' : AtI T V Z (L ++ [e]) (L ++ [e]).length p') :
    ItI n₀ gr gc gk b3 S T V Z R many (L ++ [e]) p' a1 w' := by
  have hkn : knM (newQ T V Z) (L ++ [e]) = knowQ (knM (newQ T V Z) L) e := by rw [knM_app]; rfl
  have hbd := rd_b (knM (newQ T V Z) L) h.ok S a 0
  have hbk := rd_back h.ok (S := S) (a := a) (wr := 0) h.rd.2.1 (by rw [hx])
  rw [hx] at hbd hbk
  simp only at hbd hbk
  have hsm := evB_small h.ok hbk.2.1
  have hsg := hbk.2.2.1
  have hl := h.le
  refine ⟨ek, h.hg, by rw [hkn]; exact cod, chk, rd, h.grl, box, at', by rw [hkn]; exact know_ok h.ok hbk.2.1 ⟨hbd.1.y0, hbd.1.y1⟩, by rw [List.length_append, List.length_singleton]; omega, ?_, hn, h.ngc, h.ngk⟩
  rw [h.rest, show many - L.length = (many - (L ++ [e]).length) + 1 by rw [List.length_append, List.length_singleton]; omega, evsR_go hx hm, hkn, behind_app, List.append_assoc]
  rfl
theorem ItI.start (hek : Ek w) (hg : 1 < n₀) (cod : CodAt w gc (newQ T V Z)) (chk : ChkAt w gk T V Z ps0) (rd : Rd w gr S a 0) (hgl : gr < n₀) (box : w.heap[b3]? = some (.cells #[.pointer (some ⟨gr, 0, none⟩)] 63 (0, 0))) (hd : sizeD T V Z = true) (hn : n₀ ≤ w.heap.size) (hR : R = evsR S T V Z many (newQ T V Z) sh0 (a, 0)) (n1 : n₀ ≤ gc) (n2 : n₀ ≤ gk) : ItI n₀ gr gc gk b3 S T V Z R many [] ps0 a w :=
  ⟨hek, hg, cod, chk, rd, hgl, box, atI_0 T V Z [], newQ_ok hd, ⟨Nat.zero_le _, Nat.zero_le _⟩, hR, hn, n1, n2⟩
end
def EvsP (gr : Nat) (S : ByteArray) (R : List Ev × (Nat × Int)) (xs : List Ev) (W : World) : Prop := xs = R.1 ∧ Rd W gr S R.2.1 R.2.2
set_option maxHeartbeats 8000000 in
theorem events_zero (n : Nat) (hn : 3 ≤ n) (l B1 B2 B3 gr n₀ : Nat) (S : ByteArray) (T V Z : Int) (x : Nat × Int) (J : List Ev → World → Prop) (W : World) (hJ : Stays (KcT gr n₀) J) (hrd : Rd W gr S x.1 x.2)
    (b1 : W.heap[B1]? = some (.cells #[.int .i64 T, .int .i64 V, .int .i64 Z, .slice none 0 0] 25 (0, 0))) (b2 : W.heap[B2]? = some (.cells #[.int .i64 0] 3 (0, 0))) (h0 : J [] W) :
    CallsIn Fence.wide n Tryz.prog 103 #[.func (.yield l) #[] #[], .pointer (some ⟨B1, 0, none⟩), .pointer (some ⟨B2, 0, none⟩), .pointer (some ⟨B3, 0, none⟩)] W fun e W' => (∃ v, e = .returned v) ∧ ∃ xs, EvsP gr S ([], x) xs W' ∧ J xs W' := by
  have h1 : 1 ≤ n := by omega
  have HB1 := Lib.hid b1
  have HB2 := Lib.hid b2
  have HF : Hid (∀ w2, Below W.heap.size W w2 → ∃ xs, EvsP gr S ([], x) xs w2 ∧ J xs w2) := fun w2 b => ⟨[], ⟨rfl, rd_more hrd b⟩, hJ _ _ _ h0 (KcT.of_below b)⟩
  have x0 := cell_of_row W B1 0 _ _ _ b1
  have x1 := cell_of_row W B1 1 _ _ _ b1
  have x2 := cell_of_row W B1 2 _ _ _ b1
  simp only [List.getElem?_toArray, List.getElem?_cons_zero, List.getElem?_cons_succ] at x0 x1 x2
  clear b1 b2 h0 hJ hrd
  have hcd : sizeD T V Z = true ∨ sizeD T V Z = false := by cases sizeD T V Z <;> simp
  have hc3 : size13 T V Z = true ∨ size13 T V Z = false := by cases size13 T V Z <;> simp
  rcases hcd with hd | hd <;> rcases hc3 with h3 | h3
  · have HN := Lib.hid (new_yesD T V Z hd W)
    have HC := Lib.hid (fun W2 => newC_yes T V Z h3 W2)
    clear hd h3
    refine callsIn_of_wp Tryz.func103 rfl trivial ?_ rfl
    simp only [Tryz.ntmps103, List.size_toArray, List.length_cons, List.length_nil, Nat.reduceAdd, Nat.reduceSub, Array.replicate_succ, Array.replicate_zero, List.push_toArray, List.append_toArray, List.nil_append, List.cons_append]
    gi_wp2
    refine ⟨trivial, (callsIn_wide.2 HN.out).mono ?_⟩
    rintro _ w1 ⟨rfl, hw1⟩
    have BB : Hid (Below W.heap.size W w1) := by show Below _ _ _; rw [hw1]; exact (Below.refl _ _).alloc (Nat.le_refl _) _
    clear hw1
    have y0 := cell_of_row w1 B1 0 _ _ _ (row_stays HB1.out BB.out)
    have y1 := cell_of_row w1 B1 1 _ _ _ (row_stays HB1.out BB.out)
    have y2 := cell_of_row w1 B1 2 _ _ _ (row_stays HB1.out BB.out)
    simp only [List.getElem?_toArray, List.getElem?_cons_zero, List.getElem?_cons_succ] at y0 y1 y2
    clear x0 x1 x2
    gi_wp2
    refine ⟨trivial, (callsIn_wide.2 (HC.out w1)).mono ?_⟩
    rintro _ w2 ⟨gk, rfl, hk1, hk2, hk3⟩
    have BX : Hid (Below W.heap.size W w2) := BB.out.trans (hk3.mono BB.out.size)
    clear hk1 hk2 hk3
    have z0 := cell_of_row w2 B2 0 _ _ _ (row_stays HB2.out BX.out)
    simp only [List.getElem?_toArray, List.getElem?_cons_zero] at z0
    gi_wp2
    clear z0 y0 y1 y2
    gi_loopw [33] (fun i wr => i = .int .i64 0 ∧ wr = w2) (fun i _ => 0)
    case atStart => exact ⟨rfl, rfl⟩
    case round =>
      obtain ⟨rfl, rfl⟩ := hrel
      gi_wp2
      go_end0
      exact ⟨⟨_, rfl⟩, HF.out _ BX.out⟩
  · have HN := Lib.hid (new_yesD T V Z hd W)
    have HC := Lib.hid (fun W2 => newC_no T V Z h3 W2)
    clear hd h3
    refine callsIn_of_wp Tryz.func103 rfl trivial ?_ rfl
    simp only [Tryz.ntmps103, List.size_toArray, List.length_cons, List.length_nil, Nat.reduceAdd, Nat.reduceSub, Array.replicate_succ, Array.replicate_zero, List.push_toArray, List.append_toArray, List.nil_append, List.cons_append]
    gi_wp2
    refine ⟨trivial, (callsIn_wide.2 HN.out).mono ?_⟩
    rintro _ w1 ⟨rfl, hw1⟩
    have BB : Hid (Below W.heap.size W w1) := by show Below _ _ _; rw [hw1]; exact (Below.refl _ _).alloc (Nat.le_refl _) _
    clear hw1
    have y0 := cell_of_row w1 B1 0 _ _ _ (row_stays HB1.out BB.out)
    have y1 := cell_of_row w1 B1 1 _ _ _ (row_stays HB1.out BB.out)
    have y2 := cell_of_row w1 B1 2 _ _ _ (row_stays HB1.out BB.out)
    simp only [List.getElem?_toArray, List.getElem?_cons_zero, List.getElem?_cons_succ] at y0 y1 y2
    clear x0 x1 x2
    gi_wp2
    refine ⟨trivial, (callsIn_wide.2 (HC.out w1)).mono ?_⟩
    rintro _ w2 ⟨rfl, rfl⟩
    have BX := BB
    have z0 := cell_of_row w1 B2 0 _ _ _ (row_stays HB2.out BX.out)
    simp only [List.getElem?_toArray, List.getElem?_cons_zero] at z0
    gi_wp2
    clear z0 y0 y1 y2
    gi_loopw [33] (fun i wr => i = .int .i64 0 ∧ wr = w1) (fun i _ => 0)
    case atStart => exact ⟨rfl, rfl⟩
    case round =>
      obtain ⟨rfl, rfl⟩ := hrel
      gi_wp2
      go_end0
      exact ⟨⟨_, rfl⟩, HF.out _ BX.out⟩
  · have HN := Lib.hid (new_noD T V Z hd W)
    have HC := Lib.hid (fun W2 => newC_yes T V Z h3 W2)
    clear hd h3
    refine callsIn_of_wp Tryz.func103 rfl trivial ?_ rfl
    simp only [Tryz.ntmps103, List.size_toArray, List.length_cons, List.length_nil, Nat.reduceAdd, Nat.reduceSub, Array.replicate_succ, Array.replicate_zero, List.push_toArray, List.append_toArray, List.nil_append, List.cons_append]
    gi_wp2
    refine ⟨trivial, (callsIn_wide.2 HN.out).mono ?_⟩
    rintro _ w1 ⟨rfl, rfl⟩
    have BB : Hid (Below W.heap.size W W) := Below.refl _ _
    gi_wp2
    refine ⟨trivial, (callsIn_wide.2 (HC.out W)).mono ?_⟩
    rintro _ w2 ⟨gk, rfl, hk1, hk2, hk3⟩
    have BX : Hid (Below W.heap.size W w2) := BB.out.trans (hk3.mono BB.out.size)
    clear hk1 hk2 hk3
    have z0 := cell_of_row w2 B2 0 _ _ _ (row_stays HB2.out BX.out)
    simp only [List.getElem?_toArray, List.getElem?_cons_zero] at z0
    gi_wp2
    clear z0 x0 x1 x2
    gi_loopw [33] (fun i wr => i = .int .i64 0 ∧ wr = w2) (fun i _ => 0)
    case atStart => exact ⟨rfl, rfl⟩
    case round =>
      obtain ⟨rfl, rfl⟩ := hrel
      gi_wp2
      go_end0
      exact ⟨⟨_, rfl⟩, HF.out _ BX.out⟩
  · have HN := Lib.hid (new_noD T V Z hd W)
    have HC := Lib.hid (fun W2 => newC_no T V Z h3 W2)
    clear hd h3
    refine callsIn_of_wp Tryz.func103 rfl trivial ?_ rfl
    simp only [Tryz.ntmps103, List.size_toArray, List.length_cons, List.length_nil, Nat.reduceAdd, Nat.reduceSub, Array.replicate_succ, Array.replicate_zero, List.push_toArray, List.append_toArray, List.nil_append, List.cons_append]
    gi_wp2
    refine ⟨trivial, (callsIn_wide.2 HN.out).mono ?_⟩
    rintro _ w1 ⟨rfl, rfl⟩
    have BB : Hid (Below W.heap.size W W) := Below.refl _ _
    gi_wp2
    refine ⟨trivial, (callsIn_wide.2 (HC.out W)).mono ?_⟩
    rintro _ w2 ⟨rfl, rfl⟩
    have BX := BB
    have z0 := cell_of_row W B2 0 _ _ _ (row_stays HB2.out BX.out)
    simp only [List.getElem?_toArray, List.getElem?_cons_zero] at z0
    gi_wp2
    clear z0 x0 x1 x2
    gi_loopw [33] (fun i wr => i = .int .i64 0 ∧ wr = W) (fun i _ => 0)
    case atStart => exact ⟨rfl, rfl⟩
    case round =>
      obtain ⟨rfl, rfl⟩ := hrel
      gi_wp2
      go_end0
      exact ⟨⟨_, rfl⟩, HF.out _ BX.out⟩
set_option maxHeartbeats 8000000 in
theorem events_some (n : Nat) (hn : 3 ≤ n) (l B1 B2 B3 n₀ gr : Nat) (S : ByteArray) (T V Z : Int) (many a : Nat) (R : List Ev × (Nat × Int)) (hm : 0 < many ∧ many ≤ 1048576) (hd : sizeD T V Z = true) (hR : R = evsR S T V Z many (newQ T V Z) sh0 (a, 0)) (J : List Ev → World → Prop) (W : World)
    (hY : ∀ pre e W1, J pre W1 → pre.length < S.size → YieldAt Fence.wide (n - 1) Tryz.prog l (encE e) W1 fun r W' => r = .returned (.bool true) ∧ J (pre ++ [e]) W' ∧ KR n₀ W1 W')
    (hJ : Stays (KcT gr n₀) J) (hrd : Rd W gr S a 0) (hgl : gr < n₀) (hn₀ : n₀ ≤ W.heap.size) (hek : Ek W) (hg : 1 < n₀)
    (b1 : W.heap[B1]? = some (.cells #[.int .i64 T, .int .i64 V, .int .i64 Z, .slice none 0 0] 25 (0, 0))) (b2 : W.heap[B2]? = some (.cells #[.int .i64 many] 3 (0, 0))) (b3 : W.heap[B3]? = some (.cells #[.pointer (some ⟨gr, 0, none⟩)] 63 (0, 0))) (h0 : J [] W) :
    CallsIn Fence.wide n Tryz.prog 103 #[.func (.yield l) #[] #[], .pointer (some ⟨B1, 0, none⟩), .pointer (some ⟨B2, 0, none⟩), .pointer (some ⟨B3, 0, none⟩)] W fun e W' => (∃ v, e = .returned v) ∧ ∃ xs, EvsP gr S R xs W' ∧ J xs W' := by
  have h1 : 1 ≤ n := by omega
  have h3 : size13 T V Z = true := by
    simp only [sizeD, Bool.and_eq_true, decide_eq_true_eq] at hd
    simp only [size13, Bool.and_eq_true, decide_eq_true_eq]
    omega
  have HN := Lib.hid (new_yesD T V Z hd W)
  have HC := Lib.hid (fun W2 => newC_yes T V Z h3 W2)
  have HY := Lib.hid hY
  have HJ := Lib.hid hJ
  have HB1 := Lib.hid b1
  have HB2 := Lib.hid b2
  have HB3 := Lib.hid b3
  have H0 := Lib.hid h0
  have HRD := Lib.hid hrd
  have HEK := Lib.hid hek
  have HD := Lib.hid hd
  have HR := Lib.hid hR
  have x0 := cell_of_row W B1 0 _ _ _ b1
  have x1 := cell_of_row W B1 1 _ _ _ b1
  have x2 := cell_of_row W B1 2 _ _ _ b1
  simp only [List.getElem?_toArray, List.getElem?_cons_zero, List.getElem?_cons_succ] at x0 x1 x2
  have HGL : Hid ((gr < n₀ ∧ 1 < n₀) ∧ n₀ ≤ W.heap.size) := ⟨⟨hgl, hg⟩, hn₀⟩
  clear b1 b2 b3 h0 hJ hrd hY hek hgl hg hn₀ hd hR h3
  refine callsIn_of_wp Tryz.func103 rfl trivial ?_ rfl
  simp only [Tryz.ntmps103, List.size_toArray, List.length_cons, List.length_nil, Nat.reduceAdd, Nat.reduceSub, Array.replicate_succ, Array.replicate_zero, List.push_toArray, List.append_toArray, List.nil_append, List.cons_append]
  gi_wp2
  refine ⟨trivial, (callsIn_wide.2 HN.out).mono ?_⟩
  rintro _ w1 ⟨rfl, hw1⟩
  have bb1 : Below W.heap.size W w1 := by rw [hw1]; exact (Below.refl _ _).alloc (Nat.le_refl _) _
  have cc1 : CodAt w1 W.heap.size (newQ T V Z) := by rw [hw1]; exact heap_alloc_new W _
  obtain ⟨gc, hgc⟩ : ∃ g, g = W.heap.size := ⟨_, rfl⟩
  have C1 : Hid (CodAt w1 gc (newQ T V Z)) := by rw [hgc]; exact cc1
  have BB1 := Lib.hid bb1
  have NGC : Hid (n₀ ≤ gc) := by show _ ≤ _; rw [hgc]; exact HGL.out.2
  rw [← hgc]
  clear hw1 bb1 cc1 hgc x0 x1 x2
  have y0 := cell_of_row w1 B1 0 _ _ _ (row_stays HB1.out BB1.out)
  have y1 := cell_of_row w1 B1 1 _ _ _ (row_stays HB1.out BB1.out)
  have y2 := cell_of_row w1 B1 2 _ _ _ (row_stays HB1.out BB1.out)
  simp only [List.getElem?_toArray, List.getElem?_cons_zero, List.getElem?_cons_succ] at y0 y1 y2
  gi_wp2
  refine ⟨trivial, (callsIn_wide.2 (HC.out w1)).mono ?_⟩
  rintro _ w2 ⟨gk, rfl, hk1, hk2, hk3⟩
  have B2' : Hid (Below W.heap.size W w2) := BB1.out.trans (hk3.mono BB1.out.size)
  have I0 : Hid (ItI n₀ gr gc gk B3 S T V Z R many [] ps0 a w2) := ItI.start (HEK.out.below B2'.out) HGL.out.1.2 (C1.out.below hk3) hk1 (rd_more HRD.out B2'.out) HGL.out.1.1 (row_stays HB3.out B2'.out) HD.out (Nat.le_trans HGL.out.2 B2'.out.size) HR.out NGC.out (Nat.le_trans (Nat.le_trans HGL.out.2 BB1.out.size) hk2)
  have J0 : Hid (J [] w2) := HJ.out _ _ _ H0.out (KcT.of_below B2'.out)
  have z0 := cell_of_row w2 B2 0 _ _ _ (row_stays HB2.out B2'.out)
  simp only [List.getElem?_toArray, List.getElem?_cons_zero] at z0
  clear hk1 hk2 hk3 y0 y1 y2 C1 BB1 HEK HRD HB1 HB2 HB3 H0 HC HN
  gi_wp2
  clear z0
  gi_loopw [33] (fun i wr => ∃ (L : List Ev) (p : PS) (a' : Nat), i = .int .i64 L.length ∧ Hid (ItI n₀ gr gc gk B3 S T V Z R many L p a' wr) ∧ Hid (J L wr)) (fun i _ => many - (intOf i).toNat)
  case atStart => exact ⟨[], ps0, a, rfl, I0, J0⟩
  case round =>
    obtain ⟨L, p, a', rfl, hI, hJL⟩ := hrel
    by_cases hlt : L.length < many
    · have i1 : (L.length : Int) < (many : Int) := by omega
      have HAT := Lib.hid (at_any gr S a' 0 wr hI.out.rd)
      have hRD := read_anyD (knM (newQ T V Z) L) hI.out.ok gc gr S a' 0 wr hI.out.cod hI.out.rd
      have hbd := rd_b (knM (newQ T V Z) L) hI.out.ok S a' 0
      have hbk := rd_back hI.out.ok (S := S) (a := a') (wr := 0) hI.out.rd.2.1
      obtain ⟨x, hx⟩ : ∃ x, rdX (knM (newQ T V Z) L) S a' 0 = x := ⟨_, rfl⟩
      unfold ReadP rdV rdQ at hRD
      have HX := Lib.hid hx
      rw [hx] at hRD hbd hbk
      obtain ⟨e, a1, wr1⟩ := x
      simp only at hRD hbd hbk
      have HBK := Lib.hid hbk
      have HBD := Lib.hid hbd
      have xb := cell_of_row wr B3 0 _ _ _ hI.out.box
      simp only [List.getElem?_toArray, List.getElem?_cons_zero] at xb
      clear hx hbd hbk
      by_cases hw1 : wr1 = 0
      rotate_left
      · rw [if_neg hw1, if_neg hw1] at hRD
        have HRD := Lib.hid hRD
        have q0 : (wr1 == 0) = false := beq_eq_false_iff_ne.2 hw1
        have q1 : (wr1 != 0) = true := bne_iff_ne.2 hw1
        have HE : Hid (R = (L, (a1, wr1))) := by
          show R = _
          rw [hI.out.rest, show many - L.length = (many - L.length - 1) + 1 by omega, evsR_bad HX.out hw1, List.append_nil]
        have HV0 : Hid (evV ev0 = .agg #[.int .u8 0, .int .i64 0, .int .i64 0, .int .i64 0, .int .i64 0, .int .i64 0, .int .u8 0]) := rfl
        rw [HV0.out] at HRD
        clear hRD hw1
        gi_wp2
        refine ⟨trivial, (callsIn_wide.2 HAT.out).mono ?_⟩
        rintro _ w4 ⟨rfl, rfl⟩
        gi_wp2
        refine ⟨trivial, (callsIn_wide.2 HRD.out).mono ?_⟩
        rintro _ w5 ⟨rfl, r5, c5, k5⟩
        have R5 := Lib.hid r5
        have J5 : Hid (J L w5) := HJ.out _ _ _ hJL.out (KcT.of_kp hI.out.rd hI.out.cod k5 hI.out.ngc)
        clear r5 c5 k5 xb
        have b6 : Below w5.heap.size w5 (w5.alloc (.cells #[.int .u8 0, .int .i64 0, .int .i64 0, .int .i64 0, .int .i64 0, .int .i64 0, .int .u8 0] 50)) := (Below.refl _ _).alloc (Nat.le_refl _) _
        have R6 := Lib.hid (rd_more R5.out b6)
        have J6 : Hid (J L _) := HJ.out _ _ _ J5.out (KcT.of_below b6)
        clear b6
        gi_wp2
        refine ⟨trivial, ?_⟩
        gi_wp2
        refine ⟨fun _ h => (by cases h), ?_⟩
        gi_wp2
        refine bodyPost_ret (results_none rfl _ _ _) rfl ⟨⟨_, rfl⟩, L, ⟨by rw [HE.out], by rw [HE.out]; exact R6.out⟩, J6.out⟩
      · subst hw1
        rw [if_pos rfl, if_pos rfl] at hRD
        have HRD := Lib.hid hRD
        have HV : Hid (evV e = .agg #[.int .u8 e.kd, .int .i64 e.th, .int .i64 e.tx, .int .i64 e.pl, .int .i64 e.v, .int .i64 e.x, .int .u8 e.why]) := rfl
        rw [HV.out] at HRD
        clear hRD
        gi_wp2
        refine ⟨trivial, (callsIn_wide.2 HAT.out).mono ?_⟩
        rintro _ w4 ⟨rfl, rfl⟩
        gi_wp2
        refine ⟨trivial, (callsIn_wide.2 HRD.out).mono ?_⟩
        rintro _ w5 ⟨rfl, r5, c5, k5⟩
        have nk1 : gk ≠ gr := Obj.unlike (w := wr) (g := gk) (t := 161) hI.out.chk hI.out.rd.1 (by decide)
        have nk2 : gk ≠ gc := Obj.unlike (w := wr) (g := gk) (t := 161) (g' := gc) (t' := 102) hI.out.chk hI.out.cod (by decide)
        have nb1 : B3 ≠ gr := Obj.unlike (w := wr) (g := B3) (t := 63) hI.out.box hI.out.rd.1 (by decide)
        have nb2 : B3 ≠ gc := Obj.unlike (w := wr) (g := B3) (t := 63) (g' := gc) (t' := 102) hI.out.box hI.out.cod (by decide)
        have h5k : ChkAt w5 gk T V Z p := (k5.block gk hI.out.chk.lt nk1 (fun x => nk2 (Option.some.inj x))).trans hI.out.chk
        have h5b : w5.heap[B3]? = some (.cells #[.pointer (some ⟨gr, 0, none⟩)] 63 (0, 0)) := (k5.block B3 (Array.getElem?_eq_some_iff.1 hI.out.box).1 nb1 (fun x => nb2 (Option.some.inj x))).trans hI.out.box
        have h5e := ek_kp hI.out.ek hI.out.rd hI.out.cod k5
        have h5j := HJ.out _ _ _ hJL.out (KcT.of_kp hI.out.rd hI.out.cod k5 hI.out.ngc)
        obtain ⟨w6, hw6⟩ : ∃ w6, w5.alloc (.cells #[.int .u8 e.kd, .int .i64 e.th, .int .i64 e.tx, .int .i64 e.pl, .int .i64 e.v, .int .i64 e.x, .int .u8 e.why] 50) = w6 := ⟨_, rfl⟩
        have b6 : Below w5.heap.size w5 w6 := by rw [← hw6]; exact (Below.refl _ _).alloc (Nat.le_refl _) _
        have e6 : EvO w6 w5.heap.size e := by rw [← hw6]; exact heap_alloc_new w5 _
        obtain ⟨gx, hgx⟩ : ∃ g, g = w5.heap.size := ⟨_, rfl⟩
        rw [← hgx] at e6
        have HGX := Lib.hid hgx
        have HW6 := Lib.hid hw6
        have R6 := Lib.hid (rd_more r5 b6)
        have C6 := Lib.hid (c5.below b6)
        have K6 := Lib.hid (h5k.below b6 h5k.lt)
        have X6 := Lib.hid (row_stays h5b b6)
        have E6 := Lib.hid (h5e.below b6)
        have V6 := Lib.hid e6
        have J6 : Hid (J L w6) := HJ.out _ _ _ h5j (KcT.of_below b6)
        have N6 : Hid (n₀ ≤ w6.heap.size) := Nat.le_trans hI.out.nn (Nat.le_trans k5.size b6.size)
        have hNX := nextC_any (p := p) (e := e) K6.out hI.out.at'.ok (by rw [hI.out.at'.came]; omega) HBD.out.1 E6.out
        have hmore := atI_more (e := e) hI.out.at' (by omega)
        obtain ⟨p2, hp2⟩ : ∃ p2, p2 = nxP p (nxO T V Z p e) := ⟨_, rfl⟩
        rw [← hp2] at hNX hmore
        obtain ⟨y0, y1, y2, y3, y4, y5, y6⟩ := evsix V6.out
        clear r5 c5 k5 nk1 nk2 nb1 nb2 h5k h5b h5e h5j hw6 b6 e6 hgx xb hp2
        rcases hmore with ⟨h0, hmy, hat⟩ | ⟨h0, hmy⟩
        · rw [h0, HV.out] at hNX
          have HNX := Lib.hid hNX
          have HMY := Lib.hid hmy
          have HATI := Lib.hid hat
          clear hNX h0 hmy hat
          gi_wp2
          rw [HW6.out, ← HGX.out]
          gi_wp2
          refine ⟨trivial, (callsIn_wide.2 HNX.out).mono ?_⟩
          rintro _ w7 ⟨rfl, hu⟩
          have nk1 : gk ≠ gr := Obj.unlike (w := w6) (g := gk) (t := 161) K6.out R6.out.1 (by decide)
          have nk2 : gk ≠ gc := Obj.unlike (w := w6) (g := gk) (t := 161) (g' := gc) (t' := 102) K6.out C6.out (by decide)
          have nk3 : B3 ≠ gk := Obj.unlike (w := w6) (g := B3) (t := 63) (g' := gk) (t' := 161) X6.out K6.out (by decide)
          have nk4 : gx ≠ gk := Obj.unlike (w := w6) (g := gx) (t := 50) (g' := gk) (t' := 161) V6.out K6.out (by decide)
          have R7 : Hid (Rd w7 gr S a1 0) := ⟨(hu.far gr R6.out.1.lt (Ne.symm nk1)).trans R6.out.1, R6.out.2⟩
          have C7 : Hid (CodAt w7 gc (knowQ (knM (newQ T V Z) L) e)) := (hu.far gc C6.out.lt (Ne.symm nk2)).trans C6.out
          have X7 : Hid (w7.heap[B3]? = some (.cells #[.pointer (some ⟨gr, 0, none⟩)] 63 (0, 0))) := (hu.far B3 (Array.getElem?_eq_some_iff.1 X6.out).1 nk3).trans X6.out
          have V7 : Hid (EvO w7 gx e) := (hu.far gx V6.out.lt nk4).trans V6.out
          have E7 := Lib.hid (ek_upd E6.out K6.out hu)
          have K7 := Lib.hid hu.at'
          have J7 : Hid (J L w7) := HJ.out _ _ _ J6.out (KcT.of_upd K6.out hu hI.out.ngk)
          have N7 : Hid (n₀ ≤ w7.heap.size) := Nat.le_trans N6.out hu.size
          clear nk1 nk2 nk3 nk4 hu R6 C6 X6 V6 E6 K6 J6 N6 y0 y1 y2 y3 y4 y5 y6
          obtain ⟨y0, y1, y2, y3, y4, y5, y6⟩ := evsix V7.out
          have hbk := HBK.out trivial
          have hsm := evB_small hI.out.ok hbk.2.1
          have hsg := hbk.2.2.1
          have hle := hbk.2.2.2.1
          have hll := hI.out.le.1
          have INX : Hid (ItI n₀ gr gc gk B3 S T V Z R many (L ++ [e]) p2 a1 w7) := hI.out.next hlt HX.out HMY.out N7.out E7.out C7.out K7.out R7.out X7.out HATI.out
          obtain ⟨fn5, tmps5, assign5, body5, hy5, hR5⟩ := HY.out L e w7 J7.out (by omega)
          dsimp only [encE] at hy5
          rw [HV.out] at hy5
          have HR5 := Lib.hid hR5
          clear hR5 hbk hsm hsg hle hll
          gi_wp2
          refine HR5.out.mono ?_
          rintro r8 W8 ⟨rfl, hJ8, hk8⟩
          have J8 := Lib.hid hJ8
          have I8 := Lib.hid (INX.out.round hk8)
          clear hJ8 hk8 HR5 y0 y1 y2 y3 y4 y5 y6 hy5
          gi_wp2
          go_roundw
          case rel => exact ⟨L ++ [e], p2, a1, by rw [List.length_append, List.length_singleton]; go_num, I8, J8⟩
          case measure => simp [intOf]; omega
        · rw [h0, HV.out] at hNX
          have HNX := Lib.hid hNX
          have HMY := Lib.hid hmy
          have HE : Hid (R = (L, (a', 4))) := by
            show R = _
            rw [hI.out.rest, show many - L.length = (many - L.length - 1) + 1 by omega, evsR_not HX.out hmy, List.append_nil]
          clear hNX h0 hmy
          gi_wp2
          rw [HW6.out, ← HGX.out]
          gi_wp2
          refine ⟨trivial, (callsIn_wide.2 HNX.out).mono ?_⟩
          rintro _ w7 ⟨rfl, hu⟩
          have nk1 : gk ≠ gr := Obj.unlike (w := w6) (g := gk) (t := 161) K6.out R6.out.1 (by decide)
          have nk2 : gk ≠ gc := Obj.unlike (w := w6) (g := gk) (t := 161) (g' := gc) (t' := 102) K6.out C6.out (by decide)
          have nk3 : B3 ≠ gk := Obj.unlike (w := w6) (g := B3) (t := 63) (g' := gk) (t' := 161) X6.out K6.out (by decide)
          have nk4 : gx ≠ gk := Obj.unlike (w := w6) (g := gx) (t := 50) (g' := gk) (t' := 161) V6.out K6.out (by decide)
          have R7 : Hid (Rd w7 gr S a1 0) := ⟨(hu.far gr R6.out.1.lt (Ne.symm nk1)).trans R6.out.1, R6.out.2⟩
          have C7 : Hid (CodAt w7 gc (knowQ (knM (newQ T V Z) L) e)) := (hu.far gc C6.out.lt (Ne.symm nk2)).trans C6.out
          have X7 : Hid (w7.heap[B3]? = some (.cells #[.pointer (some ⟨gr, 0, none⟩)] 63 (0, 0))) := (hu.far B3 (Array.getElem?_eq_some_iff.1 X6.out).1 nk3).trans X6.out
          have V7 : Hid (EvO w7 gx e) := (hu.far gx V6.out.lt nk4).trans V6.out
          have E7 := Lib.hid (ek_upd E6.out K6.out hu)
          have K7 := Lib.hid hu.at'
          have J7 : Hid (J L w7) := HJ.out _ _ _ J6.out (KcT.of_upd K6.out hu hI.out.ngk)
          have N7 : Hid (n₀ ≤ w7.heap.size) := Nat.le_trans N6.out hu.size
          clear nk1 nk2 nk3 nk4 hu R6 C6 X6 V6 E6 K6 J6 N6 y0 y1 y2 y3 y4 y5 y6
          obtain ⟨y0, y1, y2, y3, y4, y5, y6⟩ := evsix V7.out
          have hbk := HBK.out trivial
          have hsg := hbk.2.2.1
          have hF := rFail_any a' 4 gr S a1 0 w7 R7.out
          have e1 : rFail a' 4 a1 0 = (4, a', 4) := by
            unfold rFail
            rw [if_pos rfl, if_neg (by omega)]
            simp
          rw [e1] at hF
          have HF := Lib.hid hF
          have xb := cell_of_row w7 B3 0 _ _ _ X7.out
          simp only [List.getElem?_toArray, List.getElem?_cons_zero] at xb
          clear hbk hsg hF e1
          gi_wp2
          refine ⟨trivial, (callsIn_wide.2 HF.out).mono ?_⟩
          rintro _ w8 ⟨rfl, g1, g2⟩
          have R8 := Lib.hid g1
          have J8 : Hid (J L w8) := HJ.out _ _ _ J7.out (KcT.of_rd R7.out g2)
          clear g1 g2 xb y0 y1 y2 y3 y4 y5 y6
          gi_wp2
          refine ⟨fun _ h => (by cases h), ?_⟩
          gi_wp2
          exact bodyPost_ret (results_none rfl _ _ _) rfl ⟨⟨_, rfl⟩, L, ⟨by rw [HE.out], by rw [HE.out]; exact R8.out⟩, J8.out⟩
    · have hL : L.length = many := by have := hI.out.le.2; omega
      have i1 : ¬ (L.length : Int) < (many : Int) := by omega
      have HE : Hid (R = (L, (a', 0))) := by
        show R = _
        rw [hI.out.rest, show many - L.length = 0 by omega]
        show (L ++ [], (a', (0 : Int))) = _
        rw [List.append_nil]
      gi_wp2
      go_end0
      exact ⟨⟨_, rfl⟩, L, ⟨by rw [HE.out], by rw [HE.out]; exact hI.out.rd⟩, hJL.out⟩
end Go.Proofs.YteigglhhnemngaaGreatDoor
