/-
  FOR LAYER 15: slices.Equal of events, and CONTRACT of trace.Same. No condition.
-/
import Derived.Test.YteigglhhnemngaaGreatDoorTri
namespace Go.Proofs.YteigglhhnemngaaGreatDoor
set_option maxRecDepth 100000
open Go.RowKit Go.Deep
set_option linter.unusedVariables false
set_option linter.unusedSimpArgs false
noncomputable def rgEq_ops : Array Oper := opsW Tryz.f36 6
def rgEq_ds : List Nat := [16, 17, 18, 19, 20, 21, 22, 23, 24]
def rgEq_vs (a0 b0 : Addr) (n c m d i : Nat) (e f : Ev) : List Value := [.slice (some a0) n c, .int .i64 (i : Int), .pointer (some (a0.add (i * 7))), evV e, .slice (some b0) m d, .int .i64 (i : Int), .pointer (some (b0.add (i * 7))), evV f, .bool (!decide (e = f))]
set_option maxRecDepth 100000 in
set_option maxHeartbeats 4000000 in
theorem rgEq {id : Nat} {ops : Array Oper} (hops : ops = rgEq_ops) (T0 : Array Value) (hsz : 26 ≤ T0.size) (W : World) (a0 b0 : Addr) (n c m d i : Nat) (e f : Ev) (hi : i < n) (hj : i < m) (hA : EvAt W (a0.add (i * 7)) e) (hB : EvAt W (b0.add (i * 7)) f) (ha0 : a0.block < W.heap.size) (hb0 : b0.block < W.heap.size)
    (t0 : T0[0]? = some (.slice (some a0) n c)) (t1 : T0[1]? = some (.slice (some b0) m d)) (t5 : T0[5]? = some (.int .i64 (i : Int))) {Q : Exit → Act → World → Prop}
    (hend : ∀ (w : World), Below W.heap.size W w → Q .normal ⟨putAll T0 rgEq_ds (rgEq_vs a0 b0 n c m d i e f), []⟩ w) : (Code.region id ops true).wp Tryz.prog Q ⟨T0, []⟩ W := by
  subst hops
  have hos : rgEq_ops.size = 9 := by kernel_rfl
  have hga : (List.range 9).all (fun i => match rgEq_ops[i]? with | some o => o.guard == none | none => false) = true := by kernel_rfl
  refine wp_region_valsJ (fun _ w => Below W.heap.size W w) (rgEq_vs a0 b0 n c m d i e f) rgEq_ds W T0 rfl (by decide) (fun x hx => ?_) (by kernel_rfl) (by kernel_rfl) (fun i o j want ho hg => ?_) ((Below.refl _ _).drew) ?_ (fun w h => hend w h)
  · have hall : (rgEq_ds.all fun d => decide (d < 26)) = true := by decide
    have := List.all_eq_true.1 hall x hx
    simp only [decide_eq_true_eq] at this
    omega
  · have hi : i < 9 := by rw [← hos]; exact (Array.getElem?_eq_some_iff.1 ho).1
    have h1 := List.all_eq_true.1 hga i (by simpa using hi)
    rw [ho] at h1
    simp only [hg, beq_iff_eq] at h1
    cases h1
  · intro j o ho hj' don a w hT hR hdi hb K hK
    have hT0 : ∀ t v, t ∉ rgEq_ds → T0[t]? = some v → a.tmps[t]?.getD undef = v := fun t v ht hv => by rw [hT t ht, hv]; rfl
    have hU : ∀ l, (reachT rgEq_ops 9 j).contains l = true → a.tmps[rgEq_ds.getD l 0]?.getD undef = (rgEq_vs a0 b0 n c m d i e f).getD l undef := fun l hl => (hR l (by simpa using hl)).2
    match j, hj' with
    | 0, _ => exact v_move 0 (opAtW ho (by kernel_rfl)) (hT0 0 _ (by decide) t0) (hK w hb)
    | 1, _ => exact v_move 5 (opAtW ho (by kernel_rfl)) (hT0 5 _ (by decide) t5) (hK w hb)
    | 2, _ => exact b_indexE 16 17 hi (opAtW ho (by kernel_rfl)) (hU 0 (by kernel_rfl)) (hU 1 (by kernel_rfl)) (hK w hb)
    | 3, _ => exact b_loadE 18 (opAtW ho (by kernel_rfl)) (hU 2 (by kernel_rfl)) (hA.below hb (by rw [add_blockO]; exact ha0)) (hK w hb)
    | 4, _ => exact v_move 1 (opAtW ho (by kernel_rfl)) (hT0 1 _ (by decide) t1) (hK w hb)
    | 5, _ => exact v_move 5 (opAtW ho (by kernel_rfl)) (hT0 5 _ (by decide) t5) (hK w hb)
    | 6, _ => exact b_indexE 20 21 hj (opAtW ho (by kernel_rfl)) (hU 4 (by kernel_rfl)) (hU 5 (by kernel_rfl)) (hK w hb)
    | 7, _ => exact b_loadE 22 (opAtW ho (by kernel_rfl)) (hU 6 (by kernel_rfl)) (hB.below hb (by rw [add_blockO]; exact hb0)) (hK w hb)
    | 8, _ => exact w_neqEv 19 23 (opAtW ho (by kernel_rfl)) (hU 3 (by kernel_rfl)) (hU 7 (by kernel_rfl)) (neq_ev e f) (hK w hb)
    | j + 9, h => exact absurd (show j + 9 < 9 from h) (by omega)
set_option maxHeartbeats 4000000 in
theorem equal_any (A : Option Addr) (L : List Ev) (c : Nat) (B : Option Addr) (M : List Ev) (d : Nat) (w : World) (hA : EvsAt w w.heap.size A L) (hB : EvsAt w w.heap.size B M) (hl : L.length ≤ 4611686018427387904) :
    Calls Tryz.prog 36 #[.slice A L.length c, .slice B M.length d] w fun r w' => r = .returned (.bool (decide (L = M))) ∧ Below w.heap.size w w' := by
  obtain ⟨R, hR⟩ : ∃ R, R = decide (L = M) := ⟨_, rfl⟩
  rw [← hR]
  have HR := Lib.hid hR
  have EA := Lib.hid hA
  have EB := Lib.hid hB
  obtain ⟨n, hn⟩ : ∃ n, n = L.length := ⟨_, rfl⟩
  obtain ⟨m, hm⟩ : ∃ n, n = M.length := ⟨_, rfl⟩
  have HN := Lib.hid hn
  have HM := Lib.hid hm
  rw [← hn] at hl ⊢
  rw [← hm]
  clear hA hB hR hn hm
  have HNO : Hid (∀ h : ¬ (L = M), R = false) := fun h => by rw [HR.out]; exact decide_eq_false h
  by_cases hq : (n : Int) = (m : Int)
  rotate_left
  · have q : ((n : Int) != (m : Int)) = true := bne_iff_ne.2 hq
    obtain rfl := HNO.out (fun h => hq (by rw [HN.out, HM.out, h]))
    clear hq
    go_enter Tryz.func36, Tryz.ntmps36
    go_wp2_with fail
    go_ret
    exact ⟨rfl, Below.refl _ _⟩
  have hnm : n = m := by omega
  subst hnm
  clear hq
  have q4 : ((n : Int) != (n : Int)) = false := by simp
  go_enter Tryz.func36, Tryz.ntmps36
  go_wp2_with fail
  clear q4
  go_loopw [13] (fun iv wr => ∃ k : Nat, k ≤ n ∧ iv = .int .i64 k ∧ Hid (∀ j, j < k → nthE L j = nthE M j) ∧ Hid (Below w.heap.size w wr)) (fun iv _ => n - (intOf iv).toNat)
  case atStart => exact ⟨0, by omega, rfl, fun j hj => absurd hj (by omega), Below.refl _ _⟩
  case round =>
    obtain ⟨k, hk, rfl, hE, hB⟩ := hrel
    by_cases hkn : k < n
    · obtain ⟨a0, rfl, ha0, hev⟩ := EA.out k (by rw [← HN.out]; exact hkn)
      obtain ⟨b0, rfl, hb0, hfv⟩ := EB.out k (by rw [← HM.out]; exact hkn)
      have hev := hev.below hB.out (by rw [add_blockO]; exact ha0)
      have hfv := hfv.below hB.out (by rw [add_blockO]; exact hb0)
      have i1 : (k : Int) < (n : Int) := by omega
      have ha1 := Nat.lt_of_lt_of_le ha0 hB.out.size
      have hb1 := Nat.lt_of_lt_of_le hb0 hB.out.size
      have HA1 := Lib.hid ha1
      have HB1 := Lib.hid hb1
      have HE1 := Lib.hid hev
      have HF1 := Lib.hid hfv
      clear ha0 hb0 ha1 hb1 hev hfv
      go_wp2_with fail
      refine rgEq rfl _ (by simp) _ a0 b0 n c n d k (nthE L k) (nthE M k) hkn hkn HE1.out HF1.out HA1.out HB1.out rfl rfl rfl ?_
      intro w8 b8
      simp only [rgEq_ds, rgEq_vs, putAll, List.setIfInBounds_toArray, List.set_cons_succ, List.set_cons_zero]
      have B8 := Lib.hid (hB.out.trans (b8.mono hB.out.size))
      clear b8
      by_cases hee : nthE L k = nthE M k
      · rw [decide_eq_true hee]
        have HE2 : Hid (∀ j, j < k + 1 → nthE L j = nthE M j) := fun j hj => by
          by_cases hjk : j = k
          · rw [hjk]; exact hee
          · exact hE.out j (by omega)
        clear hee
        go_wp2_with fail
        refine ⟨?_, ?measure⟩
        · exact ⟨k + 1, by omega, by go_num, HE2, B8⟩
        case measure => simp [intOf]; omega
      · rw [decide_eq_false hee]
        obtain rfl := HNO.out (fun h => hee (by rw [h]))
        clear hee
        go_wp2_with fail
        go_ret
        exact ⟨rfl, B8.out⟩
    · obtain rfl : k = n := by omega
      have hLM : L = M := by
        apply List.ext_getElem?
        intro j
        by_cases hj : j < k
        · rw [nthE_of (by rw [← HN.out]; exact hj), nthE_of (by rw [← HM.out]; exact hj), hE.out j hj]
        · rw [List.getElem?_eq_none (by rw [← HN.out]; omega), List.getElem?_eq_none (by rw [← HM.out]; omega)]
      have hRt : R = true := by rw [HR.out]; exact decide_eq_true hLM
      subst hRt
      clear hLM hkn
      go_wp2_with fail
      go_ret
      exact ⟨rfl, hB.out⟩
set_option maxHeartbeats 4000000 in
theorem like_any (T V S : Int) (A : Option Addr) (L : List Ev) (c : Nat) (T' V' S' : Int) (B : Option Addr) (M : List Ev) (d : Nat) (w : World) (hA : EvsAt w w.heap.size A L) (hB : EvsAt w w.heap.size B M) (hl : L.length ≤ 4611686018427387904) :
    Calls Tryz.prog 17 #[trV T V S A L.length c, trV T' V' S' B M.length d] w fun r w' => r = .returned (.bool (sameT T V S L T' V' S' M)) ∧ Below w.heap.size w w' := by
  obtain ⟨wa, hwa⟩ : ∃ W, w.alloc (.cells #[.int .i64 T, .int .i64 V, .int .i64 S, .slice A L.length c] 25) = W := ⟨_, rfl⟩
  obtain ⟨wb, hwb⟩ : ∃ W, wa.alloc (.cells #[.int .i64 T', .int .i64 V', .int .i64 S', .slice B M.length d] 25) = W := ⟨_, rfl⟩
  have ba : Below w.heap.size w wa := by rw [← hwa]; exact (Below.refl _ _).alloc (Nat.le_refl _) _
  have bb : Below wa.heap.size wa wb := by rw [← hwb]; exact (Below.refl _ _).alloc (Nat.le_refl _) _
  have ra : wb.heap[w.heap.size]? = some (.cells #[.int .i64 T, .int .i64 V, .int .i64 S, .slice A L.length c] 25 (0, 0)) := row_stays (by rw [← hwa]; exact heap_alloc_new w _) bb
  have rb : wb.heap[wa.heap.size]? = some (.cells #[.int .i64 T', .int .i64 V', .int .i64 S', .slice B M.length d] 25 (0, 0)) := by rw [← hwb]; exact heap_alloc_new wa _
  have BB : Hid (Below w.heap.size w wb) := ba.trans (bb.mono ba.size)
  have EA := Lib.hid ((hA.below BB.out (Nat.le_refl _)).mono BB.out.size)
  have EB := Lib.hid ((hB.below BB.out (Nat.le_refl _)).mono BB.out.size)
  rw [← hwa] at hwb
  have HW := Lib.hid hwb
  obtain ⟨g2, hg2⟩ : ∃ g, g = w.heap.size := ⟨_, rfl⟩
  obtain ⟨g3, hg3⟩ : ∃ g, g = wa.heap.size := ⟨_, rfl⟩
  have h32 : g3 = g2 + 1 := by rw [hg3, ← hwa, hg2]; simp
  rw [← hg2] at ra
  rw [← hg3] at rb
  obtain ⟨R, hR⟩ : ∃ R, R = sameT T V S L T' V' S' M := ⟨_, rfl⟩
  rw [← hR]
  have HR := Lib.hid hR
  have HG2 := Lib.hid hg2
  have HG3 := Lib.hid h32
  have x0 := cell_of_row wb g2 0 _ _ _ ra
  have x1 := cell_of_row wb g2 1 _ _ _ ra
  have x2 := cell_of_row wb g2 2 _ _ _ ra
  have x3 := cell_of_row wb g2 3 _ _ _ ra
  have y0 := cell_of_row wb g3 0 _ _ _ rb
  have y1 := cell_of_row wb g3 1 _ _ _ rb
  have y2 := cell_of_row wb g3 2 _ _ _ rb
  have y3 := cell_of_row wb g3 3 _ _ _ rb
  simp only [List.getElem?_toArray, List.getElem?_cons_zero, List.getElem?_cons_succ] at x0 x1 x2 x3 y0 y1 y2 y3
  have HEQ := Lib.hid (equal_any A L c B M d wb EA.out EB.out hl)
  obtain ⟨n, hn⟩ : ∃ n, n = L.length := ⟨_, rfl⟩
  obtain ⟨m, hm⟩ : ∃ n, n = M.length := ⟨_, rfl⟩
  rw [← hn] at hl x3 HW HEQ ⊢
  rw [← hm] at y3 HW HEQ ⊢
  unfold trV
  clear hA hB hwa hwb ba bb ra rb hg2 hg3 h32 hR hn hm
  have hno : ∀ h : ¬ (T = T' ∧ V = V' ∧ S = S' ∧ L = M), R = false := fun h => by rw [HR.out]; exact decide_eq_false h
  have HNO := Lib.hid hno
  clear hno
  by_cases hq : T = T'
  rotate_left
  · have q2 : (T == T') = false := beq_eq_false_iff_ne.2 hq
    obtain rfl := HNO.out (fun h => hq h.1)
    clear hq
    go_enter Tryz.func17, Tryz.ntmps17
    go_wp2_with fail
    rw [HW.out, ← HG2.out, ← HG3.out]
    go_wp2_with fail
    go_ret
    exact ⟨rfl, by rw [HG2.out]; exact BB.out⟩
  subst hq
  by_cases hq : V = V'
  rotate_left
  · have q2 : (V == V') = false := beq_eq_false_iff_ne.2 hq
    obtain rfl := HNO.out (fun h => hq h.2.1)
    clear hq
    go_enter Tryz.func17, Tryz.ntmps17
    go_wp2_with fail
    rw [HW.out, ← HG2.out, ← HG3.out]
    go_wp2_with fail
    go_ret
    exact ⟨rfl, by rw [HG2.out]; exact BB.out⟩
  subst hq
  by_cases hq : S = S'
  rotate_left
  · have q2 : (S == S') = false := beq_eq_false_iff_ne.2 hq
    obtain rfl := HNO.out (fun h => hq h.2.2.1)
    clear hq
    go_enter Tryz.func17, Tryz.ntmps17
    go_wp2_with fail
    rw [HW.out, ← HG2.out, ← HG3.out]
    go_wp2_with fail
    go_ret
    exact ⟨rfl, by rw [HG2.out]; exact BB.out⟩
  subst hq
  have hLM : decide (L = M) = R := by rw [HR.out]; exact (decide_eq_decide.2 ⟨fun h => ⟨rfl, rfl, rfl, h⟩, fun h => h.2.2.2⟩)
  rw [hLM] at HEQ
  clear hLM
  go_enter Tryz.func17, Tryz.ntmps17
  go_wp2_with fail
  rw [HW.out, ← HG2.out, ← HG3.out]
  go_wp2_with fail
  refine HEQ.out.mono ?_
  rintro _ w5 ⟨rfl, b5⟩
  go_wp2_with fail
  go_ret
  exact ⟨rfl, BB.out.trans (b5.mono BB.out.size)⟩
end Go.Proofs.YteigglhhnemngaaGreatDoor
