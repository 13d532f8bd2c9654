/-
  FOR LAYER 15: whether two traces are the same (the document's own Same, seesawref15). Laid by gen/gen_tri.py. No condition.
-/
import Derived.Test.YteigglhhnemngaaGreatDoorTrh
namespace Go.Proofs.YteigglhhnemngaaGreatDoor
set_option maxRecDepth 100000
open Go.RowKit Go.Deep
set_option linter.unusedVariables false
set_option linter.unusedSimpArgs false
section
variable {a : Act} {w : World} {K : Act → World → Prop} {Q : Exit → Act → World → Prop} {o : Oper}
theorem w_neqEv (x y : Nat) {a0 a1 a2 a3 a4 a5 a6 b0 b1 b2 b3 b4 b5 b6 : Int} {r : Bool} (ho : o.op = .binOp .neq 50 (.tmp x) (.tmp y) 50) (hx : a.tmps[x]?.getD undef = .agg #[.int .u8 a0, .int .i64 a1, .int .i64 a2, .int .i64 a3, .int .i64 a4, .int .i64 a5, .int .u8 a6]) (hy : a.tmps[y]?.getD undef = .agg #[.int .u8 b0, .int .i64 b1, .int .i64 b2, .int .i64 b3, .int .i64 b4, .int .i64 b5, .int .u8 b6]) (hr : (!(a0 == b0 && (a1 == b1 && (a2 == b2 && (a3 == b3 && (a4 == b4 && (a5 == b5 && a6 == b6))))))) = r) (hK : K (a.put o.dst (.bool r)) w) : Oper.wp Tryz.prog o a w K Q := by
  obtain ⟨dst, op, type, pos, after, guard⟩ := o
  have ho' : op = _ := ho
  subst ho'
  clear ho
  subst hr
  by_cases h0 : a0 = b0
  · by_cases h1 : a1 = b1
    · by_cases h2 : a2 = b2
      · by_cases h3 : a3 = b3
        · by_cases h4 : a4 = b4
          · by_cases h5 : a5 = b5
            · by_cases h6 : a6 = b6
              · subst h0 h1 h2 h3 h4 h5 h6
                simp only [beq_self_eq_true, Bool.and_self, Bool.not_true] at hK
                go_simp
                exact hK
              · subst h0 h1 h2 h3 h4 h5
                have q : (a6 == b6) = false := beq_eq_false_iff_ne.2 h6
                simp only [q, beq_self_eq_true, Bool.and_false, Bool.not_false] at hK
                go_simp
                exact hK
            · subst h0 h1 h2 h3 h4
              have q : (a5 == b5) = false := beq_eq_false_iff_ne.2 h5
              simp only [q, beq_self_eq_true, Bool.false_and, Bool.and_false, Bool.not_false] at hK
              go_simp
              exact hK
          · subst h0 h1 h2 h3
            have q : (a4 == b4) = false := beq_eq_false_iff_ne.2 h4
            simp only [q, beq_self_eq_true, Bool.false_and, Bool.and_false, Bool.not_false] at hK
            go_simp
            exact hK
        · subst h0 h1 h2
          have q : (a3 == b3) = false := beq_eq_false_iff_ne.2 h3
          simp only [q, beq_self_eq_true, Bool.false_and, Bool.and_false, Bool.not_false] at hK
          go_simp
          exact hK
      · subst h0 h1
        have q : (a2 == b2) = false := beq_eq_false_iff_ne.2 h2
        simp only [q, beq_self_eq_true, Bool.false_and, Bool.and_false, Bool.not_false] at hK
        go_simp
        exact hK
    · subst h0
      have q : (a1 == b1) = false := beq_eq_false_iff_ne.2 h1
      simp only [q, beq_self_eq_true, Bool.false_and, Bool.and_false, Bool.not_false] at hK
      go_simp
      exact hK
  · have q : (a0 == b0) = false := beq_eq_false_iff_ne.2 h0
    simp only [q, Bool.false_and, Bool.not_false] at hK
    go_simp
    exact hK
theorem w_fT3 (x : Nat) {g q : Nat} (ho : o.op = .fieldAddr 25 (.tmp x) 3) (hx : a.tmps[x]?.getD undef = .pointer (some ⟨g, q, none⟩)) (hK : K (a.put o.dst (.pointer (some ⟨g, q + 3, none⟩))) w) : Oper.wp Tryz.prog o a w K Q := by
  obtain ⟨dst, op, type, pos, after, guard⟩ := o
  have ho' : op = _ := ho
  subst ho'
  clear ho
  go_simp
  exact hK
theorem w_loadS (x : Nat) {g q : Nat} {v : Value} (ho : o.op = .load 23 (.tmp x)) (hx : a.tmps[x]?.getD undef = .pointer (some ⟨g, q, none⟩)) (hc : w.cell? ⟨g, q, none⟩ = some v) (hK : K (a.put o.dst v) w) : Oper.wp Tryz.prog o a w K Q := by
  obtain ⟨dst, op, type, pos, after, guard⟩ := o
  have ho' : op = _ := ho
  subst ho'
  clear ho
  go_simp
  exact hK
end
theorem neq_ev (e f : Ev) : (!(e.kd == f.kd && (e.th == f.th && (e.tx == f.tx && (e.pl == f.pl && (e.v == f.v && (e.x == f.x && e.why == f.why))))))) = !decide (e = f) := by
  obtain ⟨a0, a1, a2, a3, a4, a5, a6⟩ := e
  obtain ⟨b0, b1, b2, b3, b4, b5, b6⟩ := f
  congr 1
  rw [Bool.eq_iff_iff]
  simp [Ev.mk.injEq]
def sameT (T V S : Int) (L : List Ev) (T' V' S' : Int) (M : List Ev) : Bool := decide (T = T' ∧ V = V' ∧ S = S' ∧ L = M)
noncomputable def rgSm_ops : Array Oper := opsW Tryz.f16 6
def rgSm_ds : List Nat := [41, 42, 43, 44, 45, 46, 47, 48, 49, 50, 51]
def rgSm_vs (g2 g3 : Nat) (a0 b0 : Addr) (n c m d i : Nat) (e f : Ev) : List Value := [.pointer (some ⟨g2, 3, none⟩), .slice (some a0) n c, .int .i64 (i : Int), .pointer (some (a0.add (i * 7))), evV e, .pointer (some ⟨g3, 3, none⟩), .slice (some b0) m d, .int .i64 (i : Int), .pointer (some (b0.add (i * 7))), evV f, .bool (!decide (e = f))]
set_option maxRecDepth 100000 in
set_option maxHeartbeats 4000000 in
theorem rgSm {id : Nat} {ops : Array Oper} (hops : ops = rgSm_ops) (T0 : Array Value) (hsz : 52 ≤ T0.size) (W : World) (g2 g3 : Nat) (a0 b0 : Addr) (n c m d i : Nat) (e f : Ev) (hi : i < n) (hj : i < m) (h2 : ∀ w, Below W.heap.size W w → w.cell? ⟨g2, 3, none⟩ = some (.slice (some a0) n c)) (h3 : ∀ w, Below W.heap.size W w → w.cell? ⟨g3, 3, none⟩ = some (.slice (some b0) m d)) (hA : EvAt W (a0.add (i * 7)) e) (hB : EvAt W (b0.add (i * 7)) f) (ha0 : a0.block < W.heap.size) (hb0 : b0.block < W.heap.size)
    (t2 : T0[2]? = some (.pointer (some ⟨g2, 0, none⟩))) (t3 : T0[3]? = some (.pointer (some ⟨g3, 0, none⟩))) (t5 : T0[5]? = some (.int .i64 (i : Int))) {Q : Exit → Act → World → Prop}
    (hend : ∀ (w : World), Below W.heap.size W w → Q .normal ⟨putAll T0 rgSm_ds (rgSm_vs g2 g3 a0 b0 n c m d i e f), []⟩ w) : (Code.region id ops true).wp Tryz.prog Q ⟨T0, []⟩ W := by
  subst hops
  have hos : rgSm_ops.size = 11 := by kernel_rfl
  have hga : (List.range 11).all (fun i => match rgSm_ops[i]? with | some o => o.guard == none | none => false) = true := by kernel_rfl
  refine wp_region_valsJ (fun _ w => Below W.heap.size W w) (rgSm_vs g2 g3 a0 b0 n c m d i e f) rgSm_ds W T0 rfl (by decide) (fun x hx => ?_) (by kernel_rfl) (by kernel_rfl) (fun i o j want ho hg => ?_) ((Below.refl _ _).drew) ?_ (fun w h => hend w h)
  · have hall : (rgSm_ds.all fun d => decide (d < 52)) = true := by decide
    have := List.all_eq_true.1 hall x hx
    simp only [decide_eq_true_eq] at this
    omega
  · have hi : i < 11 := by rw [← hos]; exact (Array.getElem?_eq_some_iff.1 ho).1
    have h1 := List.all_eq_true.1 hga i (by simpa using hi)
    rw [ho] at h1
    simp only [hg, beq_iff_eq] at h1
    cases h1
  · intro j o ho hj' don a w hT hR hdi hb K hK
    have hT0 : ∀ t v, t ∉ rgSm_ds → T0[t]? = some v → a.tmps[t]?.getD undef = v := fun t v ht hv => by rw [hT t ht, hv]; rfl
    have hU : ∀ l, (reachT rgSm_ops 9 j).contains l = true → a.tmps[rgSm_ds.getD l 0]?.getD undef = (rgSm_vs g2 g3 a0 b0 n c m d i e f).getD l undef := fun l hl => (hR l (by simpa using hl)).2
    match j, hj' with
    | 0, _ => exact w_fT3 2 (opAtW ho (by kernel_rfl)) (hT0 2 _ (by decide) t2) (hK w hb)
    | 1, _ => exact w_loadS 41 (opAtW ho (by kernel_rfl)) (hU 0 (by kernel_rfl)) (h2 w hb) (hK w hb)
    | 2, _ => exact v_move 5 (opAtW ho (by kernel_rfl)) (hT0 5 _ (by decide) t5) (hK w hb)
    | 3, _ => exact b_indexE 42 43 hi (opAtW ho (by kernel_rfl)) (hU 1 (by kernel_rfl)) (hU 2 (by kernel_rfl)) (hK w hb)
    | 4, _ => exact b_loadE 44 (opAtW ho (by kernel_rfl)) (hU 3 (by kernel_rfl)) (hA.below hb (by rw [add_blockO]; exact ha0)) (hK w hb)
    | 5, _ => exact w_fT3 3 (opAtW ho (by kernel_rfl)) (hT0 3 _ (by decide) t3) (hK w hb)
    | 6, _ => exact w_loadS 46 (opAtW ho (by kernel_rfl)) (hU 5 (by kernel_rfl)) (h3 w hb) (hK w hb)
    | 7, _ => exact v_move 5 (opAtW ho (by kernel_rfl)) (hT0 5 _ (by decide) t5) (hK w hb)
    | 8, _ => exact b_indexE 47 48 hj (opAtW ho (by kernel_rfl)) (hU 6 (by kernel_rfl)) (hU 7 (by kernel_rfl)) (hK w hb)
    | 9, _ => exact b_loadE 49 (opAtW ho (by kernel_rfl)) (hU 8 (by kernel_rfl)) (hB.below hb (by rw [add_blockO]; exact hb0)) (hK w hb)
    | 10, _ => exact w_neqEv 45 50 (opAtW ho (by kernel_rfl)) (hU 4 (by kernel_rfl)) (hU 9 (by kernel_rfl)) (neq_ev e f) (hK w hb)
    | j + 11, h => exact absurd (show j + 11 < 11 from h) (by omega)
set_option maxHeartbeats 4000000 in
theorem same_any (T V S : Int) (A : Option Addr) (L : List Ev) (c : Nat) (T' V' S' : Int) (B : Option Addr) (M : List Ev) (d : Nat) (w : World) (hA : EvsAt w w.heap.size A L) (hB : EvsAt w w.heap.size B M) (hl : L.length ≤ 4611686018427387904) :
    Calls Tryz.prog 16 #[trV T V S A L.length c, trV T' V' S' B M.length d] w fun r w' => r = .returned (.bool (sameT T V S L T' V' S' M)) ∧ Below w.heap.size w w' := by
  obtain ⟨wa, hwa⟩ : ∃ W, w.alloc (.cells #[.int .i64 T, .int .i64 V, .int .i64 S, .slice A L.length c] 25) = W := ⟨_, rfl⟩
  obtain ⟨wb, hwb⟩ : ∃ W, wa.alloc (.cells #[.int .i64 T', .int .i64 V', .int .i64 S', .slice B M.length d] 25) = W := ⟨_, rfl⟩
  have ba : Below w.heap.size w wa := by rw [← hwa]; exact (Below.refl _ _).alloc (Nat.le_refl _) _
  have bb : Below wa.heap.size wa wb := by rw [← hwb]; exact (Below.refl _ _).alloc (Nat.le_refl _) _
  have ra : wb.heap[w.heap.size]? = some (.cells #[.int .i64 T, .int .i64 V, .int .i64 S, .slice A L.length c] 25 (0, 0)) := row_stays (by rw [← hwa]; exact heap_alloc_new w _) bb
  have rb : wb.heap[wa.heap.size]? = some (.cells #[.int .i64 T', .int .i64 V', .int .i64 S', .slice B M.length d] 25 (0, 0)) := by rw [← hwb]; exact heap_alloc_new wa _
  have BB : Hid (Below w.heap.size w wb) := ba.trans (bb.mono ba.size)
  have EA := Lib.hid ((hA.below BB.out (Nat.le_refl _)).mono BB.out.size)
  have EB := Lib.hid ((hB.below BB.out (Nat.le_refl _)).mono BB.out.size)
  rw [← hwa] at hwb
  have HW := Lib.hid hwb
  obtain ⟨g2, hg2⟩ : ∃ g, g = w.heap.size := ⟨_, rfl⟩
  obtain ⟨g3, hg3⟩ : ∃ g, g = wa.heap.size := ⟨_, rfl⟩
  have h32 : g3 = g2 + 1 := by rw [hg3, ← hwa, hg2]; simp
  rw [← hg2] at ra
  rw [← hg3] at rb
  have RA := Lib.hid ra
  have RB := Lib.hid rb
  obtain ⟨R, hR⟩ : ∃ R, R = sameT T V S L T' V' S' M := ⟨_, rfl⟩
  rw [← hR]
  have HR := Lib.hid hR
  have HG2 := Lib.hid hg2
  have HG3 := Lib.hid h32
  have x0 := cell_of_row wb g2 0 _ _ _ ra
  have x1 := cell_of_row wb g2 1 _ _ _ ra
  have x2 := cell_of_row wb g2 2 _ _ _ ra
  have x3 := cell_of_row wb g2 3 _ _ _ ra
  have y0 := cell_of_row wb g3 0 _ _ _ rb
  have y1 := cell_of_row wb g3 1 _ _ _ rb
  have y2 := cell_of_row wb g3 2 _ _ _ rb
  have y3 := cell_of_row wb g3 3 _ _ _ rb
  simp only [List.getElem?_toArray, List.getElem?_cons_zero, List.getElem?_cons_succ] at x0 x1 x2 x3 y0 y1 y2 y3
  obtain ⟨n, hn⟩ : ∃ n, n = L.length := ⟨_, rfl⟩
  obtain ⟨m, hm⟩ : ∃ n, n = M.length := ⟨_, rfl⟩
  have HN := Lib.hid hn
  have HM := Lib.hid hm
  rw [← hn] at hl x3 RA HW ⊢
  rw [← hm] at y3 RB HW ⊢
  unfold trV
  clear hA hB hwa hwb ba bb ra rb hg2 hg3 h32 hR hn hm
  have hno : ∀ h : ¬ (T = T' ∧ V = V' ∧ S = S' ∧ L = M), R = false := fun h => by rw [HR.out]; exact decide_eq_false h
  have HNO := Lib.hid hno
  clear hno
  by_cases hq : T = T'
  rotate_left
  · have q : (T != T') = true := bne_iff_ne.2 hq
    have q2 : (T == T') = false := beq_eq_false_iff_ne.2 hq
    obtain rfl := HNO.out (fun h => hq h.1)
    clear hq
    go_enter Tryz.func16, Tryz.ntmps16
    go_wp2_with fail
    rw [HW.out, ← HG2.out, ← HG3.out]
    go_wp2_with fail
    go_ret
    exact ⟨rfl, by rw [HG2.out]; exact BB.out⟩
  subst hq
  by_cases hq : V = V'
  rotate_left
  · have q : (V != V') = true := bne_iff_ne.2 hq
    have q2 : (V == V') = false := beq_eq_false_iff_ne.2 hq
    obtain rfl := HNO.out (fun h => hq h.2.1)
    clear hq
    go_enter Tryz.func16, Tryz.ntmps16
    go_wp2_with fail
    rw [HW.out, ← HG2.out, ← HG3.out]
    go_wp2_with fail
    go_ret
    exact ⟨rfl, by rw [HG2.out]; exact BB.out⟩
  subst hq
  by_cases hq : S = S'
  rotate_left
  · have q : (S != S') = true := bne_iff_ne.2 hq
    have q2 : (S == S') = false := beq_eq_false_iff_ne.2 hq
    obtain rfl := HNO.out (fun h => hq h.2.2.1)
    clear hq
    go_enter Tryz.func16, Tryz.ntmps16
    go_wp2_with fail
    rw [HW.out, ← HG2.out, ← HG3.out]
    go_wp2_with fail
    go_ret
    exact ⟨rfl, by rw [HG2.out]; exact BB.out⟩
  subst hq
  by_cases hq : (n : Int) = (m : Int)
  rotate_left
  · have q : ((n : Int) != (m : Int)) = true := bne_iff_ne.2 hq
    obtain rfl := HNO.out (fun h => hq (by rw [HN.out, HM.out, h.2.2.2]))
    clear hq
    go_enter Tryz.func16, Tryz.ntmps16
    go_wp2_with fail
    rw [HW.out, ← HG2.out, ← HG3.out]
    go_wp2_with fail
    go_ret
    exact ⟨rfl, by rw [HG2.out]; exact BB.out⟩
  have hnm : n = m := by omega
  subst hnm
  clear hq
  have q1 : (T != T) = false := by simp
  have q2 : (V != V) = false := by simp
  have q3 : (S != S) = false := by simp
  have q4 : ((n : Int) != (n : Int)) = false := by simp
  have HX : Hid (∀ w2, Below wb.heap.size wb w2 → w2.cell? ⟨g2, 3, none⟩ = some (.slice A n c) ∧ w2.cell? ⟨g3, 3, none⟩ = some (.slice B n d)) := fun w2 b => ⟨cell_of_row w2 g2 3 _ _ _ (row_stays RA.out b), cell_of_row w2 g3 3 _ _ _ (row_stays RB.out b)⟩
  go_enter Tryz.func16, Tryz.ntmps16
  go_wp2_with fail
  rw [HW.out, ← HG2.out, ← HG3.out]
  go_wp2_with fail
  clear x0 x1 x2 x3 y0 y1 y2 y3 q1 q2 q3 q4
  go_loopw [5] (fun iv wr => ∃ k : Nat, k ≤ n ∧ iv = .int .i64 k ∧ Hid (∀ j, j < k → nthE L j = nthE M j) ∧ Hid (Below wb.heap.size wb wr)) (fun iv _ => n - (intOf iv).toNat)
  case atStart => exact ⟨0, by omega, rfl, fun j hj => absurd hj (by omega), Below.refl _ _⟩
  case round =>
    obtain ⟨k, hk, rfl, hE, hB⟩ := hrel
    obtain ⟨x3, y3⟩ := HX.out _ hB.out
    by_cases hkn : k < n
    · obtain ⟨a0, rfl, ha0, hev⟩ := EA.out k (by rw [← HN.out]; exact hkn)
      obtain ⟨b0, rfl, hb0, hfv⟩ := EB.out k (by rw [← HM.out]; exact hkn)
      have hev := hev.below hB.out (by rw [add_blockO]; exact ha0)
      have hfv := hfv.below hB.out (by rw [add_blockO]; exact hb0)
      have i1 : (k : Int) < (n : Int) := by omega
      have ha1 := Nat.lt_of_lt_of_le ha0 hB.out.size
      have hb1 := Nat.lt_of_lt_of_le hb0 hB.out.size
      have HA1 := Lib.hid ha1
      have HB1 := Lib.hid hb1
      have HE1 := Lib.hid hev
      have HF1 := Lib.hid hfv
      clear ha0 hb0 ha1 hb1 hev hfv
      go_wp2_with fail
      refine rgSm rfl _ (by simp) _ g2 g3 a0 b0 n c n d k (nthE L k) (nthE M k) hkn hkn (fun w2 h2 => (HX.out w2 (hB.out.trans (h2.mono hB.out.size))).1) (fun w2 h2 => (HX.out w2 (hB.out.trans (h2.mono hB.out.size))).2) HE1.out HF1.out HA1.out HB1.out rfl rfl rfl ?_
      intro w8 b8
      simp only [rgSm_ds, rgSm_vs, putAll, List.setIfInBounds_toArray, List.set_cons_succ, List.set_cons_zero]
      have B8 := Lib.hid (hB.out.trans (b8.mono hB.out.size))
      clear b8 x3 y3
      by_cases hee : nthE L k = nthE M k
      · rw [decide_eq_true hee]
        have HE2 : Hid (∀ j, j < k + 1 → nthE L j = nthE M j) := fun j hj => by
          by_cases hjk : j = k
          · rw [hjk]; exact hee
          · exact hE.out j (by omega)
        clear hee
        go_wp2_with fail
        refine ⟨?_, ?measure⟩
        · exact ⟨k + 1, by omega, by go_num, HE2, B8⟩
        case measure => simp [intOf]; omega
      · rw [decide_eq_false hee]
        obtain rfl := HNO.out (fun h => hee (by rw [h.2.2.2]))
        clear hee
        go_wp2_with fail
        go_ret
        exact ⟨rfl, BB.out.trans (B8.out.mono BB.out.size)⟩
    · obtain rfl : k = n := by omega
      have hLM : L = M := by
        apply List.ext_getElem?
        intro j
        by_cases hj : j < k
        · rw [nthE_of (by rw [← HN.out]; exact hj), nthE_of (by rw [← HM.out]; exact hj), hE.out j hj]
        · rw [List.getElem?_eq_none (by rw [← HN.out]; omega), List.getElem?_eq_none (by rw [← HM.out]; omega)]
      have hRt : R = true := by rw [HR.out]; exact decide_eq_true ⟨rfl, rfl, rfl, hLM⟩
      subst hRt
      clear hLM hkn
      go_wp2_with fail
      go_ret
      exact ⟨rfl, BB.out.trans (hB.out.mono BB.out.size)⟩
end Go.Proofs.YteigglhhnemngaaGreatDoor
