/-
  CONTRACT OF seesawref06's Copy (the document's own answer of layer 6): the same setup, in new memory; the memory that was there stays as it was. Conditions: as they stand.
-/
import Derived.Test.YtnkdaehmdcpafaaDoorUp
import Derived.Test.YtnkdaehmdcpafaaDoorUg
import Derived.Test.YtnkdaehmdcpafaaDoorQp
import Derived.Test.YtnkdaehmdcpafaaDoorZb
import Derived.ArgAppend
namespace Go.Proofs.YtnkdaehmdcpafaaDoor
open Go.RowKit
set_option linter.unusedVariables false
theorem int64_info : (Tryd.prog.info? 2).map (fun i => (i.zero, i.size, i.bytes)) = some (some (.int .i64 0), 1, 8) := by kernel_rfl
theorem below_of_grown6 {w w' : World} (h : w.grownBy w' none) : Below w.heap.size w w' := ⟨h.os, h.tape, h.output, h.size, fun i hi => h.block i hi (by simp)⟩
theorem ints_news6 {w : World} {hi : Nat} {a : Addr} {xs : List Int} (h : Ints w hi (some a) xs) : ∀ j u, (xs.map (Value.int .i64 ·))[j]? = some u → w.cell? (a.add j) = some u := by
  intro j u hu
  rw [List.getElem?_map] at hu
  rcases Nat.lt_or_ge j xs.length with hj | hj
  · rw [List.getElem?_eq_getElem hj] at hu
    obtain ⟨a', ha, _, hc⟩ := h.cell j hj
    cases ha
    simp at hu
    rw [hc, hu]
  · rw [List.getElem?_eq_none hj] at hu
    cases hu
/-- append([]int64{}, xs...), in a plain region. -/
theorem clone_nums {w : World} {ops : Array Oper} {rest : List Oper} {o : Oper} {a : Act} {Q : Exit → Act → World → Prop}
    (hg : o.guard = none) (s x : Operand) (hop : o.op = .call { callee := .builtin .append, args := #[s, x], argTypes := #[22, 22] })
    {gb : Addr} {A : Option Addr} {c hi : Nat} {xs : List Int} (hs : a.eval s = .slice (some gb) 0 0) (hx : a.eval x = .slice A xs.length c) (hI : Ints w hi A xs) (hlen : xs.length ≤ 1000) (hgb : gb.block < w.heap.size)
    (hK : ∀ A' c' w', Ints w' w'.heap.size A' xs → (∀ p, A' = some p → gb.block ≤ p.block) → Below w.heap.size w w' → wpList Tryd.prog ops Q rest (a.put o.dst (.slice A' xs.length c')) w') :
    wpList Tryd.prog ops Q (o :: rest) a w := by
  obtain ⟨i0, hi0, hz0, hz1, hz2⟩ := info_parts2 int64_info
  by_cases h0 : xs = []
  · subst h0
    refine wpList_plain hg fun K hK' => ?_
    have hrun : (Builtin.append_ #[22, 22] o.type #[.slice (some gb) 0 0, .slice A 0 c]).run Tryd.prog w = .ok (.slice (some gb) 0 0) w := by
      cases A <;> simp [Builtin.append_, run_underlying Tryd.underlying22, sizeOf, typeInfo, hi0, Builtin.lenOf, Builtin.firstCells, storeCells, loadCells, loadCellsFrom]
    have := hK (some gb) 0 w ⟨by simp, fun k hk => absurd hk (by simp)⟩ (fun p hp => by cases hp; exact Nat.le_refl _) (Below.refl _ _)
    unfold Oper.wp
    simp [execOp, hop, resolve, invoke, builtin, hs, hx, hrun, Result.andThen]
    exact hK' _ _ this
  · have hpos : 0 < xs.length := by
      cases xs with
      | nil => exact absurd rfl h0
      | cons _ _ => simp
    obtain ⟨ad, hA, _, _⟩ := hI.cell 0 hpos
    subst hA
    refine wpList_append_grows _ hg s x 22 hop 2 i0 _ 1 8 Tryd.underlying22 hi0 hz0 hz1 hz2 rfl (by omega) (some gb) 0 0 [] hs (by simp) rfl (by simp) ad xs.length c (xs.map (Value.int .i64 ·)) hx (by simp) (ints_news6 hI) (by simp [Value.oneCell']) (by omega) (by unfold maxLen; omega) (by omega) ?_
    intro v' w' hown hgrow
    simp only [Nat.zero_add, List.nil_append] at hown
    obtain ⟨g, cap, hv, hg1, hg2⟩ := hown.form hpos
    subst hv
    refine hK _ _ w' ⟨by omega, fun k hk => ⟨_, rfl, hg2, ?_⟩⟩ (fun p hp => by cases hp; show gb.block ≤ g; omega) (below_of_grown6 hgrow)
    exact hown.cells (g := g) rfl k _ (by simp [hk])
/-- What Copy leaves. -/
def Copied6 (w : World) (d : Nat) (s : Su) (e : Ending) (w' : World) : Prop := ∃ I c T c' mid a, e = .returned (.agg #[.int .i64 s.st, .int .i64 s.cl, .int .i64 s.tr, .slice I s.init.length c, .slice T s.thr.length c']) ∧ s.thr.length ≤ c' ∧ SuW w' w.heap.size mid d I T s a ∧ Below w.heap.size w w'
/-- The boxes of a Copy: the setup that came in, the result, the copy. -/
structure Bx6 (w : World) (H mid : Nat) (st cl tr : Int) (I : Option Addr) (n c : Nat) (sv : Value) (ini : List Int) (wr : World) : Prop where
  res : wr.heap[H + 1]? = some (.cells #[.int .i64 0, .int .i64 0, .int .i64 0, .slice none 0 0, .slice none 0 0] 25 (0, 0))
  box : wr.heap[H + 1 + 1]? = some (.cells #[.int .i64 st, .int .i64 cl, .int .i64 tr, .slice I n c, sv] 25 (0, 0))
  ini : Ints wr mid I ini
  inl : ∀ p, I = some p → H + 1 + 1 < p.block
  ms : mid ≤ wr.heap.size
  mh : H + 1 + 1 < mid
theorem Bx6.keep {w wr w' : World} {H mid : Nat} {st cl tr : Int} {I : Option Addr} {n c : Nat} {sv : Value} {ini : List Int} (h : Bx6 w H mid st cl tr I n c sv ini wr) (hs : wr.heap.size ≤ w'.heap.size) (hk : ∀ b, b < mid → w'.heap[b]? = wr.heap[b]?) : Bx6 w H mid st cl tr I n c sv ini w' := by
  have := h.mh
  exact ⟨(hk _ (by omega)).trans h.res, (hk _ (by omega)).trans h.box, ⟨h.ini.len, fun k hk' => by
    obtain ⟨p, rfl, b1, c⟩ := h.ini.cell k hk'
    exact ⟨p, rfl, b1, (World.cell?_of_block (hk _ (by rw [ad_block]; exact b1))).trans c⟩⟩, h.inl, Nat.le_trans h.ms hs, h.mh⟩
theorem Bx6.set {w wr : World} {H mid : Nat} {st cl tr : Int} {I : Option Addr} {n c : Nat} {sv : Value} {ini : List Int} (h : Bx6 w H mid st cl tr I n c sv ini wr) (u : Value) : Bx6 w H mid st cl tr I n c u ini (wr.setCell ⟨H + 1 + 1, 4, none⟩ u) := by
  have hk : ∀ b, b ≠ H + 1 + 1 → (wr.setCell ⟨H + 1 + 1, 4, none⟩ u).heap[b]? = wr.heap[b]? := fun b hb => Below.heap_setCell wr ⟨H + 1 + 1, 4, none⟩ u b hb
  exact ⟨(hk _ (by omega)).trans h.res, heap_set_same wr (H + 1 + 1) 4 u _ _ h.box, ⟨h.ini.len, fun k hk' => by
    obtain ⟨p, rfl, b1, c⟩ := h.ini.cell k hk'
    have := h.inl p rfl
    exact ⟨p, rfl, b1, (World.cell?_of_block (hk _ (by rw [ad_block]; omega))).trans c⟩⟩, h.inl, by simpa using h.ms, h.mh⟩
set_option maxRecDepth 100000 in
set_option maxHeartbeats 8000000 in
theorem rcopy6_any (d : Nat) (s : Su) (I T : Option Addr) (c c' lo hi : Nat) (w : World) (h : SuAt w lo hi d I T s) (hhi : hi ≤ w.heap.size) (hf : FewS s) :
    Calls Tryd.prog 12 #[.agg #[.int .i64 s.st, .int .i64 s.cl, .int .i64 s.tr, .slice I s.init.length c, .slice T s.thr.length c']] w (Copied6 w d s) := by
  obtain ⟨st, cl, tr, ini, thr⟩ := s
  have HI := Lib.hid (fun W' (h' : Below w.heap.size w W') => h.ini.below h' hhi)
  have HT := Lib.hid (fun W' (h' : Below w.heap.size w W') => h.thr.below h' hhi)
  have HF := Lib.hid hf
  have hl1 : ini.length ≤ 1000 := by have := hf.ini; dsimp only at this; omega
  have hl2 : thr.length ≤ 20 := hf.thr
  dsimp only at HI HT ⊢
  obtain ⟨M, hM⟩ : ∃ M, M = thr.length := ⟨_, rfl⟩
  have HM := Lib.hid hM
  obtain ⟨n, hn⟩ : ∃ n, n = ini.length := ⟨_, rfl⟩
  have HN := Lib.hid hn
  rw [← hM] at hl2
  have b1 := sfive_below w st cl tr I n c T M c'
  have hf1 := SFive.new w st cl tr I n c T M c'
  have z1 : (w.alloc (.cells #[.int .i64 st, .int .i64 cl, .int .i64 tr, .slice I n c, .slice T M c'] 25)).heap.size = w.heap.size + 1 := by simp
  obtain ⟨W1, hW1⟩ : ∃ W, W = w.alloc (.cells #[.int .i64 st, .int .i64 cl, .int .i64 tr, .slice I n c, .slice T M c'] 25) := ⟨_, rfl⟩
  rw [← hW1] at b1 hf1 z1
  obtain ⟨W3, hW3⟩ : ∃ W, W = (W1.alloc (.cells #[.int .i64 0, .int .i64 0, .int .i64 0, .slice none 0 0, .slice none 0 0] 25)).alloc (.cells #[.int .i64 st, .int .i64 cl, .int .i64 tr, .slice I n c, .slice T M c'] 25) := ⟨_, rfl⟩
  have z3 : W3.heap.size = w.heap.size + 3 := by rw [hW3]; simp [z1]
  have r1 : W3.heap[w.heap.size + 1]? = some (.cells #[.int .i64 0, .int .i64 0, .int .i64 0, .slice none 0 0, .slice none 0 0] 25 (0, 0)) := by
    rw [hW3, heap_alloc_old _ _ (by simp [z1])]
    have := heap_alloc_new W1 (.cells #[.int .i64 0, .int .i64 0, .int .i64 0, .slice none 0 0, .slice none 0 0] 25)
    rw [z1] at this
    exact this
  have r2 : W3.heap[w.heap.size + 1 + 1]? = some (.cells #[.int .i64 st, .int .i64 cl, .int .i64 tr, .slice I n c, .slice T M c'] 25 (0, 0)) := by
    rw [hW3]
    have := heap_alloc_new (W1.alloc (.cells #[.int .i64 0, .int .i64 0, .int .i64 0, .slice none 0 0, .slice none 0 0] 25)) (.cells #[.int .i64 st, .int .i64 cl, .int .i64 tr, .slice I n c, .slice T M c'] 25)
    rw [show (W1.alloc (.cells #[.int .i64 0, .int .i64 0, .int .i64 0, .slice none 0 0, .slice none 0 0] 25)).heap.size = w.heap.size + 1 + 1 by simp [z1]] at this
    exact this
  have b3 : Below (w.heap.size + 1) W1 W3 := by
    rw [hW3, ← z1]
    exact ((Below.refl _ _).alloc (Nat.le_refl _) _).alloc (by simp) _
  have c3 : W3.cell? ⟨w.heap.size, 3, none⟩ = some (.slice I n c) := (hf1.below b3 (by omega)).c3
  have HW := Lib.hid (And.intro hW1 hW3)
  have HB := Lib.hid (And.intro b1 (And.intro b3 (And.intro z1 z3)))
  have HF1 := Lib.hid (fun W' (h' : Below (w.heap.size + 1) W1 W') => hf1.below h' (show w.heap.size < w.heap.size + 1 by omega))
  have HR := Lib.hid (And.intro r1 r2)
  rw [← hM, ← hn]
  rw [← hn] at hl1
  clear hM hn h hf b1 hf1 z1 hW1 z3 r1 r2 b3 hW3
  go_enter Tryd.func12, Tryd.ntmps12
  go_upto_region 2 with fail
  rw [← HW.out.1, ← HW.out.2]
  have c3b : ∀ o, (W3.alloc o).cell? ⟨w.heap.size, 3, none⟩ = some (.slice I n c) := fun o => ((Below.refl _ W3).alloc (Nat.le_refl _) o).cell (p := ⟨w.heap.size, 3, none⟩) (by show w.heap.size < _; have := HB.out.2.2.2; omega) |>.trans c3
  have hIW : Ints (W3.alloc (.cells #[] 2)) hi I ini := HI.out _ ((HB.out.1.trans (HB.out.2.1.mono (by omega))).alloc (by have := HB.out.2.2.2; omega) _)
  have HIW := Lib.hid hIW
  clear hIW
  go_wp2_with (first
    | (at_builtin; refine clone_nums (xs := ini) rfl (.tmp 8) (.tmp 10) rfl rfl (by rw [← HN.out]; rfl) HIW.out (by rw [← HN.out]; exact hl1) (by simp) ?_; intro I' ci w5 hI5 hp5 b5; rw [← HN.out]
       have b35 : Below W3.heap.size W3 w5 := ((Below.refl _ W3).alloc (Nat.le_refl _) _).trans (b5.mono (by simp))
       have r5 : w5.heap[w.heap.size + 1 + 1]? = some (.cells #[.int .i64 st, .int .i64 cl, .int .i64 tr, .slice I n c, .slice T M c'] 25 (0, 0)) := (b35.block _ (by have := HB.out.2.2.2; omega)).trans HR.out.2
       have d3 := cell_of_row w5 (w.heap.size + 1 + 1) 3 _ _ (0, 0) r5
       have d4 := cell_of_row (w5.setCell ⟨w.heap.size + 1 + 1, 3, none⟩ (.slice I' n ci)) (w.heap.size + 1 + 1) 4 _ _ (0, 0) (heap_set_same w5 (w.heap.size + 1 + 1) 3 (.slice I' n ci) _ _ r5)
       have d5 : ∀ i, w5.frozen? ⟨w.heap.size + 1 + 1, i, none⟩ = false := fun i => by simp [World.frozen?, r5])
    | fail)
  have hz3 := HB.out.2.2.2
  have hz35 := b35.size
  obtain ⟨W6, hW6⟩ : ∃ W, W = (w5.setCell ⟨w.heap.size + 1 + 1, 3, none⟩ (.slice I' n ci)).setCell ⟨w.heap.size + 1 + 1, 4, none⟩ (.slice none 0 0) := ⟨_, rfl⟩
  have z6 : W6.heap.size = w5.heap.size := by rw [hW6]; simp
  have hk6 : ∀ b, b ≠ w.heap.size + 1 + 1 → W6.heap[b]? = w5.heap[b]? := fun b hb => by
    rw [hW6]
    exact (Below.heap_setCell (w5.setCell ⟨w.heap.size + 1 + 1, 3, none⟩ (.slice I' n ci)) ⟨w.heap.size + 1 + 1, 4, none⟩ _ b hb).trans (Below.heap_setCell w5 ⟨w.heap.size + 1 + 1, 3, none⟩ _ b hb)
  have hX0 : Bx6 w w.heap.size W6.heap.size st cl tr I' n ci (.slice none 0 0) ini W6 := by
    have hp6 : ∀ p, I' = some p → w.heap.size + 1 + 1 < p.block := fun p hp => by
      have : W3.heap.size ≤ p.block := hp5 p hp
      omega
    refine ⟨(hk6 _ (by omega)).trans ((b35.block _ (by omega)).trans HR.out.1), ?_, ⟨hI5.len, fun k hk' => ?_⟩, hp6, Nat.le_refl _, by omega⟩
    · rw [hW6]
      exact heap_set_same _ (w.heap.size + 1 + 1) 4 _ _ _ (heap_set_same w5 (w.heap.size + 1 + 1) 3 (.slice I' n ci) _ _ r5)
    · obtain ⟨p, rfl, q1, q2⟩ := hI5.cell k hk'
      have := hp6 p rfl
      exact ⟨p, rfl, by omega, (World.cell?_of_block (hk6 _ (by rw [ad_block]; omega))).trans q2⟩
  have hlow6 : Below (w.heap.size + 1) W1 W6 := by
    rw [hW6]
    exact ((HB.out.2.1.trans (b35.mono (by omega))).setCell (p := ⟨w.heap.size + 1 + 1, 3, none⟩) (by show _ ≤ w.heap.size + 1 + 1; omega) _).setCell (p := ⟨w.heap.size + 1 + 1, 4, none⟩) (by show _ ≤ w.heap.size + 1 + 1; omega) _
  have hA0 : ARI (isThread d) 33 W6.heap.size (w.heap.size + 1) W1 thr 0 (.slice none 0 0) [] (fun _ => W6.heap.size) W6 := ARI.start _ _ _ _ _ _ (Nat.le_refl _) (by omega) hlow6
  have HST := Lib.hid (And.intro hA0 hX0)
  obtain ⟨mid, hmid⟩ : ∃ m, m = W6.heap.size := ⟨_, rfl⟩
  have HMID : Hid (w.heap.size + 1 + 1 < mid) := by show _ < _; omega
  rw [← hmid] at HST
  rw [← hW6]
  clear d3 d4 d5 r5 b35 hI5 hp5 b5 hz3 hz35 hW6 z6 hk6 hX0 hlow6 hA0 hmid c3 c3b HIW HR
  go_loopw [4] (fun i wr => ∃ (k : Nat) (sv : Value) (xs : List Value) (a : Nat → Nat), k ≤ M ∧ i = .int .i64 k ∧ Hid (ARI (isThread d) 33 mid (w.heap.size + 1) W1 thr k sv xs a wr ∧ Bx6 w w.heap.size mid st cl tr I' n ci sv ini wr)) (fun i _ => M - (intOf i).toNat)
  case atStart => exact ⟨0, _, _, _, by omega, by go_num, HST⟩
  case round =>
    obtain ⟨k, sv, xs, a, hk, rfl, INV⟩ := hrel
    have f4 := (HF1.out wr INV.out.1.low).c4
    by_cases hlt : k < M
    · have k1 : (k : Int) < (M : Int) := by omega
      have hB0 : Below w.heap.size w wr := HB.out.1.trans (INV.out.1.low.mono (by omega))
      obtain ⟨p, B, c2, rfl, m1, m2, g0, l3, hX⟩ := HT.out w (Below.refl _ _) k (by have := HM.out; omega)
      have g1 := (hB0.cell (p := p.add k) (by rw [ad_block]; omega)).trans g0
      have hfl := HF.out.txs _ (List.getElem_mem (show k < thr.length by have := HM.out; omega))
      have hfx := HF.out.tx _ (List.getElem_mem (show k < thr.length by have := HM.out; omega))
      obtain ⟨l, hl⟩ : ∃ l, l = thr[k]'(by have := HM.out; omega) := ⟨_, rfl⟩
      have HL := Lib.hid hl
      rw [← hl] at g1 l3 hX g0 hfl hfx
      have HG0 := Lib.hid (And.intro g0 (show p.block < w.heap.size by omega))
      have HXX := Lib.hid (fun W' (h' : Below w.heap.size w W') => hX.below h' hhi)
      have HFX := Lib.hid hfx
      obtain ⟨J, hJ⟩ : ∃ J, J = l.length := ⟨_, rfl⟩
      have HJ := Lib.hid hJ
      rw [← hJ] at g1 l3 HG0 hfl
      have HIN := Lib.hid (ARI.start (P := isTx d) 34 wr.heap.size wr.heap.size wr wr l (Nat.le_refl _) (Nat.le_refl _) (Below.refl _ _))
      obtain ⟨wa, hwa⟩ : ∃ wa, wa = wr := ⟨_, rfl⟩
      rw [← hwa] at HIN INV hB0
      have HWA := Lib.hid hwa
      clear hl hX hJ m1 m2 g0 hfx hwa
      go_wp2_with fail
      go_loopw [5, 6] (fun o i wr => ∃ (j : Nat) (xs : List Value) (a : Nat → Nat), j ≤ J ∧ i = .int .i64 j ∧ Hid (ARI (isTx d) 34 wa.heap.size wa.heap.size wa l j o xs a wr)) (fun _ i _ => J - (intOf i).toNat)
      case atStart => exact ⟨0, _, _, by omega, by go_num, by rw [← HWA.out]; exact HIN⟩
      case round =>
        obtain ⟨j, ys, b, hj, rfl, IN⟩ := hrel
        have hlow : Below (w.heap.size + 1) W1 wr := INV.out.1.low.trans (IN.out.low.mono (by have := INV.out.1.bs; have := HMID.out; omega))
        have hB1 : Below w.heap.size w wr := HB.out.1.trans (hlow.mono (by omega))
        have f4 := (HF1.out wr hlow).c4
        have g1 := (hB1.cell (p := p.add k) (by rw [ad_block]; have := HG0.out.2; omega)).trans HG0.out.1
        by_cases hlj : j < J
        · have k2 : (j : Int) < (J : Int) := by omega
          obtain ⟨p2, B2, c3, rfl, m1, m2, g2, l4, hS⟩ := HXX.out wr hB1 j (by have := HJ.out; omega)
          have hfw := HFX.out _ (List.getElem_mem (show j < l.length by have := HJ.out; omega))
          obtain ⟨x, hx⟩ : ∃ x, x = l[j]'(by have := HJ.out; omega) := ⟨_, rfl⟩
          rw [← hx] at g2 l4 hS hfw
          have HXJ := Lib.hid hx
          have HC := Lib.hid (rtcopy_of d B2 c3 x lo hi wr hS (by have := hB1.size; omega) (by have := hfw.len; omega) (hfw.sm d))
          obtain ⟨q, hq⟩ : ∃ q, q = x.length := ⟨_, rfl⟩
          unfold CopiedS at HC
          have HQ := Lib.hid hq
          rw [← hq] at HC g2
          have HLX := Lib.hid l4
          have hj5 : j ≤ 100000 := by omega
          clear hx hS hfw hq m1 m2 l4 hB1 hlow
          go_wp2_with fail
          refine HC.out.mono ?_
          rintro _ w5 ⟨A5, c5, rfl, h5, b5, r5⟩
          have HIN5 := Lib.hid (IN.out.below (isTx_kept d) b5)
          have HTX : Hid (isTx d w5 (fun b => wr.heap.size ≤ b ∧ b < w5.heap.size) (.slice A5 q c5) l[j]) := by
            rw [HQ.out, ← HXJ.out]
            exact ⟨A5, c5, rfl, HLX.out, h5.toS, by rw [← HQ.out]; exact r5⟩
          have HB5 := Lib.hid b5
          clear f4 g1 g2 h5 b5 r5
          go_wp2_with (first
            | (at_builtin; refine append_one (wx := w5) (v := .slice A5 q c5) Tryd.underlying33 stmts_info HIN5.out.own HIN5.out.bs hj5 rfl (.tmp 31) (.tmp 41) rfl rfl rfl rfl ?_; intro g cap w1 hown hgrow hat hgl)
            | fail)
          have HN := Lib.hid (IN.out.step (isTx_kept d) (by have := HJ.out; omega) HB5.out HTX.out hown hgrow hat)
          clear hown hgrow hat hgl
          go_roundw
          case rel => exact ⟨j + 1, _, _, by omega, by go_num, HN⟩
          case measure => simp [intOf]; omega
        · obtain rfl : j = J := by omega
          have hIN := IN.out
          have hth : isThread d wr (fun b => wa.heap.size ≤ b ∧ b < wr.heap.size) _ l := ARI.thread (sv := u5) (xs := ys) (a := b) (by have h := hIN; rw [HJ.out] at h; exact h) (by have := HJ.out; omega)
          have HTH : Hid (isThread d wr (fun b => wa.heap.size ≤ b ∧ b < wr.heap.size) u5 thr[k]) := by rw [← HL.out]; exact hth
          have b5 : Below wa.heap.size wa wr := hIN.low
          have HA5 := Lib.hid (INV.out.1.below (isThread_kept d) b5)
          have HX5 := Lib.hid (INV.out.2.keep b5.size (fun b hb => b5.block b (by have := INV.out.1.bs; omega)))
          have HB5 := Lib.hid b5
          have e4 : wr.cell? ⟨w.heap.size + 1 + 1, 4, none⟩ = some sv := cell_of_row wr (w.heap.size + 1 + 1) 4 _ _ (0, 0) HX5.out.box
          have e5 : ∀ i, wr.frozen? ⟨w.heap.size + 1 + 1, i, none⟩ = false := fun i => by simp [World.frozen?, HX5.out.box]
          have hk5 : k ≤ 100000 := by omega
          obtain ⟨B9, c9, hu5, _⟩ := hth
          rw [← HJ.out] at hu5
          subst hu5
          clear hIN b5 hB1 hlow
          go_wp2_with (first
            | (at_builtin; refine append_one (wx := wr) (v := .slice B9 j c9) Tryd.underlying23 txs_info HA5.out.own HA5.out.bs hk5 rfl (.tmp 44) (.tmp 46) rfl rfl rfl rfl ?_; intro g cap w1 hown hgrow hat hgl
               have hq1 : ∀ b, b < mid → w1.heap[b]? = wr.heap[b]? := fun b hb => (hgrow.block b (by have := HA5.out.bs; simp; omega) (own_ge HA5.out.own hb)).trans (heap_alloc_old wr _ (by have := HA5.out.bs; omega))
               have hqs : wr.heap.size ≤ w1.heap.size := by have := hgrow.size; simp at this; omega
               have HX1 := Lib.hid (HX5.out.keep hqs hq1)
               have e6 : w1.cell? ⟨w.heap.size + 1 + 1, 4, none⟩ = some sv := cell_of_row w1 (w.heap.size + 1 + 1) 4 _ _ (0, 0) HX1.out.box
               have e7 : ∀ i, w1.frozen? ⟨w.heap.size + 1 + 1, i, none⟩ = false := fun i => by simp [World.frozen?, HX1.out.box])
            | fail)
          have HA1 := Lib.hid (((INV.out.1.step (isThread_kept d) (by have := HM.out; omega) HB5.out HTH.out hown hgrow hat).set (isThread_kept d) (g := w.heap.size + 1 + 1) (i := 4) (by omega) HMID.out (.slice (some ⟨g, 0, none⟩) (k + 1) cap)))
          have HX2 := Lib.hid (HX1.out.set (.slice (some ⟨g, 0, none⟩) (k + 1) cap))
          clear hown hgrow hat hgl hq1 hqs e4 e5 e6 e7
          go_roundw
          case rel => exact ⟨k + 1, _, _, _, by omega, by go_num, HA1.out, HX2.out⟩
          case measure => simp [intOf]; omega
    · obtain rfl : k = M := by omega
      have hA := INV.out.1
      have hX := INV.out.2
      have r1 := hX.res
      have r2 := hX.box
      have c0 : wr.cell? ⟨w.heap.size + 1 + 1, 0, none⟩ = some (.int .i64 st) := cell_of_row wr _ 0 _ _ (0, 0) r2
      have c1 : wr.cell? ⟨w.heap.size + 1 + 1, 1, none⟩ = some (.int .i64 cl) := cell_of_row wr _ 1 _ _ (0, 0) r2
      have c2 : wr.cell? ⟨w.heap.size + 1 + 1, 2, none⟩ = some (.int .i64 tr) := cell_of_row wr _ 2 _ _ (0, 0) r2
      have c3 : wr.cell? ⟨w.heap.size + 1 + 1, 3, none⟩ = some (.slice I' n ci) := cell_of_row wr _ 3 _ _ (0, 0) r2
      have c4 : wr.cell? ⟨w.heap.size + 1 + 1, 4, none⟩ = some sv := cell_of_row wr _ 4 _ _ (0, 0) r2
      have d0 : wr.cell? ⟨w.heap.size + 1, 0, none⟩ = some (.int .i64 0) := cell_of_row wr _ 0 _ _ (0, 0) r1
      have d1 : wr.cell? ⟨w.heap.size + 1, 1, none⟩ = some (.int .i64 0) := cell_of_row wr _ 1 _ _ (0, 0) r1
      have d2 : wr.cell? ⟨w.heap.size + 1, 2, none⟩ = some (.int .i64 0) := cell_of_row wr _ 2 _ _ (0, 0) r1
      have d3 : wr.cell? ⟨w.heap.size + 1, 3, none⟩ = some (.slice none 0 0) := cell_of_row wr _ 3 _ _ (0, 0) r1
      have d4 : wr.cell? ⟨w.heap.size + 1, 4, none⟩ = some (.slice none 0 0) := cell_of_row wr _ 4 _ _ (0, 0) r1
      have q0 : ∀ i, wr.frozen? ⟨w.heap.size + 1, i, none⟩ = false := fun i => by simp [World.frozen?, r1]
      have hK : k = thr.length := HM.out
      obtain ⟨T', ct, hT', hcap, hrow, hparts⟩ := ARI.row (l := thr) (sv := sv) (by have h := hA; rw [hK] at h; exact h)
      subst hT'
      have hsu : SuW wr w.heap.size mid d I' T' ⟨st, cl, tr, ini, thr⟩ a := ⟨hX.ini, fun p hp => by have := hX.inl p hp; omega, by have := hX.mh; omega, hX.ms, hrow, hA.mono, hA.lo, hA.hi, hparts⟩
      have hsu2 : ∀ p, I' = some p → w.heap.size + 1 < p.block := fun p hp => by have := hX.inl p hp; omega
      have hz : w.heap.size + 1 + 1 < wr.heap.size := by have := hX.mh; have := hX.ms; omega
      have HFIN : Hid (∀ u0 u1 u2 u3 u4 : Value, Copied6 w d ⟨st, cl, tr, ini, thr⟩ (.returned (.agg #[.int .i64 st, .int .i64 cl, .int .i64 tr, .slice I' n ci, .slice T' thr.length ct])) (((((wr.setCell ⟨w.heap.size + 1, 0, none⟩ u0).setCell ⟨w.heap.size + 1, 1, none⟩ u1).setCell ⟨w.heap.size + 1, 2, none⟩ u2).setCell ⟨w.heap.size + 1, 3, none⟩ u3).setCell ⟨w.heap.size + 1, 4, none⟩ u4)) := by
        intro u0 u1 u2 u3 u4
        have hlow : Below w.heap.size w wr := HB.out.1.trans (hA.low.mono (by omega))
        refine ⟨I', ci, T', ct, mid, a, by rw [HN.out], hcap, ?_, ?_⟩
        · have h1 : SuW wr (w.heap.size + 1 + 1) mid d I' T' ⟨st, cl, tr, ini, thr⟩ a := { hsu with inl := fun p hp => by have := hX.inl p hp; omega, lm := by have := hX.mh; omega }
          have h2 := h1.keep (w' := ((((wr.setCell ⟨w.heap.size + 1, 0, none⟩ u0).setCell ⟨w.heap.size + 1, 1, none⟩ u1).setCell ⟨w.heap.size + 1, 2, none⟩ u2).setCell ⟨w.heap.size + 1, 3, none⟩ u3).setCell ⟨w.heap.size + 1, 4, none⟩ u4) (by simp) (fun b hb _ => by
            rw [heap_set_other _ _ _ _ _ (by omega), heap_set_other _ _ _ _ _ (by omega), heap_set_other _ _ _ _ _ (by omega), heap_set_other _ _ _ _ _ (by omega), heap_set_other _ _ _ _ _ (by omega)])
          exact { h2 with inl := fun p hp => by have := h2.inl p hp; omega, lm := by have := h2.lm; omega }
        · exact ((((hlow.setCell (p := ⟨_, 0, none⟩) (by show w.heap.size ≤ w.heap.size + 1; omega) _).setCell (p := ⟨_, 1, none⟩) (by show w.heap.size ≤ w.heap.size + 1; omega) _).setCell (p := ⟨_, 2, none⟩) (by show w.heap.size ≤ w.heap.size + 1; omega) _).setCell (p := ⟨_, 3, none⟩) (by show w.heap.size ≤ w.heap.size + 1; omega) _).setCell (p := ⟨_, 4, none⟩) (by show w.heap.size ≤ w.heap.size + 1; omega) _
      clear hA hX r1 r2 hcap hrow hparts hsu hsu2 hz INV
      go_wp2_with fail
      exact bodyPost_ret (v := .agg #[.int .i64 st, .int .i64 cl, .int .i64 tr, .slice I' n ci, .slice T' thr.length ct]) (by simp [results, Tryd.results12, go_sem, d0, d1, d2, d3, d4]) rfl (HFIN.out _ _ _ _ _)
end Go.Proofs.YtnkdaehmdcpafaaDoor
