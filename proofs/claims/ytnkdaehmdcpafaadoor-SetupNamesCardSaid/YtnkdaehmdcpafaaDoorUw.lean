/-
  CONTRACT OF PACKAGE setup's Copy: the same setup, in new memory; the memory that was there stays as it was. Conditions: as they stand.
-/
import Derived.Test.YtnkdaehmdcpafaaDoorUv
import Derived.Test.YtnkdaehmdcpafaaDoorUg
import Derived.Test.YtnkdaehmdcpafaaDoorCp
import Derived.Deep.DeepCutAuto
import Derived.Deep.CutBlock
namespace Go.Proofs.YtnkdaehmdcpafaaDoor
open Go.RowKit Go.Deep
set_option linter.unusedVariables false
/-- The headers of a row of slices. -/
theorem thr_heads {w : World} {lo hi d : Nat} {A : Option Addr} {T : List (List (List St))} (h : Thr w lo hi d A T) : ∃ vs : List Value, vs.length = T.length ∧ (∀ u ∈ vs, u.oneCell' = true) ∧ ∀ k (hk : k < vs.length) (hk' : k < T.length), ∃ p B c, A = some p ∧ p.block < hi ∧ w.cell? (p.add k) = some vs[k] ∧ vs[k] = .slice B T[k].length c ∧ Txs w lo hi d B T[k] := by
  obtain ⟨F, hF⟩ := choose_lt (n := T.length) (p := fun k v => ∃ (hk' : k < T.length) (p : Addr) (B : Option Addr) (c : Nat), A = some p ∧ p.block < hi ∧ w.cell? (p.add k) = some v ∧ v = .slice B T[k].length c ∧ Txs w lo hi d B T[k]) (fun k hk => by
    obtain ⟨p, B, c, e1, m1, m2, c1, l1, h1⟩ := h k hk
    exact ⟨_, hk, p, B, c, e1, m2, c1, rfl, h1⟩)
  refine ⟨(List.range T.length).map F, by simp, fun u hu => ?_, fun k hk hk' => ?_⟩
  · simp only [List.mem_map, List.mem_range] at hu
    obtain ⟨k, hk, rfl⟩ := hu
    obtain ⟨_, p, B, c, _, _, _, e, _⟩ := hF k hk
    rw [e]
    rfl
  · obtain ⟨_, p, B, c, e1, m2, c1, e, h1⟩ := hF k hk'
    refine ⟨p, B, c, e1, m2, ?_, ?_, h1⟩ <;> rw [List.getElem_map, List.getElem_range]
    · exact c1
    · exact e
theorem txs_heads {w : World} {lo hi d : Nat} {A : Option Addr} {T : List (List St)} (h : Txs w lo hi d A T) : ∃ vs : List Value, vs.length = T.length ∧ (∀ u ∈ vs, u.oneCell' = true) ∧ ∀ k (hk : k < vs.length) (hk' : k < T.length), ∃ p B c, A = some p ∧ p.block < hi ∧ w.cell? (p.add k) = some vs[k] ∧ vs[k] = .slice B T[k].length c ∧ T[k].length ≤ 9223372036854775807 ∧ SKids w lo hi d B T[k] := by
  obtain ⟨F, hF⟩ := choose_lt (n := T.length) (p := fun k v => ∃ (hk' : k < T.length) (p : Addr) (B : Option Addr) (c : Nat), A = some p ∧ p.block < hi ∧ w.cell? (p.add k) = some v ∧ v = .slice B T[k].length c ∧ T[k].length ≤ 9223372036854775807 ∧ SKids w lo hi d B T[k]) (fun k hk => by
    obtain ⟨p, B, c, e1, m1, m2, c1, l1, h1⟩ := h k hk
    exact ⟨_, hk, p, B, c, e1, m2, c1, rfl, l1, h1⟩)
  refine ⟨(List.range T.length).map F, by simp, fun u hu => ?_, fun k hk hk' => ?_⟩
  · simp only [List.mem_map, List.mem_range] at hu
    obtain ⟨k, hk, rfl⟩ := hu
    obtain ⟨_, p, B, c, _, _, _, e, _⟩ := hF k hk
    rw [e]
    rfl
  · obtain ⟨_, p, B, c, e1, m2, c1, e, l1, h1⟩ := hF k hk'
    refine ⟨p, B, c, e1, m2, ?_, ?_, l1, h1⟩ <;> rw [List.getElem_map, List.getElem_range]
    · exact c1
    · exact e
theorem own_keep {w w' : World} {base n size : Nat} {t : TypeId} {v : Value} {xs : List Value} (h : w.ownsRow base t size v n xs) (hk : ∀ b, base ≤ b → b < w.heap.size → v.ownBlock = some b → w'.heap[b]? = w.heap[b]?) : w'.ownsRow base t size v n xs := by
  refine ⟨h.1, h.2.imp id ?_⟩
  rintro ⟨g, cap, cur, e1, e2, e3, r⟩
  exact ⟨g, cap, cur, e1, e2, (hk g e2 (Array.getElem?_eq_some_iff.1 e3).1 (by rw [e1]; rfl)).trans e3, r⟩
set_option maxRecDepth 100000 in
set_option maxHeartbeats 8000000 in
theorem copy6_any (d : Nat) (s : Su) (I T : Option Addr) (c c' lo hi : Nat) (w : World) (h : SuAt w lo hi d I T s) (hhi : hi ≤ w.heap.size) (hf : FewS s) :
    Calls Tryd.prog 13 #[.agg #[.int .i64 s.st, .int .i64 s.cl, .int .i64 s.tr, .slice I s.init.length c, .slice T s.thr.length c']] w (CopiedC w d s) := by
  obtain ⟨st, cl, tr, ini, thr⟩ := s
  have hl1 : ini.length ≤ 1000 := by have := hf.ini; dsimp only at this; omega
  have hl2 : thr.length ≤ 20 := hf.thr
  have hci : ∀ W', Below w.heap.size w W' → Calls Tryd.prog 29 #[.slice I ini.length c] W' (Cloned1 2 (ini.map (Value.int .i64 ·)) ini.length W') := fun W' h' =>
    clone_ints (ini.map (Value.int .i64 ·)) ini.length (by simp) (by simp [Value.oneCell']) (by omega) I c W' (fun k hk => by
      have hk' : k < ini.length := by simpa using hk
      obtain ⟨p, e, b, c1⟩ := (h.ini.below h' hhi).cell k hk'
      exact ⟨p, e, by rw [c1, List.getElem_map]⟩)
  obtain ⟨vs, hvs, hv1, hvh⟩ := thr_heads h.thr
  dsimp only at hvs hvh
  have hct : ∀ W', Below w.heap.size w W' → Calls Tryd.prog 30 #[.slice T thr.length c'] W' (Cloned1 33 vs thr.length W') := fun W' h' =>
    clone_thr vs thr.length hvs hv1 (by omega) T c' W' (fun k hk => by
      obtain ⟨p, B, c, e, b, c1, _⟩ := hvh k hk (by omega)
      exact ⟨p, e, (h'.cell (by rw [ad_block]; omega)).trans c1⟩)
  have HCI := Lib.hid hci
  have HCT := Lib.hid hct
  have HVH : Hid (∀ k (hk : k < thr.length), ∃ B c, vs[k]? = some (.slice B thr[k].length c) ∧ Txs w lo hi d B thr[k]) := fun k hk => by
    obtain ⟨p, B, c, _, _, _, e, h1⟩ := hvh k (by omega) hk
    exact ⟨B, c, by rw [List.getElem?_eq_getElem (by omega), e], h1⟩
  have HF := Lib.hid hf
  obtain ⟨M, hM⟩ : ∃ M, M = thr.length := ⟨_, rfl⟩
  have HM := Lib.hid hM
  obtain ⟨n, hn⟩ : ∃ n, n = ini.length := ⟨_, rfl⟩
  have HN := Lib.hid hn
  rw [← hM] at hl2 HCT
  rw [← hn] at hl1 HCI
  unfold Cloned1 at HCI HCT
  have b1 := sfive_below w st cl tr I n c T M c'
  have hf1 := heap_alloc_new w (.cells #[.int .i64 st, .int .i64 cl, .int .i64 tr, .slice I n c, .slice T M c'] 25)
  obtain ⟨W2, hW2⟩ : ∃ W, W = (w.alloc (.cells #[.int .i64 st, .int .i64 cl, .int .i64 tr, .slice I n c, .slice T M c'] 25)).alloc (.cells #[.int .i64 0, .int .i64 0, .int .i64 0, .slice none 0 0, .slice none 0 0] 25) := ⟨_, rfl⟩
  have z2 : W2.heap.size = w.heap.size + 2 := by rw [hW2]; simp
  have b2 : Below w.heap.size w W2 := by rw [hW2]; exact b1.alloc (by simp) _
  have r0 : W2.heap[w.heap.size]? = some (.cells #[.int .i64 st, .int .i64 cl, .int .i64 tr, .slice I n c, .slice T M c'] 25 (0, 0)) := by
    rw [hW2, heap_alloc_old _ _ (by simp)]
    exact hf1
  have r1 : W2.heap[w.heap.size + 1]? = some (.cells #[.int .i64 0, .int .i64 0, .int .i64 0, .slice none 0 0, .slice none 0 0] 25 (0, 0)) := by
    have := heap_alloc_new (w.alloc (.cells #[.int .i64 st, .int .i64 cl, .int .i64 tr, .slice I n c, .slice T M c'] 25)) (.cells #[.int .i64 0, .int .i64 0, .int .i64 0, .slice none 0 0, .slice none 0 0] 25)
    rw [show (w.alloc (.cells #[.int .i64 st, .int .i64 cl, .int .i64 tr, .slice I n c, .slice T M c'] 25)).heap.size = w.heap.size + 1 by simp] at this
    rw [hW2]
    exact this
  rw [← hM, ← hn]
  have HW2 := Lib.hid hW2
  have HR := Lib.hid (And.intro r0 (And.intro r1 (And.intro b2 z2)))
  have c3 : W2.cell? ⟨w.heap.size, 3, none⟩ = some (.slice I n c) := cell_of_row W2 _ 3 _ _ (0, 0) r0
  clear hM hn h hf hci hct b1 hf1 hvs hv1 hvh hW2 z2 b2 r0 r1
  go_enter Tryd.func13, Tryd.ntmps13
  go_upto_region 1 with fail
  rw [← HW2.out]
  go_wp2_with fail
  refine (HCI.out W2 HR.out.2.2.1).mono ?_
  rintro _ w5 ⟨I', ci, rfl, hoI, b5⟩
  have hz5 := b5.size
  have hz2 := HR.out.2.2.2
  have r5 : w5.heap[w.heap.size]? = some (.cells #[.int .i64 st, .int .i64 cl, .int .i64 tr, .slice I n c, .slice T M c'] 25 (0, 0)) := (b5.block _ (by omega)).trans HR.out.1
  have q5 : w5.heap[w.heap.size + 1]? = some (.cells #[.int .i64 0, .int .i64 0, .int .i64 0, .slice none 0 0, .slice none 0 0] 25 (0, 0)) := (b5.block _ (by omega)).trans HR.out.2.1
  have s5 := heap_set_same w5 w.heap.size 3 (.slice I' n ci) _ _ r5
  have d3 : w5.cell? ⟨w.heap.size, 3, none⟩ = some (.slice I n c) := cell_of_row w5 _ 3 _ _ (0, 0) r5
  have d4 : w5.frozen? ⟨w.heap.size, 3, none⟩ = false := by simp [World.frozen?, r5]
  have d5 : (w5.setCell ⟨w.heap.size, 3, none⟩ (.slice I' n ci)).cell? ⟨w.heap.size, 4, none⟩ = some (.slice T M c') := cell_of_row _ _ 4 _ _ (0, 0) s5
  have B5 : Hid (Below w.heap.size w (w5.setCell ⟨w.heap.size, 3, none⟩ (.slice I' n ci))) := (HR.out.2.2.1.trans (b5.mono (by omega))).setCell (p := ⟨w.heap.size, 3, none⟩) (Nat.le_refl _) _
  have H5 := Lib.hid (And.intro s5 (And.intro ((heap_set_other w5 w.heap.size 3 (.slice I' n ci) _ (by omega : w.heap.size + 1 ≠ w.heap.size)).trans q5) (And.intro (show w.heap.size + 2 ≤ w5.heap.size by omega) hoI)))
  clear r5 q5 s5 b5 hz5 hz2 hoI c3
  go_wp2_with fail
  refine (HCT.out _ B5.out).mono ?_
  rintro _ w6 ⟨T', cT, rfl, hoT, b6⟩
  have hz6 := b6.size
  have hz55 : (w5.setCell ⟨w.heap.size, 3, none⟩ (.slice I' n ci)).heap.size = w5.heap.size := by simp
  have h523 := H5.out.2.2.1
  have r6 : w6.heap[w.heap.size]? = some (.cells #[.int .i64 st, .int .i64 cl, .int .i64 tr, .slice I' n ci, .slice T M c'] 25 (0, 0)) := (b6.block _ (by omega)).trans H5.out.1
  have q6 : w6.heap[w.heap.size + 1]? = some (.cells #[.int .i64 0, .int .i64 0, .int .i64 0, .slice none 0 0, .slice none 0 0] 25 (0, 0)) := (b6.block _ (by omega)).trans H5.out.2.1
  have e3 : w6.cell? ⟨w.heap.size, 4, none⟩ = some (.slice T M c') := cell_of_row w6 _ 4 _ _ (0, 0) r6
  have e4 : w6.frozen? ⟨w.heap.size, 4, none⟩ = false := by simp [World.frozen?, r6]
  have s6 := heap_set_same w6 w.heap.size 4 (.slice T' M cT) _ _ r6
  obtain ⟨W7, hW7⟩ : ∃ W, W = w6.setCell ⟨w.heap.size, 4, none⟩ (.slice T' M cT) := ⟨_, rfl⟩
  have hk7 : ∀ b, b ≠ w.heap.size → W7.heap[b]? = w6.heap[b]? := fun b hb => by rw [hW7]; exact heap_set_other w6 w.heap.size 4 _ b hb
  have hz7 : W7.heap.size = w6.heap.size := by rw [hW7]; simp
  have r7 : W7.heap[w.heap.size]? = some (.cells #[.int .i64 st, .int .i64 cl, .int .i64 tr, .slice I' n ci, .slice T' M cT] 25 (0, 0)) := by rw [hW7]; exact s6
  have q7 := (hk7 (w.heap.size + 1) (by omega)).trans q6
  have B7 : Hid (Below w.heap.size w W7) := by
    rw [hW7]
    exact (B5.out.trans (b6.mono (by omega))).setCell (p := ⟨w.heap.size, 4, none⟩) (Nat.le_refl _) _
  have hT7 : W7.ownsRow w5.heap.size 33 1 (.slice T' M cT) M vs := by
    rw [hz55] at hoT
    exact own_keep hoT fun b hb1 hb2 _ => hk7 b (by omega)
  have hI7 : W7.ownsRow w.heap.size 2 1 (.slice I' n ci) n (ini.map (Value.int .i64 ·)) := by
    have h0 := H5.out.2.2.2
    have h1 : W7.ownsRow W2.heap.size 2 1 (.slice I' n ci) n (ini.map (Value.int .i64 ·)) := own_keep h0 fun b hb1 hb2 _ => by
      have := HR.out.2.2.2
      rw [hk7 b (by omega), b6.block b (by omega)]
      exact heap_set_other w5 w.heap.size 3 _ b (by omega)
    exact ⟨h1.1, h1.2.imp id fun ⟨g, cap, cur, e1, e2, r⟩ => ⟨g, cap, cur, e1, by have := HR.out.2.2.2; omega, r⟩⟩
  have hIlt : ∀ p, I' = some p → w.heap.size + 1 < p.block ∧ p.block < w5.heap.size := fun p hp => by
    have h0 := H5.out.2.2.2
    have h1 := h0.lt p.block (by rw [hp]; rfl)
    have := HR.out.2.2.2
    omega
  have H7 := Lib.hid (And.intro r7 (And.intro q7 (And.intro hI7 (And.intro hIlt (And.intro hz7 (And.intro (show w5.heap.size ≤ W7.heap.size by omega) h523))))))
  -- the end, off what lies there
  have HFIN : Hid (∀ (wr : World) (a : Nat → Nat) (hs : List Value), wr.heap[w.heap.size]? = some (.cells #[.int .i64 st, .int .i64 cl, .int .i64 tr, .slice I' n ci, .slice T' M cT] 25 (0, 0)) → W7.heap.size ≤ wr.heap.size → (∀ b, w.heap.size + 1 < b → b < w5.heap.size → wr.heap[b]? = W7.heap[b]?) → Below w.heap.size w wr →
      wr.ownsRow w5.heap.size 33 1 (.slice T' M cT) M hs → RowS wr (fun b => w5.heap.size ≤ b ∧ b < wr.heap.size) T' M 33 → (∀ i j, i ≤ j → a i ≤ a j) → w5.heap.size ≤ a 0 → (∀ j, a j ≤ wr.heap.size) →
      (∀ j (h : j < thr.length), ∃ p u, T' = some p ∧ w5.heap.size ≤ p.block ∧ p.block < wr.heap.size ∧ wr.cell? (p.add j) = some u ∧ isThread d wr (fun b => (a j ≤ b ∧ b < a (j + 1)) ∧ ∀ p, T' = some p → b ≠ p.block) u thr[j]) →
      ∀ u0 u1 u2 u3 u4 : Value, CopiedC w d ⟨st, cl, tr, ini, thr⟩ (.returned (.agg #[.int .i64 st, .int .i64 cl, .int .i64 tr, .slice I' n ci, .slice T' M cT])) (((((wr.setCell ⟨w.heap.size + 1, 0, none⟩ u0).setCell ⟨w.heap.size + 1, 1, none⟩ u1).setCell ⟨w.heap.size + 1, 2, none⟩ u2).setCell ⟨w.heap.size + 1, 3, none⟩ u3).setCell ⟨w.heap.size + 1, 4, none⟩ u4)) := by
    intro wr a hs hr hz hkb hlow hoT hrow hmo hlo hhi' hparts u0 u1 u2 u3 u4
    obtain ⟨r7, q7, hI7, hIlt, hz7, hz57, h523⟩ := H7.out
    have hset : ∀ b, b ≠ w.heap.size + 1 → (((((wr.setCell ⟨w.heap.size + 1, 0, none⟩ u0).setCell ⟨w.heap.size + 1, 1, none⟩ u1).setCell ⟨w.heap.size + 1, 2, none⟩ u2).setCell ⟨w.heap.size + 1, 3, none⟩ u3).setCell ⟨w.heap.size + 1, 4, none⟩ u4).heap[b]? = wr.heap[b]? := fun b hb => by
      rw [heap_set_other _ _ _ _ _ hb, heap_set_other _ _ _ _ _ hb, heap_set_other _ _ _ _ _ hb, heap_set_other _ _ _ _ _ hb, heap_set_other _ _ _ _ _ hb]
    have hIr : wr.ownsRow w.heap.size 2 1 (.slice I' n ci) n (ini.map (Value.int .i64 ·)) := own_keep hI7 fun b hb1 hb2 hb3 => by
      cases hI : I' with
      | none => rw [hI] at hb3; cases hb3
      | some p =>
        rw [hI] at hb3
        have h1 := hIlt p hI
        have h2 : p.block = b := by simpa [Value.ownBlock] using hb3
        exact hkb b (by omega) (by omega)
    have hInts : Ints wr w5.heap.size I' ini := by
      have hln : ini.length ≤ 100000 := by have := HN.out; omega
      refine ⟨by omega, fun k hk => ?_⟩
      obtain ⟨A, c9, e, hx⟩ := Ints.of_own hIr HN.out hln
      have e1 : I' = A := by injection e
      obtain ⟨p, e2, _, hc⟩ := hx.cell k hk
      rw [← e1] at e2
      exact ⟨p, e2, (hIlt p e2).2, hc⟩
    have hsu : SuW wr (w.heap.size + 1 + 1) w5.heap.size d I' T' ⟨st, cl, tr, ini, thr⟩ a := ⟨hInts, fun p hp => (hIlt p hp).1, by omega, by omega, by rw [HM.out] at hrow; exact hrow, hmo, hlo, hhi', hparts⟩
    refine ⟨I', ci, T', cT, w5.heap.size, a, hs, by rw [HN.out, HM.out], ?_, ?_, ?_, ?_, fun p hp => (hIlt p hp).2⟩
    · have h2 := hsu.keep (w' := ((((wr.setCell ⟨w.heap.size + 1, 0, none⟩ u0).setCell ⟨w.heap.size + 1, 1, none⟩ u1).setCell ⟨w.heap.size + 1, 2, none⟩ u2).setCell ⟨w.heap.size + 1, 3, none⟩ u3).setCell ⟨w.heap.size + 1, 4, none⟩ u4) (by simp) (fun b hb _ => hset b (by omega))
      exact { h2 with inl := fun p hp => by have := h2.inl p hp; omega, lm := by omega }
    · rw [← HN.out]
      exact own_keep hIr fun b hb1 hb2 hb3 => hset b (by
        cases hI : I' with
        | none => rw [hI] at hb3; cases hb3
        | some p =>
          rw [hI] at hb3
          have h1 := hIlt p hI
          have h2 : p.block = b := by simpa [Value.ownBlock] using hb3
          omega)
    · rw [← HM.out]
      exact own_keep hoT fun b hb1 hb2 hb3 => hset b (by omega)
    · exact ((((hlow.setCell (p := ⟨_, 0, none⟩) (by show w.heap.size ≤ w.heap.size + 1; omega) _).setCell (p := ⟨_, 1, none⟩) (by show w.heap.size ≤ w.heap.size + 1; omega) _).setCell (p := ⟨_, 2, none⟩) (by show w.heap.size ≤ w.heap.size + 1; omega) _).setCell (p := ⟨_, 3, none⟩) (by show w.heap.size ≤ w.heap.size + 1; omega) _).setCell (p := ⟨_, 4, none⟩) (by show w.heap.size ≤ w.heap.size + 1; omega) _
  have hT7' := hT7
  have f4 : W7.cell? ⟨w.heap.size, 4, none⟩ = some (.slice T' M cT) := cell_of_row W7 _ 4 _ _ (0, 0) r7
  have HO := Lib.hid hT7
  clear r6 q6 s6 hk7 hz7 r7 q7 hT7 hI7 hIlt hz6 hz55 h523 b6 hoT hT7' d3 d4 d5
  go_upto_region 3 with fail
  rw [← hW7]
  clear hW7 e3 e4
  obtain ⟨hH1, hH2⟩ : w.heap.size + 1 < w5.heap.size ∧ w5.heap.size ≤ W7.heap.size := by have := H7.out.2.2.2.2.2; omega
  rcases Nat.eq_zero_or_pos M with hM0 | hM0
  · subst hM0
    go_wp2_with fail
    go_loopw [18] (fun i wr => i = .int .i64 0 ∧ Hid (wr = W7)) (fun i _ => 0)
    case atStart => exact ⟨rfl, rfl⟩
    case round =>
      obtain ⟨rfl, hwr⟩ := hrel
      obtain rfl := hwr.out
      have rb := H7.out.1
      have rq := H7.out.2.1
      have HEND := Lib.hid (HFIN.out wr (fun _ => wr.heap.size) vs rb (Nat.le_refl _) (fun _ _ _ => rfl) B7.out HO.out (Or.inl rfl) (fun _ _ _ => Nat.le_refl _) hH2 (fun _ => Nat.le_refl _) (fun j hj => absurd hj (by have := HM.out; omega)))
      have x0 : wr.cell? ⟨w.heap.size, 0, none⟩ = some (.int .i64 st) := cell_of_row wr _ 0 _ _ (0, 0) rb
      have x1 : wr.cell? ⟨w.heap.size, 1, none⟩ = some (.int .i64 cl) := cell_of_row wr _ 1 _ _ (0, 0) rb
      have x2 : wr.cell? ⟨w.heap.size, 2, none⟩ = some (.int .i64 tr) := cell_of_row wr _ 2 _ _ (0, 0) rb
      have x3 : wr.cell? ⟨w.heap.size, 3, none⟩ = some (.slice I' n ci) := cell_of_row wr _ 3 _ _ (0, 0) rb
      have x4 : wr.cell? ⟨w.heap.size, 4, none⟩ = some (.slice T' 0 cT) := cell_of_row wr _ 4 _ _ (0, 0) rb
      have y0 : wr.cell? ⟨w.heap.size + 1, 0, none⟩ = some (.int .i64 0) := cell_of_row wr _ 0 _ _ (0, 0) rq
      have y1 : wr.cell? ⟨w.heap.size + 1, 1, none⟩ = some (.int .i64 0) := cell_of_row wr _ 1 _ _ (0, 0) rq
      have y2 : wr.cell? ⟨w.heap.size + 1, 2, none⟩ = some (.int .i64 0) := cell_of_row wr _ 2 _ _ (0, 0) rq
      have y3 : wr.cell? ⟨w.heap.size + 1, 3, none⟩ = some (.slice none 0 0) := cell_of_row wr _ 3 _ _ (0, 0) rq
      have y4 : wr.cell? ⟨w.heap.size + 1, 4, none⟩ = some (.slice none 0 0) := cell_of_row wr _ 4 _ _ (0, 0) rq
      have y5 : ∀ i, wr.frozen? ⟨w.heap.size + 1, i, none⟩ = false := fun i => by simp [World.frozen?, rq]
      clear rb rq
      go_wp2_with fail
      exact bodyPost_ret (v := .agg #[.int .i64 st, .int .i64 cl, .int .i64 tr, .slice I' n ci, .slice T' 0 cT]) (by simp [results, Tryd.results13, go_sem, y0, y1, y2, y3, y4]) rfl (HEND.out _ _ _ _ _)
  obtain ⟨gT, capT, hT', hg1, hg2⟩ := HO.out.form hM0
  have hTT : T' = some ⟨gT, 0, none⟩ ∧ cT = capT := by
    injection hT' with e1 e2 e3
    exact ⟨e1, e3⟩
  obtain ⟨rfl, rfl⟩ := hTT
  clear hT'
  have hinv0 : RWI (isThread d) 33 w5.heap.size W7 thr vs cT gT 0 (fun _ => W7.heap.size) W7 := RWI.start (by rw [← HM.out]; exact HO.out) (Below.refl _ _) (by rw [← HM.out]; exact hM0)
  have HI0 := Lib.hid hinv0
  clear hinv0
  go_wp2_with fail
  go_loopw [18] (fun i wr => ∃ (k : Nat) (a : Nat → Nat), k ≤ M ∧ i = .int .i64 k ∧ Hid (RWI (isThread d) 33 w5.heap.size W7 thr vs cT gT k a wr)) (fun i _ => M - (intOf i).toNat)
  case atStart => exact ⟨0, _, by omega, by go_num, HI0⟩
  case round =>
    obtain ⟨k, a, hk, rfl, INV⟩ := hrel
    have hlow : Below w.heap.size w wr := B7.out.trans (INV.out.low.mono (by omega))
    have rb := (INV.out.low.block w.heap.size (by omega)).trans H7.out.1
    by_cases hlt : k < M
    · have k1 : (k : Int) < (M : Int) := by omega
      have hlt2 : k < thr.length := by have := HM.out; omega
      obtain ⟨B, c2, hv, hX⟩ := HVH.out k hlt2
      obtain ⟨g1, _⟩ := INV.out.cell hlt2 hv
      have hfl := HF.out.txs _ (List.getElem_mem hlt2)
      have hfx := HF.out.tx _ (List.getElem_mem hlt2)
      obtain ⟨l, hl⟩ : ∃ l, l = thr[k] := ⟨_, rfl⟩
      have HL := Lib.hid hl
      rw [← hl] at g1 hX hfl hfx
      obtain ⟨us, hus, hu1, huh⟩ := txs_heads hX
      have hcx := clone_txs us l.length hus hu1 (by omega) B c2 wr (fun j hj => by
        obtain ⟨p, C, c, e, b, c1, _⟩ := huh j hj (by omega)
        exact ⟨p, e, (hlow.cell (by rw [ad_block]; omega)).trans c1⟩)
      have HUH : Hid (∀ j (hj : j < l.length), ∃ C c, us[j]? = some (.slice C l[j].length c) ∧ l[j].length ≤ 9223372036854775807 ∧ SKids w lo hi d C l[j]) := fun j hj => by
        obtain ⟨p, C, c, _, _, _, e, l1, h1⟩ := huh j (by omega) hj
        exact ⟨C, c, by rw [List.getElem?_eq_getElem (by omega), e], l1, h1⟩
      have HCX := Lib.hid hcx
      have HFX := Lib.hid hfx
      obtain ⟨J, hJ⟩ : ∃ J, J = l.length := ⟨_, rfl⟩
      have HJ := Lib.hid hJ
      unfold Cloned1 at HCX
      rw [← hJ] at g1 hfl HCX
      obtain ⟨wa, hwa⟩ : ∃ wa, wa = wr := ⟨_, rfl⟩
      have HWA := Lib.hid hwa
      have HLOW := Lib.hid hlow
      clear hl hX hJ hcx hus hu1 huh hfx hv hlow rb
      go_wp2_with fail
      refine HCX.out.mono ?_
      rintro _ w8 ⟨A8, cap8, rfl, ho8, b8⟩
      rw [← hwa] at INV HLOW ho8 b8
      clear hwa
      have B8 := Lib.hid b8
      rcases Nat.eq_zero_or_pos J with hJ0 | hJ0
      · subst hJ0
        have hth : isThread d w8 (fun b => wa.heap.size ≤ b ∧ b < w8.heap.size) (.slice A8 0 cap8) thr[k] := by
          rw [← HL.out]
          have hl0 := List.eq_nil_of_length_eq_zero HJ.out.symm
          rw [hl0]
          exact ⟨A8, cap8, rfl, by simp, fun j hj => absurd hj (by simp), Or.inl rfl, by simp⟩
        have HN8 := Lib.hid (INV.out.step (isThread_kept d) hlt2 b8 hth)
        have inv8 := INV.out.below (isThread_kept d) b8
        obtain ⟨B0, c0, hv, _⟩ := HVH.out k hlt2
        obtain ⟨g3, g4⟩ := inv8.cell hlt2 hv
        have f4 : w8.cell? ⟨w.heap.size, 4, none⟩ = some (.slice (some ⟨gT, 0, none⟩) M cT) := cell_of_row w8 _ 4 _ _ (0, 0) ((inv8.low.block w.heap.size (by omega)).trans H7.out.1)
        clear ho8 b8 hth inv8 hv g1
        go_wp2_with fail
        go_loopw [27] (fun i wr => i = .int .i64 0 ∧ Hid (wr = w8)) (fun i _ => 0)
        case atStart => exact ⟨rfl, rfl⟩
        case round =>
          obtain ⟨rfl, hwr⟩ := hrel
          obtain rfl := hwr.out
          go_wp2_with fail
          go_roundw
          case rel => exact ⟨k + 1, _, by omega, by go_num, HN8⟩
          case measure => simp [intOf]; omega
      · obtain ⟨gi, capi, hA8, hgi1, hgi2⟩ := ho8.form hJ0
        have hAA : A8 = some ⟨gi, 0, none⟩ ∧ cap8 = capi := by
          injection hA8 with e1 e2 e3
          exact ⟨e1, e3⟩
        obtain ⟨rfl, rfl⟩ := hAA
        have hin : RWI (isTx d) 34 wa.heap.size wa l us cap8 gi 0 (fun _ => w8.heap.size) w8 := RWI.start (by rw [← HJ.out]; exact ho8) b8 (by rw [← HJ.out]; exact hJ0)
        have HIN := Lib.hid hin
        clear hA8 ho8 b8 hin g1
        go_wp2_with fail
        go_loopw [27] (fun i wr => ∃ (m : Nat) (b : Nat → Nat), m ≤ J ∧ i = .int .i64 m ∧ Hid (RWI (isTx d) 34 wa.heap.size wa l us cap8 gi m b wr)) (fun i _ => J - (intOf i).toNat)
        case atStart => exact ⟨0, _, by omega, by go_num, HIN⟩
        case round =>
          obtain ⟨m, b, hm, rfl, IN⟩ := hrel
          have hlow2 : Below w.heap.size w wr := HLOW.out.trans (IN.out.low.mono HLOW.out.size)
          by_cases hmj : m < J
          · have k2 : (m : Int) < (J : Int) := by omega
            have hmj2 : m < l.length := by have := HJ.out; omega
            obtain ⟨C, c3, hv, l4, hS⟩ := HUH.out m hmj2
            obtain ⟨g2, _⟩ := IN.out.cell hmj2 hv
            have hfw := HFX.out _ (List.getElem_mem hmj2)
            have hcp := codecopy_any d C c3 l[m] lo hi wr (hS.below hlow2 hhi) (by have := hlow2.size; omega) (by have := hfw.len; omega) (hfw.sm d)
            unfold CopiedS at hcp
            obtain ⟨x, hx⟩ : ∃ x, x = l[m] := ⟨_, rfl⟩
            have HXM := Lib.hid hx
            rw [← hx] at g2 l4 hcp hv
            have HLX := Lib.hid l4
            obtain ⟨q, hq⟩ : ∃ q, q = x.length := ⟨_, rfl⟩
            have HQ := Lib.hid hq
            rw [← hq] at g2 hcp hv
            have HCP := Lib.hid hcp
            have HVV := Lib.hid hv
            clear hS hfw hcp hx hq l4 hv hlow2
            go_wp2_with fail
            refine HCP.out.mono ?_
            rintro _ w9 ⟨A9, c9, rfl, h9, b9, r9⟩
            have HTX : isTx d w9 (fun b => wr.heap.size ≤ b ∧ b < w9.heap.size) (.slice A9 q c9) l[m] := by
              rw [← HXM.out, HQ.out]
              exact ⟨A9, c9, rfl, HLX.out, h9.toS, by rw [← HQ.out]; exact r9⟩
            have HN9 := Lib.hid (IN.out.step (isTx_kept d) hmj2 b9 HTX)
            obtain ⟨g3, g4⟩ := (IN.out.below (isTx_kept d) b9).cell hmj2 HVV.out
            clear h9 b9 r9 HTX g2
            go_wp2_with fail
            go_roundw
            case rel => exact ⟨m + 1, _, by omega, by go_num, HN9⟩
            case measure => simp [intOf]; omega
          · obtain rfl : m = J := by omega
            have hIN := IN.out
            have hth : isThread d wr (fun b => wa.heap.size ≤ b ∧ b < wr.heap.size) (.slice (some ⟨gi, 0, none⟩) m cap8) thr[k] := by
              rw [← HL.out]
              have h := hIN
              rw [HJ.out] at h ⊢
              exact h.thread (by have := HJ.out; omega)
            have HN8 := Lib.hid (INV.out.step (isThread_kept d) hlt2 hIN.low hth)
            have inv8 := INV.out.below (isThread_kept d) hIN.low
            obtain ⟨B0, c0, hv, _⟩ := HVH.out k hlt2
            obtain ⟨g3, g4⟩ := inv8.cell hlt2 hv
            have f4 : wr.cell? ⟨w.heap.size, 4, none⟩ = some (.slice (some ⟨gT, 0, none⟩) M cT) := cell_of_row wr _ 4 _ _ (0, 0) ((inv8.low.block w.heap.size (by omega)).trans H7.out.1)
            clear hIN hth inv8 hv hlow2
            go_wp2_with fail
            go_roundw
            case rel => exact ⟨k + 1, _, by omega, by go_num, HN8⟩
            case measure => simp [intOf]; omega
    · obtain rfl : k = M := by omega
      have rq := (INV.out.low.block (w.heap.size + 1) (by omega)).trans H7.out.2.1
      have h := INV.out
      rw [HM.out] at h
      obtain ⟨hs, hown⟩ := h.own
      obtain ⟨hrow, hparts⟩ := h.parts (isThread_kept d)
      have HEND := Lib.hid (HFIN.out wr a hs rb INV.out.low.size (fun b h1 h2 => INV.out.low.block b h2) hlow (by rw [HM.out]; exact hown) (by rw [HM.out]; exact hrow) h.mono (by have := h.lo; have := h.bg; omega) h.hi hparts)
      clear h hown hrow hparts hlow
      have x0 : wr.cell? ⟨w.heap.size, 0, none⟩ = some (.int .i64 st) := cell_of_row wr _ 0 _ _ (0, 0) rb
      have x1 : wr.cell? ⟨w.heap.size, 1, none⟩ = some (.int .i64 cl) := cell_of_row wr _ 1 _ _ (0, 0) rb
      have x2 : wr.cell? ⟨w.heap.size, 2, none⟩ = some (.int .i64 tr) := cell_of_row wr _ 2 _ _ (0, 0) rb
      have x3 : wr.cell? ⟨w.heap.size, 3, none⟩ = some (.slice I' n ci) := cell_of_row wr _ 3 _ _ (0, 0) rb
      have x4 : wr.cell? ⟨w.heap.size, 4, none⟩ = some (.slice (some ⟨gT, 0, none⟩) k cT) := cell_of_row wr _ 4 _ _ (0, 0) rb
      have y0 : wr.cell? ⟨w.heap.size + 1, 0, none⟩ = some (.int .i64 0) := cell_of_row wr _ 0 _ _ (0, 0) rq
      have y1 : wr.cell? ⟨w.heap.size + 1, 1, none⟩ = some (.int .i64 0) := cell_of_row wr _ 1 _ _ (0, 0) rq
      have y2 : wr.cell? ⟨w.heap.size + 1, 2, none⟩ = some (.int .i64 0) := cell_of_row wr _ 2 _ _ (0, 0) rq
      have y3 : wr.cell? ⟨w.heap.size + 1, 3, none⟩ = some (.slice none 0 0) := cell_of_row wr _ 3 _ _ (0, 0) rq
      have y4 : wr.cell? ⟨w.heap.size + 1, 4, none⟩ = some (.slice none 0 0) := cell_of_row wr _ 4 _ _ (0, 0) rq
      have y5 : ∀ i, wr.frozen? ⟨w.heap.size + 1, i, none⟩ = false := fun i => by simp [World.frozen?, rq]
      clear rb rq
      go_wp2_with fail
      exact bodyPost_ret (v := .agg #[.int .i64 st, .int .i64 cl, .int .i64 tr, .slice I' n ci, .slice (some ⟨gT, 0, none⟩) k cT]) (by simp [results, Tryd.results13, go_sem, y0, y1, y2, y3, y4]) rfl (HEND.out _ _ _ _ _)
end Go.Proofs.YtnkdaehmdcpafaaDoor
