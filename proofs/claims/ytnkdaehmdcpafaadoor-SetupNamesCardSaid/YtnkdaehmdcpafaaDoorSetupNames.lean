/-
  SetupNames: the examples; each limit: the closed statement holds, and its card. Condition: code's table lies as its initialiser lays it, which the card ties to the program's text.
-/
import Derived.Test.YtnkdaehmdcpafaaDoorUac
import Derived.Test.YtnkdaehmdcpafaaDoorUi
import Derived.Test.YtnkdaehmdcpafaaDoorUo
import Derived.Test.YtnkdaehmdcpafaaDoorUk
namespace Go.Proofs.YtnkdaehmdcpafaaDoor
open Go.ChangeShapes Go.WideShapes Go.ChangeAt Go.RowKit Go.WideElems Go.WideMaps
set_option linter.unusedVariables false
theorem LoopN.box {W : World} {g1 gT gA k : Nat} {wr w : World} (h : LoopN W g1 gT gA k wr) (b : Below wr.heap.size wr w) : w.cell? ⟨gA, 4, none⟩ = some (.slice (some ⟨gT, 0, none⟩) 6 6) :=
  cell_of_row w gA 4 _ _ (0, 0) ((b.block gA (lt_of_block h.rA)).trans h.rA)
theorem LoopN.cell {W : World} {g1 gT gA k j : Nat} {wr w : World} (h : LoopN W g1 gT gA k wr) (b : Below wr.heap.size wr w) (hj : j < 6) : (∃ u, w.cell? ⟨gT, j, none⟩ = some u) ∧ w.frozen? ⟨gT, j, none⟩ = false := by
  obtain ⟨cur, c1, c2, _⟩ := h.rT
  have c3 := (b.block gT (lt_of_block c1)).trans c1
  refine ⟨⟨cur[j]'(by omega), ?_⟩, by simp [World.frozen?, c3]⟩
  rw [cell_of_row w gT j _ _ (0, 0) c3, Array.getElem?_eq_getElem]
theorem LoopN.five {W : World} {g1 gT gA k : Nat} {wr w : World} (h : LoopN W g1 gT gA k wr) (b : Below wr.heap.size wr w) : SFive w gA 32 1099511627776 1000 (some ⟨g1, 0, none⟩) 32 32 (some ⟨gT, 0, none⟩) 6 6 := by
  have r := (b.block gA (lt_of_block h.rA)).trans h.rA
  exact ⟨cell_of_row w gA 0 _ _ (0, 0) r, cell_of_row w gA 1 _ _ (0, 0) r, cell_of_row w gA 2 _ _ (0, 0) r, cell_of_row w gA 3 _ _ (0, 0) r, cell_of_row w gA 4 _ _ (0, 0) r⟩
theorem check_bad (s : Su) (I T : Option Addr) (c c' lo : Nat) {n M : Nat} (w : World) (hkd : Kd w) (h : SuAt w lo w.heap.size 42 I T s) (ho : okF 42 s = false) (hn : s.init.length = n) (hM : s.thr.length = M) :
    Calls Tryd.prog 14 #[.agg #[.int .i64 s.st, .int .i64 s.cl, .int .i64 s.tr, .slice I n c, .slice T M c']] w fun e w' => e = .returned (.int .i64 4) ∧ Below w.heap.size w w' := by
  subst hn
  subst hM
  have := check_any 42 s I T c c' lo w.heap.size w hkd h (Nat.le_refl _) (by decide)
  rw [ho] at this
  exact this
theorem no_ints {w : World} {lo mid : Nat} {I T : Option Addr} {a : Nat → Nat} (h : SuW w lo mid 42 I T su0 a) : SuAt w lo w.heap.size 42 none T ⟨32, 1099511627776, 1000, [], thr0⟩ :=
  ⟨⟨by decide, fun k hk => absurd hk (by simp)⟩, h.at, by decide, by decide, by decide, by decide, by decide, by decide, by decide⟩
theorem more_ints {w : World} {lo mid : Nat} {I J T : Option Addr} {a : Nat → Nat} (h : SuW w lo mid 42 I T su0 a) (hi : Ints w w.heap.size J (List.replicate 33 0)) : SuAt w lo w.heap.size 42 J T ⟨32, 1099511627776, 1000, List.replicate 33 0, thr0⟩ :=
  ⟨hi, h.at, by decide, by decide, by decide, by decide, by decide, by decide, by decide⟩
theorem more_thr {w : World} {lo mid g : Nat} {I T : Option Addr} {a : Nat → Nat} {t : TypeId} (h : SuW w lo mid 42 I T su0 a) (hr : w.heap[g]? = some (.cells (List.replicate 7 (Value.slice none 0 0)).toArray t (0, 0))) (h1 : lo ≤ g) (h2 : g < w.heap.size) : SuAt w lo w.heap.size 42 I (some ⟨g, 0, none⟩) ⟨32, 1099511627776, 1000, List.replicate 32 0, List.replicate 7 []⟩ := by
  refine ⟨h.ints (Nat.le_refl _) fun _ _ => rfl, fun k hk => ?_, by decide, by decide, by decide, by decide, by decide, by decide, by decide⟩
  have hk' : k < 7 := by simpa using hk
  have e : (List.replicate 7 ([] : List (List St)))[k]'(by simpa using hk') = [] := List.getElem_replicate ..
  suffices hall : ∀ l, l = [] → TC w lo w.heap.size 42 (some ⟨g, 0, none⟩) k l from hall _ e
  rintro l rfl
  refine ⟨⟨g, 0, none⟩, none, 0, rfl, h1, h2, ?_, by decide, fun j hj => absurd hj (by simp)⟩
  rw [row_add, cell_of_row w g k _ _ (0, 0) hr]
  show (List.replicate 7 (Value.slice none 0 0)).toArray[k]? = _
  rw [List.getElem?_toArray, List.getElem?_replicate, if_pos hk']
  rfl
set_option maxRecDepth 100000 in
set_option maxHeartbeats 16000000 in
set_option pp.maxSteps 200000 in
set_option pp.deepTerms true in
theorem SetupNames_walk {W : World} (hkd : Kd W) : Calls Tryd.prog 5 #[] W fun e w' => e = .returned (.bool true) ∧ Below W.heap.size W w' := by
  obtain ⟨w, hw⟩ : ∃ w, w = W := ⟨_, rfl⟩
  rw [← hw] at hkd ⊢
  have HKD := Lib.hid (fun W' (h' : Below w.heap.size w W') => hkd.below h' (Nat.le_refl _))
  clear hkd hw
  go_enter Tryd.func5, Tryd.ntmps5
  go_upto_region 1 with fail
  refine regN1 (by kernel_rfl) _ (by show 157 ≤ 157; decide) w ?_
  intro u0 u1 u2 g1 gT gA w1 b1 l1 lT lA r1 rT rA
  simp only [putAll, List.setIfInBounds_toArray, List.set_cons_zero, List.set_cons_succ]
  have HLP : Hid (LoopN w g1 gT gA 0 w1) := ⟨b1, l1, lT, lA, r1, rA, ⟨_, rT, by simp, fun j hj => absurd hj (by omega)⟩⟩
  clear b1 l1 lT lA r1 rT rA
  go_wp2_with fail
  go_loopw [2] (fun i wr => ∃ k : Nat, k ≤ 6 ∧ i = .int .i64 k ∧ Hid (LoopN w g1 gT gA k wr)) (fun i _ => 6 - (intOf i).toNat)
  case atStart => exact ⟨0, by omega, by go_num, HLP⟩
  case round =>
    obtain ⟨k, hk, rfl, HL⟩ := hrel
    by_cases hlt : k < 6
    · have k1 : (k : Int) < 6 := by omega
      go_upto_region 5 with fail
      refine regN5 (by kernel_rfl) _ (by show 157 ≤ 157; decide) wr gA gT 6 k hlt rfl rfl (fun w' b' => HL.out.box b') (fun w' b' => HL.out.cell b' hlt) ?_
      intro g w2 b2 hg hr
      simp only [putAll, List.setIfInBounds_toArray, List.set_cons_zero, List.set_cons_succ]
      have HN := Lib.hid (HL.out.step hlt b2 (Nat.le_trans HL.out.low.size hg) hr)
      clear b2 hg hr
      go_wp2_with fail
      go_roundw
      case rel => exact ⟨k + 1, by omega, by go_num, HN⟩
      case measure => simp [intOf]; omega
    · obtain rfl : k = 6 := by omega
      obtain ⟨wm, rfl⟩ : ∃ W : World, W = wr := ⟨_, rfl⟩
      have HM := Lib.hid HL.out.most
      have HF5 := Lib.hid (fun W' (h' : Below wm.heap.size wm W') => HL.out.five h')
      have DW := Lib.hid (fun W' (h' : Below wm.heap.size wm W') => HL.out.low.trans (h'.mono HL.out.low.size))
      have HCP : Hid (∀ W', Below wm.heap.size wm W' → Calls Tryd.prog 12 #[.agg #[.int .i64 32, .int .i64 1099511627776, .int .i64 1000, .slice (some ⟨g1, 0, none⟩) 32 32, .slice (some ⟨gT, 0, none⟩) 6 6]] W' (Copied6 W' 42 su0)) := fun W' h' =>
        rcopy6_any 42 su0 (some ⟨g1, 0, none⟩) (some ⟨gT, 0, none⟩) 32 6 0 wm.heap.size W' (HM.out.below h' (Nat.le_refl _)) h'.size few0
      have K0 : Hid (Calls Tryd.prog 14 #[.agg #[.int .i64 32, .int .i64 1099511627776, .int .i64 1000, .slice (some ⟨g1, 0, none⟩) 32 32, .slice (some ⟨gT, 0, none⟩) 6 6]] wm fun e w' => e = .returned (.int .i64 0) ∧ Below wm.heap.size wm w') := by
        have := check_any 42 su0 (some ⟨g1, 0, none⟩) (some ⟨gT, 0, none⟩) 32 6 0 wm.heap.size wm (HKD.out wm (DW.out wm (Below.refl _ _))) HM.out (Nat.le_refl _) (by decide)
        rw [ok0] at this
        exact this
      have q5 := HF5.out wm (Below.refl _ _)
      have c0 := q5.c0
      have c1 := q5.c1
      have c2 := q5.c2
      have c3 := q5.c3
      have c4 := q5.c4
      clear q5
      go_wp2_with fail
      refine K0.out.mono ?_
      rintro _ w3 ⟨rfl, b3⟩
      have B3 := Lib.hid b3
      clear b3 c0 c1 c2 c3 c4
      go_wp2_with fail
      go_loopw [3] (fun i wq => ∃ k : Nat, k ≤ 9 ∧ i = .int .i64 k ∧ Hid (Below w3.heap.size w3 wq)) (fun i _ => 9 - (intOf i).toNat)
      case atStart => exact ⟨0, by omega, by go_num, Below.refl _ _⟩
      case round =>
        obtain ⟨k, hk, rfl, HB⟩ := hrel
        obtain ⟨wq, rfl⟩ : ∃ W : World, W = wr := ⟨_, rfl⟩
        by_cases hlt : k < 9
        · have k1 : (k : Int) < 9 := by omega
          have hbq : Below wm.heap.size wm wq := B3.out.trans (HB.out.mono B3.out.size)
          have DQ := Lib.hid (DW.out wq hbq)
          have q5 := HF5.out wq hbq
          have c0 := q5.c0
          have c1 := q5.c1
          have c2 := q5.c2
          have c3 := q5.c3
          have c4 := q5.c4
          have HC := Lib.hid (HCP.out wq hbq)
          clear q5 hbq
          go_wp2_with fail
          refine HC.out.mono ?_
          rintro _ w4 ⟨I, c, T, c', mid, a, rfl, capc, hsu, b4⟩
          have HB4 := Lib.hid (HB.out.trans (b4.mono HB.out.size))
          have HSU := Lib.hid (fun W' (h' : Below w4.heap.size w4 W') => hsu.keep h'.size (fun b _ hb => h'.block b hb))
          clear hsu c0 c1 c2 c3 c4 HC
          dsimp only [su0, List.length_replicate, thr0]
          go_upto_region 12 with fail
          have hcase : k = 0 ∨ k = 1 ∨ k = 2 ∨ k = 3 ∨ k = 4 ∨ k = 5 ∨ k = 6 ∨ k = 7 ∨ k = 8 := by omega
          clear hk hlt k1 HB
          rcases hcase with rfl | rfl | rfl | rfl | rfl | rfl | rfl | rfl | rfl
          · go_wp2_with fail
            refine (check_bad ⟨32, 1099511627776, 1000, [], thr0⟩ none T 0 c' wq.heap.size _ (HKD.out _ ((DQ.out.trans (b4.mono DQ.out.size)).trans (((Below.refl w4.heap.size w4).alloc (Nat.le_refl _) _).mono (by have := DQ.out.size; have := b4.size; omega)))) (no_ints (HSU.out _ ((Below.refl _ _).alloc (Nat.le_refl _) _))) (by kernel_rfl) rfl rfl).mono ?_
            rintro _ w6 ⟨rfl, b6⟩
            have HE := Lib.hid (HB4.out.trans ((((Below.refl w4.heap.size w4).alloc (Nat.le_refl _) _).trans (b6.mono (by simp))).mono HB4.out.size))
            clear b6
            go_wp2_with fail
            go_roundw
            case rel => exact ⟨1, by omega, by go_num, HE⟩
            case measure => simp [intOf]
          · go_upto_region 17 with fail
            obtain ⟨W5, hW5⟩ : ∃ W, W = w4.alloc (.cells #[.int .i64 32, .int .i64 1099511627776, .int .i64 1000, .slice I 32 c, .slice T 6 c'] 25) := ⟨_, rfl⟩
            rw [← hW5]
            have rb : W5.heap[w4.heap.size]? = some (.cells #[.int .i64 32, .int .i64 1099511627776, .int .i64 1000, .slice I 32 c, .slice T 6 c'] 25 (0, 0)) := by rw [hW5]; exact heap_alloc_new w4 _
            have b45 : Below w4.heap.size w4 W5 := by rw [hW5]; exact (Below.refl _ _).alloc (Nat.le_refl _) _
            have hz5 : W5.heap.size = w4.heap.size + 1 := by rw [hW5]; simp
            clear hW5
            go_wp2_with (first
              | (refine wpList_mk (w := W5) (z := .int .i64 0) (bytes := 8) Tryd.underlying22 (by kernel_rfl) 33 (by decide) (by decide) 33 rfl (by kernel_rfl) rfl rfl ?_; intro w5 hr5 b5 hl5
                 have rb5 := (b5.block w4.heap.size (by omega)).trans rb
                 have x0 := cell_of_row w5 w4.heap.size 0 _ _ (0, 0) rb5
                 have x1 := cell_of_row w5 w4.heap.size 1 _ _ (0, 0) rb5
                 have x2 := cell_of_row w5 w4.heap.size 2 _ _ (0, 0) rb5
                 have x3 := cell_of_row w5 w4.heap.size 3 _ _ (0, 0) rb5
                 have x4 := cell_of_row w5 w4.heap.size 4 _ _ (0, 0) rb5
                 have x5 : ∀ i, w5.frozen? ⟨w4.heap.size, i, none⟩ = false := fun i => by simp [World.frozen?, rb5])
              | fail)
            rw [hz5] at hr5
            have b6 : Below w4.heap.size w4 (w5.setCell ⟨w4.heap.size, 3, none⟩ (.slice (some ⟨w4.heap.size + 1, 0, none⟩) 33 33)) := (b45.trans (b5.mono (by omega))).setCell (p := ⟨w4.heap.size, 3, none⟩) (Nat.le_refl _) _
            have r6 : (w5.setCell ⟨w4.heap.size, 3, none⟩ (.slice (some ⟨w4.heap.size + 1, 0, none⟩) 33 33)).heap[(w4.heap.size + 1)]? = _ := (heap_set_other w5 w4.heap.size 3 _ (w4.heap.size + 1) (by omega)).trans hr5
            refine (check_bad ⟨32, 1099511627776, 1000, List.replicate 33 0, thr0⟩ (some ⟨w4.heap.size + 1, 0, none⟩) T 33 c' wq.heap.size _ (HKD.out _ ((DQ.out.trans (b4.mono DQ.out.size)).trans (b6.mono (by have := DQ.out.size; have := b4.size; omega)))) (more_ints (HSU.out _ b6) (ints_rep r6 (by rw [hz5] at hl5; simpa using hl5) (by decide))) (by kernel_rfl) rfl rfl).mono ?_
            rintro _ w6 ⟨rfl, b7⟩
            have HE := Lib.hid (HB4.out.trans ((b6.trans (b7.mono b6.size)).mono HB4.out.size))
            clear b6 b7 r6 hr5 b5 hl5 rb5 x0 x1 x2 x3 x4 x5 rb b45 hz5
            go_wp2_with fail
            go_roundw
            case rel => exact ⟨2, by omega, by go_num, HE⟩
            case measure => simp [intOf]
          · go_wp2_with fail
            refine (check_bad ⟨0, 1099511627776, 1000, List.replicate 32 0, thr0⟩ I T c c' wq.heap.size _ (HKD.out _ ((DQ.out.trans (b4.mono DQ.out.size)).trans (((Below.refl w4.heap.size w4).alloc (Nat.le_refl _) _).mono (by have := DQ.out.size; have := b4.size; omega)))) ((HSU.out _ ((Below.refl _ _).alloc (Nat.le_refl _) _)).suAt (s' := ⟨0, 1099511627776, 1000, List.replicate 32 0, thr0⟩) rfl rfl (by decide) (by decide) (by decide) (by decide) (by decide) (by decide) (by decide)) (by kernel_rfl) rfl rfl).mono ?_
            rintro _ w6 ⟨rfl, b6⟩
            have HE := Lib.hid (HB4.out.trans ((((Below.refl w4.heap.size w4).alloc (Nat.le_refl _) _).trans (b6.mono (by simp))).mono HB4.out.size))
            clear b6
            go_wp2_with fail
            go_roundw
            case rel => exact ⟨3, by omega, by go_num, HE⟩
            case measure => simp [intOf]
          · go_wp2_with fail
            refine (check_bad ⟨33, 1099511627776, 1000, List.replicate 32 0, thr0⟩ I T c c' wq.heap.size _ (HKD.out _ ((DQ.out.trans (b4.mono DQ.out.size)).trans (((Below.refl w4.heap.size w4).alloc (Nat.le_refl _) _).mono (by have := DQ.out.size; have := b4.size; omega)))) ((HSU.out _ ((Below.refl _ _).alloc (Nat.le_refl _) _)).suAt (s' := ⟨33, 1099511627776, 1000, List.replicate 32 0, thr0⟩) rfl rfl (by decide) (by decide) (by decide) (by decide) (by decide) (by decide) (by decide)) (by kernel_rfl) rfl rfl).mono ?_
            rintro _ w6 ⟨rfl, b6⟩
            have HE := Lib.hid (HB4.out.trans ((((Below.refl w4.heap.size w4).alloc (Nat.le_refl _) _).trans (b6.mono (by simp))).mono HB4.out.size))
            clear b6
            go_wp2_with fail
            go_roundw
            case rel => exact ⟨4, by omega, by go_num, HE⟩
            case measure => simp [intOf]
          · go_wp2_with fail
            refine (check_bad ⟨32, (-1), 1000, List.replicate 32 0, thr0⟩ I T c c' wq.heap.size _ (HKD.out _ ((DQ.out.trans (b4.mono DQ.out.size)).trans (((Below.refl w4.heap.size w4).alloc (Nat.le_refl _) _).mono (by have := DQ.out.size; have := b4.size; omega)))) ((HSU.out _ ((Below.refl _ _).alloc (Nat.le_refl _) _)).suAt (s' := ⟨32, (-1), 1000, List.replicate 32 0, thr0⟩) rfl rfl (by decide) (by decide) (by decide) (by decide) (by decide) (by decide) (by decide)) (by kernel_rfl) rfl rfl).mono ?_
            rintro _ w6 ⟨rfl, b6⟩
            have HE := Lib.hid (HB4.out.trans ((((Below.refl w4.heap.size w4).alloc (Nat.le_refl _) _).trans (b6.mono (by simp))).mono HB4.out.size))
            clear b6
            go_wp2_with fail
            go_roundw
            case rel => exact ⟨5, by omega, by go_num, HE⟩
            case measure => simp [intOf]
          · go_wp2_with fail
            refine (check_bad ⟨32, 1099511627777, 1000, List.replicate 32 0, thr0⟩ I T c c' wq.heap.size _ (HKD.out _ ((DQ.out.trans (b4.mono DQ.out.size)).trans (((Below.refl w4.heap.size w4).alloc (Nat.le_refl _) _).mono (by have := DQ.out.size; have := b4.size; omega)))) ((HSU.out _ ((Below.refl _ _).alloc (Nat.le_refl _) _)).suAt (s' := ⟨32, 1099511627777, 1000, List.replicate 32 0, thr0⟩) rfl rfl (by decide) (by decide) (by decide) (by decide) (by decide) (by decide) (by decide)) (by kernel_rfl) rfl rfl).mono ?_
            rintro _ w6 ⟨rfl, b6⟩
            have HE := Lib.hid (HB4.out.trans ((((Below.refl w4.heap.size w4).alloc (Nat.le_refl _) _).trans (b6.mono (by simp))).mono HB4.out.size))
            clear b6
            go_wp2_with fail
            go_roundw
            case rel => exact ⟨6, by omega, by go_num, HE⟩
            case measure => simp [intOf]
          · go_wp2_with fail
            refine (check_bad ⟨32, 1099511627776, 0, List.replicate 32 0, thr0⟩ I T c c' wq.heap.size _ (HKD.out _ ((DQ.out.trans (b4.mono DQ.out.size)).trans (((Below.refl w4.heap.size w4).alloc (Nat.le_refl _) _).mono (by have := DQ.out.size; have := b4.size; omega)))) ((HSU.out _ ((Below.refl _ _).alloc (Nat.le_refl _) _)).suAt (s' := ⟨32, 1099511627776, 0, List.replicate 32 0, thr0⟩) rfl rfl (by decide) (by decide) (by decide) (by decide) (by decide) (by decide) (by decide)) (by kernel_rfl) rfl rfl).mono ?_
            rintro _ w6 ⟨rfl, b6⟩
            have HE := Lib.hid (HB4.out.trans ((((Below.refl w4.heap.size w4).alloc (Nat.le_refl _) _).trans (b6.mono (by simp))).mono HB4.out.size))
            clear b6
            go_wp2_with fail
            go_roundw
            case rel => exact ⟨7, by omega, by go_num, HE⟩
            case measure => simp [intOf]
          · go_wp2_with fail
            refine (check_bad ⟨32, 1099511627776, 1001, List.replicate 32 0, thr0⟩ I T c c' wq.heap.size _ (HKD.out _ ((DQ.out.trans (b4.mono DQ.out.size)).trans (((Below.refl w4.heap.size w4).alloc (Nat.le_refl _) _).mono (by have := DQ.out.size; have := b4.size; omega)))) ((HSU.out _ ((Below.refl _ _).alloc (Nat.le_refl _) _)).suAt (s' := ⟨32, 1099511627776, 1001, List.replicate 32 0, thr0⟩) rfl rfl (by decide) (by decide) (by decide) (by decide) (by decide) (by decide) (by decide)) (by kernel_rfl) rfl rfl).mono ?_
            rintro _ w6 ⟨rfl, b6⟩
            have HE := Lib.hid (HB4.out.trans ((((Below.refl w4.heap.size w4).alloc (Nat.le_refl _) _).trans (b6.mono (by simp))).mono HB4.out.size))
            clear b6
            go_wp2_with fail
            go_roundw
            case rel => exact ⟨8, by omega, by go_num, HE⟩
            case measure => simp [intOf]
          · go_upto_region 13 with fail
            obtain ⟨W5, hW5⟩ : ∃ W, W = w4.alloc (.cells #[.int .i64 32, .int .i64 1099511627776, .int .i64 1000, .slice I 32 c, .slice T 6 c'] 25) := ⟨_, rfl⟩
            rw [← hW5]
            have rb : W5.heap[w4.heap.size]? = some (.cells #[.int .i64 32, .int .i64 1099511627776, .int .i64 1000, .slice I 32 c, .slice T 6 c'] 25 (0, 0)) := by rw [hW5]; exact heap_alloc_new w4 _
            have b45 : Below w4.heap.size w4 W5 := by rw [hW5]; exact (Below.refl _ _).alloc (Nat.le_refl _) _
            have hz5 : W5.heap.size = w4.heap.size + 1 := by rw [hW5]; simp
            clear hW5
            go_wp2_with (first
              | (refine wpList_mk (w := W5) (z := .slice none 0 0) (bytes := 24) Tryd.underlying23 (by kernel_rfl) 7 (by decide) (by decide) 7 rfl (by kernel_rfl) rfl rfl ?_; intro w5 hr5 b5 hl5
                 have rb5 := (b5.block w4.heap.size (by omega)).trans rb
                 have x0 := cell_of_row w5 w4.heap.size 0 _ _ (0, 0) rb5
                 have x1 := cell_of_row w5 w4.heap.size 1 _ _ (0, 0) rb5
                 have x2 := cell_of_row w5 w4.heap.size 2 _ _ (0, 0) rb5
                 have x3 := cell_of_row w5 w4.heap.size 3 _ _ (0, 0) rb5
                 have x4 := cell_of_row w5 w4.heap.size 4 _ _ (0, 0) rb5
                 have x5 : ∀ i, w5.frozen? ⟨w4.heap.size, i, none⟩ = false := fun i => by simp [World.frozen?, rb5])
              | fail)
            rw [hz5] at hr5
            have b6 : Below w4.heap.size w4 (w5.setCell ⟨w4.heap.size, 4, none⟩ (.slice (some ⟨w4.heap.size + 1, 0, none⟩) 7 7)) := (b45.trans (b5.mono (by omega))).setCell (p := ⟨w4.heap.size, 4, none⟩) (Nat.le_refl _) _
            have r6 : (w5.setCell ⟨w4.heap.size, 4, none⟩ (.slice (some ⟨w4.heap.size + 1, 0, none⟩) 7 7)).heap[(w4.heap.size + 1)]? = _ := (heap_set_other w5 w4.heap.size 4 _ (w4.heap.size + 1) (by omega)).trans hr5
            refine (check_bad ⟨32, 1099511627776, 1000, List.replicate 32 0, List.replicate 7 []⟩ I (some ⟨w4.heap.size + 1, 0, none⟩) c 7 wq.heap.size _ (HKD.out _ ((DQ.out.trans (b4.mono DQ.out.size)).trans (b6.mono (by have := DQ.out.size; have := b4.size; omega)))) (more_thr (HSU.out _ b6) r6 (by have := b4.size; omega) (by rw [hz5] at hl5; simpa using hl5)) (by kernel_rfl) rfl rfl).mono ?_
            rintro _ w6 ⟨rfl, b7⟩
            have HE := Lib.hid (HB4.out.trans ((b6.trans (b7.mono b6.size)).mono HB4.out.size))
            clear b6 b7 r6 hr5 b5 hl5 rb5 x0 x1 x2 x3 x4 x5 rb b45 hz5
            go_wp2_with fail
            go_roundw
            case rel => exact ⟨9, by omega, by go_num, HE⟩
            case measure => simp [intOf]
        · obtain rfl : k = 9 := by omega
          have BQ : Hid (Below wm.heap.size wm wq) := B3.out.trans (HB.out.mono B3.out.size)
          clear HB hlt hk
          have q5 := HF5.out wq BQ.out
          have c0 := q5.c0
          have c1 := q5.c1
          have c2 := q5.c2
          have c3 := q5.c3
          have c4 := q5.c4
          have HCe := Lib.hid (HCP.out wq BQ.out)
          clear q5
          go_wp2_with fail
          refine HCe.out.mono ?_
          rintro _ w4 ⟨Ie, ce, Te, de, mide, ae, rfl, cape, hsue, be⟩
          clear c0 c1 c2 c3 c4 HCe
          dsimp only [su0, List.length_replicate, thr0]
          obtain ⟨ge, yse, rfl, m1e, m2e, r1e, h6e⟩ := hsue.rowT
          go_upto_region 33 with fail
          obtain ⟨W5, hW5⟩ : ∃ W, W = w4.alloc (.cells #[.int .i64 32, .int .i64 1099511627776, .int .i64 1000, .slice Ie 32 ce, .slice (some ⟨ge, 0, none⟩) 6 de] 25) := ⟨_, rfl⟩
          rw [← hW5]
          have rbe : W5.heap[w4.heap.size]? = some (.cells #[.int .i64 32, .int .i64 1099511627776, .int .i64 1000, .slice Ie 32 ce, .slice (some ⟨ge, 0, none⟩) 6 de] 25 (0, 0)) := by rw [hW5]; exact heap_alloc_new w4 _
          have bwe : Below w4.heap.size w4 W5 := by rw [hW5]; exact (Below.refl _ _).alloc (Nat.le_refl _) _
          have hswe : SuW W5 wq.heap.size mide 42 Ie (some ⟨ge, 0, none⟩) su0 ae := hsue.keep bwe.size (fun b _ hb => bwe.block b hb)
          have bxe : Below wq.heap.size wq W5 := be.trans (bwe.mono be.size)
          have HWe := Lib.hid (And.intro rbe (And.intro bwe (And.intro hswe bxe)))
          have lme := hswe.lm
          have zwe := bwe.size
          have zbe := be.size
          have ZMe := Lib.hid (And.intro m1e (And.intro m2e (And.intro lme (And.intro zwe zbe))))
          clear hW5 hsue cape h6e be r1e bwe hswe bxe lme zwe zbe m1e m2e
          refine regN33 (by kernel_rfl) _ (by show 157 ≤ 157; decide) W5 w4.heap.size ge de 2 (by decide) rfl (fun w' h' => cell_of_row w' w4.heap.size 4 _ _ (0, 0) ((h'.block w4.heap.size (lt_of_block rbe)).trans rbe)) (fun w' h' => ?_) ?_
          · obtain ⟨gx, ys, ex, _, _, r1, h6⟩ := HWe.out.2.2.1.rowT
            cases ex
            have r2 := (h'.block ge (lt_of_block r1)).trans r1
            refine ⟨⟨ys[2]'(by omega), ?_⟩, by simp [World.frozen?, r2]⟩
            rw [cell_of_row w' ge 2 _ _ (0, 0) r2, Array.getElem?_eq_getElem]
          intro gn w6 b6 hgn hrn
          simp only [putAll, List.setIfInBounds_toArray, List.set_cons_zero, List.set_cons_succ]
          obtain ⟨W7, hW7⟩ : ∃ W, W = w6.setCell ⟨ge, 2, none⟩ (.slice (some ⟨gn, 0, none⟩) 7 7) := ⟨_, rfl⟩
          rw [← hW7]
          have hse : SuAt W7 wq.heap.size w6.heap.size 42 Ie (some ⟨ge, 0, none⟩) su_more := by rw [hW7]; exact su_more_lies HWe.out.2.2.1 b6 hgn hrn
          have HSe := Lib.hid hse
          have hz7 : W7.heap.size = w6.heap.size := by rw [hW7]; simp
          have HZe := Lib.hid hz7
          obtain ⟨me1, me2, me3, me4, me5⟩ := ZMe.out
          have rbe' : W7.heap[w4.heap.size]? = some (.cells #[.int .i64 32, .int .i64 1099511627776, .int .i64 1000, .slice Ie 32 ce, .slice (some ⟨ge, 0, none⟩) 6 de] 25 (0, 0)) := by
            rw [hW7, heap_set_other w6 ge 2 _ w4.heap.size (by omega), b6.block w4.heap.size (lt_of_block rbe)]
            exact rbe
          have HRe := Lib.hid rbe'
          have B7 : Hid (Below wm.heap.size wm W7) := by
            show Below _ _ _
            rw [hW7]
            exact ((BQ.out.trans (HWe.out.2.2.2.mono BQ.out.size)).trans (b6.mono (by have := BQ.out.size; have := HWe.out.2.2.2.size; omega))).setCell (p := ⟨ge, 2, none⟩) (by show _ ≤ ge; have := BQ.out.size; omega) _
          clear hse hz7 rbe' b6 hgn hrn hW7 rbe me1 me2 me3 me4 me5
          have q5 := HF5.out W7 B7.out
          have c0 := q5.c0
          have c1 := q5.c1
          have c2 := q5.c2
          have c3 := q5.c3
          have c4 := q5.c4
          have HCf := Lib.hid (HCP.out W7 B7.out)
          clear q5
          go_wp2_with fail
          refine HCf.out.mono ?_
          rintro _ w8 ⟨If, cf, Tf, df, midf, af, rfl, capf, hsuf, bf⟩
          clear c0 c1 c2 c3 c4 HCf
          dsimp only [su0, List.length_replicate, thr0]
          obtain ⟨gf, ysf, rfl, m1f, m2f, r1f, h6f⟩ := hsuf.rowT
          go_upto_region 35 with fail
          obtain ⟨W9, hW9⟩ : ∃ W, W = w8.alloc (.cells #[.int .i64 32, .int .i64 1099511627776, .int .i64 1000, .slice If 32 cf, .slice (some ⟨gf, 0, none⟩) 6 df] 25) := ⟨_, rfl⟩
          rw [← hW9]
          have rbf : W9.heap[w8.heap.size]? = some (.cells #[.int .i64 32, .int .i64 1099511627776, .int .i64 1000, .slice If 32 cf, .slice (some ⟨gf, 0, none⟩) 6 df] 25 (0, 0)) := by rw [hW9]; exact heap_alloc_new w8 _
          have bwf : Below w8.heap.size w8 W9 := by rw [hW9]; exact (Below.refl _ _).alloc (Nat.le_refl _) _
          have hswf : SuW W9 W7.heap.size midf 42 If (some ⟨gf, 0, none⟩) su0 af := hsuf.keep bwf.size (fun b _ hb => bwf.block b hb)
          have bxf : Below W7.heap.size W7 W9 := bf.trans (bwf.mono bf.size)
          have HWf := Lib.hid (And.intro rbf (And.intro bwf (And.intro hswf bxf)))
          have lmf := hswf.lm
          have zwf := bwf.size
          have zbf := bf.size
          have ZMf := Lib.hid (And.intro m1f (And.intro m2f (And.intro lmf (And.intro zwf zbf))))
          clear hW9 hsuf capf h6f bf r1f bwf hswf bxf lmf zwf zbf m1f m2f
          obtain ⟨gBf, cBf, xsf, y1f, y2f, y3f, y4f, y5f, y6f, Sf, y7f⟩ := HWf.out.2.2.1.get1
          have x4 := cell_of_row W9 w8.heap.size 4 _ _ (0, 0) rbf
          have n1 : ∀ o, (W9.alloc o).cell? ⟨gBf, 0, none⟩ = some (xsf[0]'(by omega)) := fun o => by
            rw [cell_of_row (W9.alloc o) gBf 0 _ _ (0, 0) ((heap_alloc_old W9 o (lt_of_block y3f)).trans y3f), Array.getElem?_eq_getElem]
          have n2 : ∀ o i, (W9.alloc o).frozen? ⟨gBf, i, none⟩ = false := fun o i => by simp [World.frozen?, (heap_alloc_old W9 o (lt_of_block y3f)).trans y3f]
          clear rbf
          go_upto_region 36 with fail
          obtain ⟨W10, hW10⟩ : ∃ W, W = (W9.alloc (.cells #[.int .u8 8, .int .i64 0, .int .u8 3, .int .i64 0, .slice none 0 0, .int .u8 0, .int .i64 0, .slice none 0 0, .slice none 0 0, .slice none 0 0] 39)).setCell ⟨gBf, 0, none⟩ (.slice (some ⟨W9.heap.size, 0, none⟩) 1 1) := ⟨_, rfl⟩
          rw [← hW10]
          have hslf : SuAt W10 W7.heap.size (W9.heap.size + 1) 42 If (some ⟨gf, 0, none⟩) (su_one 0) := by
            have := su_one_lies (m := 0) HWf.out.2.2.1 y1f y3f y4f y5f y6f y7f (by decide) ((Below.refl W9.heap.size W9).alloc (Nat.le_refl _) _) (Nat.le_refl _) (heap_alloc_new W9 _)
            rw [← hW10] at this
            simpa using this
          have HSf := Lib.hid hslf
          have hlof : W7.heap.size ≤ gBf ∧ gBf < W9.heap.size := by
            have h1 := HWf.out.2.2.1.mono 0 1 (by omega)
            have h2 := HWf.out.2.2.1.alo
            have h3 := HWf.out.2.2.1.lm
            exact ⟨by omega, lt_of_block y3f⟩
          have hnef : w8.heap.size ≠ gBf := (ty_ne7 y3f HWf.out.1 (by decide)).symm
          have rbf' : W10.heap[w8.heap.size]? = some (.cells #[.int .i64 32, .int .i64 1099511627776, .int .i64 1000, .slice If 32 cf, .slice (some ⟨gf, 0, none⟩) 6 df] 25 (0, 0)) := by
            rw [hW10, heap_set_other _ gBf 0 _ _ hnef, heap_alloc_old W9 _ (lt_of_block HWf.out.1)]
            exact HWf.out.1
          have HRf := Lib.hid rbf'
          have zW10 : W10.heap.size = W9.heap.size + 1 := by rw [hW10]; simp
          have B10 : Hid (Below wm.heap.size wm W10) := by
            show Below _ _ _
            rw [hW10]
            exact ((((B7.out.trans (HWf.out.2.2.2.mono B7.out.size))).alloc (by have := B7.out.size; have := HWf.out.2.2.2.size; omega) _).setCell (p := ⟨gBf, 0, none⟩) (by show _ ≤ gBf; have := B7.out.size; omega) _)
          have B10s : Hid (Below W7.heap.size W7 W10) := by
            show Below _ _ _
            rw [hW10]
            exact ((HWf.out.2.2.2.alloc (HWf.out.2.2.2.size) _).setCell (p := ⟨gBf, 0, none⟩) hlof.1 _)
          have HZf := Lib.hid zW10
          clear hW10 y1f y2f y3f y4f y5f y6f y7f x4 n1 n2 hslf hlof hnef rbf' zW10
          have q5 := HF5.out W10 B10.out
          have c0 := q5.c0
          have c1 := q5.c1
          have c2 := q5.c2
          have c3 := q5.c3
          have c4 := q5.c4
          have HCh := Lib.hid (HCP.out W10 B10.out)
          clear q5
          go_wp2_with fail
          refine HCh.out.mono ?_
          rintro _ w11 ⟨Ih, ch, Th, dh, midh, ah, rfl, caph, hsuh, bh⟩
          clear c0 c1 c2 c3 c4 HCh
          dsimp only [su0, List.length_replicate, thr0]
          obtain ⟨gh, ysh, rfl, m1h, m2h, r1h, h6h⟩ := hsuh.rowT
          go_upto_region 37 with fail
          obtain ⟨W12, hW12⟩ : ∃ W, W = w11.alloc (.cells #[.int .i64 32, .int .i64 1099511627776, .int .i64 1000, .slice Ih 32 ch, .slice (some ⟨gh, 0, none⟩) 6 dh] 25) := ⟨_, rfl⟩
          rw [← hW12]
          have rbh : W12.heap[w11.heap.size]? = some (.cells #[.int .i64 32, .int .i64 1099511627776, .int .i64 1000, .slice Ih 32 ch, .slice (some ⟨gh, 0, none⟩) 6 dh] 25 (0, 0)) := by rw [hW12]; exact heap_alloc_new w11 _
          have bwh : Below w11.heap.size w11 W12 := by rw [hW12]; exact (Below.refl _ _).alloc (Nat.le_refl _) _
          have hswh : SuW W12 W10.heap.size midh 42 Ih (some ⟨gh, 0, none⟩) su0 ah := hsuh.keep bwh.size (fun b _ hb => bwh.block b hb)
          have bxh : Below W10.heap.size W10 W12 := bh.trans (bwh.mono bh.size)
          have HWh := Lib.hid (And.intro rbh (And.intro bwh (And.intro hswh bxh)))
          have lmh := hswh.lm
          have zwh := bwh.size
          have zbh := bh.size
          have ZMh := Lib.hid (And.intro m1h (And.intro m2h (And.intro lmh (And.intro zwh zbh))))
          clear hW12 hsuh caph h6h bh r1h bwh hswh bxh lmh zwh zbh m1h m2h
          obtain ⟨gBh, cBh, xsh, y1h, y2h, y3h, y4h, y5h, y6h, Sh, y7h⟩ := HWh.out.2.2.1.get1
          have x4 := cell_of_row W12 w11.heap.size 4 _ _ (0, 0) rbh
          have n1 : ∀ o, (W12.alloc o).cell? ⟨gBh, 1, none⟩ = some (xsh[1]'(by omega)) := fun o => by
            rw [cell_of_row (W12.alloc o) gBh 1 _ _ (0, 0) ((heap_alloc_old W12 o (lt_of_block y3h)).trans y3h), Array.getElem?_eq_getElem]
          have n2 : ∀ o i, (W12.alloc o).frozen? ⟨gBh, i, none⟩ = false := fun o i => by simp [World.frozen?, (heap_alloc_old W12 o (lt_of_block y3h)).trans y3h]
          clear rbh
          go_upto_region 38 with fail
          obtain ⟨W13, hW13⟩ : ∃ W, W = (W12.alloc (.cells #[.int .u8 8, .int .i64 0, .int .u8 3, .int .i64 0, .slice none 0 0, .int .u8 0, .int .i64 0, .slice none 0 0, .slice none 0 0, .slice none 0 0] 39)).setCell ⟨gBh, 1, none⟩ (.slice (some ⟨W12.heap.size, 0, none⟩) 1 1) := ⟨_, rfl⟩
          rw [← hW13]
          have hslh : SuAt W13 W10.heap.size (W12.heap.size + 1) 42 Ih (some ⟨gh, 0, none⟩) (su_one 1) := by
            have := su_one_lies (m := 1) HWh.out.2.2.1 y1h y3h y4h y5h y6h y7h (by decide) ((Below.refl W12.heap.size W12).alloc (Nat.le_refl _) _) (Nat.le_refl _) (heap_alloc_new W12 _)
            rw [← hW13] at this
            simpa using this
          have HSh := Lib.hid hslh
          have hloh : W10.heap.size ≤ gBh ∧ gBh < W12.heap.size := by
            have h1 := HWh.out.2.2.1.mono 0 1 (by omega)
            have h2 := HWh.out.2.2.1.alo
            have h3 := HWh.out.2.2.1.lm
            exact ⟨by omega, lt_of_block y3h⟩
          have hneh : w11.heap.size ≠ gBh := (ty_ne7 y3h HWh.out.1 (by decide)).symm
          have rbh' : W13.heap[w11.heap.size]? = some (.cells #[.int .i64 32, .int .i64 1099511627776, .int .i64 1000, .slice Ih 32 ch, .slice (some ⟨gh, 0, none⟩) 6 dh] 25 (0, 0)) := by
            rw [hW13, heap_set_other _ gBh 1 _ _ hneh, heap_alloc_old W12 _ (lt_of_block HWh.out.1)]
            exact HWh.out.1
          have HRh := Lib.hid rbh'
          have zW13 : W13.heap.size = W12.heap.size + 1 := by rw [hW13]; simp
          have B13 : Hid (Below wm.heap.size wm W13) := by
            show Below _ _ _
            rw [hW13]
            exact ((((B10.out.trans (HWh.out.2.2.2.mono B10.out.size))).alloc (by have := B10.out.size; have := HWh.out.2.2.2.size; omega) _).setCell (p := ⟨gBh, 1, none⟩) (by show _ ≤ gBh; have := B10.out.size; omega) _)
          have B13s : Hid (Below W10.heap.size W10 W13) := by
            show Below _ _ _
            rw [hW13]
            exact ((HWh.out.2.2.2.alloc (HWh.out.2.2.2.size) _).setCell (p := ⟨gBh, 1, none⟩) hloh.1 _)
          have HZh := Lib.hid zW13
          clear hW13 y1h y2h y3h y4h y5h y6h y7h x4 n1 n2 hslh hloh hneh rbh' zW13
          have b7 : ∀ W', Below W13.heap.size W13 W' → Below W7.heap.size W7 W' := fun W' h' => B10s.out.trans ((B13s.out.trans (h'.mono B13s.out.size)).mono B10s.out.size)
          have b10 : ∀ W', Below W13.heap.size W13 W' → Below W10.heap.size W10 W' := fun W' h' => B13s.out.trans (h'.mono B13s.out.size)
          have b13 : ∀ W', Below W13.heap.size W13 W' → Below W13.heap.size W13 W' := fun W' h' => h'
          have KE : Hid (∀ W', Below W13.heap.size W13 W' → Calls Tryd.prog 14 #[.agg #[.int .i64 32, .int .i64 1099511627776, .int .i64 1000, .slice Ie 32 ce, .slice (some ⟨ge, 0, none⟩) 6 de]] W' fun e w' => e = .returned (.int .i64 4) ∧ Below W13.heap.size W13 w') := fun W' h' => by
            have h3 := (b7 W' h').size
            have := check_any 42 su_more Ie (some ⟨ge, 0, none⟩) ce de _ _ W' (HKD.out W' (DW.out W' (B13.out.trans (h'.mono B13.out.size)))) (HSe.out.below (b7 W' h') (by have := HZe.out; omega)) (by have := HZe.out; omega) (by decide)
            rw [ok_more] at this
            exact this.mono fun e w' ⟨h1, h2⟩ => ⟨h1, h'.trans (h2.mono h'.size)⟩
          have KF : Hid (∀ W', Below W13.heap.size W13 W' → Calls Tryd.prog 14 #[.agg #[.int .i64 32, .int .i64 1099511627776, .int .i64 1000, .slice If 32 cf, .slice (some ⟨gf, 0, none⟩) 6 df]] W' fun e w' => e = .returned (.int .i64 4) ∧ Below W13.heap.size W13 w') := fun W' h' => by
            have h3 := (b10 W' h').size
            have := check_any 42 (su_one 0) If (some ⟨gf, 0, none⟩) cf df _ _ W' (HKD.out W' (DW.out W' (B13.out.trans (h'.mono B13.out.size)))) (HSf.out.below (b10 W' h') (by have := HZf.out; omega)) (by have := HZf.out; omega) (by decide)
            rw [ok_wrong] at this
            exact this.mono fun e w' ⟨h1, h2⟩ => ⟨h1, h'.trans (h2.mono h'.size)⟩
          have KH : Hid (∀ W', Below W13.heap.size W13 W' → Calls Tryd.prog 14 #[.agg #[.int .i64 32, .int .i64 1099511627776, .int .i64 1000, .slice Ih 32 ch, .slice (some ⟨gh, 0, none⟩) 6 dh]] W' fun e w' => e = .returned (.int .i64 0) ∧ Below W13.heap.size W13 w') := fun W' h' => by
            have h3 := (b13 W' h').size
            have := check_any 42 (su_one 1) Ih (some ⟨gh, 0, none⟩) ch dh _ _ W' (HKD.out W' (DW.out W' (B13.out.trans (h'.mono B13.out.size)))) (HSh.out.below (b13 W' h') (by have := HZh.out; omega)) (by have := HZh.out; omega) (by decide)
            rw [ok_later] at this
            exact this.mono fun e w' ⟨h1, h2⟩ => ⟨h1, h'.trans (h2.mono h'.size)⟩
          have KC : Hid (∀ W', Below W13.heap.size W13 W' → Calls Tryd.prog 18 #[.agg #[.int .i64 32, .int .i64 1099511627776, .int .i64 1000, .slice Ih 32 ch, .slice (some ⟨gh, 0, none⟩) 6 dh]] W' fun e w' => e = .returned (.int .i64 1) ∧ Below W13.heap.size W13 w') := fun W' h' => by
            have := cost_any6 42 (su_one 1) Ih (some ⟨gh, 0, none⟩) ch dh _ _ W' (HSh.out.below h' (by have := HZh.out; omega)) (by have := HZh.out; have := h'.size; omega)
            rw [cost_later] at this
            exact this.mono fun e w' ⟨h1, h2⟩ => ⟨h1, h'.trans (h2.mono h'.size)⟩
          have HBX : Hid (∀ W', Below W13.heap.size W13 W' → SFive W' w4.heap.size 32 1099511627776 1000 Ie 32 ce (some ⟨ge, 0, none⟩) 6 de ∧ SFive W' w8.heap.size 32 1099511627776 1000 If 32 cf (some ⟨gf, 0, none⟩) 6 df ∧ SFive W' w11.heap.size 32 1099511627776 1000 Ih 32 ch (some ⟨gh, 0, none⟩) 6 dh) := fun W' h' => by
            have qe := ((b7 W' h').block w4.heap.size (lt_of_block HRe.out)).trans HRe.out
            have qf := ((b10 W' h').block w8.heap.size (lt_of_block HRf.out)).trans HRf.out
            have qh := (h'.block w11.heap.size (lt_of_block HRh.out)).trans HRh.out
            exact ⟨⟨cell_of_row W' w4.heap.size 0 _ _ (0, 0) qe, cell_of_row W' w4.heap.size 1 _ _ (0, 0) qe, cell_of_row W' w4.heap.size 2 _ _ (0, 0) qe, cell_of_row W' w4.heap.size 3 _ _ (0, 0) qe, cell_of_row W' w4.heap.size 4 _ _ (0, 0) qe⟩, ⟨cell_of_row W' w8.heap.size 0 _ _ (0, 0) qf, cell_of_row W' w8.heap.size 1 _ _ (0, 0) qf, cell_of_row W' w8.heap.size 2 _ _ (0, 0) qf, cell_of_row W' w8.heap.size 3 _ _ (0, 0) qf, cell_of_row W' w8.heap.size 4 _ _ (0, 0) qf⟩, ⟨cell_of_row W' w11.heap.size 0 _ _ (0, 0) qh, cell_of_row W' w11.heap.size 1 _ _ (0, 0) qh, cell_of_row W' w11.heap.size 2 _ _ (0, 0) qh, cell_of_row W' w11.heap.size 3 _ _ (0, 0) qh, cell_of_row W' w11.heap.size 4 _ _ (0, 0) qh⟩⟩
          have S1 := Lib.hid (fun w => stripe_any (-1) 3 (by omega) (by omega) (by omega) w)
          have S2 := Lib.hid (fun w => stripe_any 1 0 (by omega) (by omega) (by omega) w)
          rw [show strF (-1) 3 = (0, 1) by kernel_rfl] at S1
          rw [show strF 1 0 = (0, 1) by kernel_rfl] at S2
          dsimp only at S1 S2
          have V3 : Hid (∀ w, Calls Tryd.prog 22 #[.int .i64 3, .int .i64 3, .int .i64 9] w fun e w' => ∃ A c, e = .returned (.tuple #[.slice A 0 c, .int .i64 1]) ∧ Below w.heap.size w w') := fun w => by
            have := vars_any 3 3 9 (by omega) (by omega) (by omega) (by omega) (by omega) w
            unfold Told at this
            rw [show varsF 3 3 9 = [] by kernel_rfl, show varsE 3 3 9 = 1 by kernel_rfl] at this
            exact this.mono fun e w' ⟨A, c, h1, _, _, h2⟩ => ⟨A, c, h1, h2⟩
          have V4 : Hid (∀ w, Calls Tryd.prog 22 #[.int .i64 (-1), .int .i64 3, .int .i64 9] w fun e w' => ∃ A c, e = .returned (.tuple #[.slice A 0 c, .int .i64 1]) ∧ Below w.heap.size w w') := fun w => by
            have := vars_any (-1) 3 9 (by omega) (by omega) (by omega) (by omega) (by omega) w
            unfold Told at this
            rw [show varsF (-1) 3 9 = [] by kernel_rfl, show varsE (-1) 3 9 = 1 by kernel_rfl] at this
            exact this.mono fun e w' ⟨A, c, h1, _, _, h2⟩ => ⟨A, c, h1, h2⟩
          have V5 : Hid (∀ w, Calls Tryd.prog 22 #[.int .i64 0, .int .i64 1, .int .i64 0] w fun e w' => ∃ A c, e = .returned (.tuple #[.slice A 0 c, .int .i64 1]) ∧ Below w.heap.size w w') := fun w => by
            have := vars_any 0 1 0 (by omega) (by omega) (by omega) (by omega) (by omega) w
            unfold Told at this
            rw [show varsF 0 1 0 = [] by kernel_rfl, show varsE 0 1 0 = 1 by kernel_rfl] at this
            exact this.mono fun e w' ⟨A, c, h1, _, _, h2⟩ => ⟨A, c, h1, h2⟩
          have HA := Lib.hid awake_any
          clear b7 b10 b13
          go_wp2_with fail
          refine (S1.out W13).mono ?_
          rintro _ _ ⟨rfl, rfl⟩
          go_wp2_with fail
          refine (S2.out W13).mono ?_
          rintro _ _ ⟨rfl, rfl⟩
          go_wp2_with fail
          refine (V3.out W13).mono ?_
          rintro _ v3 ⟨A3, t3, rfl, b3⟩
          have L3 := Lib.hid b3
          clear b3
          go_wp2_with fail
          refine (V4.out v3).mono ?_
          rintro _ v4 ⟨A4, t4, rfl, b4⟩
          have L4 := Lib.hid (L3.out.trans (b4.mono L3.out.size))
          clear b4
          go_wp2_with fail
          refine (V5.out v4).mono ?_
          rintro _ v5 ⟨A5, t5, rfl, b5⟩
          have L5 := Lib.hid (L4.out.trans (b5.mono L4.out.size))
          clear b5
          obtain ⟨⟨x0, x1, x2, x3, x4⟩, _, _⟩ := HBX.out v5 L5.out
          go_wp2_with fail
          refine (KE.out v5 L5.out).mono ?_
          rintro _ v6 ⟨rfl, b6⟩
          have L6 := Lib.hid b6
          clear b6 x0 x1 x2 x3 x4
          obtain ⟨_, ⟨x0, x1, x2, x3, x4⟩, _⟩ := HBX.out v6 L6.out
          go_wp2_with fail
          refine (KF.out v6 L6.out).mono ?_
          rintro _ v7 ⟨rfl, b7⟩
          have L7 := Lib.hid b7
          clear b7 x0 x1 x2 x3 x4
          obtain ⟨_, _, ⟨x0, x1, x2, x3, x4⟩⟩ := HBX.out v7 L7.out
          go_wp2_with fail
          refine (KH.out v7 L7.out).mono ?_
          rintro _ v8 ⟨rfl, b8⟩
          have L8 := Lib.hid b8
          clear b8 x0 x1 x2 x3 x4
          obtain ⟨_, _, ⟨x0, x1, x2, x3, x4⟩⟩ := HBX.out v8 L8.out
          go_wp2_with fail
          refine (KC.out v8 L8.out).mono ?_
          rintro _ v9 ⟨rfl, b9⟩
          have L9 := Lib.hid b9
          clear b9 x0 x1 x2 x3 x4
          go_wp2_with fail
          refine (HA.out v9).mono ?_
          rintro _ v10 ⟨rfl, b10⟩
          have L10 := Lib.hid (L9.out.trans (b10.mono L9.out.size))
          clear b10
          go_wp2_with fail
          go_ret
          exact ⟨rfl, DW.out v10 (B13.out.trans (L10.out.mono B13.out.size))⟩
set_option maxRecDepth 100000 in
theorem SetupNames_lifted (os : Os) (started : os.Started) (H : Type) (enc : TypeId × Value → H) :
    ReturnsInHanded {} Tryd.checked os 5 .any (fun w args => (Rows.setupNamesSpec.pre enc Tryd.prog Tryd.f5 [] false w args ∧ laidMetH Tryd.prog [("seesaw/code.kinds", Rows.laid_seesaw_code_kinds)] w) ∧ sizedMet enc Tryd.prog Tryd.f5 (OpenSpec.ofChange Rows.setupNamesSpec) false w args)
      (Rows.setupNamesSpec.post enc Tryd.prog Tryd.f5 false true false false) := by
  refine returnsInHanded_of_change_and (C := Tryd.checked) (X := fun w _ => laidMetH Tryd.prog [("seesaw/code.kinds", Rows.laid_seesaw_code_kinds)] w) (fun _ _ _ hh h => h.of_heap hh) lift_own started (by kernel_rfl) Tryd.func5
    (ChangeSpec.witness_shaped (enc := enc) (C := Tryd.checked) (os := os) (X := fun w _ => laidMetH Tryd.prog [("seesaw/code.kinds", Rows.laid_seesaw_code_kinds)] w) false (World.doorLaid Tryd.prog 400 os) #[] 8 rfl (World.shaped_of_RefB (by kernel_rfl) (by kernel_rfl)) (by kernel_rfl) (by kernel_rfl) (by kernel_rfl) (door_met os _)) ?_
  intro W base args ds gs before hval0 hW _ _ hL _
  have hval : ∀ (j : Nat) t v, Tryd.f5.params[j]? = some t → args[j]? = some v → Value.okWide Tryd.prog W .any base t v := hval0
  have hW' := hW
  obtain ⟨p, q, hA0, hV, rfl, hfz, hnd⟩ := hW
  have hA : DataW.TrodAll enc Tryd.prog W 0 (fun _ => true) true Tryd.f5.params.toList args.toList ds p := hA0
  rw [Tryd.params5] at hA hval
  obtain ⟨hargs, rfl, rfl⟩ := trodAll_nil hA
  obtain rfl : args = #[] := by cases args; simp_all
  obtain ⟨rfl, rfl⟩ := trodVars_none hV
  clear hA0 hval0
  simp only [List.append_nil] at hW'
  refine (SetupNames_walk (kd_of_laid hL)).mono fun e W' ⟨he, hg⟩ => ?_
  subst he
  exact ⟨_, rfl, lift_post (pv := []) hW' (fun _ _ _ => (trodAll_cons_mk (shut_bool Tryd.underlying4 _) trodAll_mk0)) (fun sp hsp => trodAll_mk0) (fun _ _ => rfl) (by simp)
    hg (ok_one (by kernel_rfl) rfl (okWide_bool_mk Tryd.underlying4 _))⟩
/-- THE STATEMENT of SetupNames: for every input the call returns true, and each argument reads behind it as before. -/
theorem SetupNames_holds : Rows.SetupNamesSaid :=
  OpenClaim.holds_of_wide 5 Tryd.f5 rfl rfl rfl rfl rfl rfl rfl ⟨rfl, rfl, rfl, rfl, rfl⟩ rfl rfl rfl rfl rfl (by kernel_rfl) Tryd.func5 (by kernel_rfl)
    (of_decide_eq_true (by kernel_rfl)) (by unfold Func.isWrapper; first | (rw [if_pos (by decide +kernel)]; kernel_rfl) | (rw [if_neg (by decide +kernel)]; exact ⟨rfl, rfl⟩))
    (fun os started H enc _ => SetupNames_lifted os started H enc)
/-- THE TIED CARD of SetupNames. -/
theorem SetupNamesCard_holds : Rows.SetupNamesCardSaid :=
  Claim7.holds_tied_plain_at .later [] [.data] true Rows.setupNamesCard.stood.harness false
    SetupNames_holds (fun _ h => by cases h) (by kernel_rfl) (fun _ h => by cases h) setupNames_row_tie rfl ⟨rfl, rfl⟩ (by kernel_rfl) rfl
    (fun f fn hf hfn => by
      obtain rfl : f = 5 := Option.some.inj ((show Tryd.prog.funcNamed "seesaw/seesawlaw06.SetupNames" = some 5 by kernel_rfl).symm.trans hf) |>.symm
      obtain rfl : fn = Tryd.f5 := (Option.some.inj (Tryd.func5.symm.trans hfn)).symm
      exact ⟨by kernel_rfl, fun j t ht => by
        rw [Tryd.params5] at ht
        simp at ht⟩)
    (by kernel_rfl)
end Go.Proofs.YtnkdaehmdcpafaaDoor
