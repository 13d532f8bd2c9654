/-
  CONTRACTS OF PACKAGE interp's Answer, Writes, Locals and Steps (layer 9). Conditions: as they stand.
-/
import Derived.Test.YthdcdffdpdoeoaaGreatDoorZw
namespace Go.Proofs.YthdcdffdpdoeoaaGreatDoor
set_option maxRecDepth 100000
open Go.RowKit Go.Deep
set_option linter.unusedVariables false
theorem field_ask2 (k : Int) (a b : Int) (w : World) : (Instr.field 25 (.agg #[.int .u8 k, .int .i64 a, .int .i64 b]) 0).run Tryz.prog w = .ok (.int .u8 k) w := by
  simp [Instr.field, run_underlying Tryz.underlying25, go_sem, asAgg, part]
theorem field_to2 (rk : Nat) (rt : Int) (rao : Nat) (ran : Int) (raA : Option Addr) (ral rac rbo : Nat) (rbn : Int) (rbA : Option Addr) (rbl rbc : Nat) (ryA : Option Addr) (ryl ryc : Nat) (reA : Option Addr) (rel rec_ : Nat) (w : World) : (Instr.field 43 (.agg #[.int .u8 rk, .int .i64 rt, .int .u8 rao, .int .i64 ran, .slice raA ral rac, .int .u8 rbo, .int .i64 rbn, .slice rbA rbl rbc, .slice ryA ryl ryc, .slice reA rel rec_]) 1).run Tryz.prog w = .ok (.int .i64 rt) w := by
  simp [Instr.field, run_underlying Tryz.underlying43, go_sem, asAgg, part]
theorem eight_set {w2 : World} {g : Nat} {T : TypeId} {z0 z1 z2 z3 z4 z5 z6 z7 : Value} (h : w2.heap[g]? = some (.cells #[z0, z1, z2, z3, z4, z5, z6, z7] T (0, 0))) (v0 v1 v2 v3 v4 v5 v6 v7 : Value) : ((((((((w2.setCell ⟨g, 0, none⟩ v0).setCell ⟨g, 1, none⟩ v1).setCell ⟨g, 2, none⟩ v2).setCell ⟨g, 3, none⟩ v3).setCell ⟨g, 4, none⟩ v4).setCell ⟨g, 5, none⟩ v5).setCell ⟨g, 6, none⟩ v6).setCell ⟨g, 7, none⟩ v7).heap[g]? = some (.cells #[v0, v1, v2, v3, v4, v5, v6, v7] T (0, 0)) := by
  have r0 := heap_set_same _ g 0 v0 _ _ h
  simp only [List.setIfInBounds_toArray, List.set_cons_zero] at r0
  have r1 := heap_set_same _ g 1 v1 _ _ r0
  simp only [List.setIfInBounds_toArray, List.set_cons_succ, List.set_cons_zero] at r1
  have r2 := heap_set_same _ g 2 v2 _ _ r1
  simp only [List.setIfInBounds_toArray, List.set_cons_succ, List.set_cons_zero] at r2
  have r3 := heap_set_same _ g 3 v3 _ _ r2
  simp only [List.setIfInBounds_toArray, List.set_cons_succ, List.set_cons_zero] at r3
  have r4 := heap_set_same _ g 4 v4 _ _ r3
  simp only [List.setIfInBounds_toArray, List.set_cons_succ, List.set_cons_zero] at r4
  have r5 := heap_set_same _ g 5 v5 _ _ r4
  simp only [List.setIfInBounds_toArray, List.set_cons_succ, List.set_cons_zero] at r5
  have r6 := heap_set_same _ g 6 v6 _ _ r5
  simp only [List.setIfInBounds_toArray, List.set_cons_succ, List.set_cons_zero] at r6
  have r7 := heap_set_same _ g 7 v7 _ _ r6
  simp only [List.setIfInBounds_toArray, List.set_cons_succ, List.set_cons_zero] at r7
  exact r7
theorem eight_low {w w2 : World} {B g : Nat} (h : Below B w w2) (hg : B ≤ g) (v0 v1 v2 v3 v4 v5 v6 v7 : Value) : Below B w ((((((((w2.setCell ⟨g, 0, none⟩ v0).setCell ⟨g, 1, none⟩ v1).setCell ⟨g, 2, none⟩ v2).setCell ⟨g, 3, none⟩ v3).setCell ⟨g, 4, none⟩ v4).setCell ⟨g, 5, none⟩ v5).setCell ⟨g, 6, none⟩ v6).setCell ⟨g, 7, none⟩ v7) := ((((((((h.setCell (p := ⟨g, 0, none⟩) hg _).setCell (p := ⟨g, 1, none⟩) hg _).setCell (p := ⟨g, 2, none⟩) hg _).setCell (p := ⟨g, 3, none⟩) hg _).setCell (p := ⟨g, 4, none⟩) hg _).setCell (p := ⟨g, 5, none⟩) hg _).setCell (p := ⟨g, 6, none⟩) hg _).setCell (p := ⟨g, 7, none⟩) hg _)
section
variable {E : Ev9} {w w' : World} {l : List Int} {L : List Fx} {f : Fx} {T : List (List Pr)} {n : Nat} {A : Option Addr} {c : Nat} {S S2 SB I : Nat → Prop}
theorem take_to {w : World} {lo hi D : Nat} {r : Raw} {s : St} (h : SAc w lo hi D r s) : r.t = s.to := by
  obtain ⟨_, _, _, _, e2, _⟩ := sac_at h
  exact e2
theorem take_pl {L : List Fx} {f f' : Fx} {rr : List St} (x1 : f'.rest = rr) (x2 : f'.body = f.body) (x3 : f'.turns = f.turns) (x4 : f'.kept = f.kept) : plF (L ++ [f']) = { f.pl with rest := rr } :: plF L := by
  rw [plF_snoc]
  have : f'.pl = ⟨f'.rest, f'.body, f'.turns, f'.kept.map fun k => (k.l, k.els)⟩ := rfl
  rw [this, x1, x2, x3, x4]
  rfl
set_option maxHeartbeats 8000000 in
theorem answer_any (h : RMat E w l (L ++ [f]) T n A c S SB I) {s : St} {rr : List St} (hr : f.rest = s :: rr) (hn : n < 1000) (hlev : T.length = keptN (plF (L ++ [f])) + 1) {at_ : Int} (ha : askS E l (L ++ [f]) T s = (2, at_, 0)) (t0 : 0 ≤ s.to) (t8 : s.to < 8) (x : Int) (hx : wfI x) : Calls Tryz.prog 7 #[.pointer (some ⟨E.q, 0, none⟩), .int .i64 x] w fun e w' => e = .returned (.int .i64 0) ∧
    ∃ L' T' A' c' S' SB', RMat E w' (l.set s.to.toNat x) L' T' (n + 1) A' c' S' SB' I ∧ Tr E w S w' S' ∧ kOf (plF L') T' = bareI (kOf ({ f.pl with rest := rr } :: plF L) T) ∧ flatB T' = flatB T ∧ T'.length = keptN (plF L') + 1 ∧ Ready9 (plF L') := by
  have hN := next_some h hr (by omega)
  rw [ha] at hN
  have hN : Calls Tryz.prog 5 #[.pointer (some ⟨E.q, 0, none⟩)] w fun e w' => e = .returned (.agg #[.int .u8 2, .int .i64 at_, .int .i64 0]) ∧ Below w.heap.size w w' := hN
  have HN := Lib.hid hN
  have HTK := Lib.hid (fun (W : World) (hb : Below w.heap.size w W) => take_any (h.below hb) hr (by omega))
  have H := Lib.hid h
  have HLEV := Lib.hid hlev
  have HX := Lib.hid hx
  obtain ⟨t, ht⟩ : ∃ t : Nat, s.to = t := ⟨s.to.toNat, by omega⟩
  have i8 : t < 8 := by omega
  have il : t < l.length := by rw [h.len]; omega
  rw [ht, Int.toNat_natCast]
  have HTO := Lib.hid ht
  have i9 : (t : Int) < 8 := by omega
  clear h hr hlev hN ha t0 t8 hx ht
  have hfa := field_ask2 2 at_ 0
  have hft := field_to2
  go_enter Tryz.func7, Tryz.ntmps7
  go_wp2_with fail
  refine HN.out.mono ?_
  rintro e w1 ⟨rfl, b1⟩
  have HB1 := Lib.hid b1
  clear b1
  go_upto_region 5 with fail
  go_region_law
    (first
      | (rw [if_pos (by rfl)]; go_simp; go_at_call 28; refine (HTK.out w1.drew (HB1.out.drew)).mono ?_; rintro e w2 ⟨⟨rk, rt, rao, ran, raA, ral, rac, rbo, rbn, rbA, rbl, rbc, ryA, ryl, ryc, reA, rel, rec_⟩, f', rfl, sac, hr', hb', ht', hk', h2, t2⟩; (dsimp only [Raw.v]); have e2 : rt = (t : Int) := (take_to sac).trans HTO.out; subst e2; have m1 := h2.cl t il; have m2 := h2.fz (2 + t); have H2 := Lib.hid h2; have T2 := Lib.hid ((Tr.below (S := S) HB1.out.drew H.out.hiw).trans t2); have HPL := Lib.hid (take_pl (L := L) (f := f) hr' hb' ht' hk'); clear h2 t2 hr' hb' ht' hk' sac)
      | fail)
  all_goals
    have h3 := H2.out.putl t i8 x HX.out
    have T3 := Lib.hid (T2.out.trans (H2.out.tr_put (2 + t) (.int .i64 x)))
    obtain ⟨W3, hW3⟩ : ∃ W3, W3 = w2.setCell ⟨E.q, 2 + t, none⟩ (.int .i64 x) := ⟨_, rfl⟩
    rw [← hW3] at h3 T3 ⊢
    clear hW3
    have HLV := Lib.hid (leave_any h3 (by rw [HPL.out, HLEV.out, plF_snoc]; rfl) (Nat.le_trans h3.flat (by omega)))
    clear h3
    go_wp2_with fail
    refine HLV.out.mono ?_
    rintro e w7 ⟨⟨v7, rfl⟩, L7, T7, A7, c7, S7, SB7, h7, t7, k7, f7, n7, r7⟩
    have HR := Lib.hid (And.intro h7 (And.intro (T3.out.trans t7) (And.intro k7 (And.intro f7 (And.intro n7 r7)))))
    clear h7 t7 k7 f7 n7 r7
    go_wp2_with fail
    go_ret
    exact ⟨rfl, L7, T7, A7, c7, S7, SB7, HR.out.1, HR.out.2.1, by rw [HR.out.2.2.1, HPL.out], HR.out.2.2.2.1, HR.out.2.2.2.2.1, HR.out.2.2.2.2.2⟩
set_option maxHeartbeats 2000000 in
theorem writes_any (h : RMat E w l L T n A c S SB I) (hn : n ≤ 1000) : Calls Tryz.prog 8 #[.pointer (some ⟨E.q, 0, none⟩)] w fun e w' => ∃ (B : Option Addr) (d : Nat), e = .returned (.slice B (allS (flatB T)).length d) ∧ w'.ownsRow w.heap.size 59 2 (.slice B (allS (flatB T)).length d) (allS (flatB T)).length (pairCells (allS (flatB T))) ∧ Below w.heap.size w w' := by
  have HA := Lib.hid (all_any E.bq SB T w h.buf (by have := h.lev; omega) (by have := h.flat; omega))
  have c10 := h.c10
  clear h
  go_enter Tryz.func8, Tryz.ntmps8
  go_wp2_with fail
  refine HA.out.mono ?_
  rintro e w1 ⟨B, d, rfl, h1, h2⟩
  have H1 := Lib.hid h1
  have H2 := Lib.hid h2
  clear h1 h2
  go_wp2_with fail
  go_ret
  exact ⟨B, d, rfl, H1.out, H2.out⟩
set_option maxHeartbeats 2000000 in
theorem steps_any (h : RMat E w l L T n A c S SB I) : Calls Tryz.prog 9 #[.pointer (some ⟨E.q, 0, none⟩)] w fun e w' => e = .returned (.int .i64 n) ∧ Below w.heap.size w w' := by
  have c12 := h.c12
  clear h
  go_enter Tryz.func9, Tryz.ntmps9
  go_wp2_with fail
  go_ret
  exact ⟨rfl, by go_grown⟩
set_option maxHeartbeats 2000000 in
theorem locals_any (h : RMat E w l L T n A c S SB I) : Calls Tryz.prog 11 #[.pointer (some ⟨E.q, 0, none⟩)] w fun e w' => e = .returned (.agg (l.map (Value.int .i64)).toArray) ∧ Below w.heap.size w w' := by
  obtain ⟨l0, l1, l2, l3, l4, l5, l6, l7, hl8⟩ := mc_eight h.len
  have HC := Lib.hid (fun (W : World) (hb : Below w.heap.size w W) => (h.below hb).cl8 hl8)
  subst hl8
  clear h
  go_enter Tryz.func11, Tryz.ntmps11
  go_upto_region 1 with fail
  obtain ⟨W, hW⟩ : ∃ W, W = w.alloc (.cells #[.int .i64 0, .int .i64 0, .int .i64 0, .int .i64 0, .int .i64 0, .int .i64 0, .int .i64 0, .int .i64 0] 34) := ⟨_, rfl⟩
  have hb0 : Below w.heap.size w W := by rw [hW]; exact (Below.refl _ _).alloc (Nat.le_refl _) _
  have hbx : W.heap[w.heap.size]? = some (.cells #[.int .i64 0, .int .i64 0, .int .i64 0, .int .i64 0, .int .i64 0, .int .i64 0, .int .i64 0, .int .i64 0] 34 (0, 0)) := by rw [hW]; exact World.alloc_heap_new w _
  rw [← hW]
  obtain ⟨m0, m1, m2, m3, m4, m5, m6, m7⟩ := HC.out W hb0
  have hc : ∀ i, W.cell? ⟨w.heap.size, i, none⟩ = (#[.int .i64 0, .int .i64 0, .int .i64 0, .int .i64 0, .int .i64 0, .int .i64 0, .int .i64 0, .int .i64 0] : Array Value)[i]? := fun i => by simp [World.cell?, hbx]
  have fz : ∀ i, W.frozen? ⟨w.heap.size, i, none⟩ = false := fun i => by simp [World.frozen?, hbx]
  have d0 := hc 0
  have d1 := hc 1
  have d2 := hc 2
  have d3 := hc 3
  have d4 := hc 4
  have d5 := hc 5
  have d6 := hc 6
  have d7 := hc 7
  simp only [List.getElem?_toArray, List.getElem?_cons_zero, List.getElem?_cons_succ] at d0 d1 d2 d3 d4 d5 d6 d7
  have h9 := eight_set hbx (.int .i64 l0) (.int .i64 l1) (.int .i64 l2) (.int .i64 l3) (.int .i64 l4) (.int .i64 l5) (.int .i64 l6) (.int .i64 l7)
  have hl9 := Lib.hid (eight_low hb0 (Nat.le_refl w.heap.size) (.int .i64 l0) (.int .i64 l1) (.int .i64 l2) (.int .i64 l3) (.int .i64 l4) (.int .i64 l5) (.int .i64 l6) (.int .i64 l7))
  have hd := fun i => cell_of_row _ (w.heap.size) i _ _ (0, 0) h9
  have HD := Lib.hid hd
  clear hc hbx h9 hd hW hb0
  go_wp2_with fail
  have d0 := HD.out 0
  have d1 := HD.out 1
  have d2 := HD.out 2
  have d3 := HD.out 3
  have d4 := HD.out 4
  have d5 := HD.out 5
  have d6 := HD.out 6
  have d7 := HD.out 7
  simp only [List.getElem?_toArray, List.getElem?_cons_zero, List.getElem?_cons_succ] at d0 d1 d2 d3 d4 d5 d6 d7
  exact bodyPost_ret (v := .agg #[.int .i64 l0, .int .i64 l1, .int .i64 l2, .int .i64 l3, .int .i64 l4, .int .i64 l5, .int .i64 l6, .int .i64 l7]) (by simp [results, Tryz.results11, go_sem, d0, d1, d2, d3, d4, d5, d6, d7]) rfl ⟨rfl, hl9.out⟩
end
end Go.Proofs.YthdcdffdpdoeoaaGreatDoor
