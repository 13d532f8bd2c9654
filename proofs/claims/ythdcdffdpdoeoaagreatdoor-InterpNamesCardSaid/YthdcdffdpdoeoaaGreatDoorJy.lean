/-
  CONTRACT OF PACKAGE interp's Step (layer 9): the next statement is done. Conditions: as they stand.
-/
import Derived.Test.YthdcdffdpdoeoaaGreatDoorZw
namespace Go.Proofs.YthdcdffdpdoeoaaGreatDoor
set_option maxRecDepth 100000
open Go.RowKit Go.Deep
set_option linter.unusedVariables false
theorem field_ask (k : Int) (a b : Int) (w : World) : (Instr.field 25 (.agg #[.int .u8 k, .int .i64 a, .int .i64 b]) 0).run Tryz.prog w = .ok (.int .u8 k) w := by
  simp [Instr.field, run_underlying Tryz.underlying25, go_sem, asAgg, part]
theorem field_to (r : Raw) (w : World) : (Instr.field 43 (.agg #[.int .u8 r.k, .int .i64 r.t, .int .u8 r.ao, .int .i64 r.an, .slice r.aA r.al r.ac, .int .u8 r.bo, .int .i64 r.bn, .slice r.bA r.bl r.bc, .slice r.yA r.yl r.yc, .slice r.eA r.el r.ec]) 1).run Tryz.prog w = .ok (.int .i64 r.t) w := by
  simp [Instr.field, run_underlying Tryz.underlying43, go_sem, asAgg, part]
section
variable {E : Ev9} {w w' : World} {l : List Int} {L : List Fx} {f : Fx} {T : List (List Pr)} {n : Nat} {A : Option Addr} {c : Nat} {S S2 SB I : Nat → Prop}
/-- A statement that is Inner, of one that may be. -/
theorem ask_inner {L : List Fx} {s : St} (h : askS E l L T s = (1, 0, 0)) : s.kind ≠ 8 ∧ (s.kind = 6 → ¬ inner9 L < 0) := by
  unfold askS at h
  refine ⟨fun e => ?_, fun e hn => ?_⟩
  · rw [if_pos e] at h; cases h
  · rw [if_neg (by omega), if_pos e, if_pos hn] at h; cases h
theorem good_kind {d : Nat} {s : St} (h : Good9 d s) : 1 ≤ s.kind ∧ s.kind ≤ 8 ∧ 0 ≤ s.to ∧ s.to < 8 ∧ ∃ e, d = e + 1 ∧ (∀ x ∈ s.body, Good9 e x) ∧ (∀ x ∈ s.els, Good9 e x) := by
  cases d with
  | zero => exact h.elim
  | succ d =>
    obtain ⟨k, t, a, b, y, e⟩ := s
    obtain ⟨⟨h1, h2, h3, h4⟩, h5, h6⟩ := h
    exact ⟨h1, h2, h3, h4, d, rfl, h5, h6⟩
theorem post9_from {w w1 w2 : World} {s : St} (hb : Below w.heap.size w w1) (hh : E.hi ≤ w.heap.size) (h : Post9 E w1 S l L T n s w2) : Post9 E w S l L T n s w2 := by
  obtain ⟨l', L', T', A', c', S', SB', I', h', t', e⟩ := h
  exact ⟨l', L', T', A', c', S', SB', I', h', (Tr.below hb hh).trans t', e⟩
set_option maxHeartbeats 16000000 in
theorem step_any (h : RMat E w l (L ++ [f]) T n A c S SB I) {s : St} {rr : List St} (hr : f.rest = s :: rr) (hn : n < 1000) (hlev : T.length = keptN (plF (L ++ [f])) + 1) (ha : askS E l (L ++ [f]) T s = (1, 0, 0)) : Calls Tryz.prog 6 #[.pointer (some ⟨E.q, 0, none⟩)] w fun e w' => e = .returned (.int .i64 0) ∧
    ∃ l' L' T' A' c' S' SB' I' l2 F2 T2, RMat E w' l' L' T' (n + 1) A' c' S' SB' I' ∧ Tr E w S w' S' ∧ doS E.vars E.got s l ({ f.pl with rest := rr } :: plF L) T = (l2, F2, T2) ∧ l' = l2 ∧ kOf (plF L') T' = bareI (kOf F2 T2) ∧ flatB T' = flatB T2 ∧ T'.length = keptN (plF L') + 1 ∧ Ready9 (plF L') := by
  have hN := next_some h hr (by omega)
  rw [ha] at hN
  have hN : Calls Tryz.prog 5 #[.pointer (some ⟨E.q, 0, none⟩)] w fun e w' => e = .returned (.agg #[.int .u8 1, .int .i64 0, .int .i64 0]) ∧ Below w.heap.size w w' := hN
  have HN := Lib.hid hN
  clear hN
  have HTK := Lib.hid (fun (W : World) (hb : Below w.heap.size w W) => take_any (h.below hb) hr (by omega))
  obtain ⟨a8, a6⟩ := ask_inner ha
  obtain ⟨dd, hd⟩ := h.deep
  rw [plF_snoc] at hd
  obtain ⟨g1, g8, g0, gt, de, hde, gy, ge⟩ := good_kind (hd.1.1 s (by show s ∈ f.rest; rw [hr]; simp))
  have HD9 := Lib.hid hd
  have H := Lib.hid h
  have HRR := Lib.hid hr
  have HLEV := Lib.hid hlev
  have HG := Lib.hid (And.intro gy (And.intro ge (And.intro g0 (And.intro gt hde))))
  have HK6 : Hid (s.kind = 6 → keptOf (plF (L ++ [f])) ≠ none) := fun e he => by
    rcases inner_of _ (L ++ [f]) rfl with ⟨_, q2⟩ | ⟨_, _, _, _, _, _, _, q4⟩
    · have := a6 e; omega
    · rw [q4] at he; cases he
  have HKI := Lib.hid (And.intro g1 (And.intro g8 a8))
  have HFL := Lib.hid h.flat
  clear h hr hlev hd gy ge g0 gt hde a6 g1 g8 a8 ha
  have hfa := field_ask 1 0 0
  go_enter Tryz.func6, Tryz.ntmps6
  go_wp2_with fail
  refine HN.out.mono ?_
  rintro e w1 ⟨rfl, b1⟩
  have HB1 := Lib.hid b1
  clear b1
  go_wp2_with fail
  refine (HTK.out w1 HB1.out).mono ?_
  rintro e w2 ⟨r, f', rfl, sac, hr', hb', ht', hk', h2, t2⟩
  have H2 := Lib.hid h2
  have T2 := Lib.hid ((Tr.below (S := S) HB1.out H.out.hiw).trans t2)
  have HF' := Lib.hid (And.intro hr' (And.intro hb' (And.intro ht' hk')))
  have HS := Lib.hid sac
  obtain ⟨d', _, _, e1, _⟩ := sac_at sac
  have HE1 := Lib.hid e1
  clear h2 t2 hr' hb' ht' hk' sac e1
  obtain ⟨rk, rt, rao, ran, raA, ral, rac, rbo, rbn, rbA, rbl, rbc, ryA, ryl, ryc, reA, rel, rec_⟩ := r
  dsimp only [Raw.v] at HE1 ⊢
  go_upto_region 6 with fail
  obtain ⟨W3, hW3⟩ : ∃ W3, W3 = w2.alloc (.cells #[.int .u8 rk, .int .i64 rt, .int .u8 rao, .int .i64 ran, .slice raA ral rac, .int .u8 rbo, .int .i64 rbn, .slice rbA rbl rbc, .slice ryA ryl ryc, .slice reA rel rec_] 43) := ⟨_, rfl⟩
  have hb3 : Below w2.heap.size w2 W3 := by rw [hW3]; exact (Below.refl w2.heap.size w2).alloc (Nat.le_refl _) _
  have hz3 : W3.heap.size = w2.heap.size + 1 := by rw [hW3]; simp
  have HTEN : Hid (∀ W', Below W3.heap.size W3 W' → Ten W' ⟨w2.heap.size, 0, none⟩ ⟨rk, rt, rao, ran, raA, ral, rac, rbo, rbn, rbA, rbl, rbc, ryA, ryl, ryc, reA, rel, rec_⟩) := fun W' hb => by
    have := Ten.new w2 ⟨rk, rt, rao, ran, raA, ral, rac, rbo, rbn, rbA, rbl, rbc, ryA, ryl, ryc, reA, rel, rec_⟩
    rw [← hW3] at this
    exact this.below hb (by rw [hz3]; show w2.heap.size < _; omega)
  rw [← hW3]
  have HB3 := Lib.hid hb3
  clear hW3 hz3 hb3
  have HCL : Hid (∀ W', Below W3.heap.size W3 W' → W'.cell? ⟨w2.heap.size, 0, none⟩ = some (.int .u8 rk) ∧ W'.cell? ⟨w2.heap.size, 1, none⟩ = some (.int .i64 rt) ∧ W'.cell? ⟨w2.heap.size, 2, none⟩ = some (.int .u8 rao) ∧ W'.cell? ⟨w2.heap.size, 3, none⟩ = some (.int .i64 ran) ∧ W'.cell? ⟨w2.heap.size, 4, none⟩ = some (.slice raA ral rac) ∧ W'.cell? ⟨w2.heap.size, 5, none⟩ = some (.int .u8 rbo) ∧ W'.cell? ⟨w2.heap.size, 6, none⟩ = some (.int .i64 rbn) ∧ W'.cell? ⟨w2.heap.size, 7, none⟩ = some (.slice rbA rbl rbc) ∧ W'.cell? ⟨w2.heap.size, 8, none⟩ = some (.slice ryA ryl ryc) ∧ W'.cell? ⟨w2.heap.size, 9, none⟩ = some (.slice reA rel rec_)) := fun W' hb => by
    have t := HTEN.out W' hb
    have c0 := t.c0
    have c1 := t.c1
    have c2 := t.c2
    have c3 := t.c3
    have c4 := t.c4
    have c5 := t.c5
    have c6 := t.c6
    have c7 := t.c7
    have c8 := t.c8
    have c9 := t.c9
    dsimp only at c0 c1 c2 c3 c4 c5 c6 c7 c8 c9
    rw [Nat.zero_add] at c1 c2 c3 c4 c5 c6 c7 c8 c9
    exact ⟨c0, c1, c2, c3, c4, c5, c6, c7, c8, c9⟩
  have hpl : plF (L ++ [f']) = { f.pl with rest := rr } :: plF L := by
    obtain ⟨x1, x2, x3, x4⟩ := HF'.out
    rw [plF_snoc]
    have : f'.pl = ⟨f'.rest, f'.body, f'.turns, f'.kept.map fun k => (k.l, k.els)⟩ := rfl
    rw [this, x1, x2, x3, x4]
    rfl
  have HPL := Lib.hid hpl
  clear hpl
  have HPRE : Hid (∀ W', Below w2.heap.size w2 W' → Pre9 E W' l (L ++ [f']) T (n + 1) A c S SB I ⟨rk, rt, rao, ran, raA, ral, rac, rbo, rbn, rbA, rbl, rbc, ryA, ryl, ryc, reA, rel, rec_⟩ s) := fun W' hb => by
    obtain ⟨gy, ge, g0, gt, hde⟩ := HG.out
    refine ⟨H2.out.below hb, (Tr.below (S := S) hb H2.out.hiw).sac HS.out, ?_, g0, gt, by have := HFL.out; omega, by omega, ?_, fun e => ?_⟩
    · refine ⟨de, ?_, gy, ge⟩
      rw [HPL.out, ← hde]
      obtain ⟨⟨x1, x2, x3⟩, x4⟩ := HD9.out
      refine ⟨⟨fun x hx => x1 x ?_, x2, x3⟩, x4⟩
      show x ∈ f.rest
      rw [HRR.out]
      exact List.mem_cons_of_mem _ hx
    · rw [HPL.out, HLEV.out, plF_snoc]
      rfl
    · rw [HPL.out]
      have := HK6.out e
      rw [plF_snoc] at this
      exact this
  have FIN : Hid (∀ w8, Post9 E w2 S l (L ++ [f']) T (n + 1) s w8 → ∃ l' L' T' A' c' S' SB' I', RMat E w8 l' L' T' (n + 1) A' c' S' SB' I' ∧ Tr E w2 S w8 S' ∧ doS E.vars E.got s l ({ f.pl with rest := rr } :: plF L) T = (l', plF L', T') ∧ T'.length = keptN (plF L') + 1) := fun w8 hp => by
    obtain ⟨l', L', T', A', c', S', SB', I', h', t', e⟩ := hp
    rw [HPL.out] at e
    refine ⟨l', L', T', A', c', S', SB', I', h', t', e, ?_⟩
    have h1 := doS_len (vars := E.vars) (got := E.got) (s := s) (l := l) (F := { f.pl with rest := rr } :: plF L) (T := T) (by rw [HLEV.out, plF_snoc]; rfl)
    rw [e] at h1
    exact h1
  have hkk : rk = 1 ∨ rk = 2 ∨ rk = 3 ∨ rk = 4 ∨ rk = 5 ∨ rk = 6 ∨ rk = 7 := by
    have h1 := HE1.out
    have h2 := HKI.out
    omega
  rcases hkk with rfl | rfl | rfl | rfl | rfl | rfl | rfl
  · have HDO : Hid (∀ W', Calls Tryz.prog 29 #[.int .u8 1] W' fun r w' => r = .returned (.func (.func 45) #[] #[]) ∧ Below W'.heap.size W' w') := fun W' => does_any 1 W' (by omega)
    have HST : Hid (∀ W', Below w2.heap.size w2 W' → Calls Tryz.prog 45 #[.pointer (some ⟨E.q, 0, none⟩), .agg #[.int .u8 1, .int .i64 rt, .int .u8 rao, .int .i64 ran, .slice raA ral rac, .int .u8 rbo, .int .i64 rbn, .slice rbA rbl rbc, .slice ryA ryl ryc, .slice reA rel rec_]] W' fun e w' => (∃ v, e = .returned v) ∧ Post9 E W' S l (L ++ [f']) T (n + 1) s w') := fun W' hb => by
      have h9 := stmt9_1 (HPRE.out W' hb) HE1.out.symm
      exact h9
    clear HPRE
    have HCK : Hid (∀ W', Below W3.heap.size W3 W' → W'.cell? ⟨w2.heap.size, 0, none⟩ = some (.int .u8 1)) := fun W' hb => (HCL.out W' hb).1
    obtain ⟨_, b1, b2, b3, b4, b5, b6, b7, b8, b9⟩ := HCL.out W3 (Below.refl _ _)
    have b0 := HCK.out W3 (Below.refl _ _)
    go_region_law
      (first
        | (rw [if_pos (by rfl)]; go_simp; go_at_call 45; refine (HST.out w9 (HB3.out.trans (HB9.out.mono HB3.out.size))).mono ?_; rintro e w8 ⟨⟨v8, rfl⟩, hp8⟩; have HP8 := Lib.hid (FIN.out w8 (post9_from (HB3.out.trans (HB9.out.mono HB3.out.size)) H2.out.hiw hp8)); clear hp8)
        | (rw [if_pos (by rfl)]; go_simp; go_at_call 29; refine (HDO.out W3.drew).mono ?_; rintro e w9 ⟨rfl, x9⟩; have HB9 := Lib.hid ((Below.refl W3.heap.size W3).drew.trans x9); obtain ⟨_, d1, d2, d3, d4, d5, d6, d7, d8, d9⟩ := HCL.out w9 HB9.out; have d0 := HCK.out w9 HB9.out; clear x9)
        | fail)
    all_goals
      obtain ⟨l8, L8, T8, A8, c8, S8, SB8, I8, h8, t8, e8, v8'⟩ := HP8.out
      have HLV := Lib.hid (leave_any h8 v8' (Nat.le_trans h8.flat (by omega)))
      have HT8 := Lib.hid (T2.out.trans t8)
      have HE8 := Lib.hid e8
      clear h8 t8 e8 v8'
      go_wp2_with fail
      refine HLV.out.mono ?_
      rintro e w7 ⟨⟨v7, rfl⟩, L7, T7, A7, c7, S7, SB7, h7, t7, k7, f7, n7, r7⟩
      have HR := Lib.hid (And.intro h7 (And.intro (HT8.out.trans t7) (And.intro k7 (And.intro f7 (And.intro n7 r7)))))
      clear h7 t7 k7 f7 n7 r7
      go_wp2_with fail
      go_ret
      exact ⟨rfl, l8, L7, T7, A7, c7, S7, SB7, I8, l8, plF L8, T8, HR.out.1, HR.out.2.1, HE8.out, rfl, HR.out.2.2.1, HR.out.2.2.2.1, HR.out.2.2.2.2.1, HR.out.2.2.2.2.2⟩
  · have HDO : Hid (∀ W', Calls Tryz.prog 29 #[.int .u8 2] W' fun r w' => r = .returned (.func (.func 46) #[] #[]) ∧ Below W'.heap.size W' w') := fun W' => does_any 2 W' (by omega)
    have HST : Hid (∀ W', Below w2.heap.size w2 W' → Calls Tryz.prog 46 #[.pointer (some ⟨E.q, 0, none⟩), .agg #[.int .u8 2, .int .i64 rt, .int .u8 rao, .int .i64 ran, .slice raA ral rac, .int .u8 rbo, .int .i64 rbn, .slice rbA rbl rbc, .slice ryA ryl ryc, .slice reA rel rec_]] W' fun e w' => (∃ v, e = .returned v) ∧ Post9 E W' S l (L ++ [f']) T (n + 1) s w') := fun W' hb => by
      have h9 := stmt9_2 (HPRE.out W' hb) HE1.out.symm
      exact h9
    clear HPRE
    have HCK : Hid (∀ W', Below W3.heap.size W3 W' → W'.cell? ⟨w2.heap.size, 0, none⟩ = some (.int .u8 2)) := fun W' hb => (HCL.out W' hb).1
    obtain ⟨_, b1, b2, b3, b4, b5, b6, b7, b8, b9⟩ := HCL.out W3 (Below.refl _ _)
    have b0 := HCK.out W3 (Below.refl _ _)
    go_region_law
      (first
        | (rw [if_pos (by rfl)]; go_simp; go_at_call 46; refine (HST.out w9 (HB3.out.trans (HB9.out.mono HB3.out.size))).mono ?_; rintro e w8 ⟨⟨v8, rfl⟩, hp8⟩; have HP8 := Lib.hid (FIN.out w8 (post9_from (HB3.out.trans (HB9.out.mono HB3.out.size)) H2.out.hiw hp8)); clear hp8)
        | (rw [if_pos (by rfl)]; go_simp; go_at_call 29; refine (HDO.out W3.drew).mono ?_; rintro e w9 ⟨rfl, x9⟩; have HB9 := Lib.hid ((Below.refl W3.heap.size W3).drew.trans x9); obtain ⟨_, d1, d2, d3, d4, d5, d6, d7, d8, d9⟩ := HCL.out w9 HB9.out; have d0 := HCK.out w9 HB9.out; clear x9)
        | fail)
    all_goals
      obtain ⟨l8, L8, T8, A8, c8, S8, SB8, I8, h8, t8, e8, v8'⟩ := HP8.out
      have HLV := Lib.hid (leave_any h8 v8' (Nat.le_trans h8.flat (by omega)))
      have HT8 := Lib.hid (T2.out.trans t8)
      have HE8 := Lib.hid e8
      clear h8 t8 e8 v8'
      go_wp2_with fail
      refine HLV.out.mono ?_
      rintro e w7 ⟨⟨v7, rfl⟩, L7, T7, A7, c7, S7, SB7, h7, t7, k7, f7, n7, r7⟩
      have HR := Lib.hid (And.intro h7 (And.intro (HT8.out.trans t7) (And.intro k7 (And.intro f7 (And.intro n7 r7)))))
      clear h7 t7 k7 f7 n7 r7
      go_wp2_with fail
      go_ret
      exact ⟨rfl, l8, L7, T7, A7, c7, S7, SB7, I8, l8, plF L8, T8, HR.out.1, HR.out.2.1, HE8.out, rfl, HR.out.2.2.1, HR.out.2.2.2.1, HR.out.2.2.2.2.1, HR.out.2.2.2.2.2⟩
  · have HDO : Hid (∀ W', Calls Tryz.prog 29 #[.int .u8 3] W' fun r w' => r = .returned (.func (.func 47) #[] #[]) ∧ Below W'.heap.size W' w') := fun W' => does_any 3 W' (by omega)
    have HST : Hid (∀ W', Below w2.heap.size w2 W' → Calls Tryz.prog 47 #[.pointer (some ⟨E.q, 0, none⟩), .agg #[.int .u8 3, .int .i64 rt, .int .u8 rao, .int .i64 ran, .slice raA ral rac, .int .u8 rbo, .int .i64 rbn, .slice rbA rbl rbc, .slice ryA ryl ryc, .slice reA rel rec_]] W' fun e w' => (∃ v, e = .returned v) ∧ Post9 E W' S l (L ++ [f']) T (n + 1) s w') := fun W' hb => by
      have h9 := stmt9_3 (HPRE.out W' hb) HE1.out.symm
      exact h9
    clear HPRE
    have HCK : Hid (∀ W', Below W3.heap.size W3 W' → W'.cell? ⟨w2.heap.size, 0, none⟩ = some (.int .u8 3)) := fun W' hb => (HCL.out W' hb).1
    obtain ⟨_, b1, b2, b3, b4, b5, b6, b7, b8, b9⟩ := HCL.out W3 (Below.refl _ _)
    have b0 := HCK.out W3 (Below.refl _ _)
    go_region_law
      (first
        | (rw [if_pos (by rfl)]; go_simp; go_at_call 47; refine (HST.out w9 (HB3.out.trans (HB9.out.mono HB3.out.size))).mono ?_; rintro e w8 ⟨⟨v8, rfl⟩, hp8⟩; have HP8 := Lib.hid (FIN.out w8 (post9_from (HB3.out.trans (HB9.out.mono HB3.out.size)) H2.out.hiw hp8)); clear hp8)
        | (rw [if_pos (by rfl)]; go_simp; go_at_call 29; refine (HDO.out W3.drew).mono ?_; rintro e w9 ⟨rfl, x9⟩; have HB9 := Lib.hid ((Below.refl W3.heap.size W3).drew.trans x9); obtain ⟨_, d1, d2, d3, d4, d5, d6, d7, d8, d9⟩ := HCL.out w9 HB9.out; have d0 := HCK.out w9 HB9.out; clear x9)
        | fail)
    all_goals
      obtain ⟨l8, L8, T8, A8, c8, S8, SB8, I8, h8, t8, e8, v8'⟩ := HP8.out
      have HLV := Lib.hid (leave_any h8 v8' (Nat.le_trans h8.flat (by omega)))
      have HT8 := Lib.hid (T2.out.trans t8)
      have HE8 := Lib.hid e8
      clear h8 t8 e8 v8'
      go_wp2_with fail
      refine HLV.out.mono ?_
      rintro e w7 ⟨⟨v7, rfl⟩, L7, T7, A7, c7, S7, SB7, h7, t7, k7, f7, n7, r7⟩
      have HR := Lib.hid (And.intro h7 (And.intro (HT8.out.trans t7) (And.intro k7 (And.intro f7 (And.intro n7 r7)))))
      clear h7 t7 k7 f7 n7 r7
      go_wp2_with fail
      go_ret
      exact ⟨rfl, l8, L7, T7, A7, c7, S7, SB7, I8, l8, plF L8, T8, HR.out.1, HR.out.2.1, HE8.out, rfl, HR.out.2.2.1, HR.out.2.2.2.1, HR.out.2.2.2.2.1, HR.out.2.2.2.2.2⟩
  · have HDO : Hid (∀ W', Calls Tryz.prog 29 #[.int .u8 4] W' fun r w' => r = .returned (.func (.func 48) #[] #[]) ∧ Below W'.heap.size W' w') := fun W' => does_any 4 W' (by omega)
    have HST : Hid (∀ W', Below w2.heap.size w2 W' → Calls Tryz.prog 48 #[.pointer (some ⟨E.q, 0, none⟩), .agg #[.int .u8 4, .int .i64 rt, .int .u8 rao, .int .i64 ran, .slice raA ral rac, .int .u8 rbo, .int .i64 rbn, .slice rbA rbl rbc, .slice ryA ryl ryc, .slice reA rel rec_]] W' fun e w' => (∃ v, e = .returned v) ∧ Post9 E W' S l (L ++ [f']) T (n + 1) s w') := fun W' hb => by
      have h9 := stmt9_4 (HPRE.out W' hb) HE1.out.symm
      exact h9
    clear HPRE
    have HCK : Hid (∀ W', Below W3.heap.size W3 W' → W'.cell? ⟨w2.heap.size, 0, none⟩ = some (.int .u8 4)) := fun W' hb => (HCL.out W' hb).1
    obtain ⟨_, b1, b2, b3, b4, b5, b6, b7, b8, b9⟩ := HCL.out W3 (Below.refl _ _)
    have b0 := HCK.out W3 (Below.refl _ _)
    go_region_law
      (first
        | (rw [if_pos (by rfl)]; go_simp; go_at_call 48; refine (HST.out w9 (HB3.out.trans (HB9.out.mono HB3.out.size))).mono ?_; rintro e w8 ⟨⟨v8, rfl⟩, hp8⟩; have HP8 := Lib.hid (FIN.out w8 (post9_from (HB3.out.trans (HB9.out.mono HB3.out.size)) H2.out.hiw hp8)); clear hp8)
        | (rw [if_pos (by rfl)]; go_simp; go_at_call 29; refine (HDO.out W3.drew).mono ?_; rintro e w9 ⟨rfl, x9⟩; have HB9 := Lib.hid ((Below.refl W3.heap.size W3).drew.trans x9); obtain ⟨_, d1, d2, d3, d4, d5, d6, d7, d8, d9⟩ := HCL.out w9 HB9.out; have d0 := HCK.out w9 HB9.out; clear x9)
        | fail)
    all_goals
      obtain ⟨l8, L8, T8, A8, c8, S8, SB8, I8, h8, t8, e8, v8'⟩ := HP8.out
      have HLV := Lib.hid (leave_any h8 v8' (Nat.le_trans h8.flat (by omega)))
      have HT8 := Lib.hid (T2.out.trans t8)
      have HE8 := Lib.hid e8
      clear h8 t8 e8 v8'
      go_wp2_with fail
      refine HLV.out.mono ?_
      rintro e w7 ⟨⟨v7, rfl⟩, L7, T7, A7, c7, S7, SB7, h7, t7, k7, f7, n7, r7⟩
      have HR := Lib.hid (And.intro h7 (And.intro (HT8.out.trans t7) (And.intro k7 (And.intro f7 (And.intro n7 r7)))))
      clear h7 t7 k7 f7 n7 r7
      go_wp2_with fail
      go_ret
      exact ⟨rfl, l8, L7, T7, A7, c7, S7, SB7, I8, l8, plF L8, T8, HR.out.1, HR.out.2.1, HE8.out, rfl, HR.out.2.2.1, HR.out.2.2.2.1, HR.out.2.2.2.2.1, HR.out.2.2.2.2.2⟩
  · have HDO : Hid (∀ W', Calls Tryz.prog 29 #[.int .u8 5] W' fun r w' => r = .returned (.func (.func 49) #[] #[]) ∧ Below W'.heap.size W' w') := fun W' => does_any 5 W' (by omega)
    have HST : Hid (∀ W', Below w2.heap.size w2 W' → Calls Tryz.prog 49 #[.pointer (some ⟨E.q, 0, none⟩), .agg #[.int .u8 5, .int .i64 rt, .int .u8 rao, .int .i64 ran, .slice raA ral rac, .int .u8 rbo, .int .i64 rbn, .slice rbA rbl rbc, .slice ryA ryl ryc, .slice reA rel rec_]] W' fun e w' => (∃ v, e = .returned v) ∧ Post9 E W' S l (L ++ [f']) T (n + 1) s w') := fun W' hb => by
      have h9 := stmt9_5 (HPRE.out W' hb) HE1.out.symm
      exact h9
    clear HPRE
    have HCK : Hid (∀ W', Below W3.heap.size W3 W' → W'.cell? ⟨w2.heap.size, 0, none⟩ = some (.int .u8 5)) := fun W' hb => (HCL.out W' hb).1
    obtain ⟨_, b1, b2, b3, b4, b5, b6, b7, b8, b9⟩ := HCL.out W3 (Below.refl _ _)
    have b0 := HCK.out W3 (Below.refl _ _)
    go_region_law
      (first
        | (rw [if_pos (by rfl)]; go_simp; go_at_call 49; refine (HST.out w9 (HB3.out.trans (HB9.out.mono HB3.out.size))).mono ?_; rintro e w8 ⟨⟨v8, rfl⟩, hp8⟩; have HP8 := Lib.hid (FIN.out w8 (post9_from (HB3.out.trans (HB9.out.mono HB3.out.size)) H2.out.hiw hp8)); clear hp8)
        | (rw [if_pos (by rfl)]; go_simp; go_at_call 29; refine (HDO.out W3.drew).mono ?_; rintro e w9 ⟨rfl, x9⟩; have HB9 := Lib.hid ((Below.refl W3.heap.size W3).drew.trans x9); obtain ⟨_, d1, d2, d3, d4, d5, d6, d7, d8, d9⟩ := HCL.out w9 HB9.out; have d0 := HCK.out w9 HB9.out; clear x9)
        | fail)
    all_goals
      obtain ⟨l8, L8, T8, A8, c8, S8, SB8, I8, h8, t8, e8, v8'⟩ := HP8.out
      have HLV := Lib.hid (leave_any h8 v8' (Nat.le_trans h8.flat (by omega)))
      have HT8 := Lib.hid (T2.out.trans t8)
      have HE8 := Lib.hid e8
      clear h8 t8 e8 v8'
      go_wp2_with fail
      refine HLV.out.mono ?_
      rintro e w7 ⟨⟨v7, rfl⟩, L7, T7, A7, c7, S7, SB7, h7, t7, k7, f7, n7, r7⟩
      have HR := Lib.hid (And.intro h7 (And.intro (HT8.out.trans t7) (And.intro k7 (And.intro f7 (And.intro n7 r7)))))
      clear h7 t7 k7 f7 n7 r7
      go_wp2_with fail
      go_ret
      exact ⟨rfl, l8, L7, T7, A7, c7, S7, SB7, I8, l8, plF L8, T8, HR.out.1, HR.out.2.1, HE8.out, rfl, HR.out.2.2.1, HR.out.2.2.2.1, HR.out.2.2.2.2.1, HR.out.2.2.2.2.2⟩
  · have HDO : Hid (∀ W', Calls Tryz.prog 29 #[.int .u8 6] W' fun r w' => r = .returned (.func (.func 50) #[] #[]) ∧ Below W'.heap.size W' w') := fun W' => does_any 6 W' (by omega)
    have HST : Hid (∀ W', Below w2.heap.size w2 W' → Calls Tryz.prog 50 #[.pointer (some ⟨E.q, 0, none⟩), .agg #[.int .u8 6, .int .i64 rt, .int .u8 rao, .int .i64 ran, .slice raA ral rac, .int .u8 rbo, .int .i64 rbn, .slice rbA rbl rbc, .slice ryA ryl ryc, .slice reA rel rec_]] W' fun e w' => (∃ v, e = .returned v) ∧ Post9 E W' S l (L ++ [f']) T (n + 1) s w') := fun W' hb => by
      have h9 := stmt9_6 (HPRE.out W' hb) HE1.out.symm
      exact h9
    clear HPRE
    have HCK : Hid (∀ W', Below W3.heap.size W3 W' → W'.cell? ⟨w2.heap.size, 0, none⟩ = some (.int .u8 6)) := fun W' hb => (HCL.out W' hb).1
    obtain ⟨_, b1, b2, b3, b4, b5, b6, b7, b8, b9⟩ := HCL.out W3 (Below.refl _ _)
    have b0 := HCK.out W3 (Below.refl _ _)
    go_region_law
      (first
        | (rw [if_pos (by rfl)]; go_simp; go_at_call 50; refine (HST.out w9 (HB3.out.trans (HB9.out.mono HB3.out.size))).mono ?_; rintro e w8 ⟨⟨v8, rfl⟩, hp8⟩; have HP8 := Lib.hid (FIN.out w8 (post9_from (HB3.out.trans (HB9.out.mono HB3.out.size)) H2.out.hiw hp8)); clear hp8)
        | (rw [if_pos (by rfl)]; go_simp; go_at_call 29; refine (HDO.out W3.drew).mono ?_; rintro e w9 ⟨rfl, x9⟩; have HB9 := Lib.hid ((Below.refl W3.heap.size W3).drew.trans x9); obtain ⟨_, d1, d2, d3, d4, d5, d6, d7, d8, d9⟩ := HCL.out w9 HB9.out; have d0 := HCK.out w9 HB9.out; clear x9)
        | fail)
    all_goals
      obtain ⟨l8, L8, T8, A8, c8, S8, SB8, I8, h8, t8, e8, v8'⟩ := HP8.out
      have HLV := Lib.hid (leave_any h8 v8' (Nat.le_trans h8.flat (by omega)))
      have HT8 := Lib.hid (T2.out.trans t8)
      have HE8 := Lib.hid e8
      clear h8 t8 e8 v8'
      go_wp2_with fail
      refine HLV.out.mono ?_
      rintro e w7 ⟨⟨v7, rfl⟩, L7, T7, A7, c7, S7, SB7, h7, t7, k7, f7, n7, r7⟩
      have HR := Lib.hid (And.intro h7 (And.intro (HT8.out.trans t7) (And.intro k7 (And.intro f7 (And.intro n7 r7)))))
      clear h7 t7 k7 f7 n7 r7
      go_wp2_with fail
      go_ret
      exact ⟨rfl, l8, L7, T7, A7, c7, S7, SB7, I8, l8, plF L8, T8, HR.out.1, HR.out.2.1, HE8.out, rfl, HR.out.2.2.1, HR.out.2.2.2.1, HR.out.2.2.2.2.1, HR.out.2.2.2.2.2⟩
  · have HDO : Hid (∀ W', Calls Tryz.prog 29 #[.int .u8 7] W' fun r w' => r = .returned (.func (.func 51) #[] #[]) ∧ Below W'.heap.size W' w') := fun W' => does_any 7 W' (by omega)
    have HST : Hid (∀ W', Below w2.heap.size w2 W' → Calls Tryz.prog 51 #[.pointer (some ⟨E.q, 0, none⟩), .agg #[.int .u8 7, .int .i64 rt, .int .u8 rao, .int .i64 ran, .slice raA ral rac, .int .u8 rbo, .int .i64 rbn, .slice rbA rbl rbc, .slice ryA ryl ryc, .slice reA rel rec_]] W' fun e w' => (∃ v, e = .returned v) ∧ Post9 E W' S l (L ++ [f']) T (n + 1) s w') := fun W' hb => by
      have h9 := stmt9_7 (HPRE.out W' hb) HE1.out.symm
      exact h9
    clear HPRE
    have HCK : Hid (∀ W', Below W3.heap.size W3 W' → W'.cell? ⟨w2.heap.size, 0, none⟩ = some (.int .u8 7)) := fun W' hb => (HCL.out W' hb).1
    obtain ⟨_, b1, b2, b3, b4, b5, b6, b7, b8, b9⟩ := HCL.out W3 (Below.refl _ _)
    have b0 := HCK.out W3 (Below.refl _ _)
    go_region_law
      (first
        | (rw [if_pos (by rfl)]; go_simp; go_at_call 51; refine (HST.out w9 (HB3.out.trans (HB9.out.mono HB3.out.size))).mono ?_; rintro e w8 ⟨⟨v8, rfl⟩, hp8⟩; have HP8 := Lib.hid (FIN.out w8 (post9_from (HB3.out.trans (HB9.out.mono HB3.out.size)) H2.out.hiw hp8)); clear hp8)
        | (rw [if_pos (by rfl)]; go_simp; go_at_call 29; refine (HDO.out W3.drew).mono ?_; rintro e w9 ⟨rfl, x9⟩; have HB9 := Lib.hid ((Below.refl W3.heap.size W3).drew.trans x9); obtain ⟨_, d1, d2, d3, d4, d5, d6, d7, d8, d9⟩ := HCL.out w9 HB9.out; have d0 := HCK.out w9 HB9.out; clear x9)
        | fail)
    all_goals
      obtain ⟨l8, L8, T8, A8, c8, S8, SB8, I8, h8, t8, e8, v8'⟩ := HP8.out
      have HLV := Lib.hid (leave_any h8 v8' (Nat.le_trans h8.flat (by omega)))
      have HT8 := Lib.hid (T2.out.trans t8)
      have HE8 := Lib.hid e8
      clear h8 t8 e8 v8'
      go_wp2_with fail
      refine HLV.out.mono ?_
      rintro e w7 ⟨⟨v7, rfl⟩, L7, T7, A7, c7, S7, SB7, h7, t7, k7, f7, n7, r7⟩
      have HR := Lib.hid (And.intro h7 (And.intro (HT8.out.trans t7) (And.intro k7 (And.intro f7 (And.intro n7 r7)))))
      clear h7 t7 k7 f7 n7 r7
      go_wp2_with fail
      go_ret
      exact ⟨rfl, l8, L7, T7, A7, c7, S7, SB7, I8, l8, plF L8, T8, HR.out.1, HR.out.2.1, HE8.out, rfl, HR.out.2.2.1, HR.out.2.2.2.1, HR.out.2.2.2.2.1, HR.out.2.2.2.2.2⟩
end
end Go.Proofs.YthdcdffdpdoeoaaGreatDoor
