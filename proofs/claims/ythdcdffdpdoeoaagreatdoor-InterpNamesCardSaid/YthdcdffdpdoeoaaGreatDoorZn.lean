/-
  SEVERAL TEXTS IN ONE (a claim has sixty files at most): Jn, Jo, Jp, Jq: the head of each stands ahead of it. No condition but theirs.
-/
import Derived.Test.YthdcdffdpdoeoaaGreatDoorZk
import Derived.Test.YthdcdffdpdoeoaaGreatDoorZd
/-
  CONTRACTS OF PACKAGE interp's set, read and write (layer 9). Conditions: as they stand.
-/
namespace Go.Proofs.YthdcdffdpdoeoaaGreatDoor
set_option maxRecDepth 100000
open Go.RowKit Go.Deep
set_option linter.unusedVariables false
section
variable {E : Ev9} {w w' : World} {l : List Int} {L : List Fx} {f : Fx} {T : List (List Pr)} {n : Nat} {A : Option Addr} {c : Nat} {S S2 SB I : Nat → Prop}
/-- A statement's own data, off what lies. -/
theorem sac_at {lo hi D : Nat} {r : Raw} {s : St} (h : SAc w lo hi D r s) : ∃ d, At w lo hi d (.agg #[.int .u8 r.ao, .int .i64 r.an, .slice r.aA r.al r.ac]) s.a ∧ At w lo hi d (.agg #[.int .u8 r.bo, .int .i64 r.bn, .slice r.bA r.bl r.bc]) s.b ∧ r.k = s.kind ∧ r.t = s.to ∧ r.yl = s.body.length ∧ r.el = s.els.length ∧ SKc w lo hi d r.yA s.body ∧ SKc w lo hi d r.eA s.els ∧ s.body.length ≤ r.yc ∧ s.els.length ≤ r.ec ∧ s.kind < 256 ∧ s.body.length ≤ 9223372036854775807 ∧ s.els.length ≤ 9223372036854775807 ∧ D = d + 1 := by
  cases D with
  | zero => exact h.elim
  | succ d =>
    obtain ⟨k, t, a, b, y, e⟩ := s
    obtain ⟨⟨e1, e2, e3, e4⟩, ⟨q1, q2, q3, q4, q5, q6, q7⟩, ha, hb, hy, he⟩ := h.open_
    exact ⟨d, ha, hb, e1, e2, e3, e4, hy, he, q6, q7, q1, q4, q5, rfl⟩
set_option maxHeartbeats 2000000 in
theorem set_any (h : RMat E w l L T n A c S SB I) {r : Raw} {s : St} (hs : SAc w E.lo E.hi E.D r s) (t0 : 0 ≤ s.to) (t8 : s.to < 8) : Calls Tryz.prog 45 #[.pointer (some ⟨E.q, 0, none⟩), r.v] w fun e w' => (∃ v, e = .returned v) ∧ RMat E w' (l.set s.to.toNat (evalF s.a l E.got).1) L T n A c S SB I ∧ Tr E w S w' S := by
  obtain ⟨d, ha, hb, e1, e2, e3, e4, hy, he, q6, q7, q1, q4, q5, hD⟩ := sac_at hs
  have hwf := eval_wf h.wf h.gwf ha
  have HVL := Lib.hid (fun (W : World) (hb : Below w.heap.size w W) => value9_any (h.below hb) (ha.below hb h.hiw) (by have := hb.size; have := h.hiw; omega))
  obtain ⟨y, hyy⟩ : ∃ y, y = (evalF s.a l E.got).1 := ⟨_, rfl⟩
  rw [← hyy] at hwf HVL ⊢
  clear hyy
  obtain ⟨t, ht⟩ : ∃ t : Nat, s.to = t := ⟨s.to.toNat, by omega⟩
  rw [ht] at e2 t8 ⊢
  rw [Int.toNat_natCast]
  have i8 : t < 8 := by omega
  have il : t < l.length := by rw [h.len]; omega
  obtain ⟨rk, rt, rao, ran, raA, ral, rac, rbo, rbn, rbA, rbl, rbc, ryA, ryl, ryc, reA, rel, rec_⟩ := r
  dsimp only [Raw.v] at e1 e2 e3 e4 HVL ⊢
  subst e2
  have H := Lib.hid h
  have HW := Lib.hid hwf
  clear ha hb hy he q6 q7 q1 q4 q5 hD hs e1 e3 e4 t0 ht h hwf
  go_enter Tryz.func45, Tryz.ntmps45
  go_upto_region 1 with fail
  obtain ⟨W, hW⟩ : ∃ W, W = w.alloc (.cells #[.int .u8 rk, .int .i64 t, .int .u8 rao, .int .i64 ran, .slice raA ral rac, .int .u8 rbo, .int .i64 rbn, .slice rbA rbl rbc, .slice ryA ryl ryc, .slice reA rel rec_] 43) := ⟨_, rfl⟩
  have hb0 : Below w.heap.size w W := by rw [hW]; exact (Below.refl _ _).alloc (Nat.le_refl _) _
  have HTEN : Hid (∀ W', Below W.heap.size W W' → Ten W' ⟨w.heap.size, 0, none⟩ ⟨rk, t, rao, ran, raA, ral, rac, rbo, rbn, rbA, rbl, rbc, ryA, ryl, ryc, reA, rel, rec_⟩) := fun W' hb => by
    have := Ten.new w ⟨rk, t, rao, ran, raA, ral, rac, rbo, rbn, rbA, rbl, rbc, ryA, ryl, ryc, reA, rel, rec_⟩
    rw [← hW] at this
    exact this.below hb (by rw [hW]; simp)
  rw [← hW]
  have HB := Lib.hid hb0
  clear hW hb0
  have b1 := (HTEN.out W (Below.refl _ _)).c1
  have b2 := (HTEN.out W (Below.refl _ _)).c2
  have b3 := (HTEN.out W (Below.refl _ _)).c3
  have b4 := (HTEN.out W (Below.refl _ _)).c4
  dsimp only at b1 b2 b3 b4
  rw [Nat.zero_add] at b1 b2 b3 b4
  have i9 : (t : Int) < 8 := by omega
  go_region_law
    (first
      | (rw [if_pos (by rfl)]; go_simp; go_at_call 27; refine (HVL.out W.drew (HB.out.drew)).mono ?_; rintro e w9 ⟨rfl, b9⟩; have hb9 : Below W.heap.size W w9 := (Below.refl W.heap.size W).drew.trans b9; have B9 := Lib.hid (HB.out.trans (hb9.mono HB.out.size)); have d1 := (HTEN.out w9 hb9).c1; (dsimp only at d1; rw [Nat.zero_add] at d1); have hm9 := H.out.below B9.out; have m1 := hm9.cl t il; have m2 := hm9.fz (2 + t); have HM9 := Lib.hid hm9; clear b9 hb9 hm9)
      | fail)
  all_goals
    go_wp2_with fail
    go_end0
    exact ⟨⟨_, rfl⟩, HM9.out.putl t i8 y HW.out, (Tr.below B9.out H.out.hiw).trans (HM9.out.tr_put (2 + t) _)⟩
theorem var_wf {vars x : Int} (v1 : 1 ≤ vars) (v2 : vars ≤ 32) : wfI (varF x vars).1 := by
  rw [wf_iff]
  unfold varF
  split
  · omega
  · have := Int.emod_nonneg x (show vars ≠ 0 by omega)
    have := Int.emod_lt_of_pos x (show 0 < vars by omega)
    simp
    omega
theorem says_mem : ∀ {l : List Pr} {v x : Int}, rowSays l v = some x → ∃ p ∈ l, p.2 = x := by
  intro l
  induction l with
  | nil => intro v x h; cases h
  | cons p r ih =>
    intro v x h
    rw [rowSays] at h
    cases hr : rowSays r v with
    | some y =>
      rw [hr] at h
      injection h with h
      obtain ⟨q, hq, e⟩ := ih hr
      exact ⟨q, List.mem_cons_of_mem _ hq, e.trans h⟩
    | none =>
      rw [hr] at h
      simp at h
      exact ⟨p, List.mem_cons_self .., h.2⟩
theorem flat9_mem : ∀ {T : List (List Pr)} {p : Pr}, p ∈ flatB T → ∃ r ∈ T, p ∈ r := by
  intro T
  induction T with
  | nil => intro p h; cases h
  | cons a t ih =>
    intro p h
    rcases List.mem_append.1 h with e | e
    · obtain ⟨r, h1, h2⟩ := ih e
      exact ⟨r, List.mem_cons_of_mem _ h1, h2⟩
    · exact ⟨a, List.mem_cons_self .., e⟩
theorem rb_wf {w : World} {q : Nat} {S : Nat → Prop} {T : List (List Pr)} (h : RB w q S T) (v : Int) : wfI ((saysL T v).getD 0) := by
  cases hs : saysL T v with
  | none => show wfI 0; rw [wf_iff]; omega
  | some x =>
    obtain ⟨p, hp, e⟩ := says_mem hs
    obtain ⟨r, h1, h2⟩ := flat9_mem hp
    obtain ⟨p0, top, A, c, L, hb, rfl⟩ := h
    show wfI x
    rw [← e]
    rcases List.mem_cons.1 h1 with e1 | e1
    · exact (hb.okT p (e1 ▸ h2)).2
    · obtain ⟨y, hy, e2⟩ := List.mem_map.1 (List.mem_reverse.1 e1)
      exact (hb.okL y hy p (e2 ▸ h2)).2
set_option maxHeartbeats 2000000 in
theorem read_any (h : RMat E w l L T n A c S SB I) {r : Raw} {s : St} (hs : SAc w E.lo E.hi E.D r s) (t0 : 0 ≤ s.to) (t8 : s.to < 8) (hn : n ≤ 1000) : Calls Tryz.prog 46 #[.pointer (some ⟨E.q, 0, none⟩), r.v] w fun e w' => (∃ v, e = .returned v) ∧ RMat E w' (l.set s.to.toNat ((saysL T (varF (evalF s.a l E.got).1 E.vars).1).getD 0)) L T n A c S SB I ∧ Tr E w S w' S := by
  obtain ⟨d, ha, hb, e1, e2, e3, e4, hy, he, q6, q7, q1, q4, q5, hD⟩ := sac_at hs
  have hwf := var_wf (x := (evalF s.a l E.got).1) h.v1 h.v2
  have HVL := Lib.hid (fun (W : World) (hb : Below w.heap.size w W) => variable9_any (h.below hb) (ha.below hb h.hiw) (by have := hb.size; have := h.hiw; omega))
  obtain ⟨y, hyy⟩ : ∃ y, y = (varF (evalF s.a l E.got).1 E.vars).1 := ⟨_, rfl⟩
  rw [← hyy] at hwf HVL ⊢
  clear hyy
  have HGET := Lib.hid (fun (W : World) (hb : Below w.heap.size w W) => get_any E.bq SB T y hwf W (h.below hb).buf (by have := h.lev; omega) (by have := h.flat; omega))
  have hxw := rb_wf h.buf y
  obtain ⟨o, ho⟩ : ∃ o, o = saysL T y := ⟨_, rfl⟩
  rw [← ho] at HGET hxw ⊢
  unfold got at HGET
  obtain ⟨z, hz⟩ : ∃ z, z = o.getD 0 := ⟨_, rfl⟩
  rw [← hz] at HGET hxw ⊢
  obtain ⟨bb, hbb⟩ : ∃ b, b = o.isSome := ⟨_, rfl⟩
  rw [← hbb] at HGET
  clear ho hz hbb
  obtain ⟨t, ht⟩ : ∃ t : Nat, s.to = t := ⟨s.to.toNat, by omega⟩
  rw [ht] at e2 t8 ⊢
  rw [Int.toNat_natCast]
  have i8 : t < 8 := by omega
  have il : t < l.length := by rw [h.len]; omega
  obtain ⟨rk, rt, rao, ran, raA, ral, rac, rbo, rbn, rbA, rbl, rbc, ryA, ryl, ryc, reA, rel, rec_⟩ := r
  dsimp only [Raw.v] at e1 e2 e3 e4 HVL ⊢
  subst e2
  have H := Lib.hid h
  have HW := Lib.hid hxw
  clear ha hb hy he q6 q7 q1 q4 q5 hD hs e1 e3 e4 t0 ht h hwf hxw hn
  go_enter Tryz.func46, Tryz.ntmps46
  go_upto_region 1 with fail
  obtain ⟨W, hW⟩ : ∃ W, W = w.alloc (.cells #[.int .u8 rk, .int .i64 t, .int .u8 rao, .int .i64 ran, .slice raA ral rac, .int .u8 rbo, .int .i64 rbn, .slice rbA rbl rbc, .slice ryA ryl ryc, .slice reA rel rec_] 43) := ⟨_, rfl⟩
  have hb0 : Below w.heap.size w W := by rw [hW]; exact (Below.refl _ _).alloc (Nat.le_refl _) _
  have HTEN : Hid (∀ W', Below W.heap.size W W' → Ten W' ⟨w.heap.size, 0, none⟩ ⟨rk, t, rao, ran, raA, ral, rac, rbo, rbn, rbA, rbl, rbc, ryA, ryl, ryc, reA, rel, rec_⟩) := fun W' hb => by
    have := Ten.new w ⟨rk, t, rao, ran, raA, ral, rac, rbo, rbn, rbA, rbl, rbc, ryA, ryl, ryc, reA, rel, rec_⟩
    rw [← hW] at this
    exact this.below hb (by rw [hW]; simp)
  rw [← hW]
  have HB := Lib.hid hb0
  have c10 := (H.out.below hb0).c10
  clear hW hb0
  have b2 := (HTEN.out W (Below.refl _ _)).c2
  have b3 := (HTEN.out W (Below.refl _ _)).c3
  have b4 := (HTEN.out W (Below.refl _ _)).c4
  dsimp only at b2 b3 b4
  rw [Nat.zero_add] at b2 b3 b4
  have i9 : (t : Int) < 8 := by omega
  go_region_law
    (first
      | (rw [if_pos (by rfl)]; go_simp; go_at_call 25; refine (HGET.out w9 B9.out).mono ?_; rintro e w8 ⟨rfl, b8⟩; have hb8 : Below W.heap.size W w8 := HBW9.out.trans (b8.mono HBW9.out.size); have B8 := Lib.hid (HB.out.trans (hb8.mono HB.out.size)); have d1 := (HTEN.out w8 hb8).c1; (dsimp only at d1; rw [Nat.zero_add] at d1); have hm8 := H.out.below B8.out; have m1 := hm8.cl t il; have m2 := hm8.fz (2 + t); have HM8 := Lib.hid hm8; clear b8 hb8 hm8)
      | (rw [if_pos (by rfl)]; go_simp; go_at_call 24; refine (HVL.out W.drew (HB.out.drew)).mono ?_; rintro e w9 ⟨rfl, b9⟩; have hb9 : Below W.heap.size W w9 := (Below.refl W.heap.size W).drew.trans b9; have HBW9 := Lib.hid hb9; have B9 := Lib.hid (HB.out.trans (hb9.mono HB.out.size)); have d10 := (H.out.below B9.out).c10; clear b9 hb9)
      | fail)
  all_goals
    have hd8 : Below w8.heap.size w8 w8.drew := (Below.refl _ _).drew
    have HD8 := Lib.hid (HM8.out.below hd8)
    have HT8 := Lib.hid (((Tr.below (S := S) B8.out H.out.hiw).trans (Tr.below hd8 HM8.out.hiw)).trans (HD8.out.tr_put (2 + t) (.int .i64 z)))
    clear hd8
    go_wp2_with fail
    go_region_law (fail)
    all_goals
      go_end0
      exact ⟨⟨_, rfl⟩, HD8.out.putl t i8 z HW.out, HT8.out⟩
end
end Go.Proofs.YthdcdffdpdoeoaaGreatDoor
/-
  CONTRACTS OF PACKAGE interp's write, either and loop (layer 9). Conditions: as they stand.
-/
namespace Go.Proofs.YthdcdffdpdoeoaaGreatDoor
set_option maxRecDepth 100000
open Go.RowKit Go.Deep
set_option linter.unusedVariables false
theorem SAc.more {w : World} {lo hi : Nat} : ∀ (d d' : Nat) {r : Raw} {s : St}, d ≤ d' → SAc w lo hi d r s → SAc w lo hi d' r s := by
  intro d
  induction d with
  | zero => intro d' r s _ h; exact h.elim
  | succ d ih =>
    intro d' r s hd h
    obtain ⟨k, t, a, b, y, e⟩ := s
    obtain ⟨d', rfl⟩ : ∃ q, d' = q + 1 := ⟨d' - 1, by omega⟩
    obtain ⟨h1, h2, ha, hb, hy, he⟩ := h
    refine ⟨h1, h2, ha.more _ _ (by omega), hb.more _ _ (by omega), fun j hj => ?_, fun j hj => ?_⟩
    · obtain ⟨p, q, e1, m1, m2, t1, s1⟩ := hy j hj
      exact ⟨p, q, e1, m1, m2, t1, ih d' (by omega) s1⟩
    · obtain ⟨p, q, e1, m1, m2, t1, s1⟩ := he j hj
      exact ⟨p, q, e1, m1, m2, t1, ih d' (by omega) s1⟩
theorem SKc.more {w : World} {lo hi d d' : Nat} {A : Option Addr} {l : List St} (h : SKc w lo hi d A l) (hd : d ≤ d') : SKc w lo hi d' A l := fun j hj => by
  obtain ⟨p, q, e1, m1, m2, t1, s1⟩ := h j hj
  exact ⟨p, q, e1, m1, m2, t1, s1.more _ _ hd⟩
section
variable {E : Ev9} {w w' : World} {l : List Int} {L : List Fx} {f : Fx} {T : List (List Pr)} {n : Nat} {A : Option Addr} {c : Nat} {S S2 SB I : Nat → Prop}
set_option maxHeartbeats 4000000 in
theorem write_any (h : RMat E w l L T n A c S SB I) {r : Raw} {s : St} (hs : SAc w E.lo E.hi E.D r s) (hf : (flatB T).length < n) (hn : n ≤ 1000) : Calls Tryz.prog 47 #[.pointer (some ⟨E.q, 0, none⟩), r.v] w fun e w' => (∃ v, e = .returned v) ∧ ∃ S' SB', RMat E w' l L (putT (varF (evalF s.a l E.got).1 E.vars).1 (evalF s.b l E.got).1 T) n A c S' SB' I ∧ Tr E w S w' S' := by
  obtain ⟨d, ha, hb, e1, e2, e3, e4, hy, he, q6, q7, q1, q4, q5, hD⟩ := sac_at hs
  have hwf := var_wf (x := (evalF s.a l E.got).1) h.v1 h.v2
  have hwx := eval_wf h.wf h.gwf hb
  have HVR := Lib.hid (fun (W : World) (hb : Below w.heap.size w W) => variable9_any (h.below hb) (ha.below hb h.hiw) (by have := hb.size; have := h.hiw; omega))
  have HVL := Lib.hid (fun (W : World) (hb' : Below w.heap.size w W) => value9_any (h.below hb') (hb.below hb' h.hiw) (by have := hb'.size; have := h.hiw; omega))
  obtain ⟨y, hyy⟩ : ∃ y, y = (varF (evalF s.a l E.got).1 E.vars).1 := ⟨_, rfl⟩
  rw [← hyy] at hwf HVR ⊢
  clear hyy
  obtain ⟨x, hxx⟩ : ∃ x, x = (evalF s.b l E.got).1 := ⟨_, rfl⟩
  rw [← hxx] at hwx HVL ⊢
  clear hxx
  have HPUT := Lib.hid (fun (W : World) (hb : Below w.heap.size w W) => put_any E.bq SB T y x hwf hwx W (h.below hb).buf (by omega))
  have HFL : Hid ((putT y x T).length ≤ 20 ∧ (flatB (putT y x T)).length ≤ n) := ⟨by rw [putT_len]; exact h.lev, by rw [flat_put h.buf.ne]; simp; omega⟩
  obtain ⟨rk, rt, rao, ran, raA, ral, rac, rbo, rbn, rbA, rbl, rbc, ryA, ryl, ryc, reA, rel, rec_⟩ := r
  dsimp only [Raw.v] at HVR HVL ⊢
  have H := Lib.hid h
  clear ha hb hy he q6 q7 q1 q4 q5 hD hs e1 e2 e3 e4 h hwf hwx hn hf
  go_enter Tryz.func47, Tryz.ntmps47
  go_upto_region 1 with fail
  obtain ⟨W, hW⟩ : ∃ W, W = w.alloc (.cells #[.int .u8 rk, .int .i64 rt, .int .u8 rao, .int .i64 ran, .slice raA ral rac, .int .u8 rbo, .int .i64 rbn, .slice rbA rbl rbc, .slice ryA ryl ryc, .slice reA rel rec_] 43) := ⟨_, rfl⟩
  have hb0 : Below w.heap.size w W := by rw [hW]; exact (Below.refl _ _).alloc (Nat.le_refl _) _
  have HTEN : Hid (∀ W', Below W.heap.size W W' → Ten W' ⟨w.heap.size, 0, none⟩ ⟨rk, rt, rao, ran, raA, ral, rac, rbo, rbn, rbA, rbl, rbc, ryA, ryl, ryc, reA, rel, rec_⟩) := fun W' hb => by
    have := Ten.new w ⟨rk, rt, rao, ran, raA, ral, rac, rbo, rbn, rbA, rbl, rbc, ryA, ryl, ryc, reA, rel, rec_⟩
    rw [← hW] at this
    exact this.below hb (by rw [hW]; simp)
  rw [← hW]
  have HB := Lib.hid hb0
  clear hW hb0
  have HCL : Hid (∀ W', Below W.heap.size W W' → W'.cell? ⟨w.heap.size, 2, none⟩ = some (.int .u8 rao) ∧ W'.cell? ⟨w.heap.size, 3, none⟩ = some (.int .i64 ran) ∧ W'.cell? ⟨w.heap.size, 4, none⟩ = some (.slice raA ral rac) ∧ W'.cell? ⟨w.heap.size, 5, none⟩ = some (.int .u8 rbo) ∧ W'.cell? ⟨w.heap.size, 6, none⟩ = some (.int .i64 rbn) ∧ W'.cell? ⟨w.heap.size, 7, none⟩ = some (.slice rbA rbl rbc) ∧ W'.cell? ⟨E.q, 10, none⟩ = some (.pointer (some ⟨E.bq, 0, none⟩))) := fun W' hb => by
    have t := HTEN.out W' hb
    have b2 := t.c2
    have b3 := t.c3
    have b4 := t.c4
    have b5 := t.c5
    have b6 := t.c6
    have b7 := t.c7
    dsimp only at b2 b3 b4 b5 b6 b7
    rw [Nat.zero_add] at b2 b3 b4 b5 b6 b7
    exact ⟨b2, b3, b4, b5, b6, b7, (H.out.below (HB.out.trans (hb.mono HB.out.size))).c10⟩
  obtain ⟨b2, b3, b4, b5, b6, b7, c10⟩ := HCL.out W (Below.refl _ _)
  go_region_law
    (first
      | (rw [if_pos (by rfl)]; go_simp; go_at_call 67; refine (HPUT.out w8 B8.out).mono ?_; rintro e w7 ⟨rfl, S7, r7, o7, f7⟩; have HM7 := Lib.hid ((H.out.below B8.out).buffed r7 o7 f7 HFL.out.1 HFL.out.2); clear r7 o7 f7)
      | (rw [if_pos (by rfl)]; go_simp; go_at_call 27; refine (HVL.out w9 B9.out).mono ?_; rintro e w8 ⟨rfl, b8⟩; have hb8 : Below W.heap.size W w8 := HBW9.out.trans (b8.mono HBW9.out.size); have B8 := Lib.hid (HB.out.trans (hb8.mono HB.out.size)); obtain ⟨f2, f3, f4, f5, f6, f7, f10⟩ := HCL.out w8 hb8; clear b8 hb8)
      | (rw [if_pos (by rfl)]; go_simp; go_at_call 24; refine (HVR.out W.drew (HB.out.drew)).mono ?_; rintro e w9 ⟨rfl, b9⟩; have hb9 : Below W.heap.size W w9 := (Below.refl W.heap.size W).drew.trans b9; have HBW9 := Lib.hid hb9; have B9 := Lib.hid (HB.out.trans (hb9.mono HB.out.size)); obtain ⟨d2, d3, d4, d5, d6, d7, d10⟩ := HCL.out w9 hb9; clear b9 hb9)
      | fail)
  all_goals
    go_wp2_with fail
    go_end0
    exact ⟨⟨_, rfl⟩, _, _, HM7.out.1, (Tr.below B8.out H.out.hiw).trans HM7.out.2⟩
/-- What is entered of a statement is good. -/
def Into9 (L : List Fx) (s : St) : Prop := ∃ d, Deep9 (d + 1) (plF L) ∧ (∀ x ∈ s.body, Good9 d x) ∧ (∀ x ∈ s.els, Good9 d x)
set_option maxHeartbeats 4000000 in
theorem either_any (h : RMat E w l L T n A c S SB I) {r : Raw} {s : St} (hs : SAc w E.lo E.hi E.D r s) (hin : Into9 L s) : Calls Tryz.prog 48 #[.pointer (some ⟨E.q, 0, none⟩), r.v] w fun e w' => (∃ v, e = .returned v) ∧ ∃ f : Fx, f.pl = ⟨if (evalF s.a l E.got).1 = 0 then s.els else s.body, [], 0, none⟩ ∧ ∃ (A' : Option Addr) (c' : Nat) (S' : Nat → Prop), RMat E w' l (L ++ [f]) T n A' c' S' SB I ∧ Tr E w S w' S' := by
  obtain ⟨d, ha, hb, e1, e2, e3, e4, hy, he, q6, q7, q1, q4, q5, hD⟩ := sac_at hs
  have HVL := Lib.hid (fun (W : World) (hb' : Below w.heap.size w W) => value9_any (h.below hb') (ha.below hb' h.hiw) (by have := hb'.size; have := h.hiw; omega))
  obtain ⟨x, hxx⟩ : ∃ x, x = (evalF s.a l E.got).1 := ⟨_, rfl⟩
  rw [← hxx] at HVL ⊢
  clear hxx
  obtain ⟨rk, rt, rao, ran, raA, ral, rac, rbo, rbn, rbA, rbl, rbc, ryA, ryl, ryc, reA, rel, rec_⟩ := r
  dsimp only [Raw.v] at HVL hy he q6 q7 e3 e4 ⊢
  subst e3 e4
  have hym := hy.more (show d ≤ E.D by omega)
  have hem := he.more (show d ≤ E.D by omega)
  have HEN : Hid (∀ W, Below w.heap.size w W → (∀ f : Fx, (f = ⟨s.body, ryA, ryc, [], none, 0, 0, none⟩ ∨ f = ⟨s.els, reA, rec_, [], none, 0, 0, none⟩) → Calls Tryz.prog 37 #[.pointer (some ⟨E.q, 0, none⟩), .agg #[.slice f.RA f.rest.length f.rc, .slice f.BA f.body.length f.bc, .int .i64 f.turns, .pointer f.kp]] W fun e w' => (∃ v, e = .returned v) ∧ ∃ A' c' S', RMat E w' l (L ++ [f]) T n A' c' S' SB I ∧ Tr E w S w' S')) := fun W hbW f hf => by
    have hW := h.below hbW
    have hyW := (Tr.below (S := S) hbW h.hiw).skc hym
    have heW := (Tr.below (S := S) hbW h.hiw).skc hem
    obtain ⟨dd, hd1, hd2, hd3⟩ := hin
    have hx : FxAt W E.lo E.hi E.D I f ∧ FGood dd f.pl := by
      rcases hf with rfl | rfl
      · exact ⟨⟨hyW, q6, SKc.nil _ _ _ _ _, Nat.le_refl _, Nat.zero_le _, q4, Nat.zero_le _, fun k e => by cases e⟩, hd2, by simp [Fx.pl], by simp [Fx.pl]⟩
      · exact ⟨⟨heW, q7, SKc.nil _ _ _ _ _, Nat.le_refl _, Nat.zero_le _, q5, Nat.zero_le _, fun k e => by cases e⟩, hd3, by simp [Fx.pl], by simp [Fx.pl]⟩
    refine (enter_any hW f hx.1 ⟨dd, by rw [plF_snoc]; exact ⟨hx.2, hd1⟩⟩).mono ?_
    rintro e w' ⟨hv, A', c', S', h', t'⟩
    exact ⟨hv, A', c', S', h', (Tr.below hbW h.hiw).trans t'⟩
  have HE1 : Hid (∀ W, Below w.heap.size w W → Calls Tryz.prog 37 #[.pointer (some ⟨E.q, 0, none⟩), .agg #[.slice ryA s.body.length ryc, .slice none 0 0, .int .i64 0, .pointer none]] W fun e w' => (∃ v, e = .returned v) ∧ ∃ A' c' S', RMat E w' l (L ++ [⟨s.body, ryA, ryc, [], none, 0, 0, none⟩]) T n A' c' S' SB I ∧ Tr E w S w' S') := fun W hb => HEN.out W hb ⟨s.body, ryA, ryc, [], none, 0, 0, none⟩ (.inl rfl)
  have HE2 : Hid (∀ W, Below w.heap.size w W → Calls Tryz.prog 37 #[.pointer (some ⟨E.q, 0, none⟩), .agg #[.slice reA s.els.length rec_, .slice none 0 0, .int .i64 0, .pointer none]] W fun e w' => (∃ v, e = .returned v) ∧ ∃ A' c' S', RMat E w' l (L ++ [⟨s.els, reA, rec_, [], none, 0, 0, none⟩]) T n A' c' S' SB I ∧ Tr E w S w' S') := fun W hb => HEN.out W hb ⟨s.els, reA, rec_, [], none, 0, 0, none⟩ (.inr rfl)
  have H := Lib.hid h
  clear HEN ha hb hy he hym hem q6 q7 q1 q4 q5 hD hs e1 e2 h hin
  go_enter Tryz.func48, Tryz.ntmps48
  go_upto_region 1 with fail
  obtain ⟨W, hW⟩ : ∃ W, W = w.alloc (.cells #[.int .u8 rk, .int .i64 rt, .int .u8 rao, .int .i64 ran, .slice raA ral rac, .int .u8 rbo, .int .i64 rbn, .slice rbA rbl rbc, .slice ryA s.body.length ryc, .slice reA s.els.length rec_] 43) := ⟨_, rfl⟩
  have hb0 : Below w.heap.size w W := by rw [hW]; exact (Below.refl _ _).alloc (Nat.le_refl _) _
  have HTEN : Hid (∀ W', Below W.heap.size W W' → Ten W' ⟨w.heap.size, 0, none⟩ ⟨rk, rt, rao, ran, raA, ral, rac, rbo, rbn, rbA, rbl, rbc, ryA, s.body.length, ryc, reA, s.els.length, rec_⟩) := fun W' hb => by
    have := Ten.new w ⟨rk, rt, rao, ran, raA, ral, rac, rbo, rbn, rbA, rbl, rbc, ryA, s.body.length, ryc, reA, s.els.length, rec_⟩
    rw [← hW] at this
    exact this.below hb (by rw [hW]; simp)
  rw [← hW]
  have HB := Lib.hid hb0
  clear hW hb0
  have HCL : Hid (∀ W', Below W.heap.size W W' → W'.cell? ⟨w.heap.size, 2, none⟩ = some (.int .u8 rao) ∧ W'.cell? ⟨w.heap.size, 3, none⟩ = some (.int .i64 ran) ∧ W'.cell? ⟨w.heap.size, 4, none⟩ = some (.slice raA ral rac) ∧ W'.cell? ⟨w.heap.size, 8, none⟩ = some (.slice ryA s.body.length ryc) ∧ W'.cell? ⟨w.heap.size, 9, none⟩ = some (.slice reA s.els.length rec_)) := fun W' hb => by
    have t := HTEN.out W' hb
    have b2 := t.c2
    have b3 := t.c3
    have b4 := t.c4
    have b8 := t.c8
    have b9 := t.c9
    dsimp only at b2 b3 b4 b8 b9
    rw [Nat.zero_add] at b2 b3 b4 b8 b9
    exact ⟨b2, b3, b4, b8, b9⟩
  obtain ⟨b2, b3, b4, b8, b9⟩ := HCL.out W (Below.refl _ _)
  go_wp2_with fail
  refine (HVL.out W HB.out).mono ?_
  rintro e w9 ⟨rfl, hb9⟩
  have B9 := Lib.hid (HB.out.trans (hb9.mono HB.out.size))
  obtain ⟨d2, d3, d4, d8, d9⟩ := HCL.out w9 hb9
  clear hb9 b2 b3 b4 b8 b9
  by_cases hx : x = 0
  · subst hx
    go_wp2_with fail
    refine (HE2.out w9 B9.out).mono ?_
    rintro e w8 ⟨⟨v, rfl⟩, A8, c8, S8, h8, t8⟩
    have H8 := Lib.hid h8
    have T8 := Lib.hid t8
    clear h8 t8
    go_wp2_with fail
    go_end0
    exact ⟨⟨_, rfl⟩, _, rfl, A8, c8, S8, H8.out, T8.out⟩
  · have hx2 : (x == 0) = false := by simpa using hx
    go_wp2_with fail
    refine (HE1.out w9 B9.out).mono ?_
    rintro e w8 ⟨⟨v, rfl⟩, A8, c8, S8, h8, t8⟩
    have H8 := Lib.hid h8
    have T8 := Lib.hid t8
    have HX := Lib.hid hx
    clear h8 t8 hx hx2
    go_wp2_with fail
    go_end0
    exact ⟨⟨_, rfl⟩, ⟨s.body, ryA, ryc, [], none, 0, 0, none⟩, by first | rfl | (rw [if_neg HX.out]; rfl), A8, c8, S8, H8.out, T8.out⟩
end
end Go.Proofs.YthdcdffdpdoeoaaGreatDoor
/-
  CONTRACT OF PACKAGE interp's loop (layer 9). Conditions: as they stand.
-/
namespace Go.Proofs.YthdcdffdpdoeoaaGreatDoor
set_option maxRecDepth 100000
open Go.RowKit Go.Deep
set_option linter.unusedVariables false
section
variable {E : Ev9} {w w' : World} {l : List Int} {L : List Fx} {f : Fx} {T : List (List Pr)} {n : Nat} {A : Option Addr} {c : Nat} {S S2 SB I : Nat → Prop}
set_option maxHeartbeats 4000000 in
theorem loop_any (h : RMat E w l L T n A c S SB I) {r : Raw} {s : St} (hs : SAc w E.lo E.hi E.D r s) (hin : Into9 L s) : Calls Tryz.prog 49 #[.pointer (some ⟨E.q, 0, none⟩), r.v] w fun e w' => (∃ v, e = .returned v) ∧ ∃ f : Fx, f.pl = ⟨[], s.body, (min (evalF s.a l E.got).1 8).toNat, none⟩ ∧ ∃ (A' : Option Addr) (c' : Nat) (S' : Nat → Prop), RMat E w' l (L ++ [f]) T n A' c' S' SB I ∧ Tr E w S w' S' := by
  obtain ⟨d, ha, hb, e1, e2, e3, e4, hy, he, q6, q7, q1, q4, q5, hD⟩ := sac_at hs
  have HVL := Lib.hid (fun (W : World) (hb' : Below w.heap.size w W) => value9_any (h.below hb') (ha.below hb' h.hiw) (by have := hb'.size; have := h.hiw; omega))
  obtain ⟨x, hxx⟩ : ∃ x, x = (evalF s.a l E.got).1 := ⟨_, rfl⟩
  rw [← hxx] at HVL ⊢
  clear hxx
  obtain ⟨rk, rt, rao, ran, raA, ral, rac, rbo, rbn, rbA, rbl, rbc, ryA, ryl, ryc, reA, rel, rec_⟩ := r
  dsimp only [Raw.v] at HVL hy he q6 q7 e3 e4 ⊢
  subst e3 e4
  have hym := hy.more (show d ≤ E.D by omega)
  have hem := he.more (show d ≤ E.D by omega)
  have HEN : Hid (∀ W, Below w.heap.size w W → ∀ k : Nat, k ≤ 8 → Calls Tryz.prog 37 #[.pointer (some ⟨E.q, 0, none⟩), .agg #[.slice none 0 0, .slice ryA s.body.length ryc, .int .i64 k, .pointer none]] W fun e w' => (∃ v, e = .returned v) ∧ ∃ A' c' S', RMat E w' l (L ++ [⟨[], none, 0, s.body, ryA, ryc, k, none⟩]) T n A' c' S' SB I ∧ Tr E w S w' S') := fun W hbW k hk => by
    have hW := h.below hbW
    have hyW := (Tr.below (S := S) hbW h.hiw).skc hym
    obtain ⟨dd, hd1, hd2, hd3⟩ := hin
    refine (enter_any hW ⟨[], none, 0, s.body, ryA, ryc, k, none⟩ ⟨SKc.nil _ _ _ _ _, Nat.le_refl _, hyW, q6, hk, Nat.zero_le _, q4, fun k e => by cases e⟩ ⟨dd, by rw [plF_snoc]; exact ⟨⟨by simp [Fx.pl], hd2, by simp [Fx.pl]⟩, hd1⟩⟩).mono ?_
    rintro e w' ⟨hv, A', c', S', h', t'⟩
    exact ⟨hv, A', c', S', h', (Tr.below hbW h.hiw).trans t'⟩
  have H := Lib.hid h
  clear ha hb hy he hym hem q6 q7 q1 q4 q5 hD hs e1 e2 h hin
  go_enter Tryz.func49, Tryz.ntmps49
  go_upto_region 1 with fail
  obtain ⟨W, hW⟩ : ∃ W, W = w.alloc (.cells #[.int .u8 rk, .int .i64 rt, .int .u8 rao, .int .i64 ran, .slice raA ral rac, .int .u8 rbo, .int .i64 rbn, .slice rbA rbl rbc, .slice ryA s.body.length ryc, .slice reA s.els.length rec_] 43) := ⟨_, rfl⟩
  have hb0 : Below w.heap.size w W := by rw [hW]; exact (Below.refl _ _).alloc (Nat.le_refl _) _
  have HTEN : Hid (∀ W', Below W.heap.size W W' → Ten W' ⟨w.heap.size, 0, none⟩ ⟨rk, rt, rao, ran, raA, ral, rac, rbo, rbn, rbA, rbl, rbc, ryA, s.body.length, ryc, reA, s.els.length, rec_⟩) := fun W' hb => by
    have := Ten.new w ⟨rk, rt, rao, ran, raA, ral, rac, rbo, rbn, rbA, rbl, rbc, ryA, s.body.length, ryc, reA, s.els.length, rec_⟩
    rw [← hW] at this
    exact this.below hb (by rw [hW]; simp)
  rw [← hW]
  have HB := Lib.hid hb0
  clear hW hb0
  have HCL : Hid (∀ W', Below W.heap.size W W' → W'.cell? ⟨w.heap.size, 2, none⟩ = some (.int .u8 rao) ∧ W'.cell? ⟨w.heap.size, 3, none⟩ = some (.int .i64 ran) ∧ W'.cell? ⟨w.heap.size, 4, none⟩ = some (.slice raA ral rac) ∧ W'.cell? ⟨w.heap.size, 8, none⟩ = some (.slice ryA s.body.length ryc) ∧ W'.cell? ⟨w.heap.size, 9, none⟩ = some (.slice reA s.els.length rec_)) := fun W' hb => by
    have t := HTEN.out W' hb
    have b2 := t.c2
    have b3 := t.c3
    have b4 := t.c4
    have b8 := t.c8
    have b9 := t.c9
    dsimp only at b2 b3 b4 b8 b9
    rw [Nat.zero_add] at b2 b3 b4 b8 b9
    exact ⟨b2, b3, b4, b8, b9⟩
  obtain ⟨b2, b3, b4, b8, b9⟩ := HCL.out W (Below.refl _ _)
  go_wp2_with fail
  refine (HVL.out W HB.out).mono ?_
  rintro e w9 ⟨rfl, hb9⟩
  have B9 := Lib.hid (HB.out.trans (hb9.mono HB.out.size))
  obtain ⟨d2, d3, d4, d8, d9⟩ := HCL.out w9 hb9
  clear hb9 b2 b3 b4 b8 b9
  obtain ⟨k, hkx⟩ : ∃ k : Nat, k = (min x 8).toNat := ⟨_, rfl⟩
  have hk : min (max x 0) 8 = (k : Int) := by omega
  have hk8 : k ≤ 8 := by omega
  have HKX := Lib.hid hkx
  clear hkx
  have HK := Lib.hid hk
  clear hk
  go_wp2_with fail
  rw [HK.out]
  refine (HEN.out w9 B9.out k hk8).mono ?_
  rintro e w8 ⟨⟨v, rfl⟩, A8, c8, S8, h8, t8⟩
  have H8 := Lib.hid h8
  have T8 := Lib.hid t8
  clear h8 t8
  go_wp2_with fail
  go_end0
  exact ⟨⟨_, rfl⟩, ⟨[], none, 0, s.body, ryA, ryc, k, none⟩, by show (⟨[], s.body, k, none⟩ : Fr9) = _; rw [HKX.out], A8, c8, S8, H8.out, T8.out⟩
end
end Go.Proofs.YthdcdffdpdoeoaaGreatDoor
/-
  CONTRACT OF PACKAGE interp's orElse (layer 9). Conditions: as they stand.
-/
namespace Go.Proofs.YthdcdffdpdoeoaaGreatDoor
set_option maxRecDepth 100000
open Go.RowKit Go.Deep
set_option linter.unusedVariables false
section
variable {E : Ev9} {w w' : World} {l : List Int} {L : List Fx} {f : Fx} {T : List (List Pr)} {n : Nat} {A : Option Addr} {c : Nat} {S S2 SB I : Nat → Prop}
/-- A machine that has a block more that is never changed. -/
theorem RMat.keepsake (h : RMat E w l L T n A c S SB I) (b : Nat) (hb : w.heap.size ≤ b) (hl : Below w.heap.size w w') (hlt : b < w'.heap.size) : RMat E w' l L T n A c (fun x => S x ∨ x = b) SB (fun x => I x ∨ x = b) := by
  have h' := h.below hl
  have hn : ∀ x, S x → x ≠ b := fun x hx e => by have := h.lt x hx; omega
  exact {
    obj := h'.obj
    row := h'.row
    rowS := fun p e => ⟨.inl (h'.rowS p e).1, (h'.rowS p e).2.1, fun hi => by
      rcases hi with hi | hi
      · exact (h'.rowS p e).2.2 hi
      · exact hn _ (h'.rowS p e).1 hi⟩
    buf := h'.buf
    bufS := fun x hx => ⟨.inl (h'.bufS x hx).1, fun hi => by
      rcases hi with hi | hi
      · exact (h'.bufS x hx).2.1 hi
      · exact hn _ (h'.bufS x hx).1 hi, (h'.bufS x hx).2.2⟩
    qS := .inl h'.qS
    qI := fun hi => by
      rcases hi with hi | hi
      · exact h'.qI hi
      · exact hn _ h'.qS hi
    IS := fun x hx => hx.imp (h'.IS x) id
    win := fun x b1 b2 => .inl (h'.win x b1 b2)
    hiw := h'.hiw
    got := fun k hk => by
      obtain ⟨a, e, i, c⟩ := h'.got k hk
      exact ⟨a, e, .inl i, c⟩
    gl := h'.gl
    gwf := h'.gwf
    len := h'.len
    wf := h'.wf
    fr := fun f hf => (h'.fr f hf).more fun x hx => .inl hx
    deep := h'.deep
    lev := h'.lev
    flat := h'.flat
    v1 := h'.v1
    v2 := h'.v2
    lt := fun x hx => by
      rcases hx with hx | rfl
      · exact h'.lt x hx
      · exact hlt }
theorem Tr.keepsake {b : Nat} (hbl : Below w.heap.size w w') (hh : E.hi ≤ w.heap.size) (hb : w.heap.size ≤ b) : Tr E w S w' (fun x => S x ∨ x = b) :=
  ⟨fun x hx => hx.imp id fun e => by omega, Fro.of_below hbl (Nat.le_refl _), fun x b1 b2 => hbl.block x (by omega)⟩
theorem RMat.cl8 (h : RMat E w l L T n A c S SB I) {l0 l1 l2 l3 l4 l5 l6 l7 : Int} (hl : l = [l0, l1, l2, l3, l4, l5, l6, l7]) : w.cell? ⟨E.q, 2, none⟩ = some (.int .i64 l0) ∧ w.cell? ⟨E.q, 3, none⟩ = some (.int .i64 l1) ∧ w.cell? ⟨E.q, 4, none⟩ = some (.int .i64 l2) ∧ w.cell? ⟨E.q, 5, none⟩ = some (.int .i64 l3) ∧ w.cell? ⟨E.q, 6, none⟩ = some (.int .i64 l4) ∧ w.cell? ⟨E.q, 7, none⟩ = some (.int .i64 l5) ∧ w.cell? ⟨E.q, 8, none⟩ = some (.int .i64 l6) ∧ w.cell? ⟨E.q, 9, none⟩ = some (.int .i64 l7) := by
  subst hl
  exact ⟨h.cell 2, h.cell 3, h.cell 4, h.cell 5, h.cell 6, h.cell 7, h.cell 8, h.cell 9⟩
set_option maxHeartbeats 4000000 in
theorem orElse_any (h : RMat E w l L T n A c S SB I) {r : Raw} {s : St} (hs : SAc w E.lo E.hi E.D r s) (hin : Into9 L s) (hT : T.length ≤ 10) : Calls Tryz.prog 51 #[.pointer (some ⟨E.q, 0, none⟩), r.v] w fun e w' => (∃ v, e = .returned v) ∧ ∃ f : Fx, f.pl = ⟨s.body, [], 0, some (l, s.els)⟩ ∧ ∃ (A' : Option Addr) (c' : Nat) (S' SB' I' : Nat → Prop), RMat E w' l (L ++ [f]) ([] :: T) n A' c' S' SB' I' ∧ Tr E w S w' S' := by
  obtain ⟨d, ha, hb, e1, e2, e3, e4, hy, he, q6, q7, q1, q4, q5, hD⟩ := sac_at hs
  obtain ⟨rk, rt, rao, ran, raA, ral, rac, rbo, rbn, rbA, rbl, rbc, ryA, ryl, ryc, reA, rel, rec_⟩ := r
  dsimp only [Raw.v] at hy he q6 q7 e3 e4 ⊢
  subst e3 e4
  have hym := hy.more (show d ≤ E.D by omega)
  have hem := he.more (show d ≤ E.D by omega)
  have H := Lib.hid h
  have HP := Lib.hid (fun (W : World) (hb : Below w.heap.size w W) => push_any E.bq SB T W (h.below hb).buf (by omega))
  have HSS := Lib.hid (And.intro hym (And.intro hem (And.intro q6 (And.intro q7 (And.intro q4 (And.intro q5 (And.intro hin hT)))))))
  have hlen := h.len
  obtain ⟨l0, l1, l2, l3, l4, l5, l6, l7, hl8⟩ := mc_eight hlen
  clear ha hb hy he hym hem q6 q7 q1 q4 q5 hD hs e1 e2 hin hT
  have hb00 : Below w.heap.size w (w.alloc (.cells #[.int .u8 rk, .int .i64 rt, .int .u8 rao, .int .i64 ran, .slice raA ral rac, .int .u8 rbo, .int .i64 rbn, .slice rbA rbl rbc, .slice ryA s.body.length ryc, .slice reA s.els.length rec_] 43)) := (Below.refl _ _).alloc (Nat.le_refl _) _
  have c10 := (h.below hb00).c10
  clear h
  go_enter Tryz.func51, Tryz.ntmps51
  go_upto_region 1 with fail
  obtain ⟨W, hW⟩ : ∃ W, W = w.alloc (.cells #[.int .u8 rk, .int .i64 rt, .int .u8 rao, .int .i64 ran, .slice raA ral rac, .int .u8 rbo, .int .i64 rbn, .slice rbA rbl rbc, .slice ryA s.body.length ryc, .slice reA s.els.length rec_] 43) := ⟨_, rfl⟩
  rw [← hW] at hb00 c10
  have HTEN : Hid (∀ W', Below W.heap.size W W' → Ten W' ⟨w.heap.size, 0, none⟩ ⟨rk, rt, rao, ran, raA, ral, rac, rbo, rbn, rbA, rbl, rbc, ryA, s.body.length, ryc, reA, s.els.length, rec_⟩) := fun W' hb => by
    have := Ten.new w ⟨rk, rt, rao, ran, raA, ral, rac, rbo, rbn, rbA, rbl, rbc, ryA, s.body.length, ryc, reA, s.els.length, rec_⟩
    rw [← hW] at this
    exact this.below hb (by rw [hW]; simp)
  have HZ : Hid (W.heap.size = w.heap.size + 1) := by show _ = _; rw [hW]; simp
  rw [← hW]
  have HB := Lib.hid hb00
  clear hW hb00
  go_wp2_with fail
  refine (HP.out W HB.out).mono ?_
  rintro e w1 ⟨rfl, S1, rb1, o1, f1⟩
  obtain ⟨h1, t1⟩ := (H.out.below HB.out).buffed rb1 o1 f1 (by simp; have := HSS.out.2.2.2.2.2.2.2; omega) (by rw [flat_push]; exact H.out.flat)
  have T1 := Lib.hid ((Tr.below (S := S) HB.out H.out.hiw).trans t1)
  have hbox : w1.heap[w.heap.size]? = W.heap[w.heap.size]? := f1.block w.heap.size (by rw [HZ.out]; omega) (fun hb => by have := H.out.lt _ (H.out.bufS _ hb).1; omega)
  have ten1 := (HTEN.out W (Below.refl _ _)).keep (w' := w1) (fun q hq => World.cell?_of_block (by rw [hq]; exact hbox))
  have b8 := ten1.c8
  have b9 := ten1.c9
  dsimp only at b8 b9
  rw [Nat.zero_add] at b8 b9
  have hz1 : W.heap.size ≤ w1.heap.size := f1.size
  have hql : E.q < w1.heap.size := h1.lt _ h1.qS
  have hwl : w.heap.size < w1.heap.size := by have := HZ.out; omega
  obtain ⟨m0, m1, m2, m3, m4, m5, m6, m7⟩ := h1.cl8 hl8
  have HEN : Hid (∀ k : Nat, Calls Tryz.prog 37 #[.pointer (some ⟨E.q, 0, none⟩), .agg #[.slice ryA s.body.length ryc, .slice none 0 0, .int .i64 0, .pointer (some ⟨w1.heap.size, 0, none⟩)]] ((w1.alloc (.cells #[.int .i64 l0, .int .i64 l1, .int .i64 l2, .int .i64 l3, .int .i64 l4, .int .i64 l5, .int .i64 l6, .int .i64 l7, .slice reA s.els.length rec_] 117)).drewN k) fun e w' => (∃ v, e = .returned v) ∧ ∃ A' c' S', RMat E w' l (L ++ [⟨s.body, ryA, ryc, [], none, 0, 0, some ⟨w1.heap.size, l, s.els, reA, rec_⟩⟩]) ([] :: T) n A' c' S' S1 (fun x => I x ∨ x = w1.heap.size) ∧ Tr E w S w' S') := fun k => by
    obtain ⟨hym, hem, q6, q7, q4, q5, ⟨dd, hd1, hd2, hd3⟩, hT⟩ := HSS.out
    have hbl : Below w1.heap.size w1 ((w1.alloc (.cells #[.int .i64 l0, .int .i64 l1, .int .i64 l2, .int .i64 l3, .int .i64 l4, .int .i64 l5, .int .i64 l6, .int .i64 l7, .slice reA s.els.length rec_] 117)).drewN k) := ((Below.refl _ _).alloc (Nat.le_refl _) _).trans (drewN_below8 _ _ |>.mono (by simp))
    have hsz : ((w1.alloc (.cells #[.int .i64 l0, .int .i64 l1, .int .i64 l2, .int .i64 l3, .int .i64 l4, .int .i64 l5, .int .i64 l6, .int .i64 l7, .slice reA s.els.length rec_] 117)).drewN k).heap.size = w1.heap.size + 1 := by show (w1.alloc _).heap.size = _; simp
    have h2 := h1.keepsake w1.heap.size (Nat.le_refl _) hbl (by rw [hsz]; omega)
    have hk : ((w1.alloc (.cells #[.int .i64 l0, .int .i64 l1, .int .i64 l2, .int .i64 l3, .int .i64 l4, .int .i64 l5, .int .i64 l6, .int .i64 l7, .slice reA s.els.length rec_] 117)).drewN k).heap[w1.heap.size]? = some (.cells #[.int .i64 l0, .int .i64 l1, .int .i64 l2, .int .i64 l3, .int .i64 l4, .int .i64 l5, .int .i64 l6, .int .i64 l7, .slice reA s.els.length rec_] 117 (0, 0)) := World.alloc_heap_new w1 _
    have tt := T1.out.trans (Tr.below (E := E) hbl (h1.hiw))
    have hfx : FxAt ((w1.alloc (.cells #[.int .i64 l0, .int .i64 l1, .int .i64 l2, .int .i64 l3, .int .i64 l4, .int .i64 l5, .int .i64 l6, .int .i64 l7, .slice reA s.els.length rec_] 117)).drewN k) E.lo E.hi E.D (fun x => I x ∨ x = w1.heap.size) ⟨s.body, ryA, ryc, [], none, 0, 0, some ⟨w1.heap.size, l, s.els, reA, rec_⟩⟩ := by
      refine ⟨tt.skc hym, q6, SKc.nil _ _ _ _ _, Nat.le_refl _, Nat.zero_le _, q4, Nat.zero_le _, fun k e => ?_⟩
      injection e with e
      subst e
      exact ⟨.inr rfl, by rw [hk, hl8]; rfl, tt.skc hem, q7, hlen, H.out.wf, q5⟩
    refine (enter_any h2 ⟨s.body, ryA, ryc, [], none, 0, 0, some ⟨w1.heap.size, l, s.els, reA, rec_⟩⟩ hfx ⟨dd, by rw [plF_snoc]; exact ⟨⟨hd2, by simp [Fx.pl], fun x hx => by
      injection hx with hx
      subst hx
      exact hd3⟩, hd1⟩⟩).mono ?_
    rintro e w' ⟨hv, A', c', S', h', t'⟩
    refine ⟨hv, A', c', S', h', ?_⟩
    exact (T1.out.trans (Tr.keepsake (E := E) hbl h1.hiw (Nat.le_refl _))).trans t'
  have g8 := fun o : Obj => (((Below.refl _ w1).alloc (Nat.le_refl _) o).cell (p := ⟨w.heap.size, 8, none⟩) hwl).trans b8
  have g9 := fun o : Obj => (((Below.refl _ w1).alloc (Nat.le_refl _) o).cell (p := ⟨w.heap.size, 9, none⟩) hwl).trans b9
  clear h1 t1 rb1 o1 f1 hbox ten1 hz1 hql hwl hlen hl8
  go_wp2_with fail
  go_region_law
    (first
      | (rw [if_pos (by rfl)]; go_simp; go_at_call 37; refine (HEN.out 1).mono ?_; rintro e w8 ⟨⟨v, rfl⟩, A8, c8, S8, h8, t8⟩; have H8 := Lib.hid h8; have T8 := Lib.hid t8; clear h8 t8)
      | fail)
  all_goals
    go_wp2_with fail
    go_end0
    exact ⟨⟨_, rfl⟩, _, rfl, A8, c8, S8, S1, _, H8.out, T8.out⟩
end
end Go.Proofs.YthdcdffdpdoeoaaGreatDoor
