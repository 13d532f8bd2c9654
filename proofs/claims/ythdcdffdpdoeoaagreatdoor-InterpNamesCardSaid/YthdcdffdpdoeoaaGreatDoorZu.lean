/-
  SEVERAL TEXTS IN ONE (a claim has sixty files at most): Ju, Jv: the head of each stands ahead of it. No condition but theirs.
-/
import Derived.Test.YthdcdffdpdoeoaaGreatDoorZh
import Derived.Test.YthdcdffdpdoeoaaGreatDoorZn
import Derived.Test.YthdcdffdpdoeoaaGreatDoorZr
/-
  CONTRACTS OF PACKAGE interp's does, and of a statement's step (layer 9): each Kind's. Conditions: as they stand.
-/
namespace Go.Proofs.YthdcdffdpdoeoaaGreatDoor
set_option maxRecDepth 100000
open Go.RowKit Go.Deep
set_option linter.unusedVariables false
/-- Which function does a Kind. -/
def doFn (k : Nat) : Value :=
  if k = 1 then .func (.func 45) #[] #[] else if k = 2 then .func (.func 46) #[] #[] else if k = 3 then .func (.func 47) #[] #[] else if k = 4 then .func (.func 48) #[] #[] else if k = 5 then .func (.func 49) #[] #[] else if k = 6 then .func (.func 50) #[] #[] else if k = 7 then .func (.func 51) #[] #[] else .nilFunc
theorem doFn_at (k : Nat) (h : k < 8) : ([.nilFunc, .func (.func 45) #[] #[], .func (.func 46) #[] #[], .func (.func 47) #[] #[], .func (.func 48) #[] #[], .func (.func 49) #[] #[], .func (.func 50) #[] #[], .func (.func 51) #[] #[]] : List Value)[k]? = some (doFn k) := by
  obtain h | h | h | h | h | h | h | h : k = 0 ∨ k = 1 ∨ k = 2 ∨ k = 3 ∨ k = 4 ∨ k = 5 ∨ k = 6 ∨ k = 7 := by omega
  all_goals subst h; rfl
set_option maxHeartbeats 2000000 in
theorem does_any (k : Nat) (w : World) (h : k < 8) :
    Calls Tryz.prog 29 #[.int .u8 k] w fun r w' => r = .returned (doFn k) ∧ Below w.heap.size w w' := by
  have s1 := st_nilFunc
  have s2 := st_func
  have hl := doFn_at k h
  have hb : (k : Int) < 8 := by omega
  obtain ⟨v, hv⟩ : ∃ v, v = doFn k := ⟨_, rfl⟩
  rw [← hv] at hl ⊢
  have HL := Lib.hid hl
  clear hv
  go_enter Tryz.func29, Tryz.ntmps29
  go_wp2_with fail
  go_ret
  exact ⟨ret_v (List.getElem?_eq_some_iff.1 HL.out).2, by go_grown⟩
end Go.Proofs.YthdcdffdpdoeoaaGreatDoor
/-
  CONTRACT OF PACKAGE interp's Next (layer 9): what a machine asks for. Conditions: as they stand.
-/
namespace Go.Proofs.YthdcdffdpdoeoaaGreatDoor
set_option maxRecDepth 100000
open Go.RowKit Go.Deep
set_option linter.unusedVariables false
section
variable {E : Ev9} {w w' : World} {l : List Int} {L : List Fx} {f : Fx} {T : List (List Pr)} {n : Nat} {A : Option Addr} {c : Nat} {S S2 SB I : Nat → Prop}
/-- What is asked for at a statement. -/
def askS (E : Ev9) (l : List Int) (L : List Fx) (T : List (List Pr)) (s : St) : Nat × Int × Int :=
  if s.kind = 8 then (3, 0, (evalF s.a l E.got).1)
  else if s.kind = 6 then (if inner9 L < 0 then (4, 0, 0) else (1, 0, 0))
  else if s.kind = 2 then (match saysL T (varF (evalF s.a l E.got).1 E.vars).1 with | none => (2, (varF (evalF s.a l E.got).1 E.vars).1, 0) | some _ => (1, 0, 0))
  else (1, 0, 0)
def askV (a : Nat × Int × Int) : Value := .agg #[.int .u8 a.1, .int .i64 a.2.1, .int .i64 a.2.2]
/-- The result's box, and what is stored there. -/
theorem ask_box {W : World} {b : Nat} {z0 z1 z2 : Value} (h : W.heap[b]? = some (.cells #[z0, z1, z2] 25 (0, 0))) : W.cell? ⟨b, 0, none⟩ = some z0 ∧ W.cell? ⟨b, 1, none⟩ = some z1 ∧ W.cell? ⟨b, 2, none⟩ = some z2 ∧ (∀ i, W.frozen? ⟨b, i, none⟩ = false) := by
  refine ⟨by simp [World.cell?, h], by simp [World.cell?, h], by simp [World.cell?, h], fun i => by simp [World.frozen?, h]⟩
theorem ask_set {W : World} {b : Nat} {z0 z1 z2 : Value} (h : W.heap[b]? = some (.cells #[z0, z1, z2] 25 (0, 0))) (v0 v1 v2 : Value) : (((W.setCell ⟨b, 0, none⟩ v0).setCell ⟨b, 1, none⟩ v1).setCell ⟨b, 2, none⟩ v2).heap[b]? = some (.cells #[v0, v1, v2] 25 (0, 0)) := by
  have h0 := heap_set_same W b 0 v0 _ _ h
  have h1 := heap_set_same _ b 1 v1 _ _ h0
  have h2 := heap_set_same _ b 2 v2 _ _ h1
  simpa using h2
theorem ask_low {w W : World} {b : Nat} (h : Below b w W) (v0 v1 v2 : Value) : Below b w (((W.setCell ⟨b, 0, none⟩ v0).setCell ⟨b, 1, none⟩ v1).setCell ⟨b, 2, none⟩ v2) := ((h.setCell (p := ⟨b, 0, none⟩) (Nat.le_refl _) _).setCell (p := ⟨b, 1, none⟩) (Nat.le_refl _) _).setCell (p := ⟨b, 2, none⟩) (Nat.le_refl _) _
set_option maxHeartbeats 2000000 in
theorem next_nil (h : RMat E w l [] T n A c S SB I) : Calls Tryz.prog 5 #[.pointer (some ⟨E.q, 0, none⟩)] w fun e w' => e = .returned (askV (3, 0, 0)) ∧ Below w.heap.size w w' := by
  have H := Lib.hid h
  clear h
  go_enter Tryz.func5, Tryz.ntmps5
  go_upto_region 1 with fail
  obtain ⟨W, hW⟩ : ∃ W, W = w.alloc (.cells #[.int .u8 0, .int .i64 0, .int .i64 0] 25) := ⟨_, rfl⟩
  have hb0 : Below w.heap.size w W := by rw [hW]; exact (Below.refl _ _).alloc (Nat.le_refl _) _
  have hbx : W.heap[w.heap.size]? = some (.cells #[.int .u8 0, .int .i64 0, .int .i64 0] 25 (0, 0)) := by rw [hW]; exact World.alloc_heap_new w _
  have hz0 : W.heap.size = w.heap.size + 1 := by rw [hW]; simp
  rw [← hW]
  have c11 := (H.out.below hb0).c11
  obtain ⟨d0, d1, d2, dz⟩ := ask_box hbx
  have HB := Lib.hid hb0
  have H9 := Lib.hid (ask_box (ask_set hbx (.int .u8 3) (.int .i64 0) (.int .i64 0)))
  have HL := Lib.hid (ask_low hb0 (.int .u8 3) (.int .i64 0) (.int .i64 0))
  clear hW hb0 hz0 hbx
  go_wp2_with fail
  obtain ⟨e0, e1, e2, _⟩ := H9.out
  exact bodyPost_ret (v := askV (3, 0, 0)) (by simp [results, Tryz.results5, go_sem, askV, e0, e1, e2]) rfl ⟨rfl, HL.out⟩
set_option maxHeartbeats 4000000 in
theorem next_some (h : RMat E w l (L ++ [f]) T n A c S SB I) {s : St} {rr : List St} (hr : f.rest = s :: rr) (hn : n ≤ 1000) : Calls Tryz.prog 5 #[.pointer (some ⟨E.q, 0, none⟩)] w fun e w' => e = .returned (askV (askS E l (L ++ [f]) T s)) ∧ Below w.heap.size w w' := by
  have hl7 := h.frames
  have hlen : (L ++ [f]).length = L.length + 1 := by simp
  rw [hlen] at hl7
  obtain ⟨g, hA, hSg, hBg, hIg, hgq, _, hc1, hc2, _, _⟩ := h.at_ (by omega)
  have H := Lib.hid h
  have HR := Lib.hid hr
  clear h hr hc1 hc2
  go_enter Tryz.func5, Tryz.ntmps5
  go_upto_region 1 with fail
  obtain ⟨W, hW⟩ : ∃ W, W = w.alloc (.cells #[.int .u8 0, .int .i64 0, .int .i64 0] 25) := ⟨_, rfl⟩
  have hb0 : Below w.heap.size w W := by rw [hW]; exact (Below.refl _ _).alloc (Nat.le_refl _) _
  have hbx : W.heap[w.heap.size]? = some (.cells #[.int .u8 0, .int .i64 0, .int .i64 0] 25 (0, 0)) := by rw [hW]; exact World.alloc_heap_new w _
  have hz0 : W.heap.size = w.heap.size + 1 := by rw [hW]; simp
  rw [← hW]
  have c11 := (H.out.below hb0).c11
  rw [hlen] at c11
  have i0 : ¬ ((L.length : Int) + 1 = 0) := by omega
  have HB := Lib.hid hb0
  have HBX := Lib.hid hbx
  have HTOP := Lib.hid (top_any (H.out.below hb0) hA)
  clear hW hb0 hbx
  go_wp2_with fail
  refine HTOP.out.mono ?_
  rintro e w2 ⟨rfl, b2⟩
  have h2 := (H.out.below HB.out).below b2
  obtain ⟨g', hA', _, _, _, _, hgl, _, _, hfz, hcells⟩ := h2.at_ (by omega)
  obtain rfl : g = g' := by rw [hA] at hA'; injection hA' with e; injection e
  have hfr := h2.fr f (by simp)
  obtain ⟨p, r, hRA, m1, m2, ten, sac⟩ := hfr.rest 0 (by rw [HR.out]; simp)
  have hs0 : f.rest[0]'(by rw [HR.out]; simp) = s := by simp [HR.out]
  rw [hs0] at sac
  rw [show p.add (0 * 10) = p from by unfold Addr.add; simp] at ten
  have k0 := hcells L.length (by omega) 0 (by omega)
  simp only [List.getElem_append_right (Nat.le_refl _), Nat.sub_self, List.getElem_cons_zero] at k0
  have hlen1 : f.rest.length = rr.length + 1 := by rw [HR.out]; simp
  have k0 : w2.cell? ⟨g, L.length * 4, none⟩ = some (.slice (some p) (rr.length + 1) f.rc) := by
    have : (f.cells)[0]? = some (.slice f.RA f.rest.length f.rc) := rfl
    rw [this, hRA, hlen1] at k0
    exact k0
  obtain ⟨d, ha, hb, e1, e2, e3, e4, hy, he, q6, q7, q1, q4, q5, hD⟩ := sac_at sac
  have hwfv := var_wf (x := (evalF s.a l E.got).1) h2.v1 h2.v2
  have HVL := Lib.hid (fun (W' : World) (hb' : Below w2.heap.size w2 W') => value9_any (h2.below hb') (ha.below hb' h2.hiw) (by have := hb'.size; have := h2.hiw; omega))
  have HVR := Lib.hid (fun (W' : World) (hb' : Below w2.heap.size w2 W') => variable9_any (h2.below hb') (ha.below hb' h2.hiw) (by have := hb'.size; have := h2.hiw; omega))
  obtain ⟨x, hxx⟩ : ∃ x, x = (evalF s.a l E.got).1 := ⟨_, rfl⟩
  rw [← hxx] at HVL HVR hwfv
  obtain ⟨v, hvv⟩ : ∃ v, v = (varF x E.vars).1 := ⟨_, rfl⟩
  rw [← hvv] at HVR hwfv
  have HGET := Lib.hid (fun (W' : World) (hb' : Below w2.heap.size w2 W') => get_any E.bq SB T v hwfv W' (h2.below hb').buf (by have := h2.lev; omega) (by have := h2.flat; omega))
  have HIN := Lib.hid (fun (W' : World) (hb' : Below w2.heap.size w2 W') => innermost_any (h2.below hb'))
  obtain ⟨ii, hii⟩ : ∃ i, i = inner9 (L ++ [f]) := ⟨_, rfl⟩
  rw [← hii] at HIN
  have HASK : Hid (askS E l (L ++ [f]) T s = if s.kind = 8 then (3, 0, x) else if s.kind = 6 then (if ii < 0 then (4, 0, 0) else (1, 0, 0)) else if s.kind = 2 then (match saysL T v with | none => (2, v, 0) | some _ => (1, 0, 0)) else (1, 0, 0)) := by
    show _ = _
    rw [hvv, hxx, hii]
    rfl
  obtain ⟨rk, rt, rao, ran, raA, ral, rac, rbo, rbn, rbA, rbl, rbc, ryA, ryl, ryc, reA, rel, rec_⟩ := r
  have g0 := ten.c0
  have g1 := ten.c1
  have g2 := ten.c2
  have g3 := ten.c3
  have g4 := ten.c4
  have g5 := ten.c5
  have g6 := ten.c6
  have g7 := ten.c7
  have g8 := ten.c8
  have g9 := ten.c9
  dsimp only at g0 g1 g2 g3 g4 g5 g6 g7 g8 g9 HVL HVR e1
  have HBX2 := Lib.hid ((b2.block w.heap.size (by omega)).trans HBX.out)
  have HB2 := Lib.hid (HB.out.trans (b2.mono HB.out.size))
  have HZ2 : Hid (w.heap.size < w2.heap.size) := by have := b2.size; show _ < _; omega
  have H2 := Lib.hid h2
  have HE1 := Lib.hid (And.intro e1 q1)
  clear sac h2 ten hfr b2 m1 m2 hcells hs0 ha hb e1 e2 e3 e4 hy he q6 q7 q1 q4 q5 hD hwfv hxx hvv hii hfz hA'
  go_upto_region 6 with fail
  obtain ⟨W3, hW3⟩ : ∃ W3, W3 = w2.alloc (.cells #[.int .u8 rk, .int .i64 rt, .int .u8 rao, .int .i64 ran, .slice raA ral rac, .int .u8 rbo, .int .i64 rbn, .slice rbA rbl rbc, .slice ryA ryl ryc, .slice reA rel rec_] 43) := ⟨_, rfl⟩
  have hb3 : Below w2.heap.size w2 W3 := by rw [hW3]; exact (Below.refl w2.heap.size w2).alloc (Nat.le_refl _) _
  have hz3 : W3.heap.size = w2.heap.size + 1 := by rw [hW3]; simp
  have HTEN : Hid (∀ W', Below W3.heap.size W3 W' → Ten W' ⟨w2.heap.size, 0, none⟩ ⟨rk, rt, rao, ran, raA, ral, rac, rbo, rbn, rbA, rbl, rbc, ryA, ryl, ryc, reA, rel, rec_⟩) := fun W' hb => by
    have := Ten.new w2 ⟨rk, rt, rao, ran, raA, ral, rac, rbo, rbn, rbA, rbl, rbc, ryA, ryl, ryc, reA, rel, rec_⟩
    rw [← hW3] at this
    exact this.below hb (by rw [hz3]; show w2.heap.size < _; omega)
  rw [← hW3]
  clear hW3 g0 g1 g2 g3 g4 g5 g6 g7 g8 g9 k0 c11
  have HBXF : Hid (∀ W', Below w2.heap.size w2 W' → W'.heap[w.heap.size]? = some (.cells #[.int .u8 0, .int .i64 0, .int .i64 0] 25 (0, 0))) := fun W' hb => (hb.block _ HZ2.out).trans HBX2.out
  have b0 := (HTEN.out W3 (Below.refl _ _)).c0
  have b2 := (HTEN.out W3 (Below.refl _ _)).c2
  have b3 := (HTEN.out W3 (Below.refl _ _)).c3
  have b4 := (HTEN.out W3 (Below.refl _ _)).c4
  dsimp only at b0 b2 b3 b4
  rw [Nat.zero_add] at b2 b3 b4
  have HB3 := Lib.hid hb3
  have c10 := (H2.out.below hb3).c10
  have hrk := HE1.out.1
  obtain ⟨d0, d1, d2, dz⟩ := ask_box (HBXF.out W3 hb3)
  clear hb3
  by_cases h8 : s.kind = 8
  · have HV : Hid (askS E l (L ++ [f]) T s = (3, 0, x)) := by show _ = _; rw [HASK.out, if_pos h8]
    rw [h8] at hrk
    subst hrk
    clear h8 d0 d1 d2 dz
    go_wp2_with fail
    refine (HVL.out W3 HB3.out).mono ?_
    rintro e w9 ⟨rfl, b9⟩
    have HB9 := Lib.hid (HB3.out.trans (b9.mono HB3.out.size))
    obtain ⟨d0, d1, d2, dz⟩ := ask_box (HBXF.out w9 HB9.out)
    clear b9 b0 b2 b3 b4 c10
    have HA9 := Lib.hid (ask_box (ask_set (HBXF.out w9 HB9.out) (.int .u8 3) (.int .i64 0) (.int .i64 x)))
    have HL9 := Lib.hid ((HB2.out.trans (Below.mono HB9.out HB2.out.size)).trans (ask_low (Below.refl w.heap.size w9) (.int .u8 3) (.int .i64 0) (.int .i64 x)))
    go_wp2_with fail
    obtain ⟨e0, e1, e2, _⟩ := HA9.out
    exact bodyPost_ret (v := askV (3, 0, x)) (by simp [results, Tryz.results5, go_sem, askV, e0, e1, e2]) rfl ⟨by rw [HV.out], HL9.out⟩
  · by_cases h6 : s.kind = 6
    · have HA6 : Hid (askS E l (L ++ [f]) T s = if ii < 0 then (4, 0, 0) else (1, 0, 0)) := by show _ = _; rw [HASK.out, if_neg h8, if_pos h6]
      rw [h6] at hrk
      subst hrk
      clear h8 h6 d0 d1 d2 dz
      go_wp2_with fail
      refine (HIN.out W3 HB3.out).mono ?_
      rintro e w9 ⟨rfl, b9⟩
      have HB9 := Lib.hid (HB3.out.trans (b9.mono HB3.out.size))
      obtain ⟨d0, d1, d2, dz⟩ := ask_box (HBXF.out w9 HB9.out)
      clear b9 b0 b2 b3 b4 c10
      by_cases hi : ii < 0
      · have HV : Hid (askS E l (L ++ [f]) T s = (4, 0, 0)) := by show _ = _; rw [HA6.out, if_pos hi]
        have HA9 := Lib.hid (ask_box (ask_set (HBXF.out w9 HB9.out) (.int .u8 4) (.int .i64 0) (.int .i64 0)))
        have HL9 := Lib.hid ((HB2.out.trans (Below.mono HB9.out HB2.out.size)).trans (ask_low (Below.refl w.heap.size w9) (.int .u8 4) (.int .i64 0) (.int .i64 0)))
        go_wp2_with fail
        obtain ⟨e0, e1, e2, _⟩ := HA9.out
        exact bodyPost_ret (v := askV (4, 0, 0)) (by simp [results, Tryz.results5, go_sem, askV, e0, e1, e2]) rfl ⟨by rw [HV.out], HL9.out⟩
      · have HV : Hid (askS E l (L ++ [f]) T s = (1, 0, 0)) := by show _ = _; rw [HA6.out, if_neg hi]
        have HA9 := Lib.hid (ask_box (ask_set (HBXF.out w9 HB9.out) (.int .u8 1) (.int .i64 0) (.int .i64 0)))
        have HL9 := Lib.hid ((HB2.out.trans (Below.mono HB9.out HB2.out.size)).trans (ask_low (Below.refl w.heap.size w9) (.int .u8 1) (.int .i64 0) (.int .i64 0)))
        go_wp2_with fail
        obtain ⟨e0, e1, e2, _⟩ := HA9.out
        exact bodyPost_ret (v := askV (1, 0, 0)) (by simp [results, Tryz.results5, go_sem, askV, e0, e1, e2]) rfl ⟨by rw [HV.out], HL9.out⟩
    · by_cases h2 : s.kind = 2
      · have HA2 : Hid (askS E l (L ++ [f]) T s = (match saysL T v with | none => (2, v, 0) | some _ => (1, 0, 0))) := by show _ = _; rw [HASK.out, if_neg h8, if_neg h6, if_pos h2]
        rw [h2] at hrk
        subst hrk
        clear h8 h6 h2 d0 d1 d2 dz
        go_wp2_with fail
        refine (HVR.out W3 HB3.out).mono ?_
        rintro e w9 ⟨rfl, b9⟩
        have HB9 := Lib.hid (HB3.out.trans (b9.mono HB3.out.size))
        have c10 := (H2.out.below HB9.out).c10
        clear b9 b0 b2 b3 b4
        cases ho : saysL T v with
        | none =>
          have HV : Hid (askS E l (L ++ [f]) T s = (2, v, 0)) := by show _ = _; rw [HA2.out, ho]
          have HG := HGET.out w9 HB9.out
          rw [ho] at HG
          have HG : Calls Tryz.prog 25 #[.pointer (some ⟨E.bq, 0, none⟩), .int .i64 v] w9 fun e w' => e = .returned (.tuple #[.int .i64 0, .bool false]) ∧ Below w9.heap.size w9 w' := HG
          have HG := Lib.hid HG
          clear ho
          go_wp2_with fail
          refine HG.out.mono ?_
          rintro e w8 ⟨rfl, b8⟩
          have HB8 := Lib.hid (HB9.out.trans (b8.mono HB9.out.size))
          obtain ⟨d0, d1, d2, dz⟩ := ask_box (HBXF.out w8 HB8.out)
          clear b8 c10
          have HA9 := Lib.hid (ask_box (ask_set (HBXF.out w8 HB8.out) (.int .u8 2) (.int .i64 v) (.int .i64 0)))
          have HL9 := Lib.hid ((HB2.out.trans (Below.mono HB8.out HB2.out.size)).trans (ask_low (Below.refl w.heap.size w8) (.int .u8 2) (.int .i64 v) (.int .i64 0)))
          go_wp2_with fail
          obtain ⟨e0, e1, e2, _⟩ := HA9.out
          exact bodyPost_ret (v := askV (2, v, 0)) (by simp [results, Tryz.results5, go_sem, askV, e0, e1, e2]) rfl ⟨by rw [HV.out], HL9.out⟩
        | some o =>
          have HV : Hid (askS E l (L ++ [f]) T s = (1, 0, 0)) := by show _ = _; rw [HA2.out, ho]
          have HG := HGET.out w9 HB9.out
          rw [ho] at HG
          have HG : Calls Tryz.prog 25 #[.pointer (some ⟨E.bq, 0, none⟩), .int .i64 v] w9 fun e w' => e = .returned (.tuple #[.int .i64 o, .bool true]) ∧ Below w9.heap.size w9 w' := HG
          have HG := Lib.hid HG
          clear ho
          go_wp2_with fail
          refine HG.out.mono ?_
          rintro e w8 ⟨rfl, b8⟩
          have HB8 := Lib.hid (HB9.out.trans (b8.mono HB9.out.size))
          obtain ⟨d0, d1, d2, dz⟩ := ask_box (HBXF.out w8 HB8.out)
          clear b8 c10
          have HA9 := Lib.hid (ask_box (ask_set (HBXF.out w8 HB8.out) (.int .u8 1) (.int .i64 0) (.int .i64 0)))
          have HL9 := Lib.hid ((HB2.out.trans (Below.mono HB8.out HB2.out.size)).trans (ask_low (Below.refl w.heap.size w8) (.int .u8 1) (.int .i64 0) (.int .i64 0)))
          go_wp2_with fail
          obtain ⟨e0, e1, e2, _⟩ := HA9.out
          exact bodyPost_ret (v := askV (1, 0, 0)) (by simp [results, Tryz.results5, go_sem, askV, e0, e1, e2]) rfl ⟨by rw [HV.out], HL9.out⟩
      · have HV : Hid (askS E l (L ++ [f]) T s = (1, 0, 0)) := by show _ = _; rw [HASK.out, if_neg h8, if_neg h6, if_neg h2]
        have k8 : ¬ (rk = 8) := by rw [hrk]; exact h8
        have k6 : ¬ (rk = 6) := by rw [hrk]; exact h6
        have k2 : ¬ (rk = 2) := by rw [hrk]; exact h2
        have k8' : ((rk : Int) == 8) = false := by simp; omega
        have k6' : ((rk : Int) == 6) = false := by simp; omega
        have k2' : ((rk : Int) == 2) = false := by simp; omega
        clear h8 h6 h2 hrk
        have HA9 := Lib.hid (ask_box (ask_set (HBXF.out W3 HB3.out) (.int .u8 1) (.int .i64 0) (.int .i64 0)))
        have HL9 := Lib.hid ((HB2.out.trans (Below.mono HB3.out HB2.out.size)).trans (ask_low (Below.refl w.heap.size W3) (.int .u8 1) (.int .i64 0) (.int .i64 0)))
        go_wp2_with fail
        obtain ⟨e0, e1, e2, _⟩ := HA9.out
        exact bodyPost_ret (v := askV (1, 0, 0)) (by simp [results, Tryz.results5, go_sem, askV, e0, e1, e2]) rfl ⟨by rw [HV.out], HL9.out⟩
end
end Go.Proofs.YthdcdffdpdoeoaaGreatDoor
