/-
  EventJust (promise P12.4): of an event that may be, with anything that its Kind has not, or another one's parts, it may not be; its stripe is one of them: for every input the call returns true, and each argument reads behind it as before; as its TIED CARD (the tables lie as the program's text lays them). Condition: the row's own (laid).
-/
import Derived.Test.YtjholjlmlglgnaaDoorRj
import Derived.BigRegion
import Derived.Deep.DeepCutAuto
import Derived.Deep.CutBlock
namespace Go.Proofs.YtjholjlmlglgnaaDoor
set_option maxRecDepth 100000
open Go.ChangeShapes Go.WideShapes Go.ChangeAt Go.RowKit Go.WideElems Go.WideMaps
set_option linter.unusedVariables false
structure Three (W : World) (cs : Array Value) (ga gb gc : Nat) (w : World) : Prop where
  la : W.heap.size ≤ ga
  lb : W.heap.size ≤ gb
  lc : W.heap.size ≤ gc
  ab : ga ≠ gb
  ac : ga ≠ gc
  bc : gb ≠ gc
  ra : w.heap[ga]? = some (.cells cs 23 (0, 0))
  rb : w.heap[gb]? = some (.cells cs 23 (0, 0))
  rc : w.heap[gc]? = some (.cells cs 23 (0, 0))
  low : Below W.heap.size W w
theorem three_mk (W : World) (cs : Array Value) (ga gb gc : Nat) (ha : ga = W.heap.size ∨ ga = W.heap.size + 1 ∨ ga = W.heap.size + 1 + 1) (hb : gb = W.heap.size ∨ gb = W.heap.size + 1 ∨ gb = W.heap.size + 1 + 1) (hc : gc = W.heap.size ∨ gc = W.heap.size + 1 ∨ gc = W.heap.size + 1 + 1) (h1 : ga ≠ gb) (h2 : ga ≠ gc) (h3 : gb ≠ gc) : Three W cs ga gb gc (((W.alloc (.cells cs 23)).alloc (.cells cs 23)).alloc (.cells cs 23)).drew := by
  have z1 : (W.alloc (.cells cs 23)).heap.size = W.heap.size + 1 := by simp
  have z2 : ((W.alloc (.cells cs 23)).alloc (.cells cs 23)).heap.size = W.heap.size + 1 + 1 := by simp
  have r0 : (((W.alloc (.cells cs 23)).alloc (.cells cs 23)).alloc (.cells cs 23)).heap[W.heap.size]? = some (.cells cs 23 (0, 0)) :=
    (heap_alloc_old _ _ (by omega)).trans ((heap_alloc_old _ _ (by omega)).trans (heap_alloc_new W _))
  have r1 : (((W.alloc (.cells cs 23)).alloc (.cells cs 23)).alloc (.cells cs 23)).heap[W.heap.size + 1]? = some (.cells cs 23 (0, 0)) :=
    (heap_alloc_old _ _ (by omega)).trans (z1 ▸ heap_alloc_new (W.alloc (.cells cs 23)) _)
  have r2 : (((W.alloc (.cells cs 23)).alloc (.cells cs 23)).alloc (.cells cs 23)).heap[W.heap.size + 1 + 1]? = some (.cells cs 23 (0, 0)) := by
    rw [← z2]
    exact heap_alloc_new _ _
  have rr : ∀ g, (g = W.heap.size ∨ g = W.heap.size + 1 ∨ g = W.heap.size + 1 + 1) → (((W.alloc (.cells cs 23)).alloc (.cells cs 23)).alloc (.cells cs 23)).heap[g]? = some (.cells cs 23 (0, 0)) := fun g h => by
    rcases h with rfl | rfl | rfl
    · exact r0
    · exact r1
    · exact r2
  exact ⟨by omega, by omega, by omega, h1, h2, h3, rr ga ha, rr gb hb, rr gc hc, ((((Below.refl _ _).alloc (Nat.le_refl _) _).alloc (by omega) _).alloc (by omega) _).drew⟩
theorem just_far {e : Ev} {T V S : Int} (h : mayB e T V S = true) {y : Int} (hy : T ≤ y) : mayB ⟨e.kd, y, e.tx, e.pl, e.v, e.x, e.why⟩ T V S = false := by
  rw [Bool.eq_false_iff]
  intro h2
  have := ((may_iff _ _ _ _).1 h2).2.1
  simp only at this
  omega
theorem just_tx {e : Ev} {T V S : Int} (h : mayB e T V S = true) {y : Int} (h1 : 1 ≤ y) (h2 : y ≤ 5) : mayB ⟨e.kd, e.th, y, e.pl, e.v, e.x, e.why⟩ T V S = (e.kd == 1) := by
  rw [may_iff] at h
  obtain ⟨a, b, c⟩ := h
  rw [Bool.eq_iff_iff, may_iff, beq_iff_eq]
  unfold MayK at c ⊢
  simp only at c ⊢
  refine ⟨fun ⟨_, _, c2⟩ => ?_, fun hk => ⟨a, b, ?_⟩⟩
  · clear c
    rcases c2 with c2 | c2 | c2 | c2 | c2 | c2 | c2 | c2 <;> omega
  · rcases c with c | c | c | c | c | c | c | c
    · exact .inl ⟨c.1, ⟨by omega, h2⟩, c.2.2⟩
    all_goals (exfalso; omega)
theorem just_x {e : Ev} {T V S : Int} (h : mayB e T V S = true) {y : Int} (h1 : 1 ≤ y) (h2 : y ≤ 1000) : mayB ⟨e.kd, e.th, e.tx, e.pl, e.v, y, e.why⟩ T V S = (e.kd == 3 || e.kd == 8) := by
  rw [may_iff] at h
  obtain ⟨a, b, c⟩ := h
  rw [Bool.eq_iff_iff, may_iff, Bool.or_eq_true, beq_iff_eq, beq_iff_eq]
  unfold MayK at c ⊢
  simp only at c ⊢
  refine ⟨fun ⟨_, _, c2⟩ => ?_, fun hk => ⟨a, b, ?_⟩⟩
  · clear c
    rcases c2 with c2 | c2 | c2 | c2 | c2 | c2 | c2 | c2 <;> omega
  · rcases c with c | c | c | c | c | c | c | c
    · exfalso; omega
    · exfalso; omega
    · exact .inr (.inr (.inl ⟨c.1, c.2.1, c.2.2.1, c.2.2.2.1, ⟨by omega, by omega⟩, c.2.2.2.2.2⟩))
    all_goals (exfalso; omega)
theorem just_why {e : Ev} {T V S : Int} (h : mayB e T V S = true) {y : Int} (h1 : 1 ≤ y) (h2 : y ≤ 5) : mayB ⟨e.kd, e.th, e.tx, e.pl, e.v, e.x, y⟩ T V S = (e.kd == 10) := by
  rw [may_iff] at h
  obtain ⟨a, b, c⟩ := h
  rw [Bool.eq_iff_iff, may_iff, beq_iff_eq]
  unfold MayK at c ⊢
  simp only at c ⊢
  refine ⟨fun ⟨_, _, c2⟩ => ?_, fun hk => ⟨a, b, ?_⟩⟩
  · clear c
    rcases c2 with c2 | c2 | c2 | c2 | c2 | c2 | c2 | c2 <;> omega
  · rcases c with c | c | c | c | c | c | c | c
    iterate 6 (exfalso; omega)
    · exact .inr (.inr (.inr (.inr (.inr (.inr (.inl ⟨c.1, c.2.1, c.2.2.1, c.2.2.2.1, c.2.2.2.2.1, ⟨h1, by omega⟩, fun h => by omega⟩))))))
    · exfalso; omega
theorem just_facts {e : Ev} {T V S : Int} (h : mayB e T V S = true) : 1 ≤ T ∧ T ≤ 6 ∧ 1 ≤ V ∧ V ≤ 32 ∧ 1 ≤ S ∧ S ≤ V ∧ ((stripeF e S).2 = true → 0 ≤ (stripeF e S).1 ∧ (stripeF e S).1 < S) := by
  rw [may_iff] at h
  obtain ⟨h1, h2, h3⟩ := h
  simp only [sizesB, Bool.and_eq_true, decide_eq_true_eq] at h1
  have hp : e.kd = 2 ∨ e.kd = 4 ∨ e.kd = 6 ∨ e.kd = 9 ∨ e.kd = 11 ∨ e.kd = 10 → 0 ≤ e.pl ∧ e.pl < S := fun hk => by
    unfold MayK at h3
    rcases h3 with h | h | h | h | h | h | h | h <;> omega
  refine ⟨by omega, by omega, by omega, by omega, by omega, by omega, fun hb => ?_⟩
  unfold stripeF at hb ⊢
  split
  · rename_i hc; rw [if_pos hc] at hb; cases hb
  · rename_i hc
    rw [if_neg hc] at hb
    split
    · rename_i hk
      exact hp hk
    · rename_i hk
      rw [if_neg hk] at hb
      split
      · exact ⟨Int.emod_nonneg _ (by omega), Int.emod_lt_of_pos _ (by omega)⟩
      · rename_i hk2; rw [if_neg hk2] at hb; cases hb
set_option maxHeartbeats 4000000 in
theorem EventJust_walk (e : Ev) (ok : EvOk e) (T : Int) (T1 : -9223372036854775808 ≤ T) (T2 : T < 9223372036854775808) (V : Int) (V1 : -9223372036854775808 ≤ V) (V2 : V < 9223372036854775808) (S : Int) (S1 : -9223372036854775808 ≤ S) (S2 : S < 9223372036854775808) (n : Int) (n1 : -9223372036854775808 ≤ n) (n2 : n < 9223372036854775808) (w : World) (he : Ek w) :
    Calls Tryd.prog 7 #[evV e, .int .i64 T, .int .i64 V, .int .i64 S, .int .i64 n] w fun r w' => r = .returned (.bool true) ∧ Below w.heap.size w w' := by
  have HA : Hid (∀ w1, Below w.heap.size w w1 → Calls Tryd.prog 9 #[] w1 fun r w' => r = .returned (.bool true) ∧ Below w1.heap.size w1 w') := fun w1 h => awake_any w1 (he.below h)
  have HM : Hid (∀ (b : Bool) w1, mayB e T V S = b → Below w.heap.size w w1 → Calls Tryd.prog 14 #[evV e, .int .i64 T, .int .i64 V, .int .i64 S] w1 fun r w' => r = .returned (.bool b) ∧ Below w1.heap.size w1 w') := fun b w1 hb h => hb ▸ may_any e ok T V S w1 (he.below h)
  have HK := Lib.hid he
  have HO := Lib.hid ok
  obtain ⟨p, hp⟩ : ∃ p, p = stripeF e S := ⟨_, rfl⟩
  have HS : Hid (∀ w1, Calls Tryd.prog 10 #[evV e, .int .i64 S] w1 fun r w' => r = .returned (.tuple #[.int .i64 p.1, .bool p.2]) ∧ Below w1.heap.size w1 w') := fun w1 => hp ▸ stripe_any e S w1
  have HP := Lib.hid hp
  obtain ⟨r1000, m1000⟩ : ∃ r, r = modW n 1000 := ⟨_, rfl⟩
  obtain ⟨r5, m5⟩ : ∃ r, r = modW n 5 := ⟨_, rfl⟩
  obtain ⟨ma, ha0, ha1⟩ := modW_wrap n 1000 (by omega) (by omega)
  obtain ⟨mb, hb0, hb1⟩ := modW_wrap n 5 (by omega) (by omega)
  rw [← m1000] at ma ha0 ha1
  have mc := modW_wrap8 n 5 (by omega) (by omega)
  rw [← m5] at mb mc hb0 hb1
  clear he ok hp m1000 m5
  obtain ⟨mb0, hmb⟩ : ∃ b, mayB e T V S = b := ⟨_, rfl⟩
  have HB := Lib.hid hmb
  clear hmb
  obtain ⟨kd, th, tx, pl, v, x, why⟩ := e
  unfold evV at HM HS ⊢
  simp only at HM HS ⊢
  go_enter Tryd.func7, Tryd.ntmps7
  go_wp2_with fail
  obtain ⟨W0, hW0⟩ : ∃ W0, W0 = w.alloc (.cells #[.int .u8 kd, .int .i64 th, .int .i64 tx, .int .i64 pl, .int .i64 v, .int .i64 x, .int .u8 why] 23) := ⟨_, rfl⟩
  obtain ⟨g, hg⟩ : ∃ g, g = w.heap.size := ⟨_, rfl⟩
  have hr : W0.heap[g]? = some (.cells #[.int .u8 kd, .int .i64 th, .int .i64 tx, .int .i64 pl, .int .i64 v, .int .i64 x, .int .u8 why] 23 (0, 0)) := by rw [hW0, hg]; exact heap_alloc_new w _
  have hb : Below w.heap.size w W0 := by rw [hW0]; exact (Below.refl _ _).alloc (Nat.le_refl _) _
  have HR := Lib.hid hr
  have HB0 := Lib.hid hb
  rw [← hW0, ← hg]
  have B0 : Hid (Below W0.heap.size W0 W0) := Below.refl _ _
  clear hW0 hg hr hb
  refine (HA.out W0 HB0.out).mono ?_
  rintro _ w1 ⟨rfl, b1⟩
  have B1 : Hid (Below W0.heap.size W0 w1) := B0.out.trans (b1.mono B0.out.size)
  clear b1 HA
  obtain ⟨x0, x1, x2, x3, x4, x5, x6⟩ := evat (row_stays HR.out B1.out)
  go_wp2_with fail
  refine (HM.out mb0 w1 HB.out (HB0.out.trans (B1.out.mono HB0.out.size))).mono ?_
  rintro _ w2 ⟨rfl, b2⟩
  have B2 : Hid (Below W0.heap.size W0 w2) := B1.out.trans (b2.mono B1.out.size)
  clear b2 x0 x1 x2 x3 x4 x5 x6 HM
  obtain ⟨x0, x1, x2, x3, x4, x5, x6⟩ := evat (row_stays HR.out B2.out)
  cases mb0 with
  | false =>
    clear HS HB HP
    go_wp2_with fail
    go_ret
    exact ⟨rfl, HB0.out.trans (B2.out.mono HB0.out.size)⟩
  | true =>
    obtain ⟨s1, s2, s3, s4, s5, s6, hp⟩ := just_facts HB.out
    rw [← HP.out] at hp
    clear HP
    obtain ⟨p, b⟩ := p
    simp only at hp HS
    go_wp2_with fail
    refine (HS.out w2).mono ?_
    rintro _ w3 ⟨rfl, b3⟩
    have B3 : Hid (Below W0.heap.size W0 w3) := B2.out.trans (b3.mono B2.out.size)
    clear b3 x0 x1 x2 x3 x4 x5 x6 HS
    obtain ⟨x0, x1, x2, x3, x4, x5, x6⟩ := evat (row_stays HR.out B3.out)
    have HX : Hid (∀ (wx : World), Below W0.heap.size W0 wx → wx.heap[g]? = some (.cells #[.int .u8 kd, .int .i64 th, .int .i64 tx, .int .i64 pl, .int .i64 v, .int .i64 x, .int .u8 why] 23 (0, 0))) := fun wx h => row_stays HR.out h
    go_upto_region 6 with fail
    go_cut [40] (fun cv wx => cv = .bool false ∧ wx = w3)
    case first =>
      cases b with
      | false =>
        go_wp2_with fail
        go_meet
        exact ⟨rfl, rfl⟩
      | true =>
        obtain ⟨hp1, hp2⟩ := hp rfl
        have hp3 : ¬ S ≤ p := by omega
        have hp4 : decide (p < 0) = false := decide_eq_false (by omega)
        go_wp2_with fail
        go_meet
        exact ⟨rfl, rfl⟩
    case rest =>
      obtain ⟨rfl, rfl⟩ := hcut
      clear hp
      have i9 : T + r1000 < 9223372036854775808 := by omega
      go_upto_region 10 with fail
      obtain ⟨W4, hW4⟩ : ∃ W4, W4 = wc.alloc (.cells #[.int .u8 kd, .int .i64 (T + r1000), .int .i64 tx, .int .i64 pl, .int .i64 v, .int .i64 x, .int .u8 why] 23) := ⟨_, rfl⟩
      obtain ⟨gf, hgf⟩ : ∃ gf, gf = wc.heap.size := ⟨_, rfl⟩
      have hr4 : W4.heap[gf]? = some (.cells #[.int .u8 kd, .int .i64 (T + r1000), .int .i64 tx, .int .i64 pl, .int .i64 v, .int .i64 x, .int .u8 why] 23 (0, 0)) := by rw [hW4, hgf]; exact heap_alloc_new wc _
      have B4 : Hid (Below W0.heap.size W0 W4) := by rw [hW4]; exact B3.out.alloc B3.out.size _
      have HR4 := Lib.hid hr4
      rw [← hW4, ← hgf]
      clear hW4 hgf hr4 x0 x1 x2 x3 x4 x5 x6
      obtain ⟨x0, x1, x2, x3, x4, x5, x6⟩ := evat (HX.out W4 B4.out)
      have l3 : g < W4.heap.size := there_blockW x0
      have l4 : g < W4.heap.size + 1 := by omega
      have l5 : g < W4.heap.size + 1 + 1 := by omega
      have l6 : g < W4.heap.size + 1 + 1 + 1 := by omega
      go_cut [14, 15, 16] (fun va vb vc wx => ∃ ga gb gc : Nat, va = .pointer (some ⟨ga, 0, none⟩) ∧ vb = .pointer (some ⟨gb, 0, none⟩) ∧ vc = .pointer (some ⟨gc, 0, none⟩) ∧ Hid (Three W4 #[.int .u8 kd, .int .i64 th, .int .i64 tx, .int .i64 pl, .int .i64 v, .int .i64 x, .int .u8 why] ga gb gc wx))
      case first =>
        go_region
        all_goals (go_wp2_with fail; go_meet; exact ⟨_, _, _, rfl, rfl, rfl, three_mk W4 #[.int .u8 kd, .int .i64 th, .int .i64 tx, .int .i64 pl, .int .i64 v, .int .i64 x, .int .u8 why] _ _ _ (by omega) (by omega) (by omega) (by omega) (by omega) (by omega)⟩)
      case rest =>
        obtain ⟨ga, gb, gc, rfl, rfl, rfl, h3⟩ := hcut
        have hT : Three W4 #[.int .u8 kd, .int .i64 th, .int .i64 tx, .int .i64 pl, .int .i64 v, .int .i64 x, .int .u8 why] ga gb gc wc := h3.out
        have B5 : Hid (Below W0.heap.size W0 wc) := B4.out.trans (hT.low.mono B4.out.size)
        have hgs := hT.la
        have hbs := hT.lb
        have hcs := hT.lc
        have hab := hT.ab
        have hac := hT.ac
        have hbc := hT.bc
        have hra := hT.ra
        have hrb := hT.rb
        have hrc := hT.rc
        have hrg := HX.out wc B5.out
        have hzf : gf < W4.heap.size := (Array.getElem?_eq_some_iff.1 HR4.out).1
        have hz0 : W0.heap.size ≤ W4.heap.size := B4.out.size
        have hrf : wc.heap[gf]? = some (.cells #[.int .u8 kd, .int .i64 (T + r1000), .int .i64 tx, .int .i64 pl, .int .i64 v, .int .i64 x, .int .u8 why] 23 (0, 0)) := row_stays HR4.out hT.low
        have x2 : wc.cell? ⟨ga, 2, none⟩ = some (.int .i64 tx) := cell_of_row wc ga 2 _ _ _ hra
        have f2 : wc.frozen? ⟨ga, 2, none⟩ = false := frozen_of_row wc ga 2 _ _ hra
        clear h3 hT x0 x1 x3 x4 x5 x6
        go_upto_region 12 with fail
        obtain ⟨W5, hW5⟩ : ∃ W5, W5 = wc.setCell ⟨ga, 2, none⟩ (.int .i64 (1 + r5)) := ⟨_, rfl⟩
        rw [← hW5]
        have B6 : Hid (Below W0.heap.size W0 W5) := by rw [hW5]; exact B5.out.setCell (by show _ ≤ ga; omega) _
        replace hra : W5.heap[ga]? = some (.cells #[.int .u8 kd, .int .i64 th, .int .i64 (1 + r5), .int .i64 pl, .int .i64 v, .int .i64 x, .int .u8 why] 23 (0, 0)) := by rw [hW5]; exact heap_setCell_same wc ga 2 _ _ _ hra
        replace hrb : W5.heap[gb]? = some (.cells #[.int .u8 kd, .int .i64 th, .int .i64 tx, .int .i64 pl, .int .i64 v, .int .i64 x, .int .u8 why] 23 (0, 0)) := by rw [hW5]; exact (heap_setCell_other wc _ _ _ hab.symm).trans hrb
        replace hrc : W5.heap[gc]? = some (.cells #[.int .u8 kd, .int .i64 th, .int .i64 tx, .int .i64 pl, .int .i64 v, .int .i64 x, .int .u8 why] 23 (0, 0)) := by rw [hW5]; exact (heap_setCell_other wc _ _ _ hac.symm).trans hrc
        replace hrf : W5.heap[gf]? = some (.cells #[.int .u8 kd, .int .i64 (T + r1000), .int .i64 tx, .int .i64 pl, .int .i64 v, .int .i64 x, .int .u8 why] 23 (0, 0)) := by rw [hW5]; exact (heap_setCell_other wc _ _ _ (by show gf ≠ ga; omega)).trans hrf
        have x5 : W5.cell? ⟨gb, 5, none⟩ = some (.int .i64 x) := cell_of_row W5 gb 5 _ _ _ hrb
        have f5 : W5.frozen? ⟨gb, 5, none⟩ = false := frozen_of_row W5 gb 5 _ _ hrb
        clear hW5 x2 f2 hrg
        go_upto_region 13 with fail
        obtain ⟨W6, hW6⟩ : ∃ W6, W6 = W5.setCell ⟨gb, 5, none⟩ (.int .i64 (1 + r1000)) := ⟨_, rfl⟩
        rw [← hW6]
        have B7 : Hid (Below W0.heap.size W0 W6) := by rw [hW6]; exact B6.out.setCell (by show _ ≤ gb; omega) _
        replace hra : W6.heap[ga]? = some (.cells #[.int .u8 kd, .int .i64 th, .int .i64 (1 + r5), .int .i64 pl, .int .i64 v, .int .i64 x, .int .u8 why] 23 (0, 0)) := by rw [hW6]; exact (heap_setCell_other W5 _ _ _ hab).trans hra
        replace hrb : W6.heap[gb]? = some (.cells #[.int .u8 kd, .int .i64 th, .int .i64 tx, .int .i64 pl, .int .i64 v, .int .i64 (1 + r1000), .int .u8 why] 23 (0, 0)) := by rw [hW6]; exact heap_setCell_same W5 gb 5 _ _ _ hrb
        replace hrc : W6.heap[gc]? = some (.cells #[.int .u8 kd, .int .i64 th, .int .i64 tx, .int .i64 pl, .int .i64 v, .int .i64 x, .int .u8 why] 23 (0, 0)) := by rw [hW6]; exact (heap_setCell_other W5 _ _ _ hbc.symm).trans hrc
        replace hrf : W6.heap[gf]? = some (.cells #[.int .u8 kd, .int .i64 (T + r1000), .int .i64 tx, .int .i64 pl, .int .i64 v, .int .i64 x, .int .u8 why] 23 (0, 0)) := by rw [hW6]; exact (heap_setCell_other W5 _ _ _ (by show gf ≠ gb; omega)).trans hrf
        have x6 : W6.cell? ⟨gc, 6, none⟩ = some (.int .u8 why) := cell_of_row W6 gc 6 _ _ _ hrc
        have f6 : W6.frozen? ⟨gc, 6, none⟩ = false := frozen_of_row W6 gc 6 _ _ hrc
        have i6 : 1 + r5 ≤ 255 := by omega
        clear hW6 x5 f5
        go_upto_region 14 with fail
        obtain ⟨W7, hW7⟩ : ∃ W7, W7 = W6.setCell ⟨gc, 6, none⟩ (.int .u8 (1 + r5)) := ⟨_, rfl⟩
        rw [← hW7]
        have B8 : Hid (Below W0.heap.size W0 W7) := by rw [hW7]; exact B7.out.setCell (by show _ ≤ gc; omega) _
        replace hra : W7.heap[ga]? = some (.cells #[.int .u8 kd, .int .i64 th, .int .i64 (1 + r5), .int .i64 pl, .int .i64 v, .int .i64 x, .int .u8 why] 23 (0, 0)) := by rw [hW7]; exact (heap_setCell_other W6 _ _ _ hac).trans hra
        replace hrb : W7.heap[gb]? = some (.cells #[.int .u8 kd, .int .i64 th, .int .i64 tx, .int .i64 pl, .int .i64 v, .int .i64 (1 + r1000), .int .u8 why] 23 (0, 0)) := by rw [hW7]; exact (heap_setCell_other W6 _ _ _ hbc).trans hrb
        replace hrc : W7.heap[gc]? = some (.cells #[.int .u8 kd, .int .i64 th, .int .i64 tx, .int .i64 pl, .int .i64 v, .int .i64 x, .int .u8 (1 + r5)] 23 (0, 0)) := by rw [hW7]; exact heap_setCell_same W6 gc 6 _ _ _ hrc
        replace hrf : W7.heap[gf]? = some (.cells #[.int .u8 kd, .int .i64 (T + r1000), .int .i64 tx, .int .i64 pl, .int .i64 v, .int .i64 x, .int .u8 why] 23 (0, 0)) := by rw [hW7]; exact (heap_setCell_other W6 _ _ _ (by show gf ≠ gc; omega)).trans hrf
        obtain ⟨q1, hq1⟩ : ∃ q, q = T + r1000 := ⟨_, rfl⟩
        obtain ⟨q2, hq2⟩ : ∃ q, q = 1 + r5 := ⟨_, rfl⟩
        obtain ⟨q3, hq3⟩ : ∃ q, q = 1 + r1000 := ⟨_, rfl⟩
        rw [← hq1] at hrf
        rw [← hq2] at hra hrc
        rw [← hq3] at hrb
        have HRA := Lib.hid hra
        have HRB := Lib.hid hrb
        have HRC := Lib.hid hrc
        have HRF := Lib.hid hrf
        have HU : Hid (∀ wx, Below W7.heap.size W7 wx → Below w.heap.size w wx) := fun wx h => HB0.out.trans ((B8.out.trans (h.mono B8.out.size)).mono HB0.out.size)
        have ok0 := HO.out
        have hcall : ∀ (e' : Ev) (b : Bool) (wx : World), EvOk e' → mayB e' T V S = b → Below W7.heap.size W7 wx → Calls Tryd.prog 14 #[evV e', .int .i64 T, .int .i64 V, .int .i64 S] wx fun r w' => r = .returned (.bool b) ∧ Below wx.heap.size wx w' := fun e' b wx hok hb h =>
          hb ▸ may_any e' hok T V S wx (HK.out.below (HU.out wx h))
        have H1 : Hid (∀ wx, Below W7.heap.size W7 wx → Calls Tryd.prog 14 #[.agg #[.int .u8 kd, .int .i64 q1, .int .i64 tx, .int .i64 pl, .int .i64 v, .int .i64 x, .int .u8 why], .int .i64 T, .int .i64 V, .int .i64 S] wx fun r w' => r = .returned (.bool false) ∧ Below wx.heap.size wx w') := fun wx h => hcall ⟨kd, q1, tx, pl, v, x, why⟩ _ wx ⟨ok0.k0, ok0.k1, ok0.w0, ok0.w1, by show _ ≤ q1; omega, by show q1 ≤ _; omega, ok0.x0, ok0.x1, ok0.p0, ok0.p1, ok0.v0, ok0.v1, ok0.y0, ok0.y1⟩ (just_far (e := ⟨kd, th, tx, pl, v, x, why⟩) HB.out (by omega)) h
        have H2 : Hid (∀ wx, Below W7.heap.size W7 wx → Calls Tryd.prog 14 #[.agg #[.int .u8 kd, .int .i64 th, .int .i64 q2, .int .i64 pl, .int .i64 v, .int .i64 x, .int .u8 why], .int .i64 T, .int .i64 V, .int .i64 S] wx fun r w' => r = .returned (.bool (kd == 1)) ∧ Below wx.heap.size wx w') := fun wx h => hcall ⟨kd, th, q2, pl, v, x, why⟩ _ wx ⟨ok0.k0, ok0.k1, ok0.w0, ok0.w1, ok0.t0, ok0.t1, by show _ ≤ q2; omega, by show q2 ≤ _; omega, ok0.p0, ok0.p1, ok0.v0, ok0.v1, ok0.y0, ok0.y1⟩ (just_tx (e := ⟨kd, th, tx, pl, v, x, why⟩) HB.out (by omega) (by omega)) h
        have H3 : Hid (∀ wx, Below W7.heap.size W7 wx → Calls Tryd.prog 14 #[.agg #[.int .u8 kd, .int .i64 th, .int .i64 tx, .int .i64 pl, .int .i64 v, .int .i64 q3, .int .u8 why], .int .i64 T, .int .i64 V, .int .i64 S] wx fun r w' => r = .returned (.bool (kd == 3 || kd == 8)) ∧ Below wx.heap.size wx w') := fun wx h => hcall ⟨kd, th, tx, pl, v, q3, why⟩ _ wx ⟨ok0.k0, ok0.k1, ok0.w0, ok0.w1, ok0.t0, ok0.t1, ok0.x0, ok0.x1, ok0.p0, ok0.p1, ok0.v0, ok0.v1, by show _ ≤ q3; omega, by show q3 ≤ _; omega⟩ (just_x (e := ⟨kd, th, tx, pl, v, x, why⟩) HB.out (by omega) (by omega)) h
        have H4 : Hid (∀ wx, Below W7.heap.size W7 wx → Calls Tryd.prog 14 #[.agg #[.int .u8 kd, .int .i64 th, .int .i64 tx, .int .i64 pl, .int .i64 v, .int .i64 x, .int .u8 q2], .int .i64 T, .int .i64 V, .int .i64 S] wx fun r w' => r = .returned (.bool (kd == 10)) ∧ Below wx.heap.size wx w') := fun wx h => hcall ⟨kd, th, tx, pl, v, x, q2⟩ _ wx ⟨ok0.k0, ok0.k1, by show _ ≤ q2; omega, by show q2 ≤ _; omega, ok0.t0, ok0.t1, ok0.x0, ok0.x1, ok0.p0, ok0.p1, ok0.v0, ok0.v1, ok0.y0, ok0.y1⟩ (just_why (e := ⟨kd, th, tx, pl, v, x, why⟩) HB.out (by omega) (by omega)) h
        have HGK : Hid (∀ wx, Below W7.heap.size W7 wx → wx.cell? ⟨g, 0, none⟩ = some (.int .u8 kd)) := fun wx h => (evat (HX.out wx (B8.out.trans (h.mono B8.out.size)))).1
        clear hcall hq1 hq2 hq3 hra hrb hrc hrf x6 f6 hW7 HX HR HR4 ok0 HO HK HB
        have hC : ∀ (c3 : Bool), (kd == 3) = c3 → ∀ {id : Nat} {ops : Array Oper} (hops : ops = regJ14t_ops) (T0 : Array Value) (hsz : 102 ≤ T0.size) (h1 : T0[1]? = some (.int .i64 T)) (h2 : T0[2]? = some (.int .i64 V)) (h3 : T0[3]? = some (.int .i64 S)) (h5 : T0[5]? = some (.pointer (some ⟨g, 0, none⟩))) (h13 : T0[13]? = some (.pointer (some ⟨gf, 0, none⟩))) (h14 : T0[14]? = some (.pointer (some ⟨ga, 0, none⟩))) (h15 : T0[15]? = some (.pointer (some ⟨gb, 0, none⟩))) {Q : Exit → Act → World → Prop}
            (hend : ∀ (us : List Value) (w : World), us.length = 32 → Below W7.heap.size W7 w → us.getD 31 undef = .bool false → Q .normal ⟨putAll T0 regJ14t_ds us, []⟩ w), (Code.region id ops true).wp Tryd.prog Q ⟨T0, []⟩ W7 := by
          intro c3 hc3 id ops hops T0 hsz h1 h2 h3 h5 h13 h14 h15 Q hend
          cases c3 with
          | true => exact regJ14t hops T0 hsz W7 g gf ga gb kd th tx pl v x why T V S q1 q2 q3 HGK.out (fun wx h => row_stays HRF.out h) (fun wx h => row_stays HRA.out h) (fun wx h => row_stays HRB.out h) H1.out H2.out H3.out hc3 h1 h2 h3 h5 h13 h14 h15 hend
          | false => exact regJ14f hops T0 hsz W7 g gf ga gb kd th tx pl v x why T V S q1 q2 q3 HGK.out (fun wx h => row_stays HRF.out h) (fun wx h => row_stays HRA.out h) (fun wx h => row_stays HRB.out h) H1.out H2.out H3.out hc3 h1 h2 h3 h5 h13 h14 h15 hend
        refine hC _ rfl rfl _ (by simp) rfl rfl rfl rfl rfl rfl rfl ?_
        intro us w8 hu b8 h31
        obtain ⟨z0, z1, z2, z3, z4, z5, z6, z7, z8, z9, z10, z11, z12, z13, z14, z15, z16, z17, z18, z19, z20, z21, z22, z23, z24, z25, z26, z27, z28, z29, z30, z31, rfl⟩ : ∃ z0 z1 z2 z3 z4 z5 z6 z7 z8 z9 z10 z11 z12 z13 z14 z15 z16 z17 z18 z19 z20 z21 z22 z23 z24 z25 z26 z27 z28 z29 z30 z31 : Value, us = [z0, z1, z2, z3, z4, z5, z6, z7, z8, z9, z10, z11, z12, z13, z14, z15, z16, z17, z18, z19, z20, z21, z22, z23, z24, z25, z26, z27, z28, z29, z30, z31] := by
          obtain ⟨z0, r0, rfl, hl0⟩ := cons_ofW hu
          obtain ⟨z1, r1, rfl, hl1⟩ := cons_ofW hl0
          obtain ⟨z2, r2, rfl, hl2⟩ := cons_ofW hl1
          obtain ⟨z3, r3, rfl, hl3⟩ := cons_ofW hl2
          obtain ⟨z4, r4, rfl, hl4⟩ := cons_ofW hl3
          obtain ⟨z5, r5, rfl, hl5⟩ := cons_ofW hl4
          obtain ⟨z6, r6, rfl, hl6⟩ := cons_ofW hl5
          obtain ⟨z7, r7, rfl, hl7⟩ := cons_ofW hl6
          obtain ⟨z8, r8, rfl, hl8⟩ := cons_ofW hl7
          obtain ⟨z9, r9, rfl, hl9⟩ := cons_ofW hl8
          obtain ⟨z10, r10, rfl, hl10⟩ := cons_ofW hl9
          obtain ⟨z11, r11, rfl, hl11⟩ := cons_ofW hl10
          obtain ⟨z12, r12, rfl, hl12⟩ := cons_ofW hl11
          obtain ⟨z13, r13, rfl, hl13⟩ := cons_ofW hl12
          obtain ⟨z14, r14, rfl, hl14⟩ := cons_ofW hl13
          obtain ⟨z15, r15, rfl, hl15⟩ := cons_ofW hl14
          obtain ⟨z16, r16, rfl, hl16⟩ := cons_ofW hl15
          obtain ⟨z17, r17, rfl, hl17⟩ := cons_ofW hl16
          obtain ⟨z18, r18, rfl, hl18⟩ := cons_ofW hl17
          obtain ⟨z19, r19, rfl, hl19⟩ := cons_ofW hl18
          obtain ⟨z20, r20, rfl, hl20⟩ := cons_ofW hl19
          obtain ⟨z21, r21, rfl, hl21⟩ := cons_ofW hl20
          obtain ⟨z22, r22, rfl, hl22⟩ := cons_ofW hl21
          obtain ⟨z23, r23, rfl, hl23⟩ := cons_ofW hl22
          obtain ⟨z24, r24, rfl, hl24⟩ := cons_ofW hl23
          obtain ⟨z25, r25, rfl, hl25⟩ := cons_ofW hl24
          obtain ⟨z26, r26, rfl, hl26⟩ := cons_ofW hl25
          obtain ⟨z27, r27, rfl, hl27⟩ := cons_ofW hl26
          obtain ⟨z28, r28, rfl, hl28⟩ := cons_ofW hl27
          obtain ⟨z29, r29, rfl, hl29⟩ := cons_ofW hl28
          obtain ⟨z30, r30, rfl, hl30⟩ := cons_ofW hl29
          obtain ⟨z31, r31, rfl, hl31⟩ := cons_ofW hl30
          obtain rfl := List.length_eq_zero_iff.1 hl31
          exact ⟨z0, z1, z2, z3, z4, z5, z6, z7, z8, z9, z10, z11, z12, z13, z14, z15, z16, z17, z18, z19, z20, z21, z22, z23, z24, z25, z26, z27, z28, z29, z30, z31, rfl⟩
        obtain rfl : z31 = .bool false := h31
        have B9 := Lib.hid b8
        clear hu b8 hC H1 H2 H3
        simp only [regJ14t_ds, putAll, List.setIfInBounds_toArray, List.set_cons_succ, List.set_cons_zero]
        go_wp2_with fail
        refine regJ16 rfl _ (by simp) w8 g gc kd th tx pl v x why T V S q2 (fun wx h => HGK.out wx (B9.out.trans (h.mono B9.out.size))) (fun wx h => row_stays HRC.out (B9.out.trans (h.mono B9.out.size))) (fun wx h => H4.out wx (B9.out.trans (h.mono B9.out.size))) rfl rfl rfl rfl rfl ?_
        intro us w9 hu b9 h9
        obtain ⟨y0, y1, y2, y3, y4, y5, y6, y7, y8, y9, rfl⟩ : ∃ y0 y1 y2 y3 y4 y5 y6 y7 y8 y9 : Value, us = [y0, y1, y2, y3, y4, y5, y6, y7, y8, y9] := by
          obtain ⟨y0, r0, rfl, hl0⟩ := cons_ofW hu
          obtain ⟨y1, r1, rfl, hl1⟩ := cons_ofW hl0
          obtain ⟨y2, r2, rfl, hl2⟩ := cons_ofW hl1
          obtain ⟨y3, r3, rfl, hl3⟩ := cons_ofW hl2
          obtain ⟨y4, r4, rfl, hl4⟩ := cons_ofW hl3
          obtain ⟨y5, r5, rfl, hl5⟩ := cons_ofW hl4
          obtain ⟨y6, r6, rfl, hl6⟩ := cons_ofW hl5
          obtain ⟨y7, r7, rfl, hl7⟩ := cons_ofW hl6
          obtain ⟨y8, r8, rfl, hl8⟩ := cons_ofW hl7
          obtain ⟨y9, r9, rfl, hl9⟩ := cons_ofW hl8
          obtain rfl := List.length_eq_zero_iff.1 hl9
          exact ⟨y0, y1, y2, y3, y4, y5, y6, y7, y8, y9, rfl⟩
        obtain rfl : y9 = .bool true := h9
        have B10 : Hid (Below w.heap.size w w9) := HU.out w9 (B9.out.trans (b9.mono B9.out.size))
        clear hu b9
        simp only [regJ16_ds, putAll, List.setIfInBounds_toArray, List.set_cons_succ, List.set_cons_zero]
        go_wp2_with fail
        go_ret
        exact ⟨rfl, B10.out⟩
theorem EventJust_laid : laidOutB Tryd.prog = true := by kernel_rfl
set_option maxRecDepth 100000 in
theorem EventJust_lifted (os : Os) (started : os.Started) (H : Type) (enc : TypeId × Value → H) :
    ReturnsInHanded {} Tryd.checked os 7 .any (fun w args => (Rows.eventJustSpec.pre enc Tryd.prog Tryd.f7 [] false w args ∧ laidMetH Tryd.prog [("math/bits.deBruijn32tab", Rows.laid_math_bits_deBruijn32tab), ("math/bits.deBruijn64tab", Rows.laid_math_bits_deBruijn64tab), ("internal/strconv.uint64pow10", Rows.laid_internal_strconv_uint64pow10), ("strconv.ErrRange", Rows.laid_strconv_ErrRange), ("strconv.ErrSyntax", Rows.laid_strconv_ErrSyntax), ("seesaw/event.names", Rows.laid_seesaw_event_names)] w) ∧ sizedMet enc Tryd.prog Tryd.f7 (OpenSpec.ofChange Rows.eventJustSpec) false w args)
      (Rows.eventJustSpec.post enc Tryd.prog Tryd.f7 false true false false) := by
  refine returnsInHanded_of_change_and (C := Tryd.checked) (X := fun w _ => laidMetH Tryd.prog [("math/bits.deBruijn32tab", Rows.laid_math_bits_deBruijn32tab), ("math/bits.deBruijn64tab", Rows.laid_math_bits_deBruijn64tab), ("internal/strconv.uint64pow10", Rows.laid_internal_strconv_uint64pow10), ("strconv.ErrRange", Rows.laid_strconv_ErrRange), ("strconv.ErrSyntax", Rows.laid_strconv_ErrSyntax), ("seesaw/event.names", Rows.laid_seesaw_event_names)] w) (fun _ _ _ hh h => h.of_heap hh) lift_own started (by kernel_rfl) Tryd.func7
    (ChangeSpec.witness_shaped (enc := enc) (C := Tryd.checked) (os := os) (X := fun w _ => laidMetH Tryd.prog [("math/bits.deBruijn32tab", Rows.laid_math_bits_deBruijn32tab), ("math/bits.deBruijn64tab", Rows.laid_math_bits_deBruijn64tab), ("internal/strconv.uint64pow10", Rows.laid_internal_strconv_uint64pow10), ("strconv.ErrRange", Rows.laid_strconv_ErrRange), ("strconv.ErrSyntax", Rows.laid_strconv_ErrSyntax), ("seesaw/event.names", Rows.laid_seesaw_event_names)] w) false (World.doorLaid Tryd.prog 400 os) #[.agg #[.int .u8 0, .int .i64 0, .int .i64 0, .int .i64 0, .int .i64 0, .int .i64 0, .int .u8 0], .int .i64 0, .int .i64 0, .int .i64 0, .int .i64 0] 8 rfl (World.shaped_of_RefB (by kernel_rfl) (by kernel_rfl)) (by kernel_rfl) (by kernel_rfl) (by kernel_rfl) (door_metE os _)) ?_
  intro W base args ds gs before hval0 hW _ _ hL _
  have hval : ∀ (j : Nat) t v, Tryd.f7.params[j]? = some t → args[j]? = some v → Value.okWide Tryd.prog W .any base t v := hval0
  have hW' := hW
  obtain ⟨p, q, hA0, hV, rfl, hfz, hnd⟩ := hW
  have hA : DataW.TrodAll enc Tryd.prog W 0 (fun _ => true) true Tryd.f7.params.toList args.toList ds p := hA0
  rw [Tryd.params7] at hA hval
  obtain ⟨v0, vs0, d0, ds0, p0, q0, hargs, rfl, rfl, h0, r0⟩ := trodAll_cons hA
  obtain ⟨v1, vs1, d1, ds1, p1, q1, rfl, rfl, rfl, h1, r1⟩ := trodAll_cons r0
  obtain ⟨v2, vs2, d2, ds2, p2, q2, rfl, rfl, rfl, h2, r2⟩ := trodAll_cons r1
  obtain ⟨v3, vs3, d3, ds3, p3, q3, rfl, rfl, rfl, h3, r3⟩ := trodAll_cons r2
  obtain ⟨v4, vs4, d4, ds4, p4, q4, rfl, rfl, rfl, h4, r4⟩ := trodAll_cons r3
  obtain ⟨rfl, rfl, rfl⟩ := trodAll_nil r4
  obtain rfl : args = #[v0, v1, v2, v3, v4] := by cases args; simp_all
  obtain ⟨rfl, rfl⟩ := trodVars_none hV
  obtain ⟨e0, hE0, rfl⟩ := open_event (hval 0 23 v0 rfl rfl) h0
  obtain ⟨a1, rfl, rfl, rfl, w1⟩ := open_int Tryd.underlying3 (hval 1 3 v1 rfl rfl) h1
  obtain ⟨a2, rfl, rfl, rfl, w2⟩ := open_int Tryd.underlying3 (hval 2 3 v2 rfl rfl) h2
  obtain ⟨a3, rfl, rfl, rfl, w3⟩ := open_int Tryd.underlying3 (hval 3 3 v3 rfl rfl) h3
  obtain ⟨a4, rfl, rfl, rfl, w4⟩ := open_int Tryd.underlying3 (hval 4 3 v4 rfl rfl) h4
  clear hA0 hval0
  simp only [List.append_nil] at hW'
  try simp only [List.nil_append] at hW'
  refine (EventJust_walk e0 hE0 a1 (lit_range2 w1).1 (lit_range2 w1).2 a2 (lit_range2 w2).1 (lit_range2 w2).2 a3 (lit_range2 w3).1 (lit_range2 w3).2 a4 (lit_range2 w4).1 (lit_range2 w4).2 W (ek_of_laidE hL)).mono fun e W' ⟨he, hg⟩ => ?_
  subst he
  exact ⟨_, rfl, lift_post (pv := []) hW' (fun _ _ _ => (trodAll_cons_mk (shut_bool Tryd.underlying4 _) trodAll_mk0)) (fun sp hsp => (trodAll_cons_mk (WideElems.Trod_stays EventJust_laid (by kernel_rfl) (of_decide_eq_true (by kernel_rfl)) h0 (fun x hx => hg.same (hW'.lt x (by simp [hx]))) (fun x hx => hsp x (by simp [hx]))) (trodAll_cons_mk (shut_int Tryd.underlying3 w1) (trodAll_cons_mk (shut_int Tryd.underlying3 w2) (trodAll_cons_mk (shut_int Tryd.underlying3 w3) (trodAll_cons_mk (shut_int Tryd.underlying3 w4) trodAll_mk0)))))) (fun _ _ => rfl) (by simp)
    hg (ok_one (by kernel_rfl) rfl (okWide_bool_mk Tryd.underlying4 _))⟩
/-- THE STATEMENT of EventJust: for every input the call returns true, and each argument reads behind it as before. -/
theorem EventJust_holds : Rows.EventJustSaid :=
  OpenClaim.holds_of_wide 7 Tryd.f7 rfl rfl rfl rfl rfl rfl rfl ⟨rfl, rfl, rfl, rfl, rfl⟩ rfl rfl rfl rfl rfl (by kernel_rfl) Tryd.func7 (by kernel_rfl)
    (of_decide_eq_true (by kernel_rfl)) (by unfold Func.isWrapper; first | (rw [if_pos (by decide +kernel)]; kernel_rfl) | (rw [if_neg (by decide +kernel)]; exact ⟨rfl, rfl⟩))
    (fun os started H enc _ => EventJust_lifted os started H enc)
/-- THE TIED CARD of EventJust. -/
theorem EventJustCard_holds : Rows.EventJustCardSaid :=
  Claim7.holds_tied_plain_at .later [] [.data, .data, .data, .sentinel, .sentinel, .data] true Rows.eventJustCard.stood.harness true
    EventJust_holds (fun _ h => by cases h) (by kernel_rfl) (fun _ h => by cases h) eventJust_row_tie rfl ⟨rfl, rfl⟩ (by kernel_rfl) rfl
    (fun f fn hf hfn => by
      obtain rfl : f = 7 := Option.some.inj ((show Tryd.prog.funcNamed "seesaw/seesawlaw12.EventJust" = some 7 by kernel_rfl).symm.trans hf) |>.symm
      obtain rfl : fn = Tryd.f7 := (Option.some.inj (Tryd.func7.symm.trans hfn)).symm
      exact ⟨by kernel_rfl, fun j t ht => by
        rw [Tryd.params7] at ht
        have hm : t ∈ [23, 3, 3, 3, 3] := by simpa using Array.mem_of_getElem? ht
        have hall : ([23, 3, 3, 3, 3].all fun u => !Tryd.prog.wantsStandIn u) = true := by kernel_rfl
        exact (show Tryd.prog.wantsStandIn t = false by simpa using List.all_eq_true.1 hall t hm)⟩)
    (by kernel_rfl)
end Go.Proofs.YtjholjlmlglgnaaDoor
