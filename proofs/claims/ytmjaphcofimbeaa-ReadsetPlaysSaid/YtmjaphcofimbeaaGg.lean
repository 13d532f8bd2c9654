/-
  CONTRACT OF PACKAGE readset's Wakes (layer 10). Conditions: as they stand.
-/
import Derived.Test.YtmjaphcofimbeaaGf
import Derived.Test.YtmjaphcofimbeaaRq
namespace Go.Proofs.Ytmjaphcofimbeaa
set_option maxRecDepth 100000
open Go.RowKit Go.Shelf
set_option linter.unusedVariables false
attribute [local go_sem] Oper.semAt_some
/-- Whether a stripe that was read wakes. -/
def wkF (rv : Int) (ow ve : List Int) (x : Nat) : Bool := decide (atF ow x (-1) = -1) && decide (rv < atF ve x 0)
theorem box_alloc {W : World} {B : Nat} {t : TypeId} {v : Value} (h : _root_.Go.Boxed W B t v) (o : Obj) : _root_.Go.Boxed (W.alloc o) B t v := (heap_alloc_old W o h.lt).trans h
set_option maxHeartbeats 4000000 in
theorem wakes_core (n : Nat) (hn : 6 ≤ n) (pq : Option Addr) (g : Nat) (rv : Int) (N0 : Nat) (hp : pq = some ⟨g, 0, none⟩ ∨ N0 = 0) (A B : Option Addr) (c d : Nat) (ow ve : List Int) (w : World) (hc0 : N0 ≠ 0 → w.cell? ⟨g, 0, none⟩ = some (.int .i64 rv) ∧ g < w.heap.size) (hA : Ints w w.heap.size A ow) (hB : Ints w w.heap.size B ve) (l : List Nat) (Sp : List Nat → Prop) (hSp : ∀ ys, Sp ys → ys <+: l)
    (hseq : ∀ W0 : World, Below w.heap.size w W0 → W0.heap.size = w.heap.size + 5 → _root_.Go.Boxed W0 (w.heap.size + 4) 24 (.pointer pq) → SeqO Fence.wide (n - 1) Try.prog 24 #[.pointer (some ⟨w.heap.size + 4, 0, none⟩)] encN (Below (w.heap.size + 5)) (fun ys => ys = l) Sp N0 W0) :
    CallsIn Fence.wide n Try.prog 18 #[.pointer pq, .slice A ow.length c, .slice B ve.length d] w fun e w' => e = .returned (.bool (l.any (wkF rv ow ve))) ∧ Below w.heap.size w w' := by
  have h1 : 1 ≤ n := by omega
  have hfl : Fence.wide.fn 21 := trivial
  have hfa : Fence.wide.fn 22 := trivial
  obtain ⟨res, hres⟩ : ∃ res, res = l.any (wkF rv ow ve) := ⟨_, rfl⟩
  rw [← hres]
  refine callsIn_of_wp_marks Try.func18 rfl trivial ?_ rfl
  simp only [Try.ntmps18, List.size_toArray, List.length_cons, List.length_nil, Nat.reduceAdd, Nat.reduceSub, Array.replicate_succ, Array.replicate_zero, List.push_toArray, List.append_toArray, List.nil_append, List.cons_append]
  gi_wp2_with (first
    | (gi_at_call 21; refine (rising_in Fence.wide (n - 1) trivial rfl _ _).mono ?_; rintro e w' ⟨rfl, rfl⟩)
    | gi_in)
  obtain ⟨W0, hW0⟩ : ∃ W0, W0 = ((((w.alloc (.cells #[.pointer pq] 24)).alloc (.cells #[.slice A ow.length c] 22)).alloc (.cells #[.slice B ve.length d] 22)).alloc (.cells #[.bool false] 4)).alloc (.cells #[.pointer pq] 24) := ⟨_, rfl⟩
  have hz0 : W0.heap.size = w.heap.size + 5 := by rw [hW0]; simp
  have hB0 : Below w.heap.size w W0 := by rw [hW0]; exact (((((Below.refl _ w).alloc (Nat.le_refl _) _).alloc (by simp) _).alloc (by simp; omega) _).alloc (by simp; omega) _).alloc (by simp; omega) _
  have b0 : _root_.Go.Boxed W0 w.heap.size 24 (.pointer pq) := by
    rw [hW0]
    exact box_alloc (box_alloc (box_alloc (box_alloc (_root_.Go.Boxed.new w _ _) _) _) _) _
  have b1 : _root_.Go.Boxed W0 (w.heap.size + 1) 22 (.slice A ow.length c) := by
    rw [hW0]
    have := box_alloc (box_alloc (box_alloc (_root_.Go.Boxed.new (w.alloc (.cells #[.pointer pq] 24)) 22 (.slice A ow.length c)) (.cells #[.slice B ve.length d] 22)) (.cells #[.bool false] 4)) (.cells #[.pointer pq] 24)
    rwa [World.size_alloc] at this
  have b2 : _root_.Go.Boxed W0 (w.heap.size + 2) 22 (.slice B ve.length d) := by
    rw [hW0]
    have := box_alloc (box_alloc (_root_.Go.Boxed.new ((w.alloc (.cells #[.pointer pq] 24)).alloc (.cells #[.slice A ow.length c] 22)) 22 (.slice B ve.length d)) (.cells #[.bool false] 4)) (.cells #[.pointer pq] 24)
    rwa [World.size_alloc, World.size_alloc] at this
  have b3 : _root_.Go.Boxed W0 (w.heap.size + 3) 4 (.bool false) := by
    rw [hW0]
    have := box_alloc (_root_.Go.Boxed.new (((w.alloc (.cells #[.pointer pq] 24)).alloc (.cells #[.slice A ow.length c] 22)).alloc (.cells #[.slice B ve.length d] 22)) 4 (.bool false)) (.cells #[.pointer pq] 24)
    rwa [World.size_alloc, World.size_alloc, World.size_alloc] at this
  have b4 : _root_.Go.Boxed W0 (w.heap.size + 4) 24 (.pointer pq) := by
    rw [hW0]
    have := _root_.Go.Boxed.new ((((w.alloc (.cells #[.pointer pq] 24)).alloc (.cells #[.slice A ow.length c] 22)).alloc (.cells #[.slice B ve.length d] 22)).alloc (.cells #[.bool false] 4)) 24 (.pointer pq)
    rwa [World.size_alloc, World.size_alloc, World.size_alloc, World.size_alloc] at this
  have hs0 := hseq W0 hB0 hz0 b4
  rw [← hW0]
  clear hW0
  have hlow : ∀ W, Below (w.heap.size + 5) W0 W → Below w.heap.size w W := fun W h => hB0.trans (h.mono (by omega))
  refine loopB (F := Fence.wide) rfl h1 (gf := 24) (lb := #[.pointer (some ⟨w.heap.size + 4, 0, none⟩)]) rfl trivial (enters_of Try.func24 (by kernel_rfl) rfl) hs0 (by omega) (fun _ => rfl)
    (fun pre W => (∀ x ∈ pre, wkF rv ow ve x = false) ∧ Below (w.heap.size + 5) W0 W)
    (fun pre W => (∃ y x, pre = y ++ [x] ∧ wkF rv ow ve x = true ∧ _root_.Go.Boxed W (w.heap.size + 3) 4 (.bool true)) ∧ Below w.heap.size w W)
    (OwnFrom.and (fun s A B row hs hg hr => hs) (ownFrom_below (by omega) (by omega)))
    (OwnFrom.and (fun s A B row hs hg hr => by
      obtain ⟨y, x, e1, e2, b⟩ := hs
      exact ⟨y, x, e1, e2, own_box _ _ (fun _ : Unit => .bool true) W0.heap.size () A B row b hg hr⟩) (ownFrom_below (Nat.le_refl _) (by omega)))
    ⟨by simp, Below.refl _ _⟩
    (fun x => { tmps := #[.pointer pq, .slice A ow.length c, .slice B ve.length d, .pointer (some ⟨w.heap.size, 0, none⟩), .pointer (some ⟨w.heap.size + 1, 0, none⟩), .pointer (some ⟨w.heap.size + 1 + 1, 0, none⟩), .pointer (some ⟨w.heap.size + 1 + 1 + 1, 0, none⟩), .int .i64 x, .pointer pq, .func (.func 24) #[] #[.pointer (some ⟨w.heap.size + 1 + 1 + 1 + 1, 0, none⟩)], .int .i64 x, undef, undef, undef, undef, undef, undef, undef, undef, undef, undef, undef, undef, undef, undef], defers := [] }) ?assign ?body ?done ?stop
  case assign =>
    intro l2 x W4 K hK
    unfold encN
    gi_wp2
    exact hK
  case body =>
    rintro l2 pre x W4 ⟨hp0, hB4⟩ hlen
    have c0 := (hB4.cell (p := ⟨w.heap.size, 0, none⟩) (by show w.heap.size < _; omega)).trans b0.cell
    have c1 := (hB4.cell (p := ⟨w.heap.size + 1, 0, none⟩) (by show w.heap.size + 1 < _; omega)).trans b1.cell
    have c2 := (hB4.cell (p := ⟨w.heap.size + 1 + 1, 0, none⟩) (by show w.heap.size + 1 + 1 < _; omega)).trans b2.cell
    have c3 := (hB4.cell (p := ⟨w.heap.size + 1 + 1 + 1, 0, none⟩) (by show w.heap.size + 1 + 1 + 1 < _; omega)).trans b3.cell
    have f3 : W4.frozen? ⟨w.heap.size + 1 + 1 + 1, 0, none⟩ = false := (hB4.frozen (p := ⟨w.heap.size + 3, 0, none⟩) (by show w.heap.size + 3 < _; omega)).trans b3.frozen
    have hpq : pq = some ⟨g, 0, none⟩ := by rcases hp with h | h; exact h; omega
    subst hpq
    have cr := ((hlow _ hB4).cell (p := ⟨g, 0, none⟩) (hc0 (by omega)).2).trans (hc0 (by omega)).1
    have hA4 := hA.below (hlow _ hB4) (Nat.le_refl _)
    have hB5 := hB.below (hlow _ hB4) (Nat.le_refl _)
    have q1 : ∀ W5, Below W4.heap.size W4 W5 → ∀ k, CallsIn (Fence.wide.inRound l2) k Try.prog 22 #[.slice A ow.length c, .int .i64 x, .int .i64 (-1)] W5 fun e w' => e = .returned (.int .i64 (atF ow x (-1))) ∧ W5 = w' := fun W5 h5 k => CallsIn.inRound l2 (callsIn_wide.2 (at_any (hA4.below h5 (hlow _ hB4).size) c x (-1)))
    have q2 : ∀ W5, Below W4.heap.size W4 W5 → ∀ k, CallsIn (Fence.wide.inRound l2) k Try.prog 22 #[.slice B ve.length d, .int .i64 x, .int .i64 0] W5 fun e w' => e = .returned (.int .i64 (atF ve x 0)) ∧ W5 = w' := fun W5 h5 k => CallsIn.inRound l2 (callsIn_wide.2 (at_any (hB5.below h5 (hlow _ hB4).size) d x 0))
    have hwk : wkF rv ow ve x = (decide (atF ow x (-1) = -1) && decide (rv < atF ve x 0)) := rfl
    obtain ⟨u, hu⟩ : ∃ u, u = atF ow x (-1) := ⟨_, rfl⟩
    obtain ⟨v, hv⟩ : ∃ v, v = atF ve x 0 := ⟨_, rfl⟩
    rw [← hu] at q1 hwk
    rw [← hv] at q2 hwk
    have HR : Hid (∀ xs, (∀ x ∈ xs, wkF rv ow ve x = false) → wkF rv ow ve x = false → ∀ y ∈ xs ++ [x], wkF rv ow ve y = false) := fun xs h1 h2 y hy => by
      rcases List.mem_append.1 hy with h | h
      · exact h1 y h
      · rw [List.mem_singleton.1 h]; exact h2
    have HP := Lib.hid hp0
    have HB4 := Lib.hid hB4
    have HLW := Lib.hid (hlow _ hB4)
    have B3 : Hid (∀ k, _root_.Go.Boxed (W4.drewN k) (w.heap.size + 3) 4 (.bool false)) := fun k => (hB4.block _ (by omega)).trans b3
    have HD : Fence.wide.depth.isSome = true → 1 ≤ n - 1 - 1 := fun h => by cases h
    have Q1 := Lib.hid (fun (k j : Nat) => And.intro HD ((q1 (W4.drewN k) (drewN_below2 _ _) j).mono fun e w' ⟨a, b⟩ => (⟨a, b.symm⟩ : _ ∧ w' = W4.drewN k)))
    have Q2 := Lib.hid (fun (k j : Nat) => And.intro HD ((q2 (W4.drewN k) (drewN_below2 _ _) j).mono fun e w' ⟨a, b⟩ => (⟨a, b.symm⟩ : _ ∧ w' = W4.drewN k)))
    clear hu hv hseq hs0 b0 b1 b2 b4 hlow hA4 hB5 hA hB hp0 hc0 q1 q2 hp
    by_cases hu1 : u = -1
    · have i1 : (u == -1) = true := beq_iff_eq.2 hu1
      by_cases hv1 : rv < v
      · have HW : Hid (wkF rv ow ve x = true) := by show _ = _; rw [hwk]; simp [hu1, hv1]
        have i2 : decide (rv < v) = true := decide_eq_true hv1
        clear hwk hu1
        gi_wp2
        refine wpIn_region_quietR rfl (by kernel_rfl) (by kernel_rfl) (by kernel_rfl) ?_
        iterate 7 (gi_big_quiet_step (exact ⟨(Q1.out 0 0).1, CallsIn.quiet_of_same (Q1.out _ _).2⟩))
        repeat (gi_big_quiet_step (exact ⟨(Q1.out 0 0).1, CallsIn.quiet_of_same (Q2.out _ _).2⟩))
        refine wpQuietIn_nil ?_
        intro _ hw'
        obtain ⟨nq, hw''⟩ := hw'
        subst hw''
        gi_wp2
        have hk : KeepsFrom W0.heap.size W4 (W4.drewN nq) := ⟨Nat.le_refl _, fun _ _ _ h _ => h⟩
        exact ⟨hk.trans ((KeepsOthers.setCell _ _ _).from _), ⟨pre, x, rfl, HW.out, (B3.out nq).set _⟩, (HLW.out.trans ((drewN_below2 W4 nq).mono HLW.out.size)).setCell (p := ⟨w.heap.size + 1 + 1 + 1, 0, none⟩) (by show _ ≤ w.heap.size + 1 + 1 + 1; omega) _⟩
      · have HW : Hid (wkF rv ow ve x = false) := by show _ = _; rw [hwk]; simp [hu1, hv1]
        have i2 : decide (rv < v) = false := decide_eq_false hv1
        clear hwk hu1
        gi_wp2
        refine wpIn_region_quietR rfl (by kernel_rfl) (by kernel_rfl) (by kernel_rfl) ?_
        iterate 7 (gi_big_quiet_step (exact ⟨(Q1.out 0 0).1, CallsIn.quiet_of_same (Q1.out _ _).2⟩))
        repeat (gi_big_quiet_step (exact ⟨(Q1.out 0 0).1, CallsIn.quiet_of_same (Q2.out _ _).2⟩))
        refine wpQuietIn_nil ?_
        intro _ hw'
        obtain ⟨nq, hw''⟩ := hw'
        subst hw''
        gi_wp2
        exact ⟨⟨Nat.le_refl _, fun _ _ _ h _ => h⟩, (drewN_below2 W4 nq).mono (by have := HB4.out.size; omega), HR.out _ HP.out HW.out, HB4.out.trans ((drewN_below2 W4 nq).mono (by have := HB4.out.size; omega))⟩
    · have i1 : (u == -1) = false := beq_eq_false_iff_ne.2 hu1
      have HW : Hid (wkF rv ow ve x = false) := by show _ = _; rw [hwk]; simp [hu1]
      clear hwk hu1
      gi_wp2
      refine wpIn_region_quietR rfl (by kernel_rfl) (by kernel_rfl) (by kernel_rfl) ?_
      iterate 7 (gi_big_quiet_step (exact ⟨(Q1.out 0 0).1, CallsIn.quiet_of_same (Q1.out _ _).2⟩))
      repeat (gi_big_quiet_step (fail))
      refine wpQuietIn_nil ?_
      intro _ hw'
      obtain ⟨nq, hw''⟩ := hw'
      subst hw''
      gi_wp2
      exact ⟨⟨Nat.le_refl _, fun _ _ _ h _ => h⟩, (drewN_below2 W4 nq).mono (by have := HB4.out.size; omega), HR.out _ HP.out HW.out, HB4.out.trans ((drewN_below2 W4 nq).mono (by have := HB4.out.size; omega))⟩
  case done =>
    rintro xs W4 hxs ⟨hp0, hB4⟩ hK
    have bb3 : _root_.Go.Boxed W4 (w.heap.size + 3) 4 (.bool false) := (hB4.block _ (by omega)).trans b3
    have c3 := bb3.cell
    have f3 := bb3.frozen
    gi_wp2
    have hr0 : res = false := by
      rw [hres, ← hxs]
      exact List.any_eq_false.2 fun y hy => by rw [hp0 y hy]; decide
    subst hr0
    have hK9 : (W4.setCell ⟨w.heap.size + 1 + 1 + 1, 0, none⟩ (.bool false)).heap[W0.heap.size]? = some (.deferred (some [])) := (KeepsOthers.setCell _ _ _).same _ _ hK rfl
    have hB9 : Below w.heap.size w (W4.setCell ⟨w.heap.size + 1 + 1 + 1, 0, none⟩ (.bool false)) := (hlow _ hB4).setCell (p := ⟨w.heap.size + 1 + 1 + 1, 0, none⟩) (by show _ ≤ w.heap.size + 1 + 1 + 1; omega) _
    have q1 := cell_kept ((bb3.set (.bool false)).cell) (grownBy_putObj' _ W0.heap.size (.deferred none)) (fun r e => by cases e; exact ⟨_, hK9, rfl⟩)
    refine ⟨by simp, .inl ⟨_, _, rfl, run_takeDeferred hK9, ?_⟩⟩
    refine ⟨.bool false, ?_, rfl, hB9.trans (belowK_b (w := w) (Nat.le_refl _) _ _ _ _ (by omega) hK9 rfl rfl)⟩
    simp [results, Try.f18, go_sem, q1]
  case stop =>
    rintro pre W4 hsp ⟨⟨y, x, rfl, e2, bb⟩, hB4⟩ hK
    gi_wp2
    have hr0 : res = true := by
      rw [hres]
      obtain ⟨r, hr⟩ := hSp _ hsp
      rw [← hr]
      exact List.any_eq_true.2 ⟨x, by simp, e2⟩
    subst hr0
    have q1 := cell_kept bb.cell (grownBy_putObj' _ W0.heap.size (.deferred none)) (fun r e => by cases e; exact ⟨_, hK, rfl⟩)
    refine ⟨by simp, .inl ⟨_, _, rfl, run_takeDeferred hK, ?_⟩⟩
    refine ⟨.bool true, ?_, rfl, hB4.trans (belowK_b (w := w) (Nat.le_refl _) _ _ _ _ (by omega) hK rfl rfl)⟩
    simp [results, Try.f18, go_sem, q1]
/-- Whether an attempt may wake. -/
def wakeF (rv st : Int) (f : Nat → Bool) (ow ve : List Int) : Bool := (riseK f st.toNat).any (wkF rv ow ve)
theorem wakes_any {w : World} {g : Nat} {rv st : Int} {f : Nat → Bool} (h : SetAt w g rv st f) {A B : Option Addr} {ow ve : List Int} (hA : Ints w w.heap.size A ow) (hB : Ints w w.heap.size B ve) (c d : Nat) : Calls Try.prog 18 #[.pointer (some ⟨g, 0, none⟩), .slice A ow.length c, .slice B ve.length d] w fun e w' => e = .returned (.bool (wakeF rv st f ow ve)) ∧ Below w.heap.size w w' := by
  have hlt := h.lt
  refine callsIn_wide.1 (wakes_core 10 (by omega) (some ⟨g, 0, none⟩) g rv 32 (.inl rfl) A B c d ow ve w (fun _ => ⟨h.c0, hlt⟩) hA hB (riseK f st.toNat) (fun ys => ys <+: riseK f st.toNat) (fun _ h => h) (fun W0 hb hz hx => ?_))
  exact rise_seq _ (by omega) (w.heap.size + 4) (w.heap.size + 5) g rv st f W0 hx (by omega) (by omega) (by omega) (h.below hb)
theorem wakes_nil {w : World} {A B : Option Addr} {ow ve : List Int} (hA : Ints w w.heap.size A ow) (hB : Ints w w.heap.size B ve) (c d : Nat) : Calls Try.prog 18 #[.pointer none, .slice A ow.length c, .slice B ve.length d] w fun e w' => e = .returned (.bool false) ∧ Below w.heap.size w w' := by
  refine callsIn_wide.1 ((wakes_core 10 (by omega) none 0 0 0 (.inr rfl) A B c d ow ve w (fun h => absurd rfl h) hA hB [] (fun _ => False) (fun _ h => h.elim) (fun W0 hb hz hx => ?_)))
  intro l J Jx W hW hJ hJx hY h0
  exact (rise_nil _ l _ J W ((hW.block _ hx.lt).trans hx) h0).mono fun e W' ⟨hv, hj⟩ => ⟨hv, .inl ⟨[], rfl, hj⟩⟩
end Go.Proofs.Ytmjaphcofimbeaa
