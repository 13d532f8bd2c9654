/-
  CONTRACT OF seesawlaw08's awake: the examples: it says yes, and makes new memory alone. Conditions: as they stand.
-/
import Derived.Test.YtmjcipojidimgaaLv
namespace Go.Proofs.Ytmjcipojidimgaa
set_option maxRecDepth 100000
open Go.RowKit Go.Maps Go.Shelf
set_option linter.unusedVariables false
/-- How things are: the buffer at q has the levels T; its variable lies at bb; nothing that lay in w0 has turned. -/
def AW (w0 : World) (q bb : Nat) (T : List (List Pr)) (w : World) : Prop := ∃ S, RB w q S T ∧ ¬ S bb ∧ (∀ b, S b → w0.heap.size ≤ b) ∧ w.cell? ⟨bb, 0, none⟩ = some (.pointer (some ⟨q, 0, none⟩)) ∧ bb < w.heap.size ∧ Below w0.heap.size w0 w
theorem AW.cell {w0 : World} {q bb : Nat} {T : List (List Pr)} {w : World} (h : AW w0 q bb T w) : w.cell? ⟨bb, 0, none⟩ = some (.pointer (some ⟨q, 0, none⟩)) := by obtain ⟨S, _, _, _, h, _⟩ := h; exact h
theorem AW.low {w0 : World} {q bb : Nat} {T : List (List Pr)} {w : World} (h : AW w0 q bb T w) : Below w0.heap.size w0 w := by obtain ⟨S, _, _, _, _, _, h⟩ := h; exact h
theorem AW.step {w0 : World} {q bb : Nat} {S S' : Nat → Prop} {T' : List (List Pr)} {w w' : World} (hr : RB w' q S' T') (hS' : ∀ b, S' b → S b ∨ w.heap.size ≤ b) (hF : Fro S w w') (hb : ¬ S bb) (hS : ∀ b, S b → w0.heap.size ≤ b) (hc : w.cell? ⟨bb, 0, none⟩ = some (.pointer (some ⟨q, 0, none⟩))) (hlt : bb < w.heap.size) (hB : Below w0.heap.size w0 w) : AW w0 q bb T' w' := by
  refine ⟨S', hr, fun h => ?_, fun b h => ?_, ?_, Nat.lt_of_lt_of_le hlt hF.size, hB.trans (hF.below hS hB.size)⟩
  · rcases hS' bb h with h | h
    · exact hb h
    · omega
  · rcases hS' b h with h | h
    · exact hS b h
    · have := hB.size; omega
  · exact (World.cell?_of_block (hF.block bb hlt hb)).trans hc
theorem AW.below {w0 : World} {q bb : Nat} {T : List (List Pr)} {w w' : World} (h : AW w0 q bb T w) (hB' : Below w.heap.size w w') : AW w0 q bb T w' := by
  obtain ⟨S, hr, hb, hS, hc, hlt, hB⟩ := h
  have hF : Fro S w w' := Fro.of_below hB' (Nat.le_refl _)
  exact AW.step (hr.keep (Fro.of_below (S := fun _ => False) hB' (Nat.le_refl _)) (fun _ _ h => h)) (fun b h => .inl h) hF hb hS hc hlt hB
section
variable {w0 : World} {q bb : Nat} {T : List (List Pr)} {w : World}
theorem aw_put (h : AW w0 q bb T w) (hT : (flat T).length ≤ 1000) (v x : Int) (hv : wfI v) (hx : wfI x) : Calls Try.prog 13 #[.pointer (some ⟨q, 0, none⟩), .int .i64 v, .int .i64 x] w fun e w' => e = .returned (.int .i64 0) ∧ AW w0 q bb (putT v x T) w' := by
  obtain ⟨S, hr, hb, hS, hc, hlt, hB⟩ := h
  exact (put_any q S T v x hv hx w hr (by omega)).mono fun e w' ⟨he, S', h1, h2, h3⟩ => ⟨he, AW.step h1 h2 h3 hb hS hc hlt hB⟩
theorem aw_push (h : AW w0 q bb T w) (hT : T.length ≤ 1000) : Calls Try.prog 15 #[.pointer (some ⟨q, 0, none⟩)] w fun e w' => e = .returned (.int .i64 0) ∧ AW w0 q bb ([] :: T) w' := by
  obtain ⟨S, hr, hb, hS, hc, hlt, hB⟩ := h
  exact (push_any q S T w hr (by omega)).mono fun e w' ⟨he, S', h1, h2, h3⟩ => ⟨he, AW.step h1 h2 h3 hb hS hc hlt hB⟩
theorem aw_drop (h : AW w0 q bb T w) (hT : T.length ≤ 1000) : Calls Try.prog 17 #[.pointer (some ⟨q, 0, none⟩)] w fun e w' => e = .returned (.int .i64 (if T.length < 2 then 7 else 0)) ∧ AW w0 q bb (dropT T) w' := by
  obtain ⟨S, hr, hb, hS, hc, hlt, hB⟩ := h
  exact (drop_any q S T w hr (by omega)).mono fun e w' ⟨he, h1, h3⟩ => ⟨he, AW.step h1 (fun b h => .inl h) h3 hb hS hc hlt hB⟩
theorem aw_merge (h : AW w0 q bb T w) (hT : T.length ≤ 1000) (hT2 : (flat T).length ≤ 1000) : Calls Try.prog 19 #[.pointer (some ⟨q, 0, none⟩)] w fun e w' => e = .returned (.int .i64 (if T.length < 2 then 7 else 0)) ∧ AW w0 q bb (mergeT T) w' := by
  obtain ⟨S, hr, hb, hS, hc, hlt, hB⟩ := h
  exact (merge_any q S T w hr (by omega) (by omega)).mono fun e w' ⟨he, h1, h3⟩ => ⟨he, AW.step h1 (fun b h => .inl h) h3 hb hS hc hlt hB⟩
theorem aw_get (h : AW w0 q bb T w) (hT : T.length ≤ 1000) (hT2 : (flat T).length ≤ 1000) (v : Int) (hv : wfI v) : Calls Try.prog 21 #[.pointer (some ⟨q, 0, none⟩), .int .i64 v] w fun e w' => e = .returned (got (saysL T v)) ∧ AW w0 q bb T w' := by
  have h0 := h
  obtain ⟨S, hr, _⟩ := h
  exact (get_any q S T v hv w hr hT hT2).mono fun e w' ⟨he, hB'⟩ => ⟨he, h0.below hB'⟩
set_option maxHeartbeats 1000000 in
theorem aw_has (h : AW w0 q bb T w) (hT : T.length ≤ 1000) (hT2 : (flat T).length ≤ 1000) (v x : Int) (hv : wfI v) : Calls Try.prog 29 #[.int .i64 v, .int .i64 x, .pointer (some ⟨bb, 0, none⟩)] w fun e w' => e = .returned (.bool (decide (saysL T v = some x))) ∧ AW w0 q bb T w' := by
  have cb := h.cell
  have hc := aw_get h hT hT2 v hv
  clear h hT hT2 hv
  obtain ⟨r, hr⟩ : ∃ r, r = saysL T v := ⟨_, rfl⟩
  rw [← hr] at hc ⊢
  clear hr
  cases r with
  | none =>
    have e1 : got none = .tuple #[.int .i64 0, .bool false] := rfl
    rw [e1] at hc
    go_enter Try.func29, Try.ntmps29
    go_wp2_with (go_at_call 21; refine hc.mono ?_; rintro e w' ⟨rfl, ha⟩)
    go_ret
    exact ⟨by simp, ha⟩
  | some y =>
    have e1 : got (some y) = .tuple #[.int .i64 y, .bool true] := rfl
    rw [e1] at hc
    have e2 : decide (some y = some x) = (y == x) := by by_cases h : y = x <;> simp [h]
    rw [e2]
    go_enter Try.func29, Try.ntmps29
    go_wp2_with (go_at_call 21; refine hc.mono ?_; rintro e w' ⟨rfl, ha⟩)
    go_ret
    exact ⟨rfl, ha⟩
end
theorem aw_new (w : World) : Calls Try.prog 9 #[] w fun e w' => e = .returned (.pointer (some ⟨w.heap.size, 0, none⟩)) ∧ w'.heap.size = w.heap.size + 1 ∧ AW w w.heap.size (w.heap.size + 1) [[]] (w'.alloc (.cells #[.pointer (some ⟨w.heap.size, 0, none⟩)] 24)) := by
  refine (new_any w).mono ?_
  rintro e w' ⟨he, hr, hB, hz⟩
  refine ⟨he, hz, fun b => b = w.heap.size, hr.keep (Fro.of_below (S := fun _ => False) ((Below.refl _ w').alloc (Nat.le_refl _) _) (Nat.le_refl _)) (fun _ _ h => h), by simp, fun b h => by rw [h]; exact Nat.le_refl _, ?_, by simp [hz], hB.alloc (by omega) _⟩
  have := World.alloc_heap_new w' (.cells #[.pointer (some ⟨w.heap.size, 0, none⟩)] 24)
  rw [hz] at this
  simp [World.cell?, this]
theorem wf5 : wfI 1 ∧ wfI 2 ∧ wfI 5 ∧ wfI 7 ∧ wfI 8 := by refine ⟨?_, ?_, ?_, ?_, ?_⟩ <;> rfl
theorem aw_hasT {w0 : World} {q bb : Nat} {T : List (List Pr)} {w : World} (h : AW w0 q bb T w) (hT : T.length ≤ 1000) (hT2 : (flat T).length ≤ 1000) (v x : Int) (hv : wfI v) (hs : saysL T v = some x) : Calls Try.prog 29 #[.int .i64 v, .int .i64 x, .pointer (some ⟨bb, 0, none⟩)] w fun e w' => e = .returned (.bool true) ∧ AW w0 q bb T w' := by
  have := aw_has h hT hT2 v x hv
  rwa [hs, decide_eq_true rfl] at this
theorem aw_drop0 {w0 : World} {q bb : Nat} {T : List (List Pr)} {w : World} (h : AW w0 q bb T w) (hT : T.length ≤ 1000) (hl : ¬ T.length < 2) : Calls Try.prog 17 #[.pointer (some ⟨q, 0, none⟩)] w fun e w' => e = .returned (.int .i64 0) ∧ AW w0 q bb (dropT T) w' := by
  have := aw_drop h hT
  rwa [if_neg hl] at this
theorem aw_drop7 {w0 : World} {q bb : Nat} {T : List (List Pr)} {w : World} (h : AW w0 q bb T w) (hT : T.length ≤ 1000) (hl : T.length < 2) : Calls Try.prog 17 #[.pointer (some ⟨q, 0, none⟩)] w fun e w' => e = .returned (.int .i64 7) ∧ AW w0 q bb (dropT T) w' := by
  have := aw_drop h hT
  rwa [if_pos hl] at this
theorem aw_merge0 {w0 : World} {q bb : Nat} {T : List (List Pr)} {w : World} (h : AW w0 q bb T w) (hT : T.length ≤ 1000) (hT2 : (flat T).length ≤ 1000) (hl : ¬ T.length < 2) : Calls Try.prog 19 #[.pointer (some ⟨q, 0, none⟩)] w fun e w' => e = .returned (.int .i64 0) ∧ AW w0 q bb (mergeT T) w' := by
  have := aw_merge h hT hT2
  rwa [if_neg hl] at this
theorem aw_getN {w0 : World} {q bb : Nat} {T : List (List Pr)} {w : World} (h : AW w0 q bb T w) (hT : T.length ≤ 1000) (hT2 : (flat T).length ≤ 1000) (v : Int) (hv : wfI v) (hs : saysL T v = none) : Calls Try.prog 21 #[.pointer (some ⟨q, 0, none⟩), .int .i64 v] w fun e w' => e = .returned (.tuple #[.int .i64 0, .bool false]) ∧ AW w0 q bb T w' := by
  have := aw_get h hT hT2 v hv
  rwa [hs] at this
set_option maxRecDepth 100000 in
set_option maxHeartbeats 8000000 in
theorem awake_any (w : World) : Calls Try.prog 8 #[] w fun e w' => e = .returned (.bool true) ∧ Below w.heap.size w w' := by
  obtain ⟨f1, f2, f5, f7, f8⟩ := wf5
  go_enter Try.func8, Try.ntmps8
  go_wp2_with fail
  refine (aw_new w).mono ?_
  rintro e w1 ⟨rfl, hz, a1⟩
  obtain ⟨q, hq⟩ : ∃ q, q = w.heap.size := ⟨_, rfl⟩
  have e1 : w1.heap.size = q + 1 := by rw [hq]; exact hz
  obtain ⟨bb, hbb⟩ : ∃ bb, bb = q + 1 := ⟨_, rfl⟩
  rw [← hq, ← hbb] at a1
  rw [← hbb] at e1
  rw [← hq]
  clear hz
  have A1 := Lib.hid a1
  have c1 := a1.cell
  clear a1
  have HQ := Lib.hid hq
  clear hq hbb
  go_wp2_with fail
  refine (aw_put A1.out (by decide) 1 5 f1 f5).mono ?_
  rintro e w2 ⟨rfl, a2⟩
  have A2 : Hid (AW w q bb [[(1, 5)]] w2) := a2
  have c2 := a2.cell
  clear a2 A1 c1
  go_wp2_with fail
  refine (aw_push A2.out (by decide) ).mono ?_
  rintro e w3 ⟨rfl, a3⟩
  have A3 : Hid (AW w q bb [[], [(1, 5)]] w3) := a3
  have c3 := a3.cell
  clear a3 A2 c2
  go_wp2_with fail
  refine (aw_put A3.out (by decide) 1 7 f1 f7).mono ?_
  rintro e w4 ⟨rfl, a4⟩
  have A4 : Hid (AW w q bb [[(1, 7)], [(1, 5)]] w4) := a4
  have c4 := a4.cell
  clear a4 A3 c3
  go_wp2_with fail
  refine (aw_put A4.out (by decide) 2 8 f2 f8).mono ?_
  rintro e w5 ⟨rfl, a5⟩
  have A5 : Hid (AW w q bb [[(1, 7), (2, 8)], [(1, 5)]] w5) := a5
  have c5 := a5.cell
  clear a5 A4 c4
  go_wp2_with fail
  refine (aw_hasT A5.out (by decide) (by decide) 1 7 f1 rfl).mono ?_
  rintro e w6 ⟨rfl, a6⟩
  have A6 : Hid (AW w q bb [[(1, 7), (2, 8)], [(1, 5)]] w6) := a6
  have c6 := a6.cell
  clear a6 A5 c5
  go_wp2_with fail
  refine (aw_drop0 A6.out (by decide) (by decide)).mono ?_
  rintro e w7 ⟨rfl, a7⟩
  have A7 : Hid (AW w q bb [[(1, 5)]] w7) := a7
  have c7 := a7.cell
  clear a7 A6 c6
  go_wp2_with fail
  refine (aw_hasT A7.out (by decide) (by decide) 1 5 f1 rfl).mono ?_
  rintro e w8 ⟨rfl, a8⟩
  have A8 : Hid (AW w q bb [[(1, 5)]] w8) := a8
  have c8 := a8.cell
  clear a8 A7 c7
  go_wp2_with fail
  refine (aw_getN A8.out (by decide) (by decide) 2 f2 rfl).mono ?_
  rintro e w9 ⟨rfl, a9⟩
  have A9 : Hid (AW w q bb [[(1, 5)]] w9) := a9
  have c9 := a9.cell
  clear a9 A8 c8
  go_wp2_with fail
  refine (aw_push A9.out (by decide) ).mono ?_
  rintro e w10 ⟨rfl, a10⟩
  have A10 : Hid (AW w q bb [[], [(1, 5)]] w10) := a10
  have c10 := a10.cell
  clear a10 A9 c9
  go_wp2_with fail
  refine (aw_put A10.out (by decide) 1 7 f1 f7).mono ?_
  rintro e w11 ⟨rfl, a11⟩
  have A11 : Hid (AW w q bb [[(1, 7)], [(1, 5)]] w11) := a11
  have c11 := a11.cell
  clear a11 A10 c10
  go_wp2_with fail
  refine (aw_put A11.out (by decide) 2 8 f2 f8).mono ?_
  rintro e w12 ⟨rfl, a12⟩
  have A12 : Hid (AW w q bb [[(1, 7), (2, 8)], [(1, 5)]] w12) := a12
  have c12 := a12.cell
  clear a12 A11 c11
  go_wp2_with fail
  refine (aw_merge0 A12.out (by decide) (by decide) (by decide)).mono ?_
  rintro e w13 ⟨rfl, a13⟩
  have A13 : Hid (AW w q bb [[(1, 5), (1, 7), (2, 8)]] w13) := a13
  have c13 := a13.cell
  clear a13 A12 c12
  go_wp2_with fail
  refine (aw_hasT A13.out (by decide) (by decide) 1 7 f1 rfl).mono ?_
  rintro e w14 ⟨rfl, a14⟩
  have A14 : Hid (AW w q bb [[(1, 5), (1, 7), (2, 8)]] w14) := a14
  have c14 := a14.cell
  clear a14 A13 c13
  go_wp2_with fail
  refine (aw_hasT A14.out (by decide) (by decide) 2 8 f2 rfl).mono ?_
  rintro e w15 ⟨rfl, a15⟩
  have A15 : Hid (AW w q bb [[(1, 5), (1, 7), (2, 8)]] w15) := a15
  have c15 := a15.cell
  clear a15 A14 c14
  go_wp2_with fail
  refine (aw_drop7 A15.out (by decide) (by decide)).mono ?_
  rintro e w16 ⟨rfl, a16⟩
  have A16 : Hid (AW w q bb [[(1, 5), (1, 7), (2, 8)]] w16) := a16
  have c16 := a16.cell
  clear a16 A15 c15
  go_wp2_with fail
  go_ret
  exact ⟨rfl, A16.out.low⟩
end Go.Proofs.Ytmjcipojidimgaa
