/-
  CONTRACT OF seesawlaw08's do: a step, done to a buffer as it lies. Conditions: as they stand.
-/
import Derived.Test.YtmjcipojidimgaaLu
namespace Go.Proofs.Ytmjcipojidimgaa
set_option maxRecDepth 100000
open Go.RowKit Go.Maps Go.Shelf
set_option linter.unusedVariables false
set_option maxHeartbeats 2000000 in
theorem do_any (q : Nat) (S : Nat → Prop) (T : List (List Pr)) (k : Nat) (v x : Int) (hk : k ≤ 255) (hv : wfI v) (hx : wfI x) (w : World) (h : RB w q S T) (hT : T.length ≤ 100000) (hT2 : (flat T).length ≤ 100000) :
    Calls Try.prog 28 #[.pointer (some ⟨q, 0, none⟩), .agg #[.int .u8 k, .int .i64 v, .int .i64 x]] w fun e w' => e = .returned (.int .i64 (errT k T)) ∧ ∃ S', RB w' q S' (stepT k v x T) ∧ (∀ b, S' b → S b ∨ w.heap.size ≤ b) ∧ Fro S w w' := by
  have hF1 : ∀ o, Fro S w (w.alloc o) := fun o => Fro.of_below ((Below.refl _ w).alloc (Nat.le_refl _) o) (Nat.le_refl _)
  have h1 : RB (w.alloc (.cells #[.int .u8 k, .int .i64 v, .int .i64 x] 29)) q S T := h.keep (Fro.of_below (S := fun _ => False) ((Below.refl _ w).alloc (Nat.le_refl _) _) (Nat.le_refl _)) (fun b hs hf => hf)
  have hz : (w.alloc (.cells #[.int .u8 k, .int .i64 v, .int .i64 x] 29)).heap.size = w.heap.size + 1 := by simp
  have fin : ∀ {S' : Nat → Prop} {w' : World} {T' : List (List Pr)}, RB w' q S' T' → (∀ b, S' b → S b ∨ (w.alloc (.cells #[.int .u8 k, .int .i64 v, .int .i64 x] 29)).heap.size ≤ b) → Fro S (w.alloc (.cells #[.int .u8 k, .int .i64 v, .int .i64 x] 29)) w' → ∃ S', RB w' q S' T' ∧ (∀ b, S' b → S b ∨ w.heap.size ≤ b) ∧ Fro S w w' := fun {S' w' T'} a b c => ⟨S', a, fun i hi => (b i hi).imp id (fun h => by rw [hz] at h; omega), (hF1 _).trans c (fun i h => .inl h)⟩
  by_cases k0 : k = 0
  · subst k0
    have hc := put_any q S T v x hv hx _ h1 hT2
    clear h1 h
    go_enter Try.func28, Try.ntmps28
    go_wp2_with (go_at_call 13; refine hc.mono ?_; rintro e w' ⟨rfl, S', a, b, c⟩)
    go_ret
    exact ⟨by simp [errT], by simpa [stepT] using fin a b c⟩
  · by_cases k1 : k = 1
    · subst k1
      have hc := push_any q S T _ h1 hT
      clear h1 h
      go_enter Try.func28, Try.ntmps28
      go_wp2_with (go_at_call 15; refine hc.mono ?_; rintro e w' ⟨rfl, S', a, b, c⟩)
      go_ret
      exact ⟨by simp [errT], by simpa [stepT] using fin a b c⟩
    · by_cases k2 : k = 2
      · subst k2
        have hc := drop_any q S T _ h1 hT
        obtain ⟨er, her⟩ : ∃ er : Int, er = (if T.length < 2 then 7 else 0) := ⟨_, rfl⟩
        have he : errT 2 T = er := by rw [her]; simp [errT]
        rw [← her] at hc
        rw [he]
        clear h1 h he her
        go_enter Try.func28, Try.ntmps28
        go_wp2_with (go_at_call 17; refine hc.mono ?_; rintro e w' ⟨rfl, a, c⟩)
        go_ret
        exact ⟨rfl, by simpa [stepT] using fin a (fun b h => .inl h) c⟩
      · by_cases k3 : k = 3
        · subst k3
          have hc := merge_any q S T _ h1 hT hT2
          obtain ⟨er, her⟩ : ∃ er : Int, er = (if T.length < 2 then 7 else 0) := ⟨_, rfl⟩
          have he : errT 3 T = er := by rw [her]; simp [errT]
          rw [← her] at hc
          rw [he]
          clear h1 h he her
          go_enter Try.func28, Try.ntmps28
          go_wp2_with (go_at_call 19; refine hc.mono ?_; rintro e w' ⟨rfl, a, c⟩)
          go_ret
          exact ⟨rfl, by simpa [stepT] using fin a (fun b h => .inl h) c⟩
        · have i0 : ((k : Int) == 0) = false := beq_eq_false_iff_ne.2 (by omega)
          have i1 : ((k : Int) == 1) = false := beq_eq_false_iff_ne.2 (by omega)
          have i2 : ((k : Int) == 2) = false := beq_eq_false_iff_ne.2 (by omega)
          have i3 : ((k : Int) == 3) = false := beq_eq_false_iff_ne.2 (by omega)
          have F := fin h1 (fun b h => .inl h) (Fro.refl _ _)
          have hst : stepT k v x T = T := by simp [stepT, k0, k1, k2, k3]
          have her : errT k T = 0 := by simp [errT, k2, k3]
          rw [hst, her]
          clear hst her h1 h
          go_enter Try.func28, Try.ntmps28
          go_wp2_with fail
          go_ret
          exact ⟨by first | rfl | trivial, F⟩
end Go.Proofs.Ytmjcipojidimgaa
