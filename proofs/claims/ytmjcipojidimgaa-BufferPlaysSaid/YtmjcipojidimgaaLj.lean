/-
  CONTRACT OF PACKAGE buffer's levels' closure: all levels, the highest one first; or a beginning of them, if a round says no more; of nil: none. (A loop over an iterator whose body calls the outer loop's round.) Conditions: as they stand.
-/
import Derived.Test.YtmjcipojidimgaaLi
namespace Go.Proofs.Ytmjcipojidimgaa
set_option maxRecDepth 100000
open Go.RowKit Go.Shelf
set_option linter.unusedVariables false
attribute [local go_sem] Oper.semAt_some
/-- A region that leaves just this. -/
def atOnceP (W : World) (b : Act) : Exit → Act → World → Prop
  | .normal, a, w' => a = b ∧ w' = W
  | _, _, _ => False
/-- How the region with the first call of yield is left. -/
def askP {α : Type} (pt : α → Option Nat) (l Bq q by_ : Nat) (p0 : α) (n₀ m : Nat) (W : World) (J Jx : List α → World → Prop) : Exit → Act → World → Prop
  | .normal, a, w' => ∃ r nr : Bool, nr = !r ∧ a = ⟨#[.func (.yield l) #[] #[], .pointer (some ⟨Bq, 0, none⟩), .pointer (some ⟨by_, 0, none⟩), undef, undef, .pointer (some ⟨q, 0, none⟩), .bool false, .bool false, .func (.yield l) #[] #[], .pointer (some ⟨q, 0, none⟩), .pointer (some ⟨q, 0, none⟩), .pointer (some ⟨q, 0, none⟩), .map (pt p0), .bool r, .bool nr, .bool nr, undef, undef, undef, undef, undef, undef, undef, undef, undef, undef, undef], []⟩ ∧ ((r = true ∧ J [p0] w' ∧ Kc n₀ m W w') ∨ (r = false ∧ Jx [p0] w'))
  | _, _, _ => False
set_option maxRecDepth 100000 in
set_option maxHeartbeats 4000000 in
theorem lev1_in {α : Type} (pt : α → Option Nat) (n : Nat) (hn : 3 ≤ n) (l Bq n₀ m c q : Nat) (p0 : α) (A : Option Addr) (L : List α) (J Jx : List α → World → Prop)
    (W : World)
    (hY : ∀ pre x W1, J pre W1 → pre.length < L.length + 1 → YieldAt Fence.wide (n - 1) Try.prog l (encP pt x) W1 fun e W' => (e = .returned (.bool true) ∧ J (pre ++ [x]) W' ∧ Kc n₀ m W1 W' ∧ KeepsFrom W.heap.size W1 W') ∨ (e = .returned (.bool false) ∧ Jx (pre ++ [x]) W' ∧ KeepsFrom W.heap.size W1 W'))
    (hJ : OwnFrom W.heap.size J) (hJx : OwnFrom W.heap.size Jx) (hBq : _root_.Go.Boxed W Bq 24 (.pointer (some ⟨q, 0, none⟩))) (hm : m ≤ Bq) (hq : q < n₀) (hn₀ : n₀ ≤ W.heap.size) (hmW : m ≤ W.heap.size)
    (hc0 : W.cell? ⟨q, 0, none⟩ = some (.map (pt p0))) (hc1 : W.cell? ⟨q, 1, none⟩ = some (.slice A L.length c)) (hL : Lies8 pt W n₀ A L) (hl : L.length ≤ 1000000) (h0 : J [] W) :
    CallsIn Fence.wide n Try.prog 39 #[.func (.yield l) #[] #[], .pointer (some ⟨Bq, 0, none⟩)] W fun e W' => (∃ v, e = .returned v) ∧
      ((∃ ys, ys = p0 :: L.reverse ∧ J ys W') ∨ (∃ pre, pre <+: p0 :: L.reverse ∧ Jx pre W')) := by
  have cB := hBq.cell
  have h1 : 1 ≤ n := by omega
  refine callsIn_of_wp_marks Try.func39 rfl trivial ?_ rfl
  simp only [Try.ntmps39, List.size_toArray, List.length_cons, List.length_nil, Nat.reduceAdd, Nat.reduceSub, Array.replicate_succ, Array.replicate_zero, List.push_toArray, List.append_toArray, List.nil_append, List.cons_append]
  have hW1 : Below W.heap.size W (W.alloc (.cells #[.func (.yield l) #[] #[]] 69)) := (Below.refl _ _).alloc (Nat.le_refl _) _
  have k0 := (hW1.cell (p := ⟨q, 0, none⟩) (by show q < _; omega)).trans hc0
  have kB := (hW1.cell (p := ⟨Bq, 0, none⟩) hBq.lt).trans cB
  obtain ⟨fn, tmps, assign, body, hy, hR⟩ := (hY [] p0 _ (own_drew hJ (hJ.alloc (.cells #[.func (.yield l) #[] #[]] 69) h0)) (by simp)).mono (R' := fun e w' => ∃ r : Bool, e = .returned (.bool r) ∧ Hid ((r = true ∧ J [p0] w' ∧ Kc n₀ m (W.alloc (.cells #[.func (.yield l) #[] #[]] 69)).drew w') ∨ (r = false ∧ Jx [p0] w'))) (by
    rintro e w' (⟨he, h1, h2, _⟩ | ⟨he, h1, _⟩)
    · exact ⟨true, he, .inl ⟨rfl, h1, h2⟩⟩
    · exact ⟨false, he, .inr ⟨rfl, h1⟩⟩)
  dsimp only [encP] at hy
  gi_wp2
  refine wpIn_mono (Q := askP pt l Bq q W.heap.size p0 n₀ m (W.alloc (.cells #[.func (.yield l) #[] #[]] 69)).drew J Jx) ?reg ?_
  case reg =>
    gi_region_with ((try refine ⟨fun _ => by omega, ?_⟩); refine hR.mono ?_; rintro e w' ⟨r, rfl, hr⟩)
    all_goals exact ⟨r, !r, rfl, rfl, hr.out⟩
  rintro e a W2 hp
  cases e with
  | ret => exact hp.elim
  | exit id => exact hp.elim
  | goto tt => exact hp.elim
  | panic ch => exact hp.elim
  | outgrown => exact hp.elim
  | normal =>
    obtain ⟨r, nr, hnr, rfl, (⟨rfl, hJ2, hk2⟩ | ⟨rfl, hx2⟩)⟩ := hp
    · obtain rfl : nr = false := hnr
      have hf40 : Fence.wide.fn 40 := trivial
      have hkW : Kc n₀ m W W2 := ((Kc.alloc _ hn₀).trans Kc.drew).trans hk2
      have c1 : W2.cell? ⟨q, 1, none⟩ = some (.slice A L.length c) := (hkW.low.cell (p := ⟨q, 1, none⟩) hq).trans hc1
      have bq : _root_.Go.Boxed W2 Bq 24 (.pointer (some ⟨q, 0, none⟩)) := box_kc hkW hm hBq
      have by_ : _root_.Go.Boxed W2 W.heap.size 69 (.func (.yield l) #[] #[]) := box_kc hk2 hmW (World.alloc_heap_new W _)
      have hL2 : Lies8 pt W2 n₀ A L := hL.below hkW.low (Nat.le_refl _)
      have cq := bq.cell
      have hz2 : W.heap.size + 1 ≤ W2.heap.size := by have := hk2.low.size; simp at this; omega
      clear hR hy k0 kB hW1 cB hc0 hc1 hL
      gi_wp2_with (gi_at_call 40; refine (backward_in Fence.wide (n - 1) trivial rfl _ _ _ _).mono ?_; rintro e w' ⟨rfl, rfl⟩)
      have hK3 : Kc n₀ m W2 (W2.alloc (.cells #[.slice A L.length c] 53)) := Kc.alloc _ (by omega)
      have hb3 : _root_.Go.Boxed (W2.alloc (.cells #[.slice A L.length c] 53)) W2.heap.size 53 (.slice A L.length c) := World.alloc_heap_new W2 _
      have hJ3 : J [p0] (W2.alloc (.cells #[.slice A L.length c] 53)) := hJ.alloc _ hJ2
      have by3 := box_kc hK3 hmW by_
      have hL3 := hL2.below hK3.low (Nat.le_refl _)
      have hz3 : (W2.alloc (.cells #[.slice A L.length c] 53)).heap.size = W2.heap.size + 1 := by simp
      obtain ⟨W3, hW3⟩ : ∃ W3, W3 = W2.alloc (.cells #[.slice A L.length c] 53) := ⟨_, rfl⟩
      rw [← hW3] at hK3 hb3 hJ3 by3 hL3 hz3 ⊢
      clear hW3
      refine loopO (F := Fence.wide) rfl h1 (gf := 44) (lb := #[.pointer (some ⟨W2.heap.size, 0, none⟩)]) rfl trivial (enters_of Try.func44 (by kernel_rfl) rfl)
        (back_seq pt Fence.wide (n - 1) trivial rfl (by omega) W2.heap.size n₀ m c A L W3 hb3 (by omega) (by omega) hL3 hl) (by omega) (fun _ => rfl)
        (fun pre W' => J (p0 :: pre.map Prod.snd) W' ∧ _root_.Go.Boxed W' W.heap.size 69 (.func (.yield l) #[] #[])) (fun pre W' => Jx (p0 :: pre.map Prod.snd) W')
        (OwnFrom.and (own_up (own_along hJ (fun pre : List (Nat × α) => p0 :: pre.map Prod.snd)) (by omega)) (own_box _ _ (fun _ => .func (.yield l) #[] #[]) _)) (own_up (own_along hJx (fun pre : List (Nat × α) => p0 :: pre.map Prod.snd)) (by omega)) ⟨hJ3, by3⟩
        (fun x => { tmps := #[.func (.yield l) #[] #[], .pointer (some ⟨Bq, 0, none⟩), .pointer (some ⟨W.heap.size, 0, none⟩), undef, .map (pt x.2), .pointer (some ⟨q, 0, none⟩), .bool false, .bool false, .func (.yield l) #[] #[], .pointer (some ⟨q, 0, none⟩), .pointer (some ⟨q, 0, none⟩), .pointer (some ⟨q, 0, none⟩), .map (pt p0), .bool true, .bool false, .bool false, .pointer (some ⟨q, 0, none⟩), .pointer (some ⟨q, 0, none⟩), .pointer (some ⟨q, 1, none⟩), .slice A L.length c, .func (.func 44) #[] #[.pointer (some ⟨W2.heap.size, 0, none⟩)], .int .i64 x.1, .map (pt x.2), undef, undef, undef, undef], defers := [] }) ?assign ?body ?done ?stop
      case assign =>
        intro l2 x W4 K hK
        unfold encB
        gi_wp2
        exact hK
      case body =>
        rintro l2 pre x W4 ⟨hj, hb⟩ hlen
        have cb := hb.cell
        obtain ⟨fn5, tmps5, assign5, body5, hy5, hR5⟩ := yield_within l2 (yield_free rfl (n - 1 - 1 - 1) (hY (p0 :: pre.map Prod.snd) x.2 W4 hj (by simp; omega)))
        dsimp only [encP] at hy5
        gi_wp2_with (first
          | ((try refine ⟨fun _ => by omega, ?_⟩); refine hR5.mono ?_; clear hR5; rintro e W5 (⟨rfl, hJ5, hk5, hf5⟩ | ⟨rfl, hx5, hf5⟩)))
        · exact ⟨keeps_up hf5 (by omega), hk5, by rw [List.map_append]; exact hJ5, box_kc hk5 hmW hb⟩
        · refine ⟨keeps_up hf5 (by omega), ?_⟩
          show Jx _ _
          rw [List.map_append]
          exact hx5
      case done =>
        rintro xs W4 hxs ⟨hj, _⟩ hK
        gi_wp2
        refine ⟨by simp, .inl ⟨_, _, rfl, run_takeDeferred hK, ?_⟩⟩
        refine ⟨_, results_none rfl _ _ _, ⟨_, rfl⟩, .inl ⟨_, rfl, ?_⟩⟩
        have hj' := (own_up hJ (by omega : W.heap.size ≤ W3.heap.size)).putObj (.deferred none) hj (Nat.le_refl _) hK rfl
        rwa [hxs] at hj'
      case stop =>
        rintro pre W4 hsp hj hK
        gi_wp2
        refine ⟨by simp, .inl ⟨_, _, rfl, run_takeDeferred hK, ?_⟩⟩
        refine ⟨_, results_none rfl _ _ _, ⟨_, rfl⟩, .inr ⟨_, ?_, (own_up hJx (by omega : W.heap.size ≤ W3.heap.size)).putObj (.deferred none) hj (Nat.le_refl _) hK rfl⟩⟩
        exact (List.prefix_cons_inj p0).2 hsp
    · obtain rfl : nr = true := hnr
      gi_wp2
      exact ⟨_, results_none rfl _ _ _, ⟨_, rfl⟩, .inr ⟨[p0], List.prefix_cons_inj p0 |>.2 (List.nil_prefix), hx2⟩⟩
set_option maxRecDepth 100000 in
set_option maxHeartbeats 4000000 in
theorem lev1_nil {α : Type} (n : Nat) (l Bq : Nat) (J Jx : List α → World → Prop) (W : World) (hJ : OwnFrom W.heap.size J) (hBq : _root_.Go.Boxed W Bq 24 (.pointer none)) (h0 : J [] W) :
    CallsIn Fence.wide n Try.prog 39 #[.func (.yield l) #[] #[], .pointer (some ⟨Bq, 0, none⟩)] W fun e W' => (∃ v, e = .returned v) ∧ J [] W' := by
  have cB := hBq.cell
  refine callsIn_of_wp_marks Try.func39 rfl trivial ?_ rfl
  simp only [Try.ntmps39, List.size_toArray, List.length_cons, List.length_nil, Nat.reduceAdd, Nat.reduceSub, Array.replicate_succ, Array.replicate_zero, List.push_toArray, List.append_toArray, List.nil_append, List.cons_append]
  have hW1 : Below W.heap.size W (W.alloc (.cells #[.func (.yield l) #[] #[]] 69)) := (Below.refl _ _).alloc (Nat.le_refl _) _
  have kB := (hW1.cell (p := ⟨Bq, 0, none⟩) hBq.lt).trans cB
  have hJ1 : J [] (W.alloc (.cells #[.func (.yield l) #[] #[]] 69)).drew := own_drew hJ (hJ.alloc _ h0)
  gi_wp2
  refine wpIn_mono (Q := atOnceP (W.alloc (.cells #[.func (.yield l) #[] #[]] 69)).drew ⟨#[.func (.yield l) #[] #[], .pointer (some ⟨Bq, 0, none⟩), .pointer (some ⟨W.heap.size, 0, none⟩), undef, undef, .pointer none, .bool true, .bool true, undef, undef, undef, undef, undef, undef, undef, .bool true, undef, undef, undef, undef, undef, undef, undef, undef, undef, undef, undef], []⟩) ?reg ?_
  case reg =>
    gi_region_with (refine ⟨(fun _ h => (by cases h)), ?_⟩)
    all_goals exact ⟨rfl, rfl⟩
  rintro e a w' hp
  cases e with
  | ret => exact hp.elim
  | exit id => exact hp.elim
  | goto tt => exact hp.elim
  | panic ch => exact hp.elim
  | outgrown => exact hp.elim
  | normal =>
  obtain ⟨rfl, rfl⟩ := hp
  gi_wp2
  exact ⟨_, results_none rfl _ _ _, ⟨_, rfl⟩, hJ1⟩
/-- What levels hands back, of a buffer. -/
theorem lev_seq {α : Type} (pt : α → Option Nat) (n : Nat) (hn : 3 ≤ n) (Bq n₀ m c q : Nat) (p0 : α) (A : Option Addr) (L : List α) (w : World) (hBq : _root_.Go.Boxed w Bq 24 (.pointer (some ⟨q, 0, none⟩))) (hm : m ≤ Bq) (hq : q < n₀) (hn₀ : n₀ ≤ w.heap.size)
    (hc0 : w.cell? ⟨q, 0, none⟩ = some (.map (pt p0))) (hc1 : w.cell? ⟨q, 1, none⟩ = some (.slice A L.length c)) (hL : Lies8 pt w n₀ A L) (hl : L.length ≤ 1000000) :
    SeqO Fence.wide n Try.prog 39 #[.pointer (some ⟨Bq, 0, none⟩)] (encP pt) (Kc n₀ m) (fun ys => ys = p0 :: L.reverse) (fun ys => ys <+: p0 :: L.reverse) (L.length + 1) w := fun l J Jx W hW hJ hJx hY h0 =>
  lev1_in pt n hn l Bq n₀ m c q p0 A L J Jx W hY hJ hJx ((hW.block _ hBq.lt).trans hBq) hm hq (Nat.le_trans hn₀ hW.size) (by have := hBq.lt; have := hW.size; omega) ((hW.cell (p := ⟨q, 0, none⟩) (by show q < _; omega)).trans hc0) ((hW.cell (p := ⟨q, 1, none⟩) (by show q < _; omega)).trans hc1) (hL.below (hW.mono hn₀) (Nat.le_refl _)) hl h0
/-- .. of nil. -/
theorem lev_seq_nil {α : Type} (pt : α → Option Nat) (n : Nat) (Bq n₀ m : Nat) (w : World) (hBq : _root_.Go.Boxed w Bq 24 (.pointer none)) :
    SeqO Fence.wide n Try.prog 39 #[.pointer (some ⟨Bq, 0, none⟩)] (encP pt) (Kc n₀ m) (fun ys => ys = []) (fun _ => False) 0 w := fun l J Jx W hW hJ hJx hY h0 =>
  (lev1_nil n l Bq J Jx W hJ ((hW.block _ hBq.lt).trans hBq) h0).mono fun e W' ⟨hv, hj⟩ => ⟨hv, .inl ⟨[], rfl, hj⟩⟩
end Go.Proofs.Ytmjcipojidimgaa
