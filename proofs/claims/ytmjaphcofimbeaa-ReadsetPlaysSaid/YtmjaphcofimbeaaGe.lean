/-
  CONTRACTS OF slices.AppendSeq and slices.Collect over an iterator of this program, and of package readset's All (layer 10): what comes, in its row, in new memory. Conditions: as they stand.
-/
import Derived.Test.YtmjaphcofimbeaaGd
namespace Go.Proofs.Ytmjaphcofimbeaa
set_option maxRecDepth 100000
open Go.RowKit Go.Shelf
set_option linter.unusedVariables false
attribute [local go_sem] Oper.semAt_some
def intsV (l : List Nat) : List Value := l.map fun (x : Nat) => Value.int .i64 (x : Int)
set_option maxHeartbeats 4000000 in
theorem appseq_in (n : Nat) (hn : 3 ≤ n) (gf : Nat) (lb : Array Value) (eg : ∀ args w, (callFunc gf args).run Try.prog w = .ok (.enter gf args) w) (S Sp : List Nat → Prop) (N : Nat) (hN : N ≤ 100000) (w : World)
    (hseq : ∀ W0 : World, Below w.heap.size w W0 → SeqO Fence.wide (n - 1) Try.prog gf lb encN (Below w.heap.size) S Sp N W0) :
    CallsIn Fence.wide n Try.prog 23 #[.slice none 0 0, .func (.func gf) #[] lb] w fun e w' => ∃ (v : Value) (ss : List Nat), e = .returned v ∧ S ss ∧ w'.ownsRow w.heap.size 3 1 v ss.length (intsV ss) ∧ Below w.heap.size w w' := by
  have h1 : 1 ≤ n := by omega
  obtain ⟨i0, hi0, hz0, hz1, hz2⟩ := info_parts2 plain_int_info
  refine callsIn_of_wp_marks Try.func23 rfl trivial ?_ rfl
  simp only [Try.ntmps23, List.size_toArray, List.length_cons, List.length_nil, Nat.reduceAdd, Nat.reduceSub, Array.replicate_succ, Array.replicate_zero, List.push_toArray, List.append_toArray, List.nil_append, List.cons_append]
  gi_wp2
  have hB0 : Below w.heap.size w (w.alloc (.cells #[.slice none 0 0] 22)) := (Below.refl _ _).alloc (Nat.le_refl _) _
  have hz : (w.alloc (.cells #[.slice none 0 0] 22)).heap.size = w.heap.size + 1 := by simp
  have hb0 : _root_.Go.Boxed (w.alloc (.cells #[.slice none 0 0] 22)) w.heap.size 22 (.slice none 0 0) := _root_.Go.Boxed.new w _ _
  obtain ⟨W0, hW0⟩ : ∃ W0, W0 = w.alloc (.cells #[.slice none 0 0] 22) := ⟨_, rfl⟩
  rw [← hW0] at hB0 hz hb0 ⊢
  clear hW0
  refine loopB (F := Fence.wide) rfl h1 (gf := gf) (lb := lb) rfl trivial eg (hseq W0 hB0) (by omega) (fun _ => rfl)
    (fun pre W => (∃ v, _root_.Go.Boxed W w.heap.size 22 v ∧ W.ownsRow w.heap.size 3 1 v pre.length (intsV pre) ∧ True) ∧ Below w.heap.size w W)
    (fun pre W => False)
    (OwnFrom.and ((holdsRow_own w.heap.size w.heap.size 22 3 1 (fun pre : List Nat => pre.length) intsV (fun _ _ => True)).from _) (ownFrom_below (Nat.le_refl _) (by omega)))
    (fun s A B row hs hg hr => hs)
    ⟨⟨_, hb0, World.ownsRow_nil _ _ _ _, trivial⟩, hB0⟩
    (fun x => { tmps := #[.slice none 0 0, .func (.func gf) #[] lb, .pointer (some ⟨w.heap.size, 0, none⟩), undef, .slice none 0 0, .int .i64 x, .func (.func gf) #[] lb, .int .i64 x, undef, undef, undef, undef, undef], defers := [] }) ?assign ?body ?done ?stop
  case assign =>
    intro l2 x W4 K hK
    unfold encN
    gi_wp2
    exact hK
  case body =>
    rintro l2 pre x W4 ⟨⟨v, hb, hr, _⟩, hB4⟩ hlen
    have c1 := hb.cell
    have hzz := hB4.size
    gi_wp2_with (first
      | (gi_at_builtin; refine wpListIn_append_own _ rfl _ _ 22 rfl w.heap.size 3 i0 (.int .i64 0) 1 8 Try.underlying22 hi0 hz0 hz1 hz2 rfl (by decide) _ _ _ rfl (hr.alloc _) ⟨W4.heap.size, 0, none⟩ 1 1 [.int .i64 x] rfl rfl (cell_one_new _ _ _) (by simp [Value.oneCell']) (by unfold maxLen; omega) (by omega) (by simp; omega) ?_; intro v' w1 hown' hgrow _; obtain ⟨g', cap', rfl⟩ := ownsRow_succ hown'; obtain ⟨hv1, hv2, hr2, hk2, hb2⟩ := hb.appended (by decide) hr hB4.size (Nat.le_refl _) hown' hgrow; have hc1 := hv1.cell; have hf1 := hv1.frozen)
      | gi_in)
    refine ⟨hk2.from _, hb2, ⟨_, hv2, ?_, trivial⟩, hB4.trans hb2⟩
    simpa [intsV] using hr2
  case done =>
    rintro xs W4 hxs ⟨⟨v, hb, hr, _⟩, hB4⟩ hK
    have c1 := hb.cell
    gi_wp2
    refine ⟨by simp, .inl ⟨_, _, rfl, run_takeDeferred hK, ?_⟩⟩
    exact ⟨_, results_tmp rfl _ _ _, v, xs, rfl, hxs, ownsRow_putObj hr (.deferred none) hK rfl, hB4.trans (belowK_b (w := w) (Nat.le_refl _) _ _ _ _ (by omega) hK rfl rfl)⟩
  case stop =>
    rintro pre W4 hsp h hK
    exact h.elim
theorem collect_in (n : Nat) (hn : 4 ≤ n) (gf : Nat) (lb : Array Value) (eg : ∀ args w, (callFunc gf args).run Try.prog w = .ok (.enter gf args) w) (S Sp : List Nat → Prop) (N : Nat) (hN : N ≤ 100000) (w : World)
    (hseq : ∀ W0 : World, Below w.heap.size w W0 → SeqO Fence.wide (n - 1 - 1) Try.prog gf lb encN (Below w.heap.size) S Sp N W0) :
    CallsIn Fence.wide n Try.prog 20 #[.func (.func gf) #[] lb] w fun e w' => ∃ (v : Value) (ss : List Nat), e = .returned v ∧ S ss ∧ w'.ownsRow w.heap.size 3 1 v ss.length (intsV ss) ∧ Below w.heap.size w w' := by
  have h1 : 1 ≤ n := by omega
  have hfl : Fence.wide.fn 23 := trivial
  refine callsIn_of_wp Try.func20 rfl trivial ?_ rfl
  simp only [Try.ntmps20, List.size_toArray, List.length_cons, List.length_nil, Nat.reduceAdd, Nat.reduceSub, Array.replicate_succ, Array.replicate_zero, List.push_toArray, List.append_toArray, List.nil_append, List.cons_append]
  gi_wp2_with (gi_at_call 23; refine (appseq_in (n - 1) (by omega) gf lb eg S Sp N hN _ hseq).mono ?_; rintro e w' ⟨v, ss, rfl, hS, hrow, hb⟩)
  go_ret
  exact ⟨v, ss, rfl, hS, hrow, hb⟩
theorem all_core10 (n : Nat) (hn : 6 ≤ n) (pq : Option Addr) (S Sp : List Nat → Prop) (w : World)
    (hseq : ∀ W0 : World, Below (w.heap.size + 1) (w.alloc (.cells #[.pointer pq] 24)) W0 → SeqO Fence.wide (n - 1 - 1 - 1) Try.prog 24 #[.pointer (some ⟨w.heap.size, 0, none⟩)] encN (Below (w.heap.size + 1)) S Sp 32 W0) :
    CallsIn Fence.wide n Try.prog 13 #[.pointer pq] w fun e w' => ∃ (v : Value) (ss : List Nat), e = .returned v ∧ S ss ∧ w'.ownsRow (w.heap.size + 1) 3 1 v ss.length (intsV ss) ∧ Below w.heap.size w w' := by
  have h1 : 1 ≤ n := by omega
  have hfl : Fence.wide.fn 21 := trivial
  have hfc : Fence.wide.fn 20 := trivial
  refine callsIn_of_wp Try.func13 rfl trivial ?_ rfl
  simp only [Try.ntmps13, List.size_toArray, List.length_cons, List.length_nil, Nat.reduceAdd, Nat.reduceSub, Array.replicate_succ, Array.replicate_zero, List.push_toArray, List.append_toArray, List.nil_append, List.cons_append]
  have hbw : Below w.heap.size w (w.alloc (.cells #[.pointer pq] 24)) := (Below.refl _ _).alloc (Nat.le_refl _) _
  have hcol := collect_in (n - 1) (by omega) 24 #[.pointer (some ⟨w.heap.size, 0, none⟩)] (enters_of Try.func24 (by kernel_rfl) rfl) S Sp 32 (by omega) (w.alloc (.cells #[.pointer pq] 24)) (by simpa using hseq)
  simp only [World.size_alloc] at hcol
  gi_wp2_with (first
    | (gi_at_call 21; refine (rising_in Fence.wide (n - 1) trivial rfl _ _).mono ?_; rintro e w' ⟨rfl, rfl⟩)
    | (gi_at_call 20; refine hcol.mono ?_; rintro e w' ⟨v, ss, rfl, hS, hrow, hb⟩))
  go_ret
  exact ⟨v, ss, rfl, hS, hrow, hbw.trans (hb.mono (by omega))⟩
end Go.Proofs.Ytmjaphcofimbeaa
