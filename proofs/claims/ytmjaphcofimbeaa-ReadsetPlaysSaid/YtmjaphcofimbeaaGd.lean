/-
  CONTRACTS OF PACKAGE readset's rising and its closure (layer 10): those that were read, rising; or a beginning of them, if a round says no more; of nil: none. Conditions: as they stand.
-/
import Derived.Test.YtmjaphcofimbeaaGb
import Derived.Test.YtmjaphcofimbeaaLf
namespace Go.Proofs.Ytmjaphcofimbeaa
set_option maxRecDepth 100000
open Go.RowKit Go.Shelf
set_option linter.unusedVariables false
attribute [local go_sem] Oper.semAt_some
/-- Those that were read, of the first k. -/
def riseK (f : Nat → Bool) (k : Nat) : List Nat := (List.range k).filter f
theorem riseK_yes {f : Nat → Bool} {k : Nat} (h : f k = true) : riseK f (k + 1) = riseK f k ++ [k] := by simp [riseK, List.range_succ, h]
theorem riseK_no {f : Nat → Bool} {k : Nat} (h : f k = false) : riseK f (k + 1) = riseK f k := by simp [riseK, List.range_succ, h]
theorem riseK_pre {f : Nat → Bool} {k m : Nat} (h : k ≤ m) : riseK f k <+: riseK f m := by
  induction m with
  | zero => obtain rfl : k = 0 := by omega
            exact List.prefix_refl _
  | succ m ih =>
    by_cases hk : k = m + 1
    · subst hk; exact List.prefix_refl _
    · refine (ih (by omega)).trans ?_
      cases hf : f m
      · rw [riseK_no hf]; exact List.prefix_refl _
      · rw [riseK_yes hf]; exact List.prefix_append _ _
theorem riseK_len (f : Nat → Bool) (k : Nat) : (riseK f k).length ≤ k := by
  have := List.length_filter_le f (List.range k)
  simpa [riseK] using this
def encN (x : Nat) : Array Value := #[.int .i64 x]
theorem belowPut {n₀ : Nat} {W : World} {l : Nat} {o o' : Obj} (hn : n₀ ≤ l) (h : W.heap[l]? = some o) (hc : o.isCells = false) : Below n₀ W (W.putObj l o') :=
  (Below.refl n₀ W).grown (grownBy_putObj' W l o') (by have := (Array.getElem?_eq_some_iff.1 h).1; omega) (fun k e => by cases e; omega)
section
variable {F : Fence} {n : Nat} {P : Program}
theorem loopB {α : Type} {g : Operand} {ps : Array Tmp} {assign body : Code} {Q : Exit → Act → World → Prop} {a : Act} {w : World} (hro : F.round = none) (h1 : 1 ≤ n) {gf : Nat} {lb : Array Value} (hg : a.eval g = .func (.func gf) #[] lb) (hFg : F.fn gf) (eg : ∀ args w, (callFunc gf args).run P w = .ok (.enter gf args) w)
    {encs : α → Array Value} {n₀ : Nat} {S Sp : List α → Prop} {N : Nat} (hseq : SeqO F (n - 1) P gf lb encs (Below n₀) S Sp N w) (hn₀ : n₀ ≤ w.heap.size) (hps : ∀ x, (encs x).size = ps.size)
    (I X : List α → World → Prop) (hI : OwnFrom w.heap.size I) (hX : OwnFrom w.heap.size X) (h0 : I [] w) (a₁ : α → Act)
    (hassign : ∀ (l : Nat) (x : α) (W : World) (K : Act → World → Prop), K (a₁ x) W → assign.wpIn (F.inRound l) (n - 1 - 1) P (Exit.then K (fun _ _ _ => False)) { tmps := (ps.zip (encs x)).foldl (fun t (p, v) => t.setIfInBounds p v) a.tmps, defers := [] } W)
    (hbody : ∀ (l : Nat) (pre : List α) (x : α) (W : World), I pre W → pre.length < N → body.wpIn (F.inRound l) (n - 1 - 1) P (leftO w.heap.size (Below n₀) I X (pre ++ [x]) W) (a₁ x) W)
    (hdone : ∀ (xs : List α) (W : World), S xs → I xs W → W.heap[w.heap.size]? = some (.deferred (some [])) → Q .normal { a with defers := { target := .collected w.heap.size, args := #[] } :: a.defers } W)
    (hstop : ∀ (pre : List α) (W : World), Sp pre → X pre W → W.heap[w.heap.size]? = some (.deferred (some [])) → Code.ret.wpIn F n P Q { a with defers := { target := .collected w.heap.size, args := #[] } :: a.defers } W) :
    (Code.rangeFunc g ps assign body).wpIn F n P Q a w := by
  refine wpIn_rangeFunc fun fn hfn => ?_
  rw [hro]
  have hbk : BkO w.heap.size (recO fn a.tmps ps assign body w.heap.size .ready none) ((w.alloc (.deferred (some []))).alloc (.loop (recO fn a.tmps ps assign body w.heap.size .ready none))) := by
    refine ⟨?_, (Below.heap_alloc _ _ _ (by simp)).trans (World.alloc_heap_new w _)⟩
    have := World.alloc_heap_new (w.alloc (.deferred (some []))) (.loop (recO fn a.tmps ps assign body w.heap.size .ready none))
    rwa [World.size_alloc] at this
  have hz : ((w.alloc (.deferred (some []))).alloc (.loop (recO fn a.tmps ps assign body w.heap.size .ready none))).heap.size = w.heap.size + 2 := by simp
  have hbl : Below w.heap.size w ((w.alloc (.deferred (some []))).alloc (.loop (recO fn a.tmps ps assign body w.heap.size .ready none))) := ((Below.refl _ w).alloc (Nat.le_refl _) _).alloc (by simp) _
  have hi0 : I [] ((w.alloc (.deferred (some []))).alloc (.loop (recO fn a.tmps ps assign body w.heap.size .ready none))) := hI.alloc _ (hI.alloc _ h0)
  have hen := run_enterLoop_outer (P := P) (w := w) fn a.tmps ps assign body
  change _ = Result.ok _ ((w.alloc (.deferred (some []))).alloc (.loop (recO fn a.tmps ps assign body w.heap.size .ready none))) at hen
  revert hbk hz hbl hi0 hen
  generalize (w.alloc (.deferred (some []))).alloc (.loop (recO fn a.tmps ps assign body w.heap.size .ready none)) = W1
  intro hbk hz hbl hi0 hen
  refine ⟨w.heap.size + 1, [{ target := .collected w.heap.size, args := #[] }], W1, { target := .fn (.func gf) lb, args := #[.func (.yield (w.heap.size + 1)) #[] #[]] }, W1, gf, #[.func (.yield (w.heap.size + 1)) #[] #[]] ++ lb, W1, hen, ?_, ?_, ?_, fun _ => h1, ?_⟩
  · simp only [resolve, hg]
    simp [go_sem]
  · intro f' hf'
    simp [Target.leads] at hf'
    subst hf'
    exact hFg
  · simp [invoke, go_sem, eg]
  · skip
    have far : ∀ {A : World} {row : Option Nat}, (∀ r, row = some r → W1.heap.size ≤ r ∧ ∃ o : Obj, A.heap[r]? = some o ∧ o.isCells = false) → (∀ r, row = some r → w.heap.size ≤ r ∧ ∃ o : Obj, A.heap[r]? = some o ∧ o.isCells = false) ∧ ∀ r, row = some r → w.heap.size + 2 ≤ r :=
      fun h => ⟨fun r e => ⟨by have := (h r e).1; omega, (h r e).2⟩, fun r e => by have := (h r e).1; omega⟩
    refine (hseq (w.heap.size + 1) (fun pre W => I pre W ∧ BkO w.heap.size (recO fn a.tmps ps assign body w.heap.size .ready none) W) (fun pre W => X pre W ∧ BkO w.heap.size (recO fn a.tmps ps assign body w.heap.size .done (some .ret)) W) W1 hbl
      (fun s A C row hs hg' hr => ⟨hI s A C row hs.1 hg' (far hr).1, hs.2.grown hg' (far hr).2⟩) (fun s A C row hs hg' hr => ⟨hX s A C row hs.1 hg' (far hr).1, hs.2.grown hg' (far hr).2⟩) ?_ ⟨hi0, hbk⟩).mono ?_
    · rintro pre x W ⟨hi, hb⟩ hlen
      refine ⟨fn, _, assign, body, run_yield hb.rcd (hps x), roundIn_of_wpIn hfn (hassign _ x W _ ⟨_, run_beginRound hb.rcd rfl, ?_⟩)⟩
      have hb2 : BkO w.heap.size (recO fn a.tmps ps assign body w.heap.size .busy none) (W.putObj (w.heap.size + 1) (.loop (recO fn a.tmps ps assign body w.heap.size .busy none))) := hb.put _
      have hi2 : I pre (W.putObj (w.heap.size + 1) (.loop (recO fn a.tmps ps assign body w.heap.size .busy none))) := hI.putObj _ hi (by omega) hb.rcd rfl
      have hk2 : Below n₀ W (W.putObj (w.heap.size + 1) (.loop (recO fn a.tmps ps assign body w.heap.size .busy none))) := belowPut (by omega) hb.rcd rfl
      refine wpIn_mono (hbody _ pre x _ hi2 hlen) ?_
      rintro e a3 W3 hp
      cases e with
      | normal =>
        obtain ⟨q1, q2, q3⟩ := hp
        have hb3 := hb2.keep q1
        exact ⟨_, _, run_endRound none hb3.rcd, .inl ⟨rfl, ⟨hI.putObj _ q3 (by omega) hb3.rcd rfl, hb3.put _⟩, (hk2.trans q2).trans (belowPut (by omega) hb3.rcd rfl), ((keeps_put _ _ (by omega)).trans (keeps_up q1 (by omega))).trans (keeps_put _ _ (by omega))⟩⟩
      | ret =>
        obtain ⟨q1, q3⟩ := hp
        have hb3 := hb2.keep q1
        exact ⟨_, _, run_endRound (some .ret) hb3.rcd, .inr ⟨rfl, ⟨hX.putObj _ q3 (by omega) hb3.rcd rfl, hb3.put _⟩, ((keeps_put _ _ (by omega)).trans (keeps_up q1 (by omega))).trans (keeps_put _ _ (by omega))⟩⟩
      | exit id => exact hp.elim
      | goto t => exact hp.elim
      | panic ch => exact hp.elim
      | outgrown => exact hp.elim
    · rintro e W2 ⟨⟨v, rfl⟩, (⟨xs, hS, hi, hb⟩ | ⟨pre, hSp, hi, hb⟩)⟩
      · exact ⟨none, _, run_endLoop hb.rcd (by simp [recO]), hdone xs _ hS (hI.putObj _ hi (by omega) hb.rcd rfl) ((World.putObj_heap_other (by omega)).trans hb.dfr)⟩
      · exact ⟨some .ret, _, run_endLoop hb.rcd (by simp [recO]), hstop pre _ hSp (hX.putObj _ hi (by omega) hb.rcd rfl) ((World.putObj_heap_other (by omega)).trans hb.dfr)⟩
end
theorem rising_in (F : Fence) (n : Nat) (hf : F.fn 21) (hro : F.round = none) (p : Option Addr) (w : World) :
    CallsIn F n Try.prog 21 #[.pointer p] w fun e w' => e = .returned (.func (.func 24) #[] #[.pointer (some ⟨w.heap.size, 0, none⟩)]) ∧ w' = w.alloc (.cells #[.pointer p] 24) := by
  refine callsIn_of_wp Try.func21 rfl hf ?_ hro
  simp only [Try.ntmps21, List.size_toArray, List.length_cons, List.length_nil, Nat.reduceAdd, Nat.reduceSub, Array.replicate_succ, Array.replicate_zero, List.push_toArray, List.append_toArray, List.nil_append, List.cons_append]
  gi_wp2
  go_ret
  exact ⟨rfl, rfl⟩
set_option maxHeartbeats 4000000 in
theorem rise_in (n : Nat) (hn : 3 ≤ n) (l Bq n₀ g : Nat) (rv st : Int) (f : Nat → Bool) (J Jx : List Nat → World → Prop) (W : World)
    (hY : ∀ pre x W1, J pre W1 → pre.length < 32 → YieldAt Fence.wide (n - 1) Try.prog l (encN x) W1 fun e W' => (e = .returned (.bool true) ∧ J (pre ++ [x]) W' ∧ Below n₀ W1 W' ∧ KeepsFrom W.heap.size W1 W') ∨ (e = .returned (.bool false) ∧ Jx (pre ++ [x]) W' ∧ KeepsFrom W.heap.size W1 W'))
    (hBq : _root_.Go.Boxed W Bq 24 (.pointer (some ⟨g, 0, none⟩))) (hm : Bq < n₀) (hq : g < n₀) (hn₀ : n₀ ≤ W.heap.size) (hS : SetAt W g rv st f) (h0 : J [] W) :
    CallsIn Fence.wide n Try.prog 24 #[.func (.yield l) #[] #[], .pointer (some ⟨Bq, 0, none⟩)] W fun e W' => (∃ v, e = .returned v) ∧
      ((∃ ys, ys = riseK f st.toNat ∧ J ys W') ∨ (∃ pre, pre <+: riseK f st.toNat ∧ Jx pre W')) := by
  have h1 : 1 ≤ n := by omega
  have cB := hBq.cell
  have c1 := hS.c1
  have hst : ∃ s : Nat, st = s ∧ s ≤ 32 := ⟨st.toNat, by have := hS.s1; omega, by have := hS.s2; omega⟩
  obtain ⟨s, rfl, hs32⟩ := hst
  have HY := Lib.hid hY
  have HB := Lib.hid hBq
  have HS := Lib.hid hS
  clear hY hBq hS
  refine callsIn_of_wp Try.func24 rfl trivial ?_ rfl
  simp only [Try.ntmps24, List.size_toArray, List.length_cons, List.length_nil, Nat.reduceAdd, Nat.reduceSub, Array.replicate_succ, Array.replicate_zero, List.push_toArray, List.append_toArray, List.nil_append, List.cons_append]
  gi_wp2
  gi_loopw [10] (fun i wr => ∃ k : Nat, k ≤ s ∧ i = .int .i64 k ∧ Hid (J (riseK f k) wr) ∧ Hid (Below n₀ W wr)) (fun i _ => s - (intOf i).toNat)
  case atStart => exact ⟨0, by omega, rfl, h0, Below.refl _ _⟩
  case round =>
    obtain ⟨k, hk, rfl, hJ, hK⟩ := hrel
    by_cases hlt : k < s
    · have cB2 := (hK.out.cell (p := ⟨Bq, 0, none⟩) hm).trans cB
      have cr := (hK.out.cell (p := ⟨g, 2 + k, none⟩) hq).trans (HS.out.cr (i := k) (by omega))
      have i1 : (0 : Int) ≤ (k : Int) := by omega
      have i2 : (k : Int) < (s : Int) := by omega
      have i3 : (k : Int) < 32 := by omega
      cases hf : f k with
      | false =>
        rw [hf] at cr
        have HJ2 : Hid (J (riseK f (k + 1)) wr) := by show J _ _; rw [riseK_no hf]; exact hJ.out
        gi_wp2
        refine ⟨fun _ h => (by cases h), ?_⟩
        gi_wp2
        go_roundw
        case rel => exact ⟨k + 1, by omega, by go_num, HJ2, hK⟩
        case measure => simp [intOf]; omega
      | true =>
        rw [hf] at cr
        have hl5 : (riseK f k).length < 32 := by have := riseK_len f k; omega
        obtain ⟨fn5, tmps5, assign5, body5, hy5, hR5⟩ := HY.out (riseK f k) k wr hJ.out hl5
        dsimp only [encN] at hy5
        gi_wp2
        refine hR5.mono ?_
        rintro e W5 (⟨rfl, hJ5, hk5, hf5⟩ | ⟨rfl, hx5, hf5⟩)
        · gi_wp2
          have HJ2 : Hid (J (riseK f (k + 1)) W5) := by show J _ _; rw [riseK_yes hf]; exact hJ5
          have HK2 : Hid (Below n₀ W W5) := hK.out.trans hk5
          go_roundw
          case rel => exact ⟨k + 1, by omega, by go_num, HJ2, HK2⟩
          case measure => simp [intOf]; omega
        · gi_wp2
          exact bodyPost_ret (results_none rfl _ _ _) rfl ⟨⟨_, rfl⟩, .inr ⟨_, by rw [← riseK_yes hf]; exact riseK_pre (by omega), hx5⟩⟩
    · obtain rfl : k = s := by omega
      gi_wp2
      go_end0
      exact ⟨⟨_, rfl⟩, .inl ⟨_, by simp, hJ.out⟩⟩
/-- .. of nil. -/
theorem rise_nil (n : Nat) (l Bq : Nat) (J : List Nat → World → Prop) (W : World) (hBq : _root_.Go.Boxed W Bq 24 (.pointer none)) (h0 : J [] W) :
    CallsIn Fence.wide n Try.prog 24 #[.func (.yield l) #[] #[], .pointer (some ⟨Bq, 0, none⟩)] W fun e W' => (∃ v, e = .returned v) ∧ J [] W' := by
  have cB := hBq.cell
  refine callsIn_of_wp Try.func24 rfl trivial ?_ rfl
  simp only [Try.ntmps24, List.size_toArray, List.length_cons, List.length_nil, Nat.reduceAdd, Nat.reduceSub, Array.replicate_succ, Array.replicate_zero, List.push_toArray, List.append_toArray, List.nil_append, List.cons_append]
  gi_wp2
  exact bodyPost_ret (results_none rfl _ _ _) rfl ⟨⟨_, rfl⟩, h0⟩
/-- What rising hands back. -/
theorem rise_seq (n : Nat) (hn : 3 ≤ n) (Bq n₀ g : Nat) (rv st : Int) (f : Nat → Bool) (w : World) (hBq : _root_.Go.Boxed w Bq 24 (.pointer (some ⟨g, 0, none⟩))) (hm : Bq < n₀) (hq : g < n₀) (hn₀ : n₀ ≤ w.heap.size) (hS : SetAt w g rv st f) :
    SeqO Fence.wide n Try.prog 24 #[.pointer (some ⟨Bq, 0, none⟩)] encN (Below n₀) (fun ys => ys = riseK f st.toNat) (fun ys => ys <+: riseK f st.toNat) 32 w := fun l J Jx W hW hJ hJx hY h0 =>
  rise_in n hn l Bq n₀ g rv st f J Jx W hY ((hW.block _ hBq.lt).trans hBq) hm hq (Nat.le_trans hn₀ hW.size) (hS.below hW) h0
theorem rise_seq_nil (n : Nat) (Bq n₀ : Nat) (w : World) (hBq : _root_.Go.Boxed w Bq 24 (.pointer none)) :
    SeqO Fence.wide n Try.prog 24 #[.pointer (some ⟨Bq, 0, none⟩)] encN (Below n₀) (fun ys => ys = []) (fun _ => False) 32 w := fun l J Jx W hW hJ hJx hY h0 =>
  (rise_nil n l Bq J W ((hW.block _ hBq.lt).trans hBq) h0).mono fun e W' ⟨hv, hj⟩ => ⟨hv, .inl ⟨[], rfl, hj⟩⟩
end Go.Proofs.Ytmjaphcofimbeaa
