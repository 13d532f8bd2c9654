/-
  SEVERAL TEXTS IN ONE (a claim has sixty files at most): Jr, Js, Jt: the head of each stands ahead of it. No condition but theirs.
-/
import Derived.Test.YthdcdffdpdoeoaaGreatDoorZh
import Derived.Test.YthdcdffdpdoeoaaGreatDoorZi
import Derived.Test.YthdcdffdpdoeoaaGreatDoorZn
/-
  CONTRACT OF slices.Backward's iterator at the stack's blocks (layer 9), the innermost one first. Conditions: as they stand.
-/
namespace Go.Proofs.YthdcdffdpdoeoaaGreatDoor
set_option maxRecDepth 100000
open Go.RowKit Go.Shelf
set_option linter.unusedVariables false
attribute [local go_sem] Oper.semAt_some
/-- The blocks L lie at A, below hi. -/
def Lies9 (w : World) (hi : Nat) (A : Option Addr) (L : List Fx) : Prop := ∀ j (h : j < L.length), ∃ g, A = some ⟨g, 0, none⟩ ∧ g < hi ∧ ∀ i, i < 4 → w.cell? ⟨g, j * 4 + i, none⟩ = (L[j].cells)[i]?
theorem Lies9.below {w w' : World} {hi B : Nat} {A : Option Addr} {L : List Fx} (h : Lies9 w hi A L) (hb : Below B w w') (hB : hi ≤ B) : Lies9 w' hi A L := fun j hj => by
  obtain ⟨g, e, m, c⟩ := h j hj
  exact ⟨g, e, m, fun i hi4 => (hb.cell (p := ⟨g, j * 4 + i, none⟩) (by show g < B; omega)).trans (c i hi4)⟩
def fxV (f : Fx) : Value := .agg #[.slice f.RA f.rest.length f.rc, .slice f.BA f.body.length f.bc, .int .i64 f.turns, .pointer f.kp]
def enc9 (x : Nat × Fx) : Array Value := #[.int .i64 x.1, fxV x.2]
/-- The blocks, each with its number. -/
def Z9 (L : List Fx) : List (Nat × Fx) := L.zipIdx.map fun p => (p.2, p.1)
theorem Z9_len (L : List Fx) : (Z9 L).length = L.length := by simp [Z9]
theorem Z9_get (L : List Fx) (k : Nat) (h : k < L.length) (h' : k < (Z9 L).length) : (Z9 L)[k] = (k, L[k]) := by simp [Z9]
set_option maxRecDepth 100000 in
set_option maxHeartbeats 4000000 in
theorem back9_in (F : Fence) (n : Nat) (h44 : F.fn 64) (hro : F.round = none) (hn : 1 ≤ n) (l Bs n₀ m c : Nat) (A : Option Addr) (L : List Fx) (J Jx : List (Nat × Fx) → World → Prop) (B : Nat)
    (hY : ∀ pre x W, J pre W → pre.length < L.length → YieldAt F (n - 1) Tryz.prog l (enc9 x) W fun e W' => (e = .returned (.bool true) ∧ J (pre ++ [x]) W' ∧ Kb8 n₀ m W W' ∧ KeepsFrom B W W') ∨ (e = .returned (.bool false) ∧ Jx (pre ++ [x]) W' ∧ KeepsFrom B W W'))
    (W : World) (hBs : _root_.Go.Boxed W Bs 61 (.slice A L.length c)) (hm : m ≤ Bs) (hL : Lies9 W n₀ A L) (hl : L.length ≤ 1000000) (h0 : J [] W) :
    CallsIn F n Tryz.prog 64 #[.func (.yield l) #[] #[], .pointer (some ⟨Bs, 0, none⟩)] W fun e W' => (∃ v, e = .returned v) ∧
      ((∃ ys, ys = (Z9 L).reverse ∧ J ys W') ∨ (∃ pre, pre <+: (Z9 L).reverse ∧ Jx pre W')) := by
  have HY := Lib.hid hY
  have HL := Lib.hid hL
  have HB := Lib.hid hBs
  have cB := hBs.cell
  have hl1 : (L.length : Int) - 1 < 9223372036854775808 := by omega
  have H0 : Hid (J [] W) := h0
  have HS : Hid (([] : List (Nat × Fx)) = ((Z9 L).drop L.length).reverse) := by show _ = _; rw [← Z9_len]; simp
  clear hY hL hBs h0
  refine callsIn_of_wp Tryz.func64 rfl h44 ?_ hro
  simp only [Tryz.ntmps64, List.size_toArray, List.length_cons, List.length_nil, Nat.reduceAdd, Nat.reduceSub, Array.replicate_succ, Array.replicate_zero, List.push_toArray, List.append_toArray, List.nil_append, List.cons_append]
  gi_wp2
  gi_loopw [3] (fun i wr => ∃ (k : Nat) (ys : List (Nat × Fx)), k ≤ L.length ∧ i = .int .i64 ((k : Int) - 1) ∧ Hid (ys = ((Z9 L).drop k).reverse) ∧ Hid (J ys wr) ∧ Hid (Kb8 n₀ m W wr)) (fun i _ => (intOf i + 1).toNat)
  case atStart => exact ⟨L.length, [], Nat.le_refl _, by go_num, HS, H0, Kb8.refl _ _ _⟩
  case round =>
    obtain ⟨k, ys, hk, rfl, hys, hJ1, hkc⟩ := hrel
    cases k with
    | zero =>
      have i1 : ¬ ((0 : Int) ≤ ((0 : Nat) : Int) - 1) := by omega
      gi_wp2
      go_end0
      exact ⟨⟨_, rfl⟩, .inl (by have h : ys = (Z9 L).reverse := (by simpa using hys.out); rw [← h]; exact hJ1.out)⟩
    | succ k =>
      obtain ⟨g, rfl, mb, cp⟩ := HL.out k hk
      obtain ⟨q, hq⟩ : ∃ q, q = L[k] := ⟨_, rfl⟩
      rw [← hq] at cp
      have cp1 : ∀ i, i < 4 → wr.cell? ⟨g, k * 4 + i, none⟩ = (q.cells)[i]? := fun i hi => (hkc.out.low.cell (p := ⟨g, k * 4 + i, none⟩) mb).trans (cp i hi)
      have p0 : wr.cell? ⟨g, k * 4, none⟩ = some (.slice q.RA q.rest.length q.rc) := cp1 0 (by omega)
      have p1 : wr.cell? ⟨g, k * 4 + 1, none⟩ = some (.slice q.BA q.body.length q.bc) := cp1 1 (by omega)
      have p2 : wr.cell? ⟨g, k * 4 + 2, none⟩ = some (.int .i64 q.turns) := cp1 2 (by omega)
      have p3 : wr.cell? ⟨g, k * 4 + 3, none⟩ = some (.pointer q.kp) := cp1 3 (by omega)
      have cB1 : wr.cell? ⟨Bs, 0, none⟩ = some (.slice (some ⟨g, 0, none⟩) L.length c) := (show _root_.Go.Boxed wr Bs 61 _ from hkc.out.high Bs _ _ _ hm HB.out).cell
      have e1 : (((k + 1 : Nat) : Int) - 1) = (k : Int) := by omega
      rw [e1]
      have hlen := congrArg List.length hys.out
      simp only [List.length_reverse, List.length_drop, Z9_len] at hlen
      have hdrop : (Z9 L).drop k = (k, q) :: (Z9 L).drop (k + 1) := by rw [List.drop_eq_getElem_cons (by rw [Z9_len]; exact hk), Z9_get L k hk, hq]
      have hsn : ys ++ [(k, q)] = ((Z9 L).drop k).reverse := by rw [hys.out, hdrop, List.reverse_cons]
      obtain ⟨fn, tmps, assign, body, hy, hR⟩ := HY.out ys (k, q) wr hJ1.out (by omega)
      dsimp only [enc9, fxV] at hy
      have HS2 := Lib.hid hsn
      have i2 : (0 : Int) ≤ (k : Int) := by omega
      have i3 : (k : Int) < (L.length : Int) := by omega
      have i4 : (k : Int) ≤ 1000000 := by omega
      have HL3 : Hid (((Z9 L).drop k).reverse <+: (Z9 L).reverse) := by
        show _ <+: _
        rw [List.reverse_prefix]
        exact List.drop_suffix k (Z9 L)
      clear cp cp1 mb e1 hlen hdrop hsn hq hys hJ1
      gi_wp2
      refine hR.mono ?_
      rintro e W3 (⟨rfl, hJ3, hk3, _⟩ | ⟨rfl, hJx3, _⟩)
      · have HJ3 := Lib.hid hJ3
        have HK3 := Lib.hid (hkc.out.trans hk3)
        clear hJ3 hk3 hkc p0 p1 p2 p3 cB1
        gi_wp2
        go_roundw
        case rel => exact ⟨k, _, by omega, by go_num, HS2, HJ3, HK3⟩
        case measure => first | (simp [intOf]; done) | (simp [intOf]; omega)
      · have HJ3 := Lib.hid hJx3
        clear hJx3
        gi_wp2
        refine bodyPost_ret (results_none rfl _ _ _) rfl ?_
        exact ⟨⟨_, rfl⟩, .inr ⟨_, by rw [HS2.out]; exact HL3.out, HJ3.out⟩⟩
set_option maxHeartbeats 1000000 in
theorem backward9_in (F : Fence) (n : Nat) (h : F.fn 43) (hro : F.round = none) (A : Option Addr) (k c : Nat) (w : World) :
    CallsIn F n Tryz.prog 43 #[.slice A k c] w fun e w' => e = .returned (.func (.func 64) #[] #[.pointer (some ⟨w.heap.size, 0, none⟩)]) ∧ w' = w.alloc (.cells #[.slice A k c] 61) := by
  refine callsIn_of_wp Tryz.func43 rfl h ?_ hro
  simp only [Tryz.ntmps43, List.size_toArray, List.length_cons, List.length_nil, Nat.reduceAdd, Nat.reduceSub, Array.replicate_succ, Array.replicate_zero, List.push_toArray, List.append_toArray, List.nil_append, List.cons_append]
  gi_wp2
  go_ret
  exact ⟨rfl, rfl⟩
theorem back9_seq (F : Fence) (n : Nat) (h44 : F.fn 64) (hro : F.round = none) (hn : 1 ≤ n) (Bs n₀ m c : Nat) (A : Option Addr) (L : List Fx) (w : World) (hBs : _root_.Go.Boxed w Bs 61 (.slice A L.length c)) (hm : m ≤ Bs) (hn₀ : n₀ ≤ w.heap.size) (hL : Lies9 w n₀ A L) (hl : L.length ≤ 1000000) :
    SeqO F n Tryz.prog 64 #[.pointer (some ⟨Bs, 0, none⟩)] enc9 (Kb8 n₀ m) (fun ys => ys = (Z9 L).reverse) (fun ys => ys <+: (Z9 L).reverse) L.length w := fun l J Jx W hW _ _ hY h0 =>
  back9_in F n h44 hro hn l Bs n₀ m c A L J Jx W.heap.size hY W ((hW.block _ hBs.lt).trans hBs) hm (hL.below (hW.mono hn₀) (Nat.le_refl _)) hl h0
end Go.Proofs.YthdcdffdpdoeoaaGreatDoor
/-
  CONTRACT OF PACKAGE interp's innermost (layer 9): which block is the Body of the innermost OrElse. Conditions: as they stand.
-/
namespace Go.Proofs.YthdcdffdpdoeoaaGreatDoor
set_option maxRecDepth 100000
open Go.RowKit Go.Shelf
set_option linter.unusedVariables false
attribute [local go_sem] Oper.semAt_some
section
variable {F : Fence} {n : Nat} {P : Program}
/-- A loop over an iterator whose assignment lays a box of its own. -/
theorem loopA {α : Type} {g : Operand} {ps : Array Tmp} {assign body : Code} {Q : Exit → Act → World → Prop} {a : Act} {w : World} (hro : F.round = none) (h1 : 1 ≤ n) {gf : Nat} {lb : Array Value} (hg : a.eval g = .func (.func gf) #[] lb) (hFg : F.fn gf) (eg : ∀ args w, (callFunc gf args).run P w = .ok (.enter gf args) w)
    {encs : α → Array Value} {n₀ m : Nat} {S Sp : List α → Prop} {N : Nat} (hseq : SeqO F (n - 1) P gf lb encs (Kb8 n₀ m) S Sp N w) (hn₀ : n₀ ≤ w.heap.size) (hps : ∀ x, (encs x).size = ps.size)
    (I X : List α → World → Prop) (hI : OwnFrom w.heap.size I) (hX : OwnFrom w.heap.size X) (h0 : I [] w) (a₁ : α → Nat → Act) (I₁ : List α → α → Nat → World → Prop) (hI₁ : OwnFrom w.heap.size fun (s : List α × α × Nat) => I₁ s.1 s.2.1 s.2.2)
    (hassign : ∀ (l : Nat) (pre : List α) (x : α) (W : World) (K : Act → World → Prop), I pre W → w.heap.size + 2 ≤ W.heap.size → (∀ b Wa, KeepsFrom w.heap.size W Wa → Kb8 n₀ m W Wa → I₁ pre x b Wa → K (a₁ x b) Wa) → assign.wpIn (F.inRound l) (n - 1 - 1) P (Exit.then K (fun _ _ _ => False)) { tmps := (ps.zip (encs x)).foldl (fun t (p, v) => t.setIfInBounds p v) a.tmps, defers := [] } W)
    (hbody : ∀ (l : Nat) (pre : List α) (x : α) (b : Nat) (W : World), I₁ pre x b W → pre.length < N → body.wpIn (F.inRound l) (n - 1 - 1) P (leftO w.heap.size (Kb8 n₀ m) I X (pre ++ [x]) W) (a₁ x b) W)
    (hdone : ∀ (xs : List α) (W : World), S xs → I xs W → W.heap[w.heap.size]? = some (.deferred (some [])) → Q .normal { a with defers := { target := .collected w.heap.size, args := #[] } :: a.defers } W)
    (hstop : ∀ (pre : List α) (W : World), Sp pre → X pre W → W.heap[w.heap.size]? = some (.deferred (some [])) → Code.ret.wpIn F n P Q { a with defers := { target := .collected w.heap.size, args := #[] } :: a.defers } W) :
    (Code.rangeFunc g ps assign body).wpIn F n P Q a w := by
  refine wpIn_rangeFunc fun fn hfn => ?_
  rw [hro]
  have hbk : BkO w.heap.size (recO fn a.tmps ps assign body w.heap.size .ready none) ((w.alloc (.deferred (some []))).alloc (.loop (recO fn a.tmps ps assign body w.heap.size .ready none))) := by
    refine ⟨?_, (Below.heap_alloc _ _ _ (by simp)).trans (World.alloc_heap_new w _)⟩
    have := World.alloc_heap_new (w.alloc (.deferred (some []))) (.loop (recO fn a.tmps ps assign body w.heap.size .ready none))
    rwa [World.size_alloc] at this
  have hz : ((w.alloc (.deferred (some []))).alloc (.loop (recO fn a.tmps ps assign body w.heap.size .ready none))).heap.size = w.heap.size + 2 := by simp
  have hbl : Below w.heap.size w ((w.alloc (.deferred (some []))).alloc (.loop (recO fn a.tmps ps assign body w.heap.size .ready none))) := ((Below.refl _ w).alloc (Nat.le_refl _) _).alloc (by simp) _
  have hi0 : I [] ((w.alloc (.deferred (some []))).alloc (.loop (recO fn a.tmps ps assign body w.heap.size .ready none))) := hI.alloc _ (hI.alloc _ h0)
  have hen := run_enterLoop_outer (P := P) (w := w) fn a.tmps ps assign body
  change _ = Result.ok _ ((w.alloc (.deferred (some []))).alloc (.loop (recO fn a.tmps ps assign body w.heap.size .ready none))) at hen
  revert hbk hz hbl hi0 hen
  generalize (w.alloc (.deferred (some []))).alloc (.loop (recO fn a.tmps ps assign body w.heap.size .ready none)) = W1
  intro hbk hz hbl hi0 hen
  refine ⟨w.heap.size + 1, [{ target := .collected w.heap.size, args := #[] }], W1, { target := .fn (.func gf) lb, args := #[.func (.yield (w.heap.size + 1)) #[] #[]] }, W1, gf, #[.func (.yield (w.heap.size + 1)) #[] #[]] ++ lb, W1, hen, ?_, ?_, ?_, fun _ => h1, ?_⟩
  · simp only [resolve, hg]
    simp [go_sem]
  · intro f' hf'
    simp [Target.leads] at hf'
    subst hf'
    exact hFg
  · simp [invoke, go_sem, eg]
  · skip
    have far : ∀ {A : World} {row : Option Nat}, (∀ r, row = some r → W1.heap.size ≤ r ∧ ∃ o : Obj, A.heap[r]? = some o ∧ o.isCells = false) → (∀ r, row = some r → w.heap.size ≤ r ∧ ∃ o : Obj, A.heap[r]? = some o ∧ o.isCells = false) ∧ ∀ r, row = some r → w.heap.size + 2 ≤ r :=
      fun h => ⟨fun r e => ⟨by have := (h r e).1; omega, (h r e).2⟩, fun r e => by have := (h r e).1; omega⟩
    refine (hseq (w.heap.size + 1) (fun pre W => I pre W ∧ BkO w.heap.size (recO fn a.tmps ps assign body w.heap.size .ready none) W) (fun pre W => X pre W ∧ BkO w.heap.size (recO fn a.tmps ps assign body w.heap.size .done (some .ret)) W) W1 hbl
      (fun s A C row hs hg' hr => ⟨hI s A C row hs.1 hg' (far hr).1, hs.2.grown hg' (far hr).2⟩) (fun s A C row hs hg' hr => ⟨hX s A C row hs.1 hg' (far hr).1, hs.2.grown hg' (far hr).2⟩) ?_ ⟨hi0, hbk⟩).mono ?_
    · rintro pre x W ⟨hi, hb⟩ hlen
      have hlt1 := (Array.getElem?_eq_some_iff.1 hb.rcd).1
      refine ⟨fn, _, assign, body, run_yield hb.rcd (hps x), roundIn_of_wpIn hfn (hassign _ pre x W _ hi (by omega) ?_)⟩
      intro bb Wa kWa kbWa hi1
      have hba := hb.keep kWa
      refine ⟨_, run_beginRound hba.rcd rfl, ?_⟩
      have hb2 : BkO w.heap.size (recO fn a.tmps ps assign body w.heap.size .busy none) (Wa.putObj (w.heap.size + 1) (.loop (recO fn a.tmps ps assign body w.heap.size .busy none))) := hba.put _
      have hi2 : I₁ pre x bb (Wa.putObj (w.heap.size + 1) (.loop (recO fn a.tmps ps assign body w.heap.size .busy none))) := hI₁.putObj (s := (pre, x, bb)) _ hi1 (by omega) hba.rcd rfl
      have hk2 : Kb8 n₀ m W (Wa.putObj (w.heap.size + 1) (.loop (recO fn a.tmps ps assign body w.heap.size .busy none))) := kbWa.trans (Kb8.putObj _ _ _ (by omega) hba.rcd rfl)
      have hkp : KeepsFrom W1.heap.size W (Wa.putObj (w.heap.size + 1) (.loop (recO fn a.tmps ps assign body w.heap.size .busy none))) := (keeps_up kWa (by omega)).trans (keeps_put _ _ (by omega))
      refine wpIn_mono (hbody _ pre x bb _ hi2 hlen) ?_
      rintro e a3 W3 hp
      cases e with
      | normal =>
        obtain ⟨q1, q2, q3⟩ := hp
        have hb3 := hb2.keep q1
        exact ⟨_, _, run_endRound none hb3.rcd, .inl ⟨rfl, ⟨hI.putObj _ q3 (by omega) hb3.rcd rfl, hb3.put _⟩, (hk2.trans q2).trans (Kb8.putObj _ _ _ (by omega) hb3.rcd rfl), (hkp.trans (keeps_up q1 (by omega))).trans (keeps_put _ _ (by omega))⟩⟩
      | ret =>
        obtain ⟨q1, q3⟩ := hp
        have hb3 := hb2.keep q1
        exact ⟨_, _, run_endRound (some .ret) hb3.rcd, .inr ⟨rfl, ⟨hX.putObj _ q3 (by omega) hb3.rcd rfl, hb3.put _⟩, (hkp.trans (keeps_up q1 (by omega))).trans (keeps_put _ _ (by omega))⟩⟩
      | exit id => exact hp.elim
      | goto t => exact hp.elim
      | panic ch => exact hp.elim
      | outgrown => exact hp.elim
    · rintro e W2 ⟨⟨v, rfl⟩, (⟨xs, hS, hi, hb⟩ | ⟨pre, hSp, hi, hb⟩)⟩
      · exact ⟨none, _, run_endLoop hb.rcd (by simp [recO]), hdone xs _ hS (hI.putObj _ hi (by omega) hb.rcd rfl) ((World.putObj_heap_other (by omega)).trans hb.dfr)⟩
      · exact ⟨some .ret, _, run_endLoop hb.rcd (by simp [recO]), hstop pre _ hSp (hX.putObj _ hi (by omega) hb.rcd rfl) ((World.putObj_heap_other (by omega)).trans hb.dfr)⟩
end
/-- The last of some blocks that has something kept, -1 if none has. -/
def inner9 (L : List Fx) : Int := match (Z9 L).reverse.find? fun x => x.2.kept.isSome with
  | some x => x.1
  | none => -1
set_option maxRecDepth 100000 in
set_option maxHeartbeats 4000000 in
theorem innermost_in (n : Nat) (hn : 5 ≤ n) (q c : Nat) (A : Option Addr) (w : World) (L : List Fx) (hq : q < w.heap.size)
    (hc : w.cell? ⟨q, 11, none⟩ = some (.slice A L.length c)) (hL : Lies9 w w.heap.size A L) (hl : L.length ≤ 1000000) :
    CallsIn Fence.wide n Tryz.prog 26 #[.pointer (some ⟨q, 0, none⟩)] w fun e w' => e = .returned (.int .i64 (inner9 L)) ∧ Below w.heap.size w w' := by
  have h1 : 1 ≤ n := by omega
  have hfl : Fence.wide.fn 43 := trivial
  obtain ⟨res, hres⟩ : ∃ res, res = inner9 L := ⟨_, rfl⟩
  rw [← hres]
  refine callsIn_of_wp_marks Tryz.func26 rfl trivial ?_ rfl
  simp only [Tryz.ntmps26, List.size_toArray, List.length_cons, List.length_nil, Nat.reduceAdd, Nat.reduceSub, Array.replicate_succ, Array.replicate_zero, List.push_toArray, List.append_toArray, List.nil_append, List.cons_append]
  gi_wp2_with (gi_at_call 43; refine (backward9_in Fence.wide (n - 1) trivial rfl _ _ _ _).mono ?_; rintro e w' ⟨rfl, rfl⟩)
  obtain ⟨W0, hW0⟩ : ∃ W0, W0 = (w.alloc (.cells #[.int .i64 0] 3)).alloc (.cells #[.slice A L.length c] 61) := ⟨_, rfl⟩
  have hz0 : W0.heap.size = w.heap.size + 2 := by rw [hW0]; simp
  have hB0 : Below w.heap.size w W0 := by rw [hW0]; exact ((Below.refl _ w).alloc (Nat.le_refl _) _).alloc (by simp) _
  have bX : _root_.Go.Boxed W0 w.heap.size 3 (.int .i64 0) := by rw [hW0]; exact (_root_.Go.Boxed.new w _ _).alloc _
  have bS : _root_.Go.Boxed W0 (w.heap.size + 1) 61 (.slice A L.length c) := by
    rw [hW0]
    have := _root_.Go.Boxed.new (w.alloc (.cells #[.int .i64 0] 3)) 61 (.slice A L.length c)
    rwa [World.size_alloc] at this
  have hL0 := hL.below hB0 (Nat.le_refl _)
  rw [← hW0]
  clear hW0
  refine loopA (F := Fence.wide) rfl h1 (gf := 64) (lb := #[.pointer (some ⟨w.heap.size + 1, 0, none⟩)]) rfl trivial (enters_of Tryz.func64 (by kernel_rfl) rfl)
    (back9_seq Fence.wide (n - 1) trivial rfl (by omega) (w.heap.size + 1) w.heap.size (w.heap.size + 1) c A L W0 bS (Nat.le_refl _) (by omega) hL0 hl) (by omega) (fun _ => rfl)
    (fun pre W => ((∀ e ∈ pre, e.2.kept = none) ∧ _root_.Go.Boxed W w.heap.size 3 (.int .i64 0)) ∧ Below w.heap.size w W)
    (fun pre W => (∃ y x, pre = y ++ [x] ∧ (∀ e ∈ y, e.2.kept = none) ∧ x.2.kept.isSome = true ∧ _root_.Go.Boxed W w.heap.size 3 (.int .i64 x.1)) ∧ Below w.heap.size w W)
    (OwnFrom.and (fun s A B row hs hg hr => ⟨hs.1, own_box _ _ (fun _ => .int .i64 0) W0.heap.size s A B row hs.2 hg hr⟩) (ownFrom_below (Nat.le_refl _) (by omega)))
    (OwnFrom.and (fun s A B row hs hg hr => by
      obtain ⟨y, x, e1, e2, e3, b1⟩ := hs
      exact ⟨y, x, e1, e2, e3, own_box _ _ (fun _ : Unit => .int .i64 x.1) W0.heap.size () A B row b1 hg hr⟩) (ownFrom_below (Nat.le_refl _) (by omega)))
    ⟨⟨by simp, bX⟩, hB0⟩
    (fun x b => { tmps := #[.pointer (some ⟨q, 0, none⟩), undef, .pointer (some ⟨w.heap.size, 0, none⟩), .int .i64 x.1, .pointer (some ⟨b, 0, none⟩), .pointer (some ⟨q, 0, none⟩), .pointer (some ⟨q, 0, none⟩), .pointer (some ⟨q, 11, none⟩), .slice A L.length c, .func (.func 64) #[] #[.pointer (some ⟨w.heap.size + 1, 0, none⟩)], .int .i64 x.1, fxV x.2, undef, undef, undef, undef], defers := [] })
    (fun pre x b W => (((∀ e ∈ pre, e.2.kept = none) ∧ _root_.Go.Boxed W w.heap.size 3 (.int .i64 0)) ∧ Below w.heap.size w W) ∧ W.heap[b]? = some (.cells #[.slice x.2.RA x.2.rest.length x.2.rc, .slice x.2.BA x.2.body.length x.2.bc, .int .i64 x.2.turns, .pointer x.2.kp] 66 (0, 0)))
    ?own ?assign ?body ?done ?stop
  case own =>
    refine OwnFrom.and (OwnFrom.and (fun s A B row hs hg hr => ⟨hs.1, own_box _ _ (fun _ => .int .i64 0) W0.heap.size s A B row hs.2 hg hr⟩) (ownFrom_below (Nat.le_refl _) (by omega))) (fun s A B row hs hg hr => ?_)
    refine (hg.block _ (Array.getElem?_eq_some_iff.1 hs).1 (fun e => ?_)).trans hs
    obtain ⟨o, ho, hc⟩ := (hr _ e.symm).2
    rw [hs] at ho
    injection ho with ho
    rw [← ho] at hc
    cases hc
  case assign =>
    intro l2 pre x W4 K hi4 hsz4 hK
    have hK := Lib.hid hK
    have hi4 := Lib.hid hi4
    unfold enc9 fxV
    gi_wp2
    have hsz : w.heap.size ≤ W4.heap.size := hi4.out.2.size
    refine hK.out W4.heap.size _ (KeepsFrom.of_grownBy (World.grownBy_alloc W4 _ none) (fun j e => by cases e)) (Kb8.alloc _ hsz) ⟨⟨⟨hi4.out.1.1, hi4.out.1.2.alloc _⟩, hi4.out.2.alloc hsz _⟩, World.alloc_heap_new W4 _⟩
  case body =>
    rintro l2 pre x b W4 ⟨⟨⟨hp, b1⟩, hB4⟩, hbx⟩ hlen
    have c1 := b1.cell
    have f1 := b1.frozen
    have c3 : W4.cell? ⟨b, 3, none⟩ = some (.pointer x.2.kp) := by simp [World.cell?, hbx]
    unfold fxV
    cases hk : x.2.kept with
    | none =>
      have c3' : W4.cell? ⟨b, 3, none⟩ = some (.pointer none) := by rw [c3, Fx.kp, hk]; rfl
      have HK := Lib.hid hk
      clear c3 hk hbx
      gi_wp2
      refine ⟨KeepsFrom.refl _ _, Kb8.refl _ _ _, ⟨fun e he => ?_, b1⟩, hB4⟩
      rcases List.mem_append.1 he with he | he
      · exact hp e he
      · rw [List.mem_singleton.1 he]
        exact HK.out
    | some k =>
      have c3' : W4.cell? ⟨b, 3, none⟩ = some (.pointer (some ⟨k.b, 0, none⟩)) := by rw [c3, Fx.kp, hk]; rfl
      have HK := Lib.hid hk
      clear c3 hk hbx
      gi_wp2
      exact ⟨(KeepsOthers.setCell _ _ _).from _, ⟨pre, x, rfl, hp, by rw [HK.out]; rfl, b1.set _⟩, hB4.setCell (p := ⟨w.heap.size, 0, none⟩) (Nat.le_refl _) _⟩
  case done =>
    rintro xs W4 hxs ⟨⟨hp, b1⟩, hB4⟩ hK
    have c1 := b1.cell
    have f1 := b1.frozen
    gi_wp2
    have hr0 : res = -1 := by
      rw [hres, inner9, ← hxs, List.find?_eq_none.2 (fun x hx => by rw [hp x hx]; simp)]
    subst hr0
    have hK9 : (W4.setCell ⟨w.heap.size, 0, none⟩ (.int .i64 (-1))).heap[W0.heap.size]? = some (.deferred (some [])) := (KeepsOthers.setCell _ _ _).same _ _ hK rfl
    have hB9 : Below w.heap.size w (W4.setCell ⟨w.heap.size, 0, none⟩ (.int .i64 (-1))) := hB4.setCell (p := ⟨w.heap.size, 0, none⟩) (Nat.le_refl _) _
    have q1 := cell_kept ((b1.set (.int .i64 (-1))).cell) (grownBy_putObj' _ W0.heap.size (.deferred none)) (fun r e => by cases e; exact ⟨_, hK9, rfl⟩)
    refine ⟨by simp, .inl ⟨_, _, rfl, run_takeDeferred hK9, ?_⟩⟩
    refine ⟨.int .i64 (-1), ?_, rfl, hB9.trans (belowK_b (w := w) (Nat.le_refl _) _ _ _ _ (by omega) hK9 rfl rfl)⟩
    simp [results, Tryz.f26, go_sem, q1]
  case stop =>
    rintro pre W4 hsp ⟨⟨y, x, rfl, e2, e3, b1⟩, hB4⟩ hK
    gi_wp2
    have hr0 : res = x.1 := by
      obtain ⟨z, hz⟩ := hsp
      rw [hres, inner9, ← hz, List.append_assoc, List.find?_append, List.find?_eq_none.2 (fun x hx => by rw [e2 x hx]; simp)]
      simp [e3]
    subst hr0
    have q1 := cell_kept b1.cell (grownBy_putObj' _ W0.heap.size (.deferred none)) (fun r e => by cases e; exact ⟨_, hK, rfl⟩)
    refine ⟨by simp, .inl ⟨_, _, rfl, run_takeDeferred hK, ?_⟩⟩
    refine ⟨.int .i64 x.1, ?_, rfl, hB4.trans (belowK_b (w := w) (Nat.le_refl _) _ _ _ _ (by omega) hK rfl rfl)⟩
    simp [results, Tryz.f26, go_sem, q1]
end Go.Proofs.YthdcdffdpdoeoaaGreatDoor
/-
  CONTRACT OF PACKAGE interp's retry (layer 9); which block is the innermost OrElse's. Conditions: as they stand.
-/
namespace Go.Proofs.YthdcdffdpdoeoaaGreatDoor
set_option maxRecDepth 100000
open Go.RowKit Go.Deep
set_option linter.unusedVariables false
theorem inner9_snoc (L : List Fx) (f : Fx) : inner9 (L ++ [f]) = if f.kept.isSome then (L.length : Int) else inner9 L := by
  have hz : (Z9 (L ++ [f])).reverse = (L.length, f) :: (Z9 L).reverse := by
    simp [Z9, List.zipIdx_append]
  unfold inner9
  rw [hz, List.find?_cons]
  cases f.kept.isSome <;> simp
theorem inner9_nil : inner9 [] = -1 := rfl
/-- Which block it is. -/
theorem inner_of : ∀ (m : Nat) (L : List Fx), L.length = m → (keptOf (plF L) = none ∧ inner9 L = -1) ∨ ∃ L1 f L2 k, L = L1 ++ f :: L2 ∧ f.kept = some k ∧ inner9 L = L1.length ∧ keptOf (plF L) = some (k.l, k.els, plF L1) := by
  intro m
  induction m with
  | zero =>
    intro L h
    obtain rfl := List.eq_nil_of_length_eq_zero h
    exact .inl ⟨rfl, rfl⟩
  | succ m ih =>
    intro L h
    rcases List.eq_nil_or_concat L with rfl | ⟨L0, f, hf⟩
    · cases h
    · try rw [List.concat_eq_append] at hf
      subst hf
      rw [inner9_snoc, plF_snoc, keptOf]
      cases hk : f.kept with
      | none =>
        have hp : f.pl.kept = none := by show f.kept.map _ = none; rw [hk]; rfl
        rw [hp]
        rcases ih L0 (by simpa using h) with ⟨h1, h2⟩ | ⟨L1, g, L2, k, h1, h2, h3, h4⟩
        · exact .inl ⟨h1, by simpa using h2⟩
        · exact .inr ⟨L1, g, L2 ++ [f], k, by rw [h1]; simp, h2, by simpa using h3, h4⟩
      | some k =>
        have hp : f.pl.kept = some (k.l, k.els) := by show f.kept.map _ = _; rw [hk]; rfl
        rw [hp]
        exact .inr ⟨L0, f, [], k, by simp, hk, by simp, rfl⟩
section
variable {E : Ev9} {w w' : World} {l : List Int} {L L1 L2 : List Fx} {f : Fx} {T : List (List Pr)} {n : Nat} {A : Option Addr} {c : Nat} {S S2 SB I : Nat → Prop}
theorem RMat.lies9 (h : RMat E w l L T n A c S SB I) : Lies9 w w.heap.size A L := fun j hj => by
  obtain ⟨g, hA, _, _, _, _, hgl, _, _, _, hc⟩ := h.at_ (by omega)
  exact ⟨g, hA, hgl, fun i hi => hc j hj i hi⟩
theorem innermost_any (h : RMat E w l L T n A c S SB I) : Calls Tryz.prog 26 #[.pointer (some ⟨E.q, 0, none⟩)] w fun e w' => e = .returned (.int .i64 (inner9 L)) ∧ Below w.heap.size w w' :=
  callsIn_wide.1 (innermost_in 5 (by omega) E.q c A w L (h.lt _ h.qS) h.c11 h.lies9 (by have := h.frames; omega))
theorem drop_flat (T : List (List Pr)) : (flatB (dropT T)).length ≤ (flatB T).length := by
  match T with
  | [] => exact Nat.le_refl _
  | [a] => exact Nat.le_refl _
  | a :: b :: t => show _ ≤ (flatB (b :: t) ++ a).length; rw [List.length_append]; exact Nat.le_add_right _ _
theorem drop_len (T : List (List Pr)) : (dropT T).length ≤ T.length := by
  match T with
  | [] => exact Nat.le_refl _
  | [a] => exact Nat.le_refl _
  | a :: b :: t => simp [dropT]
/-- A machine whose locals are others. -/
theorem RMat.put8 (h : RMat E w l L T n A c S SB I) {l0 l1 l2 l3 l4 l5 l6 l7 : Int} (hw : ∀ x ∈ [l0, l1, l2, l3, l4, l5, l6, l7], wfI x) : RMat E ((((((((w.setCell ⟨E.q, 2, none⟩ (.int .i64 l0)).setCell ⟨E.q, 3, none⟩ (.int .i64 l1)).setCell ⟨E.q, 4, none⟩ (.int .i64 l2)).setCell ⟨E.q, 5, none⟩ (.int .i64 l3)).setCell ⟨E.q, 6, none⟩ (.int .i64 l4)).setCell ⟨E.q, 7, none⟩ (.int .i64 l5)).setCell ⟨E.q, 8, none⟩ (.int .i64 l6)).setCell ⟨E.q, 9, none⟩ (.int .i64 l7)) [l0, l1, l2, l3, l4, l5, l6, l7] L T n A c S SB I ∧
    Tr E w S ((((((((w.setCell ⟨E.q, 2, none⟩ (.int .i64 l0)).setCell ⟨E.q, 3, none⟩ (.int .i64 l1)).setCell ⟨E.q, 4, none⟩ (.int .i64 l2)).setCell ⟨E.q, 5, none⟩ (.int .i64 l3)).setCell ⟨E.q, 6, none⟩ (.int .i64 l4)).setCell ⟨E.q, 7, none⟩ (.int .i64 l5)).setCell ⟨E.q, 8, none⟩ (.int .i64 l6)).setCell ⟨E.q, 9, none⟩ (.int .i64 l7)) S := by
  have h0 := h.putl 0 (by omega) l0 (hw _ (by simp))
  have h1 := h0.putl 1 (by omega) l1 (hw _ (by simp))
  have h2 := h1.putl 2 (by omega) l2 (hw _ (by simp))
  have h3 := h2.putl 3 (by omega) l3 (hw _ (by simp))
  have h4 := h3.putl 4 (by omega) l4 (hw _ (by simp))
  have h5 := h4.putl 5 (by omega) l5 (hw _ (by simp))
  have h6 := h5.putl 6 (by omega) l6 (hw _ (by simp))
  have h7 := h6.putl 7 (by omega) l7 (hw _ (by simp))
  have t := ((((((h.tr_put 2 (.int .i64 l0)).trans (h0.tr_put 3 (.int .i64 l1))).trans (h1.tr_put 4 (.int .i64 l2))).trans (h2.tr_put 5 (.int .i64 l3))).trans (h3.tr_put 6 (.int .i64 l4))).trans (h4.tr_put 7 (.int .i64 l5))).trans (h5.tr_put 8 (.int .i64 l6))
  have tt := t.trans (h6.tr_put 9 (.int .i64 l7))
  obtain ⟨m0, m1, m2, m3, m4, m5, m6, m7, rfl⟩ := mc_eight h.len
  exact ⟨h7, tt⟩
set_option maxHeartbeats 4000000 in
theorem retry_any (h : RMat E w l (L1 ++ f :: L2) T n A c S SB I) {k : Kx} (hk : f.kept = some k) (hi : inner9 (L1 ++ f :: L2) = L1.length) (hT : ¬ T.length < 2) {r : Raw} : Calls Tryz.prog 50 #[.pointer (some ⟨E.q, 0, none⟩), r.v] w fun e w' => (∃ v, e = .returned v) ∧ ∃ f' : Fx, f'.pl = ⟨k.els, [], 0, none⟩ ∧ ∃ (A' : Option Addr) (c' : Nat) (S' SB' : Nat → Prop), RMat E w' k.l (L1 ++ [f']) (dropT T) n A' c' S' SB' I ∧ Tr E w S w' S' := by
  have HIN := Lib.hid (fun (W : World) (hb : Below w.heap.size w W) => innermost_any (h.below hb))
  rw [hi] at HIN
  have H := Lib.hid h
  have HK := Lib.hid hk
  have HT := Lib.hid hT
  clear h hk hi hT
  go_enter Tryz.func50, Tryz.ntmps50
  go_wp2_with fail
  refine (HIN.out _ ((Below.refl _ _).alloc (Nat.le_refl _) _)).mono ?_
  rintro e w2 ⟨rfl, b2⟩
  have B2 : Below w.heap.size w w2 := ((Below.refl _ _).alloc (Nat.le_refl _) _).trans (b2.mono (by simp))
  clear b2
  have h2 := H.out.below B2
  have hlen : (L1 ++ f :: L2).length = L1.length + (L2.length + 1) := by simp
  obtain ⟨g, hA, hSg, hBg, hIg, hgq, hgl, hc1, hc2, hfz, hcells⟩ := h2.at_ (by omega)
  have c11 := h2.c11
  rw [hA, hlen] at c11
  have k3 : w2.cell? ⟨g, L1.length * 4 + 3, none⟩ = some (.pointer (some ⟨k.b, 0, none⟩)) := by
    have := hcells L1.length (by omega) 3 (by omega)
    rw [this]
    simp [Fx.cells, Fx.kp, HK.out]
  have i1 : (0 : Int) ≤ (L1.length : Int) := by omega
  have i2 : (L1.length : Int) < ((L1.length + (L2.length + 1) : Nat) : Int) := by omega
  have c10 := h2.c10
  have T2 := Lib.hid (Tr.below (S := S) B2 H.out.hiw)
  have HD := Lib.hid (drop_any E.bq SB T w2 h2.buf (by have := h2.lev; omega))
  rw [if_neg HT.out] at HD
  have H2 := Lib.hid h2
  clear B2 h2 hcells hfz hc1 hc2 hgl
  go_wp2_with fail
  refine HD.out.mono ?_
  rintro e w3 ⟨rfl, rb3, f3⟩
  obtain ⟨h3, t3⟩ := H2.out.buffed rb3 (fun b hb => .inl hb) f3 (Nat.le_trans (drop_len T) H2.out.lev) (Nat.le_trans (drop_flat T) H2.out.flat)
  have T3 := Lib.hid (T2.out.trans t3)
  have hkx := (h3.fr f (by simp)).kept k HK.out
  obtain ⟨l0, l1, l2, l3, l4, l5, l6, l7, hl8⟩ := mc_eight hkx.len
  have hko := hkx.obj
  rw [hl8] at hko
  have hc : ∀ i, w3.cell? ⟨k.b, i, none⟩ = (#[.int .i64 l0, .int .i64 l1, .int .i64 l2, .int .i64 l3, .int .i64 l4, .int .i64 l5, .int .i64 l6, .int .i64 l7, .slice k.EA k.els.length k.ec] : Array Value)[i]? := fun i => by simp [World.cell?, hko]
  have d0 := hc 0
  have d1 := hc 1
  have d2 := hc 2
  have d3 := hc 3
  have d4 := hc 4
  have d5 := hc 5
  have d6 := hc 6
  have d7 := hc 7
  simp only [List.getElem?_toArray, List.getElem?_cons_zero, List.getElem?_cons_succ] at d0 d1 d2 d3 d4 d5 d6 d7
  obtain ⟨m0, m1, m2, m3, m4, m5, m6, m7, hm8⟩ := mc_eight h3.len
  obtain ⟨n0, n1, n2, n3, n4, n5, n6, n7⟩ := h3.cl8 hm8
  have z2 := h3.fz 2
  have z3 := h3.fz 3
  have z4 := h3.fz 4
  have z5 := h3.fz 5
  have z6 := h3.fz 6
  have z7 := h3.fz 7
  have z8 := h3.fz 8
  have z9 := h3.fz 9
  have hne : k.b ≠ E.q := fun e => h3.qI (e ▸ hkx.inI)
  have H3 := Lib.hid h3
  have HKX := Lib.hid hkx
  have HM8 := Lib.hid hm8
  have HL8 := Lib.hid hl8
  have HT4 := Lib.hid (h3.put8 (l0 := l0) (l1 := l1) (l2 := l2) (l3 := l3) (l4 := l4) (l5 := l5) (l6 := l6) (l7 := l7) (by rw [← hl8]; exact hkx.wf))
  clear rb3 f3 h3 t3 hkx hko hc hm8 hl8 c10 c11 k3
  go_upto_region 5 with fail
  have hkb4 : ((((((((w3.setCell ⟨E.q, 2, none⟩ (.int .i64 l0)).setCell ⟨E.q, 3, none⟩ (.int .i64 l1)).setCell ⟨E.q, 4, none⟩ (.int .i64 l2)).setCell ⟨E.q, 5, none⟩ (.int .i64 l3)).setCell ⟨E.q, 6, none⟩ (.int .i64 l4)).setCell ⟨E.q, 7, none⟩ (.int .i64 l5)).setCell ⟨E.q, 8, none⟩ (.int .i64 l6)).setCell ⟨E.q, 9, none⟩ (.int .i64 l7)).heap[k.b]? = w3.heap[k.b]? :=
    (Below.heap_setCell _ ⟨E.q, 9, none⟩ _ k.b hne).trans ((Below.heap_setCell _ ⟨E.q, 8, none⟩ _ k.b hne).trans ((Below.heap_setCell _ ⟨E.q, 7, none⟩ _ k.b hne).trans ((Below.heap_setCell _ ⟨E.q, 6, none⟩ _ k.b hne).trans ((Below.heap_setCell _ ⟨E.q, 5, none⟩ _ k.b hne).trans ((Below.heap_setCell _ ⟨E.q, 4, none⟩ _ k.b hne).trans ((Below.heap_setCell _ ⟨E.q, 3, none⟩ _ k.b hne).trans (Below.heap_setCell _ ⟨E.q, 2, none⟩ _ k.b hne)))))))
  obtain ⟨W4, hW4⟩ : ∃ W4, W4 = ((((((((w3.setCell ⟨E.q, 2, none⟩ (.int .i64 l0)).setCell ⟨E.q, 3, none⟩ (.int .i64 l1)).setCell ⟨E.q, 4, none⟩ (.int .i64 l2)).setCell ⟨E.q, 5, none⟩ (.int .i64 l3)).setCell ⟨E.q, 6, none⟩ (.int .i64 l4)).setCell ⟨E.q, 7, none⟩ (.int .i64 l5)).setCell ⟨E.q, 8, none⟩ (.int .i64 l6)).setCell ⟨E.q, 9, none⟩ (.int .i64 l7)) := ⟨_, rfl⟩
  rw [← hW4] at hkb4 HT4 ⊢
  clear hW4 d0 d1 d2 d3 d4 d5 d6 d7 n0 n1 n2 n3 n4 n5 n6 n7 z2 z3 z4 z5 z6 z7 z8 z9
  have HCUT := Lib.hid (cut_full HT4.out.1 (by simp))
  have HKB4 := Lib.hid hkb4
  clear hkb4
  go_wp2_with fail
  refine HCUT.out.mono ?_
  rintro e w5 ⟨⟨v, rfl⟩, h5, t5, k5⟩
  have hko5 : w5.heap[k.b]? = some (.cells (List.toArray (k.l.map (Value.int .i64) ++ [Value.slice k.EA k.els.length k.ec])) 117 (0, 0)) := (k5 k.b HKX.out.inI).trans (HKB4.out.trans HKX.out.obj)
  have d8 : w5.cell? ⟨k.b, 8, none⟩ = some (.slice k.EA k.els.length k.ec) := by
    rw [HL8.out] at hko5
    simp [World.cell?, hko5]
  have TT := Lib.hid ((T3.out.trans HT4.out.2).trans t5)
  have HEN := Lib.hid (enter_any h5 ⟨k.els, k.EA, k.ec, [], none, 0, 0, none⟩ ⟨((HT4.out.2).trans t5).skc HKX.out.els, HKX.out.cap, SKc.nil _ _ _ _ _, Nat.le_refl _, Nat.zero_le _, HKX.out.small, Nat.zero_le _, fun k e => by cases e⟩ (by
    obtain ⟨d, hd⟩ := H3.out.deep
    have e1 : plF (L1 ++ f :: L2) = (L2.reverse.map Fx.pl) ++ (f.pl :: plF L1) := by simp [plF]
    rw [e1] at hd
    have hd2 := deep_drop _ _ _ hd
    refine ⟨d + (L2.reverse.map Fx.pl).length, ?_⟩
    rw [plF_snoc]
    refine ⟨⟨fun x hx => hd2.1.2.2 (k.l, k.els) (by show f.kept.map _ = _; rw [HK.out]; rfl) x hx, by simp [Fx.pl], by simp [Fx.pl]⟩, hd2.2⟩))
  clear h5 t5 k5 hko5
  go_wp2_with fail
  refine HEN.out.mono ?_
  rintro e w6 ⟨⟨v, rfl⟩, A6, c6, S6, h6, t6⟩
  have H6 := Lib.hid h6
  have T6 := Lib.hid (TT.out.trans t6)
  clear h6 t6
  go_wp2_with fail
  go_end0
  exact ⟨⟨_, rfl⟩, _, rfl, A6, c6, S6, SB, by rw [HL8.out]; exact H6.out, T6.out⟩
end
end Go.Proofs.YthdcdffdpdoeoaaGreatDoor
