/-
  CONTRACT OF PACKAGE buffer's All: the rising row of all that is written, in new memory; nothing that lay has turned. Conditions: as they stand.
-/
import Derived.Test.YtmjcipojidimgaaLk
import Derived.Maps.AppendAt
import Derived.Maps.OwnIn
namespace Go.Proofs.Ytmjcipojidimgaa
set_option maxRecDepth 100000
open Go.RowKit Go.Maps Go.Shelf
set_option linter.unusedVariables false
attribute [local go_sem] Oper.semAt_some
theorem ad8_zero (g n : Nat) : (⟨g, 0, none⟩ : Addr).add n = ⟨g, n, none⟩ := by
  simp [Addr.add]
  exact fun h => h.symm
def pairCells (l : List Pr) : List Value := l.flatMap fun p => [.int .i64 p.1, .int .i64 p.2]
theorem pairCells_len (l : List Pr) : (pairCells l).length = l.length * 2 := by
  induction l with
  | nil => rfl
  | cons a r ih => show (_ :: _ :: pairCells r).length = _; simp only [List.length_cons, ih]; omega
theorem pairCells_snoc (l : List Pr) (p : Pr) : pairCells (l ++ [p]) = pairCells l ++ [.int .i64 p.1, .int .i64 p.2] := by simp [pairCells]
theorem pairCells_get (l : List Pr) (k : Nat) (h : k < l.length) : (pairCells l)[k * 2]? = some (.int .i64 l[k].1) ∧ (pairCells l)[k * 2 + 1]? = some (.int .i64 l[k].2) := by
  induction l generalizing k with
  | nil => exact absurd h (by simp)
  | cons a r ih =>
    cases k with
    | zero => exact ⟨rfl, rfl⟩
    | succ k =>
      have := ih k (by simpa using h)
      show (_ :: _ :: pairCells r)[(k + 1) * 2]? = _ ∧ (_ :: _ :: pairCells r)[(k + 1) * 2 + 1]? = _
      rw [show (k + 1) * 2 = k * 2 + 1 + 1 by omega]
      simpa using this
/-- A row of pairs, owned, as it reads. -/
theorem pairs_of_row {w : World} {base : Nat} {A : Option Addr} {c : Nat} {l : List Pr} (h : w.ownsRow base 43 2 (.slice A l.length c) l.length (pairCells l)) : PairsAt w w.heap.size A l := by
  intro k hk
  rcases h.2 with ⟨_, h0⟩ | ⟨g, cap, cur, hv, hb, hg, h1, h2, h3, h4⟩
  · omega
  · injection hv with hA _ _
    subst hA
    obtain ⟨q1, q2⟩ := pairCells_get l k hk
    have hlt : g < w.heap.size := (Array.getElem?_eq_some_iff.1 hg).1
    have key : ∀ j u, (pairCells l)[j]? = some u → cur[j]? = some u := fun j u hj => by
      rw [← h4] at hj
      have hjl : j < l.length * 2 := by
        have := (List.getElem?_eq_some_iff.1 hj).1
        simp only [List.length_take] at this
        omega
      rw [List.getElem?_take_of_lt hjl] at hj
      simpa using hj
    refine ⟨⟨g, 0, none⟩, rfl, hlt, ?_, ?_⟩
    · rw [ad8_zero]
      simp [World.cell?, hg, key _ _ q1]
    · rw [ad8_zero]
      simp [World.cell?, hg, key _ _ q2]
theorem pair_info : (Try.prog.info? 43).map (fun i => (i.zero, i.size, i.bytes)) = some (some (.agg #[.int .i64 0, .int .i64 0]), 2, 16) := by kernel_rfl
theorem append_pair_in {F : Fence} {nF : Nat} {ops : Array Oper} {rest : List Oper} {o : Oper} {a : Act} {Q : Exit → Act → World → Prop} {wx : World} {base k : Nat} {sv : Value} {xs : List Value} {y1 y2 : Int}
    (own : wx.ownsRow base 43 2 sv k xs) (hb : base ≤ wx.heap.size) (hk : k ≤ 10000000) (hgd : o.guard = none) (s x : Operand) (ho : o.op = .call { callee := .builtin .append, args := #[s, x], argTypes := #[35, 35] }) (hs : a.eval s = sv) {z : Nat} (hx : a.eval x = .slice (some ⟨z, 0, none⟩) 1 1) (hz : z = wx.heap.size)
    (h : ∀ g cap w', w'.ownsRow base 43 2 (.slice (some ⟨g, 0, none⟩) (k + 1) cap) (k + 1) (xs ++ [.int .i64 y1, .int .i64 y2]) → (wx.alloc (.cells #[.int .i64 y1, .int .i64 y2] 43)).grownBy w' sv.ownBlock → wpListIn F nF Try.prog ops Q rest (a.put o.dst (.slice (some ⟨g, 0, none⟩) (k + 1) cap)) w') :
    wpListIn F nF Try.prog ops Q (o :: rest) a (wx.alloc (.cells #[.int .i64 y1, .int .i64 y2] 43)) := by
  subst hz
  obtain ⟨i0, hi0, hz0, hz1, hz2⟩ := info_parts pair_info
  refine wpListIn_append_own_at _ hgd s x _ ho base 43 i0 _ 2 16 Try.underlying35 hi0 hz0 hz1 hz2 rfl (by omega) sv k xs hs (own.alloc _) ⟨wx.heap.size, 0, none⟩ 1 1 [.int .i64 y1, .int .i64 y2] hx rfl ?_ (by simp [Value.oneCell']) (by unfold maxLen; omega) (by omega) (by simp; omega) ?_
  · intro j u hj
    have hn := World.alloc_heap_new wx (.cells #[.int .i64 y1, .int .i64 y2] 43)
    rw [ad8_zero]
    simp only [World.cell?, hn]
    simpa using hj
  · intro v' w' hown hgrow hnil hloc
    obtain ⟨g, cap, rfl⟩ := ownsRow_succ hown
    exact h g cap w' hown hgrow
theorem says_append_row {w : World} {n₀ : Nat} (pre : List (Lev w n₀)) (x : Lev w n₀) (v : Int) : saysL (rowsOf (pre ++ [x])) v = (saysL (rowsOf pre) v).or (rowSays x.row v) := by
  induction pre with
  | nil => show saysL [x.row] v = _; rw [saysL_cons, saysL_nil]; show _ = (saysL [] v).or _; rw [saysL_nil, Option.or_none, Option.none_or]
  | cons a r ih => show saysL (a.row :: rowsOf (r ++ [x])) v = (saysL (a.row :: rowsOf r) v).or _; rw [saysL_cons, saysL_cons, ih, Option.or_assoc]
/-- Keys alone that may be are spoken of. -/
theorem says_wf {l : List Pr} (h : ∀ e ∈ l, wfI e.1) {v : Int} (hv : ¬ wfI v) : rowSays l v = none := by
  induction l with
  | nil => rfl
  | cons a r ih =>
    rw [rowSays, ih fun e he => h e (List.mem_cons_of_mem _ he), if_neg fun (e : a.1 = v) => hv (e ▸ h a (by simp)), Option.or_none]
theorem look_wf {l : List Pr} (h : ∀ e ∈ l, wfI e.1) {v : Int} (hv : ¬ wfI v) : look l v = none := by
  induction l with
  | nil => rfl
  | cons a r ih => rw [look, if_neg fun (e : a.1 = v) => hv (e ▸ h a (by simp)), ih fun e he => h e (List.mem_cons_of_mem _ he)]
theorem flat_mem {T : List (List Pr)} {e : Pr} (h : e ∈ flat T) : ∃ r ∈ T, e ∈ r := by
  induction T with
  | nil => exact absurd h (by simp [flat])
  | cons a t ih =>
    rcases List.mem_append.1 (show e ∈ flat t ++ a from h) with h | h
    · obtain ⟨r, hr, he⟩ := ih h
      exact ⟨r, List.mem_cons_of_mem _ hr, he⟩
    · exact ⟨a, by simp, h⟩
/-- The keys' row is the row of all that is written. -/
theorem keysRow_all {w : World} {b n : Nat} {D : DU} (h : w.ownsMap Try.prog 3 (plainElem Try.prog 2) b n D) {ss : List Int} (hp : ss.Perm (intKeys D)) {T : List (List Pr)} (hT : ∀ r ∈ T, ∀ e ∈ r, wfI e.1) (hf : ∀ v, wfI v → lk D v = saysL T v) : keysRow D ss = allS (flat T) := by
  obtain ⟨h1, h2, h3, h4⟩ := keysRow_up h hp
  refine all_up h1 fun v => ?_
  by_cases hv : wfI v
  · exact (h3 v hv).trans (hf v hv)
  · rw [says_wf (fun e he => by obtain ⟨r, hr, her⟩ := flat_mem he; exact hT r hr e her) hv]
    refine look_wf (fun e he => ?_) hv
    obtain ⟨k, hk, rfl⟩ := List.mem_map.1 he
    exact h4 k ((List.mergeSort_perm _ _).mem_iff.1 hk)
/-- slices.Sort at this program, at the fence that asks nothing. -/
theorem sortsP (m : Nat) : AnyZI.SortsIn Try.prog sortedL_ren Fence.wide m :=
  ⟨fun blk off cap ss W hH hblk hsz => callsIn_wide.2 (AnyM.slices_Sort_int sortL blk off cap ss W hH hblk hsz), fun p cap W => callsIn_wide.2 (AnyM.slices_Sort_int_none sortL p cap W)⟩
theorem keysP_in (n : Nat) (mb : Option Nat) (W : World) : CallsIn Fence.wide n Try.prog 36 #[.map mb] W fun e w' => e = .returned (.func (.func 43) #[] #[.pointer (some ⟨W.heap.size, 0, none⟩)]) ∧ w' = W.alloc (.cells #[.map mb] 52) := AnyZI.keys_in keysL Fence.wide n trivial rfl mb W
/-- The keys of a row of pairs lie at B. -/
def KeysAt (w : World) (B : Option Addr) (l : List Pr) : Prop := ∀ j (h : j < l.length), ∃ p, B = some p ∧ p.block < w.heap.size ∧ w.cell? (p.add j) = some (.int .i64 l[j].1)
theorem KeysAt.below {w w' : World} {B : Option Addr} {l : List Pr} (h : KeysAt w B l) (hb : Below w.heap.size w w') : KeysAt w' B l := fun j hj => by
  obtain ⟨p, rfl, m, c⟩ := h j hj
  exact ⟨p, rfl, by have := hb.size; omega, (hb.cell (by rw [ad8_block]; exact m)).trans c⟩
theorem sortedP_in (n : Nat) (hn : 5 ≤ n) (b nn : Nat) (D0 : DU) (w : World) (hown : w.ownsMap Try.prog 3 (plainElem Try.prog 2) b nn D0) (hmax : size D0 ≤ 10000000) :
    CallsIn Fence.wide n Try.prog 35 #[.func (.func 43) #[] #[.pointer (some ⟨w.heap.size, 0, none⟩)]] (w.alloc (.cells #[.map (some b)] 52)) fun e w' => ∃ (B : Option Addr) (d : Nat) (ss : List Int), e = .returned (.slice B (keysRow D0 ss).length d) ∧ ss.Perm (intKeys D0) ∧ KeysAt w' B (keysRow D0 ss) ∧ Below (w.heap.size + 1) (w.alloc (.cells #[.map (some b)] 52)) w' := by
  have hbl := hown.lt
  have hseq : SeqGives Fence.wide (n - 1 - 1 - 1) Try.prog 43 #[.pointer (some ⟨w.heap.size, 0, none⟩)] encZ (fun ss => ss.Perm (intKeys D0)) (size D0) (w.alloc (.cells #[.map (some b)] 52)) :=
    AnyZI.keys_gives (ρ := keysL_ren) { keysL with } Fence.wide _ trivial rfl (by omega) w.heap.size b nn D0 _ (by simp) (by simp) (by
      obtain ⟨es, clock, hb, Ft, hs, hD⟩ := hown
      exact ⟨es, clock, (Below.heap_alloc _ _ b hbl).trans hb, Ft, hs, hD⟩)
  have cS := AnyZI.sorted_in sortedL Fence.wide n trivial trivial trivial trivial rfl (by omega) (sortsP _) (enters_of Try.func42 (by kernel_rfl) rfl) 43 #[.pointer (some ⟨w.heap.size, 0, none⟩)] trivial (enters_of Try.func43 (by kernel_rfl) rfl) _ _ (by unfold maxLen; omega) (by omega) _ hseq
  rw [World.size_alloc] at cS
  refine CallsIn.mono cS ?_
  rintro e w' ⟨v, ss, rfl, hss, hrow, _, hb⟩
  have hkl : (keysRow D0 ss).length = ss.length := by rw [keysRow, List.length_map, (List.mergeSort_perm _ _).length_eq]
  rcases hrow.2 with ⟨rfl, h0⟩ | ⟨g, cap, cur, rfl, hb1, hg, h1, h2, h3, h4⟩
  · exact ⟨none, 0, ss, by rw [hkl, h0], hss, fun j hj => by rw [hkl] at hj; omega, hb⟩
  · refine ⟨some ⟨g, 0, none⟩, cap, ss, by rw [hkl], hss, fun j hj => ⟨⟨g, 0, none⟩, rfl, (Array.getElem?_eq_some_iff.1 hg).1, ?_⟩, hb⟩
    rw [ad8_zero]
    have hjs : j < ss.length := by rw [← hkl]; exact hj
    have hm : j < (ss.mergeSort fun x y => decide (x ≤ y)).length := by rw [(List.mergeSort_perm _ _).length_eq]; exact hjs
    have hk : (keysRow D0 ss)[j].1 = (ss.mergeSort fun x y => decide (x ≤ y))[j] := by simp [keysRow]
    rw [hk]
    have hc : cur[j]? = some (.int .i64 (ss.mergeSort fun x y => decide (x ≤ y))[j]) := by
      have e1 : (cur.toList.take (ss.length * 1))[j]? = some (.int .i64 (ss.mergeSort fun x y => decide (x ≤ y))[j]) := by
        rw [h4, List.getElem?_map, List.getElem?_eq_getElem hm]
        rfl
      rw [List.getElem?_take_of_lt (by omega)] at e1
      simpa using e1
    simp [World.cell?, hg, hc]
end Go.Proofs.Ytmjcipojidimgaa
