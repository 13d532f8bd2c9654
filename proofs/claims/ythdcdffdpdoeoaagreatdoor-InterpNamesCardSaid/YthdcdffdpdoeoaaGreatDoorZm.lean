/-
  SEVERAL TEXTS IN ONE (a claim has sixty files at most): Lm, Ln, Lo: the head of each stands ahead of it. No condition but theirs.
-/
import Derived.Test.YthdcdffdpdoeoaaGreatDoorZi
import Derived.Maps.AppendAt
import Derived.Maps.OwnIn
import Derived.Deep.AppendLies
import Derived.Deep.RegionLawGrows
/-
  CONTRACT OF PACKAGE buffer's All: the rising row of all that is written, in new memory; nothing that lay has turned. Conditions: as they stand.
-/
namespace Go.Proofs.YthdcdffdpdoeoaaGreatDoor
set_option maxRecDepth 100000
open Go.RowKit Go.Maps Go.Shelf
set_option linter.unusedVariables false
attribute [local go_sem] Oper.semAt_some
theorem ad8_zero (g n : Nat) : (⟨g, 0, none⟩ : Addr).add n = ⟨g, n, none⟩ := by
  simp [Addr.add]
  exact fun h => h.symm
def pairCells (l : List Pr) : List Value := l.flatMap fun p => [.int .i64 p.1, .int .i64 p.2]
theorem pairCells_len (l : List Pr) : (pairCells l).length = l.length * 2 := by
  induction l with
  | nil => rfl
  | cons a r ih => show (_ :: _ :: pairCells r).length = _; simp only [List.length_cons, ih]; omega
theorem pairCells_snoc (l : List Pr) (p : Pr) : pairCells (l ++ [p]) = pairCells l ++ [.int .i64 p.1, .int .i64 p.2] := by simp [pairCells]
theorem pairCells_get (l : List Pr) (k : Nat) (h : k < l.length) : (pairCells l)[k * 2]? = some (.int .i64 l[k].1) ∧ (pairCells l)[k * 2 + 1]? = some (.int .i64 l[k].2) := by
  induction l generalizing k with
  | nil => exact absurd h (by simp)
  | cons a r ih =>
    cases k with
    | zero => exact ⟨rfl, rfl⟩
    | succ k =>
      have := ih k (by simpa using h)
      show (_ :: _ :: pairCells r)[(k + 1) * 2]? = _ ∧ (_ :: _ :: pairCells r)[(k + 1) * 2 + 1]? = _
      rw [show (k + 1) * 2 = k * 2 + 1 + 1 by omega]
      simpa using this
/-- A row of pairs, owned, as it reads. -/
theorem pairs_of_row {w : World} {base : Nat} {A : Option Addr} {c : Nat} {l : List Pr} (h : w.ownsRow base 59 2 (.slice A l.length c) l.length (pairCells l)) : PairsAt w w.heap.size A l := by
  intro k hk
  rcases h.2 with ⟨_, h0⟩ | ⟨g, cap, cur, hv, hb, hg, h1, h2, h3, h4⟩
  · omega
  · injection hv with hA _ _
    subst hA
    obtain ⟨q1, q2⟩ := pairCells_get l k hk
    have hlt : g < w.heap.size := (Array.getElem?_eq_some_iff.1 hg).1
    have key : ∀ j u, (pairCells l)[j]? = some u → cur[j]? = some u := fun j u hj => by
      rw [← h4] at hj
      have hjl : j < l.length * 2 := by
        have := (List.getElem?_eq_some_iff.1 hj).1
        simp only [List.length_take] at this
        omega
      rw [List.getElem?_take_of_lt hjl] at hj
      simpa using hj
    refine ⟨⟨g, 0, none⟩, rfl, hlt, ?_, ?_⟩
    · rw [ad8_zero]
      simp [World.cell?, hg, key _ _ q1]
    · rw [ad8_zero]
      simp [World.cell?, hg, key _ _ q2]
theorem pair_info : (Tryz.prog.info? 59).map (fun i => (i.zero, i.size, i.bytes)) = some (some (.agg #[.int .i64 0, .int .i64 0]), 2, 16) := by kernel_rfl
theorem append_pair_in {F : Fence} {nF : Nat} {ops : Array Oper} {rest : List Oper} {o : Oper} {a : Act} {Q : Exit → Act → World → Prop} {wx : World} {base k : Nat} {sv : Value} {xs : List Value} {y1 y2 : Int}
    (own : wx.ownsRow base 59 2 sv k xs) (hb : base ≤ wx.heap.size) (hk : k ≤ 10000000) (hgd : o.guard = none) (s x : Operand) (ho : o.op = .call { callee := .builtin .append, args := #[s, x], argTypes := #[30, 30] }) (hs : a.eval s = sv) {z : Nat} (hx : a.eval x = .slice (some ⟨z, 0, none⟩) 1 1) (hz : z = wx.heap.size)
    (h : ∀ g cap w', w'.ownsRow base 59 2 (.slice (some ⟨g, 0, none⟩) (k + 1) cap) (k + 1) (xs ++ [.int .i64 y1, .int .i64 y2]) → (wx.alloc (.cells #[.int .i64 y1, .int .i64 y2] 59)).grownBy w' sv.ownBlock → wpListIn F nF Tryz.prog ops Q rest (a.put o.dst (.slice (some ⟨g, 0, none⟩) (k + 1) cap)) w') :
    wpListIn F nF Tryz.prog ops Q (o :: rest) a (wx.alloc (.cells #[.int .i64 y1, .int .i64 y2] 59)) := by
  subst hz
  obtain ⟨i0, hi0, hz0, hz1, hz2⟩ := info_parts pair_info
  refine wpListIn_append_own_at _ hgd s x _ ho base 59 i0 _ 2 16 Tryz.underlying30 hi0 hz0 hz1 hz2 rfl (by omega) sv k xs hs (own.alloc _) ⟨wx.heap.size, 0, none⟩ 1 1 [.int .i64 y1, .int .i64 y2] hx rfl ?_ (by simp [Value.oneCell']) (by unfold maxLen; omega) (by omega) (by simp; omega) ?_
  · intro j u hj
    have hn := World.alloc_heap_new wx (.cells #[.int .i64 y1, .int .i64 y2] 59)
    rw [ad8_zero]
    simp only [World.cell?, hn]
    simpa using hj
  · intro v' w' hown hgrow hnil hloc
    obtain ⟨g, cap, rfl⟩ := ownsRow_succ hown
    exact h g cap w' hown hgrow
theorem says_append_row {w : World} {n₀ : Nat} (pre : List (Lev w n₀)) (x : Lev w n₀) (v : Int) : saysL (rowsOf (pre ++ [x])) v = (saysL (rowsOf pre) v).or (rowSays x.row v) := by
  induction pre with
  | nil => show saysL [x.row] v = _; rw [saysL_cons, saysL_nil]; show _ = (saysL [] v).or _; rw [saysL_nil, Option.or_none, Option.none_or]
  | cons a r ih => show saysL (a.row :: rowsOf (r ++ [x])) v = (saysL (a.row :: rowsOf r) v).or _; rw [saysL_cons, saysL_cons, ih, Option.or_assoc]
/-- Keys alone that may be are spoken of. -/
theorem says_wf {l : List Pr} (h : ∀ e ∈ l, wfI e.1) {v : Int} (hv : ¬ wfI v) : rowSays l v = none := by
  induction l with
  | nil => rfl
  | cons a r ih =>
    rw [rowSays, ih fun e he => h e (List.mem_cons_of_mem _ he), if_neg fun (e : a.1 = v) => hv (e ▸ h a (by simp)), Option.or_none]
theorem look_wf {l : List Pr} (h : ∀ e ∈ l, wfI e.1) {v : Int} (hv : ¬ wfI v) : look l v = none := by
  induction l with
  | nil => rfl
  | cons a r ih => rw [look, if_neg fun (e : a.1 = v) => hv (e ▸ h a (by simp)), ih fun e he => h e (List.mem_cons_of_mem _ he)]
theorem flat_mem {T : List (List Pr)} {e : Pr} (h : e ∈ flatB T) : ∃ r ∈ T, e ∈ r := by
  induction T with
  | nil => exact absurd h (by simp [flatB])
  | cons a t ih =>
    rcases List.mem_append.1 (show e ∈ flatB t ++ a from h) with h | h
    · obtain ⟨r, hr, he⟩ := ih h
      exact ⟨r, List.mem_cons_of_mem _ hr, he⟩
    · exact ⟨a, by simp, h⟩
/-- The keys' row is the row of all that is written. -/
theorem keysRow_all {w : World} {b n : Nat} {D : DU} (h : w.ownsMap Tryz.prog 3 (plainElem Tryz.prog 2) b n D) {ss : List Int} (hp : ss.Perm (intKeys D)) {T : List (List Pr)} (hT : ∀ r ∈ T, ∀ e ∈ r, wfI e.1) (hf : ∀ v, wfI v → lk D v = saysL T v) : keysRow D ss = allS (flatB T) := by
  obtain ⟨h1, h2, h3, h4⟩ := keysRow_up h hp
  refine all_up h1 fun v => ?_
  by_cases hv : wfI v
  · exact (h3 v hv).trans (hf v hv)
  · rw [says_wf (fun e he => by obtain ⟨r, hr, her⟩ := flat_mem he; exact hT r hr e her) hv]
    refine look_wf (fun e he => ?_) hv
    obtain ⟨k, hk, rfl⟩ := List.mem_map.1 he
    exact h4 k ((List.mergeSort_perm _ _).mem_iff.1 hk)
/-- slices.Sort at this program, at the fence that asks nothing. -/
theorem sortsP (m : Nat) : AnyZI.SortsIn Tryz.prog sortedL_ren Fence.wide m :=
  ⟨fun blk off cap ss W hH hblk hsz => callsIn_wide.2 (AnyM.slices_Sort_int sortL blk off cap ss W hH hblk hsz), fun p cap W => callsIn_wide.2 (AnyM.slices_Sort_int_none sortL p cap W)⟩
theorem keysP_in (n : Nat) (mb : Option Nat) (W : World) : CallsIn Fence.wide n Tryz.prog 56 #[.map mb] W fun e w' => e = .returned (.func (.func 74) #[] #[.pointer (some ⟨W.heap.size, 0, none⟩)]) ∧ w' = W.alloc (.cells #[.map mb] 89) := AnyZI.keys_in keysL Fence.wide n trivial rfl mb W
/-- The keys of a row of pairs lie at B. -/
def KeysAt (w : World) (B : Option Addr) (l : List Pr) : Prop := ∀ j (h : j < l.length), ∃ p, B = some p ∧ p.block < w.heap.size ∧ w.cell? (p.add j) = some (.int .i64 l[j].1)
theorem KeysAt.below {w w' : World} {B : Option Addr} {l : List Pr} (h : KeysAt w B l) (hb : Below w.heap.size w w') : KeysAt w' B l := fun j hj => by
  obtain ⟨p, rfl, m, c⟩ := h j hj
  exact ⟨p, rfl, by have := hb.size; omega, (hb.cell (by rw [ad8_block]; exact m)).trans c⟩
theorem sortedP_in (n : Nat) (hn : 5 ≤ n) (b nn : Nat) (D0 : DU) (w : World) (hown : w.ownsMap Tryz.prog 3 (plainElem Tryz.prog 2) b nn D0) (hmax : size D0 ≤ 10000000) :
    CallsIn Fence.wide n Tryz.prog 55 #[.func (.func 74) #[] #[.pointer (some ⟨w.heap.size, 0, none⟩)]] (w.alloc (.cells #[.map (some b)] 89)) fun e w' => ∃ (B : Option Addr) (d : Nat) (ss : List Int), e = .returned (.slice B (keysRow D0 ss).length d) ∧ ss.Perm (intKeys D0) ∧ KeysAt w' B (keysRow D0 ss) ∧ Below (w.heap.size + 1) (w.alloc (.cells #[.map (some b)] 89)) w' := by
  have hbl := hown.lt
  have hseq : SeqGives Fence.wide (n - 1 - 1 - 1) Tryz.prog 74 #[.pointer (some ⟨w.heap.size, 0, none⟩)] encZ (fun ss => ss.Perm (intKeys D0)) (size D0) (w.alloc (.cells #[.map (some b)] 89)) :=
    AnyZI.keys_gives (ρ := keysL_ren) { keysL with } Fence.wide _ trivial rfl (by omega) w.heap.size b nn D0 _ (by simp) (by simp) (by
      obtain ⟨es, clock, hb, Ft, hs, hD⟩ := hown
      exact ⟨es, clock, (Below.heap_alloc _ _ b hbl).trans hb, Ft, hs, hD⟩)
  have cS := AnyZI.sorted_in sortedL Fence.wide n trivial trivial trivial trivial rfl (by omega) (sortsP _) (enters_of Tryz.func73 (by kernel_rfl) rfl) 74 #[.pointer (some ⟨w.heap.size, 0, none⟩)] trivial (enters_of Tryz.func74 (by kernel_rfl) rfl) _ _ (by unfold maxLen; omega) (by omega) _ hseq
  rw [World.size_alloc] at cS
  refine CallsIn.mono cS ?_
  rintro e w' ⟨v, ss, rfl, hss, hrow, _, hb⟩
  have hkl : (keysRow D0 ss).length = ss.length := by rw [keysRow, List.length_map, (List.mergeSort_perm _ _).length_eq]
  rcases hrow.2 with ⟨rfl, h0⟩ | ⟨g, cap, cur, rfl, hb1, hg, h1, h2, h3, h4⟩
  · exact ⟨none, 0, ss, by rw [hkl, h0], hss, fun j hj => by rw [hkl] at hj; omega, hb⟩
  · refine ⟨some ⟨g, 0, none⟩, cap, ss, by rw [hkl], hss, fun j hj => ⟨⟨g, 0, none⟩, rfl, (Array.getElem?_eq_some_iff.1 hg).1, ?_⟩, hb⟩
    rw [ad8_zero]
    have hjs : j < ss.length := by rw [← hkl]; exact hj
    have hm : j < (ss.mergeSort fun x y => decide (x ≤ y)).length := by rw [(List.mergeSort_perm _ _).length_eq]; exact hjs
    have hk : (keysRow D0 ss)[j].1 = (ss.mergeSort fun x y => decide (x ≤ y))[j] := by simp [keysRow]
    rw [hk]
    have hc : cur[j]? = some (.int .i64 (ss.mergeSort fun x y => decide (x ≤ y))[j]) := by
      have e1 : (cur.toList.take (ss.length * 1))[j]? = some (.int .i64 (ss.mergeSort fun x y => decide (x ≤ y))[j]) := by
        rw [h4, List.getElem?_map, List.getElem?_eq_getElem hm]
        rfl
      rw [List.getElem?_take_of_lt (by omega)] at e1
      simpa using e1
    simp [World.cell?, hg, hc]
end Go.Proofs.YthdcdffdpdoeoaaGreatDoor
/-
  CONTRACT OF PACKAGE buffer's All: the rising row of all that is written, in new memory; nothing that lay has turned. Conditions: as they stand.
-/
namespace Go.Proofs.YthdcdffdpdoeoaaGreatDoor
set_option maxRecDepth 100000
open Go.RowKit Go.Maps Go.Shelf
set_option linter.unusedVariables false
attribute [local go_sem] Oper.semAt_some
set_option maxRecDepth 100000 in
set_option maxHeartbeats 4000000 in
theorem all_core (n : Nat) (hn : 7 ≤ n) (pq : Option Addr) (w : World) (xs0 : List (Lev w w.heap.size)) (N : Nat) (hN : N ≤ 1000) (hxN : xs0.length ≤ N) (Sp : List (Lev w w.heap.size) → Prop)
    (hseq : ∀ W0 : World, Below w.heap.size w W0 → W0.heap.size = w.heap.size + 3 → _root_.Go.Boxed W0 (w.heap.size + 2) 60 (.pointer pq) → SeqO Fence.wide (n - 1) Tryz.prog 62 #[.pointer (some ⟨w.heap.size + 2, 0, none⟩)] (encP Lev.p) (Kb8 w.heap.size (w.heap.size + 2)) (fun ys => ys = xs0) Sp N W0) :
    CallsIn Fence.wide n Tryz.prog 31 #[.pointer pq] w fun e w' => ∃ (B : Option Addr) (d : Nat), e = .returned (.slice B (allS (flatB (rowsOf xs0))).length d) ∧
      w'.ownsRow w.heap.size 59 2 (.slice B (allS (flatB (rowsOf xs0))).length d) (allS (flatB (rowsOf xs0))).length (pairCells (allS (flatB (rowsOf xs0)))) ∧ Below w.heap.size w w' := by
  have h1 : 1 ≤ n := by omega
  have hfl : Fence.wide.fn 42 := trivial
  have hmm := @run_makeMap Tryz.prog
  obtain ⟨l, hlr⟩ : ∃ l, l = allS (flatB (rowsOf xs0)) := ⟨_, rfl⟩
  have HR : Hid (l = allS (flatB (rowsOf xs0))) := hlr
  rw [← hlr]
  clear hlr
  refine callsIn_of_wp_marks Tryz.func31 rfl trivial ?_ rfl
  simp only [Tryz.ntmps31, List.size_toArray, List.length_cons, List.length_nil, Nat.reduceAdd, Nat.reduceSub, Array.replicate_succ, Array.replicate_zero, List.push_toArray, List.append_toArray, List.nil_append, List.cons_append]
  gi_wp2_with (gi_at_call 42; refine (levels_in Fence.wide (n - 1) trivial rfl _ _).mono ?_; rintro e w' ⟨rfl, rfl⟩)
  obtain ⟨W0, hW0⟩ : ∃ W0, W0 = ((w.alloc (.map #[] 0)).alloc (.cells #[.map (some w.heap.size)] 89)).alloc (.cells #[.pointer pq] 60) := ⟨_, rfl⟩
  have hz0 : W0.heap.size = w.heap.size + 3 := by rw [hW0]; simp
  have hB0 : Below w.heap.size w W0 := by rw [hW0]; exact (((Below.refl _ w).alloc (Nat.le_refl _) _).alloc (by simp) _).alloc (by simp; omega) _
  have hM : LV W0 w.heap.size 0 (fun _ => none) := by
    refine ⟨.map [], ?_, fun v _ => rfl⟩
    rw [hW0]
    exact ((World.ownsMap_made w _ _ _).alloc _).alloc _
  have bM : _root_.Go.Boxed W0 (w.heap.size + 1) 89 (.map (some w.heap.size)) := by
    rw [hW0]
    have := (_root_.Go.Boxed.new (w.alloc (.map #[] 0)) 89 (.map (some w.heap.size))).alloc (.cells #[.pointer pq] 60)
    rwa [World.size_alloc] at this
  have bQ : _root_.Go.Boxed W0 (w.heap.size + 2) 60 (.pointer pq) := by
    rw [hW0]
    have := _root_.Go.Boxed.new ((w.alloc (.map #[] 0)).alloc (.cells #[.map (some w.heap.size)] 89)) 60 (.pointer pq)
    rwa [World.size_alloc, World.size_alloc] at this
  have hs0 := hseq W0 hB0 hz0 bQ
  rw [← hW0]
  clear hW0 hmm
  refine loopO (F := Fence.wide) rfl h1 (gf := 62) (lb := #[.pointer (some ⟨w.heap.size + 2, 0, none⟩)]) rfl trivial (enters_of Tryz.func62 (by kernel_rfl) rfl)
    hs0 (by omega) (fun _ => rfl)
    (fun pre W => (LV W w.heap.size (pre.length * 1000) (fun v => saysL (rowsOf pre) v) ∧ _root_.Go.Boxed W (w.heap.size + 1) 89 (.map (some w.heap.size))) ∧ Below w.heap.size w W)
    (fun pre W => False)
    (OwnFrom.and (fun s A B row hs hg hr => ⟨hs.1.of_block (hg.block _ hs.1.lt fun e => by have := (hr _ e.symm).1; omega), own_box _ _ (fun _ => .map (some w.heap.size)) W0.heap.size s A B row hs.2 hg hr⟩) (ownFrom_below (Nat.le_refl _) (by omega)))
    (fun s A B row hs hg hr => hs)
    ⟨⟨hM.congr (fun v _ => rfl), bM⟩, hB0⟩
    (fun x => { tmps := #[.pointer pq, undef, .slice none 0 0, .pointer (some ⟨w.heap.size + 1, 0, none⟩), .map x.p, undef, undef, undef, .map (some w.heap.size), .pointer pq, .func (.func 62) #[] #[.pointer (some ⟨w.heap.size + 1 + 1, 0, none⟩)], .map x.p, undef, undef, undef, undef, undef, undef, undef, undef, undef, undef, undef, undef, undef, undef, undef, undef, undef, undef, undef, undef, undef], defers := [] }) ?assign ?body ?done ?stop
  case assign =>
    intro l2 x W4 K hK
    unfold encP
    gi_wp2
    exact hK
  case body =>
    rintro l2 pre x W4 ⟨⟨hlv, b1⟩, hB4⟩ hlen
    have hz4 : w.heap.size + 1 < W4.heap.size := b1.lt
    have c1 := b1.cell
    have hxs := x.small
    have hcall := fill_any w.heap.size x.p (pre.length * 1000) x.row.length (fun v => saysL (rowsOf pre) v) (rowSays x.row) W4 hlv (x.on hB4) (fun e => by have := x.low _ e; omega) (by omega)
    have hfF : Fence.wide.fn 54 := trivial
    gi_wp2
    refine ⟨fun _ => by omega, CallsIn.mono (CallsIn.inRound l2 (callsIn_wide.2 hcall)) ?_⟩
    rintro e W5 ⟨rfl, hl5, hg5⟩
    gi_wp2
    refine ⟨KeepsFrom.of_grownBy hg5 (fun j e => by cases e; omega), Kb8.of_map hg5 (Nat.le_refl _) (by omega) hB4.size, ⟨(hl5.mono (by simp; omega)).congr fun v _ => (says_append_row pre x v).symm, b1.kept hg5 (by simp)⟩, hB4.grown hg5 hB4.size (fun j e => by cases e; exact Nat.le_refl _)⟩
  case done =>
    rintro xs W4 rfl ⟨⟨⟨D, ho, hf⟩, b1⟩, hB4⟩ hK
    have hz4 : W0.heap.size < W4.heap.size := (Array.getElem?_eq_some_iff.1 hK).1
    have hsz : size D ≤ 1000000 := by
      have := ho.size_le
      omega
    have c1 := b1.cell
    have hfK : Fence.wide.fn 56 := trivial
    have hfS : Fence.wide.fn 55 := trivial
    gi_wp2_with (first
      | (gi_at_call 56; refine (keysP_in (n - 1) _ _).mono ?_; rintro e w' ⟨rfl, rfl⟩)
      | (gi_at_call 55; refine (sortedP_in (n - 1) (by omega) w.heap.size _ D W4 ho (by omega)).mono ?_; rintro e W7 ⟨B, d, ss, rfl, hss, hka, hb7⟩))
    have hkr : keysRow D ss = l := by rw [HR.out]; exact keysRow_all ho hss (fun r hr e he => by obtain ⟨x, _, rfl⟩ := List.mem_map.1 hr; exact (x.ok e he).1) hf
    have hkl : (keysRow D ss).length = size D := (keysRow_up ho hss).2.1
    have hlk : ∀ j (h : j < (keysRow D ss).length), wfI (keysRow D ss)[j].1 ∧ (keysRow D ss)[j].2 = (lk D (keysRow D ss)[j].1).getD 0 := fun j hj => by
      have hm : (keysRow D ss)[j] ∈ keysRow D ss := List.getElem_mem hj
      obtain ⟨k, hk, e⟩ := List.mem_map.1 hm
      rw [← e]
      exact ⟨(keysRow_up ho hss).2.2.2 k ((List.mergeSort_perm _ _).mem_iff.1 hk), rfl⟩
    rw [hkr] at hkl hlk hka ⊢
    have hb7' : Below W4.heap.size W4 W7 := ((Below.refl _ W4).alloc (Nat.le_refl _) _).trans (hb7.mono (by omega))
    have hB7 : Below w.heap.size w W7 := hB4.trans (hb7'.mono hB4.size)
    have b7 : _root_.Go.Boxed W7 (w.heap.size + 1) 89 (.map (some w.heap.size)) := (hb7'.block _ b1.lt).trans b1
    have ho7 := ownsMap_of_block ho (hb7'.block _ ho.lt)
    rw [hz0] at hK hz4
    have hK7 := (hb7'.block _ (Array.getElem?_eq_some_iff.1 hK).1).trans hK
    have hl6 : l.length ≤ 1000000 := by omega
    clear hkl hb7 hb7' ho hss hf hK c1 b1 hB4 hz4 hkr
    gi_loopw [5, 19] (fun s i wr => ∃ k : Nat, k ≤ l.length ∧ i = .int .i64 k ∧ wr.ownsRow W7.heap.size 59 2 s k (pairCells (l.take k)) ∧ (k = 0 → s = .slice none 0 0) ∧ Below W7.heap.size W7 wr) (fun _ i _ => l.length - (intOf i).toNat)
    case atStart => exact ⟨0, Nat.zero_le _, rfl, World.ownsRow_nil _ _ _ _, fun _ => rfl, Below.refl _ _⟩
    case round =>
      obtain ⟨k, hk, rfl, own, hs0, hbr⟩ := hrel
      have hKr : wr.heap[w.heap.size + 3]? = some (.deferred (some [])) := (hbr.block _ (Array.getElem?_eq_some_iff.1 hK7).1).trans hK7
      by_cases hlt : k < l.length
      · obtain ⟨p, rfl, mb, cp⟩ := hka k hlt
        have cp1 : wr.cell? (p.add k) = some (.int .i64 l[k].1) := (hbr.cell (by rw [ad8_block]; exact mb)).trans cp
        have c1 : wr.cell? ⟨w.heap.size + 1, 0, none⟩ = some (.map (some w.heap.size)) := _root_.Go.Boxed.cell (W := wr) ((hbr.block _ b7.lt).trans b7)
        obtain ⟨hw1, hv1⟩ := hlk k hlt
        obtain ⟨u, hrun, hat, hwu⟩ := (ownsMap_of_block ho7 (hbr.block _ ho7.lt)).lookup_int keyed8 Tryz.underlying89 Tryz.underlying2 (zero8 wr) (keyOf_int_mk Tryz.underlying3 hw1)
        have hu : u = l[k].2 := by
          rw [hv1, lk_at (c := u) hat]
          by_cases hh : has D (kI l[k].1) = true
          · rw [if_pos hh]; rfl
          · rw [if_neg hh]
            have := atKey_of_not_has (Bool.eq_false_iff.2 hh) (dI 0)
            have h2 : (dI u : DU) = dI 0 := hat.symm.trans this
            injection h2 with h2
            injection h2
        have htk : l.take (k + 1) = l.take k ++ [l[k]] := List.take_succ_eq_append_getElem hlt
        have hpc : pairCells (l.take (k + 1)) = pairCells (l.take k) ++ [.int .i64 l[k].1, .int .i64 u] := by rw [htk, pairCells_snoc, hu]
        obtain ⟨y1, hy1⟩ : ∃ y, y = l[k].1 := ⟨_, rfl⟩
        rw [← hy1] at cp1 hrun hpc
        have i1 : (0 : Int) ≤ (k : Int) := by omega
        have i2 : (k : Int) < (l.length : Int) := by omega
        have i3 : (k : Int) ≤ 1000000 := by omega
        obtain ⟨A5, n5, c5, hs5⟩ : ∃ A5 n5 c5, u5 = .slice A5 n5 c5 := by
          rcases own.2 with ⟨rfl, _⟩ | ⟨g, cap, cur, rfl, _⟩ <;> exact ⟨_, _, _, rfl⟩
        subst hs5
        have hz7 := hbr.size
        have OWN := Lib.hid own
        have HBR := Lib.hid hbr
        have HPC := Lib.hid hpc
        clear hy1 hw1 hv1 hat hu htk cp hs0 own hbr hpc
        gi_wp2_with (first
          | (gi_at_builtin; refine append_pair_in OWN.out hz7 (by omega) rfl _ _ rfl rfl rfl rfl ?_; intro g5 cap5 w9 own9 hg9)
          | fail)
        have hB9 : Below W7.heap.size W7 w9 := HBR.out.trans ((((Below.refl W7.heap.size wr).alloc hz7 _)).trans ⟨hg9.os, hg9.tape, hg9.output, hg9.size, fun i hi => hg9.block i (by simp; omega) (fun e => by
          rcases OWN.out.2 with ⟨h, _⟩ | ⟨g, cap, cur, h, hb, _⟩
          · rw [h] at e; cases e
          · rw [h] at e
            injection e with e
            have e : i = g := e
            omega)⟩)
        rw [← HPC.out] at own9
        go_roundw
        case rel => exact ⟨k + 1, by omega, by go_num, own9, (fun h => absurd h (by omega)), hB9⟩
        case measure => simp [intOf]; omega
      · obtain rfl : k = l.length := by omega
        have i2 : ¬ ((l.length : Int) < (l.length : Int)) := by omega
        rw [List.take_length] at own
        obtain ⟨A5, c5, hs5⟩ : ∃ A5 c5, u5 = .slice A5 l.length c5 := by
          rcases own.2 with ⟨rfl, h0⟩ | ⟨g, cap, cur, rfl, _⟩
          · exact ⟨none, 0, by rw [h0]⟩
          · exact ⟨_, _, rfl⟩
        subst hs5
        have own9 := ownsRow_putObj own (.deferred none) hKr rfl
        have hBw := hB7.trans (hbr.mono hB7.size)
        clear hka hlk own hs0
        gi_wp2
        refine ⟨by simp, .inl ⟨_, _, rfl, run_takeDeferred hKr, ?_⟩⟩
        refine ⟨_, results_tmp rfl _ _ _, A5, c5, rfl, ?_, hBw.trans (belowK_b (w := w) (Nat.le_refl _) _ _ _ _ (by omega) hKr rfl rfl)⟩
        obtain ⟨o1, o2⟩ := own9
        refine ⟨o1, ?_⟩
        rcases o2 with h | ⟨g, cap, cur, h, hb, h3⟩
        · exact .inl h
        · exact .inr ⟨g, cap, cur, h, by have := hB7.size; omega, h3⟩
  case stop =>
    rintro pre W4 hsp h hK
    exact h.elim
theorem all_in (n : Nat) (hn : 7 ≤ n) (q c : Nat) (A : Option Addr) (w : World) (p0 : Lev w w.heap.size) (L : List (Lev w w.heap.size)) (hq : q < w.heap.size)
    (hc0 : w.cell? ⟨q, 0, none⟩ = some (.map p0.p)) (hc1 : w.cell? ⟨q, 1, none⟩ = some (.slice A L.length c)) (hL : Lies8 Lev.p w w.heap.size A L) (hl : L.length ≤ 999) :
    CallsIn Fence.wide n Tryz.prog 31 #[.pointer (some ⟨q, 0, none⟩)] w fun e w' => ∃ (B : Option Addr) (d : Nat), e = .returned (.slice B (allS (flatB (rowsOf (p0 :: L.reverse)))).length d) ∧
      w'.ownsRow w.heap.size 59 2 (.slice B (allS (flatB (rowsOf (p0 :: L.reverse)))).length d) (allS (flatB (rowsOf (p0 :: L.reverse)))).length (pairCells (allS (flatB (rowsOf (p0 :: L.reverse))))) ∧ Below w.heap.size w w' :=
  all_core n hn (some ⟨q, 0, none⟩) w (p0 :: L.reverse) (L.length + 1) (by omega) (by simp) (fun ys => ys <+: p0 :: L.reverse) fun W0 hB0 hz0 bQ =>
    lev_seq (α := Lev w w.heap.size) Lev.p (n - 1) (by omega) (w.heap.size + 2) w.heap.size (w.heap.size + 2) c q p0 A L W0 bQ (Nat.le_refl _) hq (by omega) ((hB0.cell (p := ⟨q, 0, none⟩) hq).trans hc0) ((hB0.cell (p := ⟨q, 1, none⟩) hq).trans hc1) (hL.below hB0 (Nat.le_refl _)) (by omega)
theorem all_nil_in (n : Nat) (hn : 7 ≤ n) (w : World) :
    CallsIn Fence.wide n Tryz.prog 31 #[.pointer none] w fun e w' => ∃ (B : Option Addr) (d : Nat), e = .returned (.slice B 0 d) ∧ Below w.heap.size w w' := by
  refine CallsIn.mono (all_core n hn none w [] 0 (by omega) (by simp) (fun _ => False) fun W0 hB0 hz0 bQ => lev_seq_nil Lev.p (n - 1) (w.heap.size + 2) w.heap.size (w.heap.size + 2) W0 bQ) ?_
  rintro e w' ⟨B, d, he, _, hb⟩
  exact ⟨B, d, he, hb⟩
end Go.Proofs.YthdcdffdpdoeoaaGreatDoor
/-
  A BUFFER AS IT LIES, with the blocks that are its own (RB), and contracts of package buffer's New, Put, Push, Depth: each changes just what the buffer owns, and makes new memory. Conditions: as they stand.
-/
namespace Go.Proofs.YthdcdffdpdoeoaaGreatDoor
set_option maxRecDepth 100000
open Go.RowKit Go.Maps Go.Shelf
set_option linter.unusedVariables false
/-- Nothing that was there has turned, but for blocks of S. -/
structure Fro (S : Nat → Prop) (w w' : World) : Prop where
  os : w'.os = w.os
  tape : w'.tape = w.tape
  output : w'.output = w.output
  size : w.heap.size ≤ w'.heap.size
  block : ∀ i, i < w.heap.size → ¬ S i → w'.heap[i]? = w.heap[i]?
theorem Fro.refl (S : Nat → Prop) (w : World) : Fro S w w := ⟨rfl, rfl, rfl, Nat.le_refl _, fun _ _ _ => rfl⟩
theorem Fro.trans {S S' : Nat → Prop} {a b c : World} (h : Fro S a b) (k : Fro S' b c) (hS : ∀ i, S' i → S i ∨ a.heap.size ≤ i) : Fro S a c :=
  ⟨k.os.trans h.os, k.tape.trans h.tape, k.output.trans h.output, Nat.le_trans h.size k.size, fun i hi hn => (k.block i (by have := h.size; omega) (fun hs => by rcases hS i hs with e | e; exact hn e; omega)).trans (h.block i hi hn)⟩
theorem Fro.weak {S S' : Nat → Prop} {a b : World} (h : Fro S a b) (hS : ∀ i, S i → i < a.heap.size → S' i) : Fro S' a b := ⟨h.os, h.tape, h.output, h.size, fun i hi hn => h.block i hi fun hs => hn (hS i hs hi)⟩
theorem Fro.of_below {S : Nat → Prop} {a b : World} {B : Nat} (h : Below B a b) (hB : a.heap.size ≤ B) : Fro S a b := ⟨h.os, h.tape, h.output, h.size, fun i hi _ => h.block i (by omega)⟩
theorem Fro.of_grown {S : Nat → Prop} {a b : World} {row : Option Nat} (h : a.grownBy b row) (hr : ∀ r, row = some r → S r) : Fro S a b := ⟨h.os, h.tape, h.output, h.size, fun i hi hn => h.block i hi fun e => hn (hr i e.symm)⟩
theorem Fro.set {S : Nat → Prop} {a : World} (p : Addr) (u : Value) (hp : S p.block) : Fro S a (a.setCell p u) := ⟨rfl, rfl, rfl, by simp [World.setCell], fun i hi hn => Below.heap_setCell a p u i (fun e => hn (e ▸ hp))⟩
theorem Fro.below {S : Nat → Prop} {a b : World} {B : Nat} (h : Fro S a b) (hS : ∀ i, S i → B ≤ i) (hB : B ≤ a.heap.size) : Below B a b := ⟨h.os, h.tape, h.output, h.size, fun i hi => h.block i (by omega) fun hs => by have := hS i hs; omega⟩
/-- A buffer of the levels T (the highest one first), at q; S: the blocks that are its own. -/
structure BufAt (w : World) (q : Nat) (S : Nat → Prop) (p0 : Option Nat) (top : List Pr) (A : Option Addr) (c : Nat) (L : List (Option Nat × List Pr)) : Prop where
  own : S q
  obj : w.heap[q]? = some (.cells #[.map p0, .slice A L.length c] 106 (0, 0))
  row : w.ownsRow 0 89 1 (.slice A L.length c) L.length (L.map fun x => .map x.1)
  rowS : ∀ p, A = some p → S p.block
  top_ : LO w p0 top.length (rowSays top)
  lev : ∀ x ∈ L, LO w x.1 x.2.length (rowSays x.2)
  topS : ∀ b, p0 = some b → S b
  levS : ∀ x ∈ L, ∀ b, x.1 = some b → S b
  apart : (p0 :: L.map Prod.fst).Pairwise (fun a b => a = none ∨ a ≠ b)
  full : p0 = none ∨ top ≠ []
  fullL : ∀ x ∈ L, x.1 = none ∨ x.2 ≠ []
  okT : ∀ e ∈ top, wfI e.1 ∧ wfI e.2
  okL : ∀ x ∈ L, ∀ e ∈ x.2, wfI e.1 ∧ wfI e.2
  lt : ∀ b, S b → b < w.heap.size
def RB (w : World) (q : Nat) (S : Nat → Prop) (T : List (List Pr)) : Prop := ∃ p0 top A c L, BufAt w q S p0 top A c L ∧ T = top :: (L.map Prod.snd).reverse
theorem ownsRow_of_block {w w' : World} {base : Nat} {e : TypeId} {size : Nat} {A : Option Addr} {n c k : Nat} {xs : List Value} (h : w.ownsRow base e size (.slice A n c) k xs) (hb : ∀ p, A = some p → w'.heap[p.block]? = w.heap[p.block]?) : w'.ownsRow base e size (.slice A n c) k xs := by
  refine ⟨h.1, ?_⟩
  rcases h.2 with h2 | ⟨g, cap, cur, hv, h3, h4, h5⟩
  · exact .inl h2
  · injection hv with hA hn hc
    exact .inr ⟨g, cap, cur, by rw [hA, hn, hc], h3, (hb _ hA).trans h4, h5⟩
theorem BufAt.frame {w w' : World} {q : Nat} {S S' : Nat → Prop} {p0 : Option Nat} {top : List Pr} {A : Option Addr} {c : Nat} {L : List (Option Nat × List Pr)} (h : BufAt w q S p0 top A c L) (hS : ∀ b, S b → S' b) (hk : ∀ b, S b → w'.heap[b]? = w.heap[b]?) (hl : ∀ b, S' b → b < w'.heap.size) : BufAt w' q S' p0 top A c L where
  own := hS _ h.own
  obj := (hk q h.own).trans h.obj
  row := ownsRow_of_block h.row fun p e => hk _ (h.rowS p e)
  rowS p e := hS _ (h.rowS p e)
  top_ := h.top_.of_block fun b e => hk b (h.topS b e)
  lev x hx := (h.lev x hx).of_block fun b e => hk b (h.levS x hx b e)
  topS b e := hS _ (h.topS b e)
  levS x hx b e := hS _ (h.levS x hx b e)
  apart := h.apart
  full := h.full
  fullL := h.fullL
  okT := h.okT
  okL := h.okL
  lt := hl
theorem RB.keep {w w' : World} {q : Nat} {S S2 : Nat → Prop} {T : List (List Pr)} (h : RB w q S T) (f : Fro S2 w w') (hS : ∀ b, S b → ¬ S2 b) : RB w' q S T := by
  obtain ⟨p0, top, A, c, L, hb, e⟩ := h
  exact ⟨p0, top, A, c, L, hb.frame (fun _ h => h) (fun b hs => f.block b (hb.lt b hs) (hS b hs)) (fun b hs => Nat.lt_of_lt_of_le (hb.lt b hs) f.size), e⟩
theorem RB.lt {w : World} {q : Nat} {S : Nat → Prop} {T : List (List Pr)} (h : RB w q S T) : ∀ b, S b → b < w.heap.size := by obtain ⟨p0, top, A, c, L, hb, e⟩ := h; exact hb.lt
theorem RB.ne {w : World} {q : Nat} {S : Nat → Prop} {T : List (List Pr)} (h : RB w q S T) : T ≠ [] := by obtain ⟨p0, top, A, c, L, hb, e⟩ := h; rw [e]; simp
theorem BufAt.c0 {w : World} {q : Nat} {S : Nat → Prop} {p0 : Option Nat} {top : List Pr} {A : Option Addr} {c : Nat} {L : List (Option Nat × List Pr)} (h : BufAt w q S p0 top A c L) : w.cell? ⟨q, 0, none⟩ = some (.map p0) ∧ w.cell? ⟨q, 1, none⟩ = some (.slice A L.length c) ∧ w.frozen? ⟨q, 0, none⟩ = false ∧ w.frozen? ⟨q, 1, none⟩ = false := by
  have := h.obj
  simp [World.cell?, World.frozen?, this]
set_option maxHeartbeats 1000000 in
theorem new_any (w : World) : Calls Tryz.prog 36 #[] w fun e w' => e = .returned (.pointer (some ⟨w.heap.size, 0, none⟩)) ∧ RB w' w.heap.size (fun b => b = w.heap.size) [[]] ∧ Below w.heap.size w w' ∧ w'.heap.size = w.heap.size + 1 := by
  go_enter Tryz.func36, Tryz.ntmps36
  go_wp2_with fail
  go_ret
  refine ⟨rfl, ⟨none, [], none, 0, [], ?_, rfl⟩, (Below.refl _ w).alloc (Nat.le_refl _) _, by simp⟩
  exact ⟨rfl, World.alloc_heap_new w _, ⟨rfl, .inl ⟨rfl, rfl⟩⟩, (fun p e => by cases e), .inl ⟨rfl, fun v _ => rfl⟩, by simp, by simp, by simp, by simp, .inl rfl, by simp, by simp, by simp, fun b e => by rw [e]; simp⟩
theorem setBlock8 {w : World} {q : Nat} {cs : Array Value} {t : TypeId} {fr : Nat × Nat} (h : w.heap[q]? = some (.cells cs t fr)) (i : Nat) (u : Value) : (w.setCell ⟨q, i, none⟩ u).heap[q]? = some (.cells (cs.setIfInBounds i u) t fr) := by
  obtain ⟨hlt, hk⟩ := Array.getElem?_eq_some_iff.1 h
  show (w.heap.modify q _)[q]? = _
  rw [Array.getElem?_eq_getElem (by rw [Array.size_modify]; exact hlt), Array.getElem_modify_self, hk]
  rfl
theorem wf_of {x : Int} (h : wfI x) : -9223372036854775808 ≤ x ∧ x ≤ 9223372036854775807 := by simpa [wfI, Lit.wf, IntKind.min, IntKind.max, IntKind.signed, IntKind.bits] using h
set_option maxHeartbeats 2000000 in
theorem put_low (q : Nat) (p0 : Option Nat) (sl : Value) (n : Nat) (f : Int → Option Int) (v x : Int) (hv : wfI v) (hx : wfI x) (w : World) (hq : w.heap[q]? = some (.cells #[.map p0, sl] 106 (0, 0))) (hl : LO w p0 n f) (hn : n ≤ 1000000) :
    Calls Tryz.prog 67 #[.pointer (some ⟨q, 0, none⟩), .int .i64 v, .int .i64 x] w fun e w' => e = .returned (.int .i64 0) ∧ ∃ b, (p0 = some b ∨ (p0 = none ∧ b = w.heap.size)) ∧ w'.heap[q]? = some (.cells #[.map (some b), sl] 106 (0, 0)) ∧ LV w' b (n + 1) (fun u => if v = u then some x else f u) ∧ Fro (fun i => i = q ∨ i = b) w w' := by
  have hqlt : q < w.heap.size := (Array.getElem?_eq_some_iff.1 hq).1
  have c0 : w.cell? ⟨q, 0, none⟩ = some (.map p0) := by simp [World.cell?, hq]
  have f0 : w.frozen? ⟨q, 0, none⟩ = false := by simp [World.frozen?, hq]
  have hmm := @run_makeMap Tryz.prog
  have hkey := keyOf_int_mk (P := Tryz.prog) Tryz.underlying3 hv
  rcases hl with ⟨rfl, hf⟩ | ⟨b, rfl, D, ho, hf⟩
  · have hqn := run_eql_map_nil_sl (P := Tryz.prog) w 89 _ _ none Tryz.underlying89
    have hz1 : (w.setCell ⟨q, 0, none⟩ (.map (some w.heap.size))).heap.size = w.heap.size := by simp [World.setCell]
    have hmade : ((w.setCell ⟨q, 0, none⟩ (.map (some w.heap.size))).alloc (.map #[] 0)).ownsMap (H := Unit) Tryz.prog 3 (plainElem Tryz.prog 2) w.heap.size 0 (.map []) := by
      have := World.ownsMap_made (H := Unit) (w.setCell ⟨q, 0, none⟩ (.map (some w.heap.size))) Tryz.prog 3 (plainElem Tryz.prog 2)
      rwa [hz1] at this
    have hq1 : ((w.setCell ⟨q, 0, none⟩ (.map (some w.heap.size))).alloc (.map #[] 0)).heap[q]? = some (.cells #[.map (some w.heap.size), sl] 106 (0, 0)) := (Below.heap_alloc _ _ q (by rw [hz1]; exact hqlt)).trans (setBlock8 hq 0 (.map (some w.heap.size)))
    have hc2 : ((w.setCell ⟨q, 0, none⟩ (.map (some w.heap.size))).alloc (.map #[] 0)).cell? ⟨q, 0, none⟩ = some (.map (some w.heap.size)) := by simp [World.cell?, hq1]
    have hF1 : Fro (fun i => i = q) w ((w.setCell ⟨q, 0, none⟩ (.map (some w.heap.size))).alloc (.map #[] 0)) := (Fro.set (S := fun i => i = q) ⟨q, 0, none⟩ (.map (some w.heap.size)) rfl).trans (Fro.of_below (S := fun i => i = q) ((Below.refl _ (w.setCell ⟨q, 0, none⟩ (.map (some w.heap.size)))).alloc (Nat.le_refl _) _) (Nat.le_refl _)) (fun i h => .inl h)
    obtain ⟨w2, hrun, ho2, hg2⟩ := hmade.update keyed8 Tryz.underlying89 (by unfold maxLen; omega) hkey (plainElem_int Tryz.underlying2 hx)
    have hq2 : w2.heap[q]? = some (.cells #[.map (some w.heap.size), sl] 106 (0, 0)) := (hg2.block q (Array.getElem?_eq_some_iff.1 hq1).1 (fun e => by injection e with e; omega)).trans hq1
    have hF : Fro (fun i => i = q ∨ i = w.heap.size) w w2 := (hF1.weak (S' := fun i => i = q ∨ i = w.heap.size) (fun i h _ => .inl h)).trans (Fro.of_grown (S := fun i => i = w.heap.size) hg2 (fun r e => by injection e with e; exact e.symm)) (fun i h => .inl (.inr h))
    clear hz1 hmade hq1 hF1
    go_enter Tryz.func67, Tryz.ntmps67
    go_wp2_with fail
    go_ret
    refine ⟨rfl, w.heap.size, .inr ⟨by first | rfl | trivial, rfl⟩, hq2, ⟨_, ho2.mono (by omega), fun u hu => ?_⟩, hF⟩
    refine (lk_put isMap_empty hv x u).trans ?_
    show _ = if v = u then some x else f u
    rw [lk_empty, hf u hu]
  · have hqn := run_eql_map_nil_sl (P := Tryz.prog) w 89 _ _ (some b) Tryz.underlying89
    obtain ⟨w2, hrun, ho2, hg2⟩ := ho.update keyed8 Tryz.underlying89 (by unfold maxLen; omega) hkey (plainElem_int Tryz.underlying2 hx)
    have hbq : b ≠ q := fun e => by
      obtain ⟨es, cl, h⟩ := LV.is_map ⟨D, ho, hf⟩
      rw [e, hq] at h
      cases h
    have hq2 : w2.heap[q]? = some (.cells #[.map (some b), sl] 106 (0, 0)) := (hg2.block q hqlt (fun e => by injection e with e; exact hbq e.symm)).trans hq
    go_enter Tryz.func67, Tryz.ntmps67
    go_wp2_with fail
    go_ret
    refine ⟨rfl, b, .inl rfl, hq2, ⟨_, ho2, fun u hu => ?_⟩, Fro.of_grown hg2 (fun r e => by injection e with e; exact .inr e.symm)⟩
    refine (lk_put (isMap8 ho) hv x u).trans ?_
    show _ = if v = u then some x else f u
    rw [hf u hu]
theorem apart_put {p0 : Option Nat} {L : List (Option Nat)} {b : Nat} (h : (p0 :: L).Pairwise (fun a b => a = none ∨ a ≠ b)) (hb : p0 = some b ∨ ∀ x ∈ L, x ≠ some b) : (some b :: L).Pairwise (fun a b => a = none ∨ a ≠ b) := by
  obtain ⟨h1, h2⟩ := List.pairwise_cons.1 h
  refine List.pairwise_cons.2 ⟨fun x hx => .inr ?_, h2⟩
  rcases hb with rfl | hb
  · rcases h1 x hx with e | e
    · cases e
    · exact e
  · exact fun e => hb x hx e.symm
/-- Put: the highest level has x of the variable v. -/
theorem put_any (q : Nat) (S : Nat → Prop) (T : List (List Pr)) (v x : Int) (hv : wfI v) (hx : wfI x) (w : World) (h : RB w q S T) (hT : (flatB T).length ≤ 100000) :
    Calls Tryz.prog 67 #[.pointer (some ⟨q, 0, none⟩), .int .i64 v, .int .i64 x] w fun e w' => e = .returned (.int .i64 0) ∧ ∃ S', RB w' q S' (putT v x T) ∧ (∀ b, S' b → S b ∨ w.heap.size ≤ b) ∧ Fro S w w' := by
  obtain ⟨p0, top, A, c, L, hb, rfl⟩ := h
  have hlen : top.length ≤ 1000000 := by
    have : (flatB (top :: (L.map Prod.snd).reverse)).length = (flatB (L.map Prod.snd).reverse ++ top).length := rfl
    rw [List.length_append] at this
    omega
  refine (put_low q p0 (.slice A L.length c) top.length (rowSays top) v x hv hx w hb.obj hb.top_ hlen).mono ?_
  rintro e w' ⟨he, b, hpb, hq', hlv, hF⟩
  have hbS : S b ∨ (p0 = none ∧ b = w.heap.size) := by
    rcases hpb with e | e
    · exact .inl (hb.topS b e)
    · exact .inr e
  have hFS : Fro S w w' := hF.weak fun i hi hlt => by
    rcases hi with rfl | rfl
    · exact hb.own
    · rcases hbS with h | ⟨_, h⟩
      · exact h
      · omega
  have hkeep : ∀ i, S i → i ≠ q → i ≠ b → w'.heap[i]? = w.heap[i]? := fun i hi h1 h2 => hF.block i (hb.lt i hi) (fun h => by rcases h with h | h; exact h1 h; exact h2 h)
  have hmq : ∀ (p : Option Nat) (n : Nat) (f : Int → Option Int), LO w p n f → ∀ i, p = some i → i ≠ q := fun p n f hl i e hiq => by
    rcases hl with ⟨h, _⟩ | ⟨i', h, hlv⟩
    · rw [h] at e; cases e
    · rw [h] at e
      injection e with e
      subst e
      obtain ⟨es, cl, hm⟩ := hlv.is_map
      rw [hiq, hb.obj] at hm
      cases hm
  have hlb : ∀ x ∈ L, x.1 ≠ some b := fun x hx e => by
    rcases hpb with h | ⟨h, h2⟩
    · rcases (List.pairwise_cons.1 hb.apart).1 x.1 (List.mem_map_of_mem hx) with h' | h'
      · rw [h] at h'; cases h'
      · exact h' (h.trans e.symm)
    · have := hb.lt b (hb.levS x hx b e)
      omega
  have hrow : ∀ p, A = some p → w'.heap[p.block]? = w.heap[p.block]? := fun p e => by
    rcases hb.row.2 with ⟨h, _⟩ | ⟨g, cap, cur, h, _, hg, _⟩
    · injection h with h; rw [h] at e; cases e
    · injection h with h
      rw [h] at e
      injection e with e
      subst e
      refine hkeep g (hb.rowS _ h) (fun e => ?_) (fun e => ?_)
      · rw [e, hb.obj] at hg; injection hg with hg; injection hg with _ h2; exact absurd h2 (by decide)
      · rcases hpb with h3 | ⟨_, h3⟩
        · rcases hb.top_ with ⟨h4, _⟩ | ⟨b', h4, h5⟩
          · rw [h4] at h3; cases h3
          · rw [h4] at h3
            injection h3 with h3
            obtain ⟨es, cl, h6⟩ := h5.is_map
            rw [h3, ← e, hg] at h6
            cases h6
        · have := (Array.getElem?_eq_some_iff.1 hg).1
          omega
  refine ⟨he, fun i => S i ∨ i = b, ⟨some b, top ++ [(v, x)], A, c, L, ?_, rfl⟩, fun i hi => ?_, hFS⟩
  · exact {
      own := .inl hb.own
      obj := hq'
      row := ownsRow_of_block hb.row hrow
      rowS := fun p e => .inl (hb.rowS p e)
      top_ := .inr ⟨b, rfl, (hlv.mono (by simp)).congr fun u _ => (says_snoc top (v, x) u).symm⟩
      lev := fun y hy => (hb.lev y hy).of_block fun i e => hkeep i (hb.levS y hy i e) (hmq _ _ _ (hb.lev y hy) i e) (fun e2 => hlb y hy (by rw [e, e2]))
      topS := fun i e => by injection e with e; exact .inr e.symm
      levS := fun y hy i e => .inl (hb.levS y hy i e)
      apart := apart_put hb.apart (.inr fun y hy => by obtain ⟨z, hz, rfl⟩ := List.mem_map.1 hy; exact hlb z hz)
      full := .inr (by simp)
      fullL := hb.fullL
      okT := fun e he => by
        rcases List.mem_append.1 he with h | h
        · exact hb.okT e h
        · rw [List.mem_singleton.1 h]; exact ⟨hv, hx⟩
      okL := hb.okL
      lt := fun i hi => by
        rcases hi with hi | rfl
        · exact Nat.lt_of_lt_of_le (hb.lt i hi) hF.size
        · exact hlv.lt }
  · rcases hi with hi | rfl
    · exact .inl hi
    · rcases hbS with h | ⟨_, h⟩
      · exact .inl h
      · exact .inr (by omega)
end Go.Proofs.YthdcdffdpdoeoaaGreatDoor
