/-
  CONTRACT OF PACKAGE buffer's Get: what is written of a variable, and whether anything is; nothing that lay has turned. Conditions: as they stand.
-/
import Derived.Test.YtmjcipojidimgaaLc
import Derived.Test.YtmjcipojidimgaaLh
import Derived.Test.YtmjcipojidimgaaLj
namespace Go.Proofs.Ytmjcipojidimgaa
set_option maxRecDepth 100000
open Go.RowKit Go.Maps Go.Shelf
set_option linter.unusedVariables false
attribute [local go_sem] Oper.semAt_some
/-- A level as it lies in w, below n₀: what was put, the last ones last. -/
structure Lev (w : World) (n₀ : Nat) where
  p : Option Nat
  row : List Pr
  at_ : LO w p row.length (rowSays row)
  low : ∀ b, p = some b → b < n₀
  small : row.length ≤ 1000
  ok : ∀ e ∈ row, wfI e.1 ∧ wfI e.2
theorem Lev.on {w W : World} {n₀ : Nat} (x : Lev w n₀) (h : Below n₀ w W) : LO W x.p x.row.length (rowSays x.row) := x.at_.of_block fun b e => h.block b (x.low b e)
/-- Looked up in a level, with ok. -/
theorem look8 {w W : World} {n₀ : Nat} (x : Lev w n₀) (h : Below n₀ w W) {v : Int} (hv : wfI v) : ∃ c : Int, (Instr.lookup 52 (.map x.p) (.int .i64 v) true).run Try.prog W = .ok (.tuple #[.int .i64 c, .bool (rowSays x.row v).isSome]) W ∧ ((rowSays x.row v).isSome = true → rowSays x.row v = some c) := by
  have hkey := keyOf_int_mk (P := Try.prog) Try.underlying3 hv
  rcases x.on h with ⟨hp, hf⟩ | ⟨b, hp, D, ho, hf⟩
  · rw [hp, hf v hv]
    exact ⟨0, look_nil (w := W) true keyed8 Try.underlying52 (zero8 _) hkey, fun h => by cases h⟩
  · rw [hp, ← hf v hv, lk_isSome]
    obtain ⟨u, ps, hrun, hu⟩ := ho.look_ok keyed8 Try.underlying52 (zero8 W) (plainElem_int Try.underlying2 (by decide)) hkey
    obtain ⟨c, rfl, hc, hw⟩ := plainElem_int_inv Try.underlying2 hu
    refine ⟨c, hrun, fun hh => ?_⟩
    rw [lk_at (c := c) (congrArg Prod.fst hc), if_pos hh]
def rowsOf {w : World} {n₀ : Nat} (l : List (Lev w n₀)) : List (List Pr) := l.map Lev.row
theorem says_none {w : World} {n₀ : Nat} {l : List (Lev w n₀)} {v : Int} (h : ∀ e ∈ l, rowSays e.row v = none) : saysL (rowsOf l) v = none := by
  induction l with
  | nil => rfl
  | cons a r ih => rw [rowsOf, List.map_cons, saysL_cons, h a (by simp), Option.none_or]; exact ih fun e he => h e (List.mem_cons_of_mem _ he)
theorem says_first {w : World} {n₀ : Nat} {pre : List (Lev w n₀)} {x : Lev w n₀} {l : List (Lev w n₀)} {v c : Int} (hp : pre ++ [x] <+: l) (h : ∀ e ∈ pre, rowSays e.row v = none) (hx : rowSays x.row v = some c) : saysL (rowsOf l) v = some c := by
  obtain ⟨r, rfl⟩ := hp
  induction pre with
  | nil => rw [rowsOf, List.nil_append, List.singleton_append, List.map_cons, saysL_cons, hx]; rfl
  | cons a s ih => rw [rowsOf, List.cons_append, List.cons_append, List.map_cons, saysL_cons, h a (by simp), Option.none_or]; exact ih fun e he => h e (List.mem_cons_of_mem _ he)
set_option maxRecDepth 100000 in
set_option maxHeartbeats 4000000 in
theorem get_in (n : Nat) (hn : 5 ≤ n) (q c : Nat) (A : Option Addr) (w : World) (p0 : Lev w w.heap.size) (L : List (Lev w w.heap.size)) (v : Int) (hv : wfI v) (hq : q < w.heap.size)
    (hc0 : w.cell? ⟨q, 0, none⟩ = some (.map p0.p)) (hc1 : w.cell? ⟨q, 1, none⟩ = some (.slice A L.length c)) (hL : Lies8 Lev.p w w.heap.size A L) (hl : L.length ≤ 1000000) :
    CallsIn Fence.wide n Try.prog 21 #[.pointer (some ⟨q, 0, none⟩), .int .i64 v] w fun e w' => e = .returned (got (saysL (rowsOf (p0 :: L.reverse)) v)) ∧ Below w.heap.size w w' := by
  have h1 : 1 ≤ n := by omega
  have hfl : Fence.wide.fn 33 := trivial
  obtain ⟨res, hres⟩ : ∃ res, res = saysL (rowsOf (p0 :: L.reverse)) v := ⟨_, rfl⟩
  rw [← hres]
  refine callsIn_of_wp_marks Try.func21 rfl trivial ?_ rfl
  simp only [Try.ntmps21, List.size_toArray, List.length_cons, List.length_nil, Nat.reduceAdd, Nat.reduceSub, Array.replicate_succ, Array.replicate_zero, List.push_toArray, List.append_toArray, List.nil_append, List.cons_append]
  gi_wp2_with (gi_at_call 33; refine (levels_in Fence.wide (n - 1) trivial rfl _ _).mono ?_; rintro e w' ⟨rfl, rfl⟩)
  obtain ⟨W0, hW0⟩ : ∃ W0, W0 = (((w.alloc (.cells #[.int .i64 v] 3)).alloc (.cells #[.int .i64 0] 2)).alloc (.cells #[.bool false] 4)).alloc (.cells #[.pointer (some ⟨q, 0, none⟩)] 24) := ⟨_, rfl⟩
  have hz0 : W0.heap.size = w.heap.size + 4 := by rw [hW0]; simp
  have hB0 : Below w.heap.size w W0 := by rw [hW0]; exact ((((Below.refl _ w).alloc (Nat.le_refl _) _).alloc (by simp) _).alloc (by simp; omega) _).alloc (by simp; omega) _
  have bV : _root_.Go.Boxed W0 w.heap.size 3 (.int .i64 v) := by rw [hW0]; exact (((_root_.Go.Boxed.new w _ _).alloc _).alloc _).alloc _
  have bX : _root_.Go.Boxed W0 (w.heap.size + 1) 2 (.int .i64 0) := by
    rw [hW0]
    have := ((_root_.Go.Boxed.new (w.alloc (.cells #[.int .i64 v] 3)) 2 (.int .i64 0)).alloc (.cells #[.bool false] 4)).alloc (.cells #[.pointer (some ⟨q, 0, none⟩)] 24)
    rwa [World.size_alloc] at this
  have bI : _root_.Go.Boxed W0 (w.heap.size + 2) 4 (.bool false) := by
    rw [hW0]
    have := (_root_.Go.Boxed.new ((w.alloc (.cells #[.int .i64 v] 3)).alloc (.cells #[.int .i64 0] 2)) 4 (.bool false)).alloc (.cells #[.pointer (some ⟨q, 0, none⟩)] 24)
    rwa [World.size_alloc, World.size_alloc] at this
  have bQ : _root_.Go.Boxed W0 (w.heap.size + 3) 24 (.pointer (some ⟨q, 0, none⟩)) := by
    rw [hW0]
    have := _root_.Go.Boxed.new (((w.alloc (.cells #[.int .i64 v] 3)).alloc (.cells #[.int .i64 0] 2)).alloc (.cells #[.bool false] 4)) 24 (.pointer (some ⟨q, 0, none⟩))
    rwa [World.size_alloc, World.size_alloc, World.size_alloc] at this
  have d0 := (hB0.cell (p := ⟨q, 0, none⟩) hq).trans hc0
  have d1 := (hB0.cell (p := ⟨q, 1, none⟩) hq).trans hc1
  have hL0 := hL.below hB0 (Nat.le_refl _)
  rw [← hW0]
  clear hW0
  refine loopO (F := Fence.wide) rfl h1 (gf := 39) (lb := #[.pointer (some ⟨w.heap.size + 3, 0, none⟩)]) rfl trivial (enters_of Try.func39 (by kernel_rfl) rfl)
    (lev_seq (α := Lev w w.heap.size) Lev.p (n - 1) (by omega) (w.heap.size + 3) w.heap.size (w.heap.size + 3) c q p0 A L W0 bQ (Nat.le_refl _) hq (by omega) d0 d1 hL0 hl) (by omega) (fun _ => rfl)
    (fun pre W => ((∀ e ∈ pre, rowSays e.row v = none) ∧ _root_.Go.Boxed W w.heap.size 3 (.int .i64 v) ∧ _root_.Go.Boxed W (w.heap.size + 1) 2 (.int .i64 0) ∧ _root_.Go.Boxed W (w.heap.size + 2) 4 (.bool false)) ∧ Below w.heap.size w W)
    (fun pre W => (∃ y x u, pre = y ++ [x] ∧ (∀ e ∈ y, rowSays e.row v = none) ∧ rowSays x.row v = some u ∧ _root_.Go.Boxed W (w.heap.size + 1) 2 (.int .i64 u) ∧ _root_.Go.Boxed W (w.heap.size + 2) 4 (.bool true)) ∧ Below w.heap.size w W)
    (OwnFrom.and (fun s A B row hs hg hr => ⟨hs.1, own_box _ _ (fun _ => .int .i64 v) W0.heap.size s A B row hs.2.1 hg hr, own_box _ _ (fun _ => .int .i64 0) W0.heap.size s A B row hs.2.2.1 hg hr, own_box _ _ (fun _ => .bool false) W0.heap.size s A B row hs.2.2.2 hg hr⟩) (ownFrom_below (Nat.le_refl _) (by omega)))
    (OwnFrom.and (fun s A B row hs hg hr => by
      obtain ⟨y, x, u, e1, e2, e3, b1, b2⟩ := hs
      exact ⟨y, x, u, e1, e2, e3, own_box _ _ (fun _ : Unit => .int .i64 u) W0.heap.size () A B row b1 hg hr, own_box _ _ (fun _ : Unit => .bool true) W0.heap.size () A B row b2 hg hr⟩) (ownFrom_below (Nat.le_refl _) (by omega)))
    ⟨⟨by simp, bV, bX, bI⟩, hB0⟩
    (fun x => { tmps := #[.pointer (some ⟨q, 0, none⟩), .int .i64 v, undef, .pointer (some ⟨w.heap.size, 0, none⟩), .pointer (some ⟨w.heap.size + 1, 0, none⟩), .pointer (some ⟨w.heap.size + 1 + 1, 0, none⟩), .map x.p, undef, undef, .pointer (some ⟨q, 0, none⟩), .func (.func 39) #[] #[.pointer (some ⟨w.heap.size + 1 + 1 + 1, 0, none⟩)], .map x.p, undef, undef, undef, undef, undef, undef, undef, undef], defers := [] }) ?assign ?body ?done ?stop
  case assign =>
    intro l2 x W4 K hK
    unfold encP
    gi_wp2
    exact hK
  case body =>
    rintro l2 pre x W4 ⟨⟨hp, b1, b2, b3⟩, hB4⟩ hlen
    obtain ⟨u, hrun, hu⟩ := look8 x hB4 hv
    have c1 := b1.cell
    have c2 := b2.cell
    have c3 := b3.cell
    have f2 := b2.frozen
    have f3 := b3.frozen
    gi_wp2
    · rename_i hh
      refine ⟨((KeepsOthers.setCell _ _ _).from _).trans ((KeepsOthers.setCell _ _ _).from _), ⟨pre, x, u, rfl, hp, hu hh, (b2.set _).other (by omega) _, (b3.other (by omega) _).set _⟩, (hB4.setCell (p := ⟨w.heap.size + 1, 0, none⟩) (by simp) _).setCell (p := ⟨w.heap.size + 1 + 1, 0, none⟩) (by show _ ≤ w.heap.size + 1 + 1; omega) _⟩
    · rename_i hh
      refine ⟨KeepsFrom.refl _ _, Kc.refl _ _ _, ⟨fun e he => ?_, b1, b2, b3⟩, hB4⟩
      rcases List.mem_append.1 he with he | he
      · exact hp e he
      · rw [List.mem_singleton.1 he]
        simpa using hh
  case done =>
    rintro xs W4 hxs ⟨⟨hp, b1, b2, b3⟩, hB4⟩ hK
    have c2 := b2.cell
    have c3 := b3.cell
    have f2 := b2.frozen
    have f3 := b3.frozen
    gi_wp2
    have hr0 : res = none := by rw [hres, ← hxs]; exact says_none hp
    subst hr0
    have hK9 : ((W4.setCell ⟨w.heap.size + 1, 0, none⟩ (.int .i64 0)).setCell ⟨w.heap.size + 1 + 1, 0, none⟩ (.bool false)).heap[W0.heap.size]? = some (.deferred (some [])) := (KeepsOthers.setCell _ _ _).same _ _ ((KeepsOthers.setCell _ _ _).same _ _ hK rfl) rfl
    have hB9 : Below w.heap.size w ((W4.setCell ⟨w.heap.size + 1, 0, none⟩ (.int .i64 0)).setCell ⟨w.heap.size + 1 + 1, 0, none⟩ (.bool false)) := (hB4.setCell (p := ⟨w.heap.size + 1, 0, none⟩) (by simp) _).setCell (p := ⟨w.heap.size + 1 + 1, 0, none⟩) (by show _ ≤ w.heap.size + 1 + 1; omega) _
    have q1 := cell_kept (((b2.set (.int .i64 0)).other (by omega : w.heap.size + 1 ≠ w.heap.size + 1 + 1) (.bool false)).cell) (grownBy_putObj' _ W0.heap.size (.deferred none)) (fun r e => by cases e; exact ⟨_, hK9, rfl⟩)
    have q2 := cell_kept (((b3.other (by omega : w.heap.size + 2 ≠ w.heap.size + 1) (.int .i64 0)).set (.bool false)).cell) (grownBy_putObj' _ W0.heap.size (.deferred none)) (fun r e => by cases e; exact ⟨_, hK9, rfl⟩)
    refine ⟨by simp, .inl ⟨_, _, rfl, run_takeDeferred hK9, ?_⟩⟩
    refine ⟨got none, ?_, rfl, hB9.trans (belowK_b (w := w) (Nat.le_refl _) _ _ _ _ (by omega) hK9 rfl rfl)⟩
    simp [results, Try.f21, go_sem, q1, q2, got]
  case stop =>
    rintro pre W4 hsp ⟨⟨y, x, u, rfl, e2, e3, b1, b2⟩, hB4⟩ hK
    gi_wp2
    have hr0 : res = some u := by rw [hres]; exact says_first hsp e2 e3
    subst hr0
    have q1 := cell_kept b1.cell (grownBy_putObj' _ W0.heap.size (.deferred none)) (fun r e => by cases e; exact ⟨_, hK, rfl⟩)
    have q2 := cell_kept b2.cell (grownBy_putObj' _ W0.heap.size (.deferred none)) (fun r e => by cases e; exact ⟨_, hK, rfl⟩)
    refine ⟨by simp, .inl ⟨_, _, rfl, run_takeDeferred hK, ?_⟩⟩
    refine ⟨got (some u), ?_, rfl, hB4.trans (belowK_b (w := w) (Nat.le_refl _) _ _ _ _ (by omega) hK rfl rfl)⟩
    simp [results, Try.f21, go_sem, q1, q2, got]
set_option maxRecDepth 100000 in
set_option maxHeartbeats 4000000 in
theorem get_nil_in (n : Nat) (hn : 5 ≤ n) (w : World) (v : Int) :
    CallsIn Fence.wide n Try.prog 21 #[.pointer none, .int .i64 v] w fun e w' => e = .returned (got none) ∧ Below w.heap.size w w' := by
  have h1 : 1 ≤ n := by omega
  have hfl : Fence.wide.fn 33 := trivial
  refine callsIn_of_wp_marks Try.func21 rfl trivial ?_ rfl
  simp only [Try.ntmps21, List.size_toArray, List.length_cons, List.length_nil, Nat.reduceAdd, Nat.reduceSub, Array.replicate_succ, Array.replicate_zero, List.push_toArray, List.append_toArray, List.nil_append, List.cons_append]
  gi_wp2_with (gi_at_call 33; refine (levels_in Fence.wide (n - 1) trivial rfl _ _).mono ?_; rintro e w' ⟨rfl, rfl⟩)
  obtain ⟨W0, hW0⟩ : ∃ W0, W0 = (((w.alloc (.cells #[.int .i64 v] 3)).alloc (.cells #[.int .i64 0] 2)).alloc (.cells #[.bool false] 4)).alloc (.cells #[.pointer none] 24) := ⟨_, rfl⟩
  have hz0 : W0.heap.size = w.heap.size + 4 := by rw [hW0]; simp
  have hB0 : Below w.heap.size w W0 := by rw [hW0]; exact ((((Below.refl _ w).alloc (Nat.le_refl _) _).alloc (by simp) _).alloc (by simp; omega) _).alloc (by simp; omega) _
  have bX : _root_.Go.Boxed W0 (w.heap.size + 1) 2 (.int .i64 0) := by
    rw [hW0]
    have := ((_root_.Go.Boxed.new (w.alloc (.cells #[.int .i64 v] 3)) 2 (.int .i64 0)).alloc (.cells #[.bool false] 4)).alloc (.cells #[.pointer none] 24)
    rwa [World.size_alloc] at this
  have bI : _root_.Go.Boxed W0 (w.heap.size + 2) 4 (.bool false) := by
    rw [hW0]
    have := (_root_.Go.Boxed.new ((w.alloc (.cells #[.int .i64 v] 3)).alloc (.cells #[.int .i64 0] 2)) 4 (.bool false)).alloc (.cells #[.pointer none] 24)
    rwa [World.size_alloc, World.size_alloc] at this
  have bQ : _root_.Go.Boxed W0 (w.heap.size + 3) 24 (.pointer none) := by
    rw [hW0]
    have := _root_.Go.Boxed.new (((w.alloc (.cells #[.int .i64 v] 3)).alloc (.cells #[.int .i64 0] 2)).alloc (.cells #[.bool false] 4)) 24 (.pointer none)
    rwa [World.size_alloc, World.size_alloc, World.size_alloc] at this
  rw [← hW0]
  clear hW0
  refine loopO (α := Option Nat) (F := Fence.wide) rfl h1 (gf := 39) (lb := #[.pointer (some ⟨w.heap.size + 3, 0, none⟩)]) rfl trivial (enters_of Try.func39 (by kernel_rfl) rfl)
    (lev_seq_nil (α := Option Nat) id (n - 1) (w.heap.size + 3) w.heap.size (w.heap.size + 3) W0 bQ) (by omega) (fun _ => rfl)
    (fun pre W => (_root_.Go.Boxed W (w.heap.size + 1) 2 (.int .i64 0) ∧ _root_.Go.Boxed W (w.heap.size + 2) 4 (.bool false)) ∧ Below w.heap.size w W)
    (fun pre W => False)
    (OwnFrom.and (fun s A B row hs hg hr => ⟨own_box _ _ (fun _ => .int .i64 0) W0.heap.size s A B row hs.1 hg hr, own_box _ _ (fun _ => .bool false) W0.heap.size s A B row hs.2 hg hr⟩) (ownFrom_below (Nat.le_refl _) (by omega)))
    (fun s A B row hs hg hr => hs)
    ⟨⟨bX, bI⟩, hB0⟩
    (fun x => { tmps := #[.pointer none, .int .i64 v, undef, .pointer (some ⟨w.heap.size, 0, none⟩), .pointer (some ⟨w.heap.size + 1, 0, none⟩), .pointer (some ⟨w.heap.size + 1 + 1, 0, none⟩), .map x, undef, undef, .pointer none, .func (.func 39) #[] #[.pointer (some ⟨w.heap.size + 1 + 1 + 1, 0, none⟩)], .map x, undef, undef, undef, undef, undef, undef, undef, undef], defers := [] }) ?assign ?body ?done ?stop
  case assign =>
    intro l2 x W4 K hK
    unfold encP
    gi_wp2
    exact hK
  case body =>
    rintro l2 pre x W4 _ hlen
    exact absurd hlen (Nat.not_lt_zero _)
  case done =>
    rintro xs W4 hxs ⟨⟨b2, b3⟩, hB4⟩ hK
    have c2 := b2.cell
    have c3 := b3.cell
    have f2 := b2.frozen
    have f3 := b3.frozen
    gi_wp2
    have hK9 : ((W4.setCell ⟨w.heap.size + 1, 0, none⟩ (.int .i64 0)).setCell ⟨w.heap.size + 1 + 1, 0, none⟩ (.bool false)).heap[W0.heap.size]? = some (.deferred (some [])) := (KeepsOthers.setCell _ _ _).same _ _ ((KeepsOthers.setCell _ _ _).same _ _ hK rfl) rfl
    have hB9 : Below w.heap.size w ((W4.setCell ⟨w.heap.size + 1, 0, none⟩ (.int .i64 0)).setCell ⟨w.heap.size + 1 + 1, 0, none⟩ (.bool false)) := (hB4.setCell (p := ⟨w.heap.size + 1, 0, none⟩) (by simp) _).setCell (p := ⟨w.heap.size + 1 + 1, 0, none⟩) (by show _ ≤ w.heap.size + 1 + 1; omega) _
    have q1 := cell_kept (((b2.set (.int .i64 0)).other (by omega : w.heap.size + 1 ≠ w.heap.size + 1 + 1) (.bool false)).cell) (grownBy_putObj' _ W0.heap.size (.deferred none)) (fun r e => by cases e; exact ⟨_, hK9, rfl⟩)
    have q2 := cell_kept (((b3.other (by omega : w.heap.size + 2 ≠ w.heap.size + 1) (.int .i64 0)).set (.bool false)).cell) (grownBy_putObj' _ W0.heap.size (.deferred none)) (fun r e => by cases e; exact ⟨_, hK9, rfl⟩)
    refine ⟨by simp, .inl ⟨_, _, rfl, run_takeDeferred hK9, ?_⟩⟩
    refine ⟨got none, ?_, rfl, hB9.trans (belowK_b (w := w) (Nat.le_refl _) _ _ _ _ (by omega) hK9 rfl rfl)⟩
    simp [results, Try.f21, go_sem, q1, q2, got]
  case stop =>
    rintro pre W4 hsp h hK
    exact h.elim
end Go.Proofs.Ytmjcipojidimgaa
