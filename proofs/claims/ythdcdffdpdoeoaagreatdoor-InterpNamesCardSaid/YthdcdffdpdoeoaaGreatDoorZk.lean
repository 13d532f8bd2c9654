/-
  SEVERAL TEXTS IN ONE (a claim has sixty files at most): Jk, Jl: the head of each stands ahead of it. No condition but theirs.
-/
import Derived.Test.YthdcdffdpdoeoaaGreatDoorZh
import Derived.Lib.SliceRun
import Derived.Deep.LoopGhost
/-
  CONTRACT OF slices.Delete at the stack's blocks (layer 9): the last ones are gone; and of interp's cut. Conditions: as they stand.
-/
namespace Go.Proofs.YthdcdffdpdoeoaaGreatDoor
set_option maxRecDepth 100000
open Go.RowKit Go.Deep
set_option linter.unusedVariables false
theorem append_nothing (A X : Option Addr) (i c d : Nat) (h : i ≤ c) (w : World) : (Builtin.append_ #[61, 61] 61 #[.slice A i c, .slice X 0 d]).run Tryz.prog w = .ok (.slice A i c) w := by
  unfold Builtin.append_
  cases A <;> cases X <;> simp [run_underlying Tryz.underlying61, go_sem, h, Builtin.lenOf, Builtin.firstCells]
/-- A block behind stores from k on: as long as it was, ahead of k as it was; all others as they were. -/
structure Cut9 (g k : Nat) (cur : Array Value) (w w' : World) : Prop where
  row : ∃ cur', w'.heap[g]? = some (.cells cur' 66 (0, 0)) ∧ cur'.size = cur.size ∧ cur'.toList.take k = cur.toList.take k
  grown : w.grownBy w' (some g)
theorem cut9_cells (g k : Nat) : ∀ (vs : List Value) (o : Nat) (cur : Array Value) (w : World), k ≤ o → w.heap[g]? = some (.cells cur 66 (0, 0)) → Cut9 g k cur w (w.setCells g o vs) := by
  intro vs
  induction vs with
  | nil => intro o cur w h hg; exact ⟨⟨cur, hg, rfl, rfl⟩, ⟨rfl, rfl, rfl, Nat.le_refl _, fun _ _ _ => rfl⟩⟩
  | cons v r ih =>
    intro o cur w h hg
    have h1 := heap_set_same w g o v _ _ hg
    obtain ⟨⟨cur', e1, e2, e3⟩, gr⟩ := ih (o + 1) (cur.setIfInBounds o v) (w.setCell ⟨g, o, none⟩ v) (by omega) h1
    refine ⟨⟨cur', e1, by simpa using e2, ?_⟩, ⟨gr.os, gr.tape, gr.output, Nat.le_trans (by simp [World.setCell]) gr.size, fun b hb hn => (gr.block b (by rw [show (w.setCell ⟨g, o, none⟩ v).heap.size = w.heap.size from by simp [World.setCell]]; exact hb) hn).trans (Below.heap_setCell w ⟨g, o, none⟩ v b (fun e => hn (by rw [e])))⟩⟩
    rw [e3, Array.toList_setIfInBounds, List.take_set_of_le h]
theorem clear9 {w : World} {g i n c d : Nat} {cur : Array Value} (hg : w.heap[g]? = some (.cells cur 66 (0, 0))) (hs : cur.size = c * 4) (hin : i < n) (hn : n ≤ c) : ∃ w', (∀ ty, (Builtin.clear_ #[61] ty #[.slice (some ⟨g, i * 4, none⟩) (n - i) d]).run Tryz.prog w = .ok (.tuple #[]) w') ∧ Cut9 g (i * 4) cur w w' := by
  obtain ⟨m, hm⟩ : ∃ m, n - i = m + 1 := ⟨n - i - 1, by omega⟩
  have hone : ∀ v ∈ (Builtin.zeroCells (Value.agg #[.slice none 0 0, .slice none 0 0, .int .i64 0, .pointer none]).cells (m + 1)).toList, v.oneCell' = true := by
    intro v hv
    simp only [Builtin.zeroCells, Array.toList_map, List.mem_map] at hv
    obtain ⟨j, _, rfl⟩ := hv
    have h4 : j % 4 = 0 ∨ j % 4 = 1 ∨ j % 4 = 2 ∨ j % 4 = 3 := by omega
    have hz : (Value.agg #[.slice none 0 0, .slice none 0 0, .int .i64 0, .pointer none]).cells = #[.slice none 0 0, .slice none 0 0, .int .i64 0, .pointer none] := by rfl
    rw [hz]
    show (#[Value.slice none 0 0, .slice none 0 0, .int .i64 0, .pointer none][j % 4]!).oneCell' = true
    rcases h4 with h | h | h | h <;> rw [h] <;> rfl
  have hlen : (Builtin.zeroCells (Value.agg #[.slice none 0 0, .slice none 0 0, .int .i64 0, .pointer none]).cells (m + 1)).toList.length = (m + 1) * 4 := by
    have hz : (Value.agg #[.slice none 0 0, .slice none 0 0, .int .i64 0, .pointer none]).cells = #[.slice none 0 0, .slice none 0 0, .int .i64 0, .pointer none] := by rfl
    rw [hz]
    simp [Builtin.zeroCells]
  obtain ⟨vs, hvs⟩ : ∃ vs, vs = (Builtin.zeroCells (Value.agg #[.slice none 0 0, .slice none 0 0, .int .i64 0, .pointer none]).cells (m + 1)).toList := ⟨_, rfl⟩
  rw [← hvs] at hone hlen
  have hst := run_storeCells_cells (P := Tryz.prog) g (i * 4) vs 0 w (fun j hj => by
    have : i * 4 + j < cur.size := by omega
    simp [World.cell?, hg, this]) (fun j hj => by simp [World.frozen?, hg]) hone
  simp only [Nat.add_zero] at hst
  refine ⟨w.setCells g (i * 4) vs, fun ty => ?_, cut9_cells g (i * 4) vs (i * 4) cur w (Nat.le_refl _) hg⟩
  rw [hm]
  simp [Builtin.clear_, run_underlying Tryz.underlying61, Tryz.zeroValue66, ← hvs, hst]
set_option maxHeartbeats 2000000 in
theorem del9_any (g i n c : Nat) (xs : List Value) (hin : i < n) (hn : n ≤ 1000) (w : World) (hrow : w.ownsRow 0 66 4 (.slice (some ⟨g, 0, none⟩) n c) n xs) :
    Calls Tryz.prog 71 #[.slice (some ⟨g, 0, none⟩) n c, .int .i64 i, .int .i64 n] w fun e w' => e = .returned (.slice (some ⟨g, 0, none⟩) i c) ∧ w'.ownsRow 0 66 4 (.slice (some ⟨g, 0, none⟩) i c) i (xs.take (i * 4)) ∧ w.grownBy w' (some g) := by
  rcases hrow.2 with ⟨h, _⟩ | ⟨g', cap, cur, hv, _, hg, h1, h2, h3, h4⟩
  · cases h
  injection hv with hA _ hc
  injection hA with hA
  injection hA with hA
  subst hA
  subst hc
  unfold maxLen at h2
  have i1 : (i : Int) ≤ (n : Int) := by omega
  have i2 : (n : Int) ≤ (c : Int) := by omega
  have i3 : ¬ ((i : Int) = (n : Int)) := by omega
  have i4 : i ≠ n := by omega
  have i5 : n ≤ c := h1
  have i6 : i ≤ c := by omega
  have hap := fun (X : Option Addr) (d : Nat) => append_nothing (some ⟨g, 0, none⟩) X i c d (by omega)
  go_enter Tryz.func71, Tryz.ntmps71
  go_wp2_with fail
  have i7 : c ≠ i := by omega
  have HG := Lib.hid hg
  have HCS := Lib.hid h3
  have H4 := Lib.hid h4
  have HI := Lib.hid (And.intro hin (And.intro hn (And.intro i5 h2)))
  have FIN : Hid (∀ w9 : World, Cut9 g (i * 4) cur w w9 → w9.ownsRow 0 66 4 (.slice (some ⟨g, 0, none⟩) i c) i (xs.take (i * 4)) ∧ w.grownBy w9 (some g)) := fun w9 hc => by
    obtain ⟨cur', e1, e2, e3⟩ := hc.row
    refine ⟨⟨?_, .inr ⟨g, c, cur', rfl, Nat.zero_le _, e1, i6, h2, by rw [e2, h3], ?_⟩⟩, hc.grown⟩
    · have := hrow.1
      rw [List.length_take]
      omega
    · rw [e3, ← h4, List.take_take, Nat.min_eq_left (by omega)]
  have HCL : Hid (∀ k : Nat, ∃ w9, (∀ ty, (Builtin.clear_ #[61] ty #[.slice (some ⟨g, i * 4, none⟩) (n - i) (c - i)]).run Tryz.prog (w.drewN k) = .ok (.tuple #[]) w9) ∧ Cut9 g (i * 4) cur w w9) := fun k => by
    obtain ⟨w9, h9, c9⟩ := clear9 (w := w.drewN k) (d := c - i) (cur := cur) hg h3 hin h1
    exact ⟨w9, h9, c9.row, c9.grown.os, c9.grown.tape, c9.grown.output, c9.grown.size, c9.grown.block⟩
  clear hrow h4 h3 hg h2
  by_cases hcn : c = n
  · subst hcn
    go_region_law (fail)
    all_goals
      go_upto_region 6 with fail
      obtain ⟨w9, hcl, hc9⟩ := HCL.out 1
      rw [show w.drewN 1 = w.drew from rfl] at hcl
      have F9 := Lib.hid (FIN.out w9 hc9)
      clear hc9
      go_wp2_with fail
      go_ret
      exact ⟨rfl, F9.out⟩
  · go_region_law (fail)
    all_goals
      go_upto_region 6 with fail
      obtain ⟨w9, hcl, hc9⟩ := HCL.out 1
      rw [show w.drewN 1 = w.drew from rfl] at hcl
      have F9 := Lib.hid (FIN.out w9 hc9)
      clear hc9
      go_wp2_with fail
      go_ret
      exact ⟨rfl, F9.out⟩
theorem deep_drop : ∀ (a b : List Fr9) (d : Nat), Deep9 d (a ++ b) → Deep9 (d + a.length) b := by
  intro a
  induction a with
  | nil => intro b d h; exact h
  | cons f r ih => intro b d h; have := ih b (d + 1) h.2; rw [List.length_cons, show d + (r.length + 1) = d + 1 + r.length from by omega]; exact this
section
variable {E : Ev9} {w w' : World} {l : List Int} {L L2 : List Fx} {f : Fx} {T : List (List Pr)} {n : Nat} {A : Option Addr} {c : Nat} {S S2 SB I : Nat → Prop}
/-- A machine with just its outer blocks. -/
theorem RMat.popped (h : RMat E w l (L ++ L2) T n A c S SB I) {g : Nat} (hA : A = some ⟨g, 0, none⟩) (hr : w'.ownsRow 0 66 4 (.slice (some ⟨g, 0, none⟩) L.length c) L.length (L.flatMap Fx.cells)) (hq : w'.heap[E.q]? = some (.cells (mCells E l A L.length c n) 63 (0, 0)))
    (hk : ∀ b, b < w.heap.size → b ≠ E.q → b ≠ g → w'.heap[b]? = w.heap[b]?) (hs : w.heap.size ≤ w'.heap.size) : RMat E w' l L T n A c S SB I := by
  subst hA
  obtain ⟨s1, s2, s3⟩ := h.rowS _ rfl
  have hI : ∀ b, I b → w'.heap[b]? = w.heap[b]? := fun b hb => hk b (h.lt b (h.IS b hb)) (fun e => h.qI (e ▸ hb)) fun e => s3 (e ▸ hb)
  have hB : ∀ b, SB b → w'.heap[b]? = w.heap[b]? := fun b hb => hk b (h.lt b (h.bufS b hb).1) (h.bufS b hb).2.2 fun e => s2 (e ▸ hb)
  exact {
    obj := hq
    row := hr
    rowS := h.rowS
    buf := by
      obtain ⟨p0, top, A', c', L', hb, e⟩ := h.buf
      exact ⟨p0, top, A', c', L', hb.frame (fun _ h => h) hB (fun b hb' => Nat.lt_of_lt_of_le (hb.lt b hb') hs), e⟩
    bufS := h.bufS
    qS := h.qS
    qI := h.qI
    IS := h.IS
    win := h.win
    hiw := Nat.le_trans h.hiw hs
    got := fun k hk' => by
      obtain ⟨a, e, i', c⟩ := h.got k hk'
      exact ⟨a, e, i', (World.cell?_of_block (a := a.add k) (by rw [ad_block]; exact hI _ i')).trans c⟩
    gl := h.gl
    gwf := h.gwf
    len := h.len
    wf := h.wf
    fr := fun x hx' => (h.fr x (List.mem_append_left _ hx')).keep h.win hI
    deep := by
      obtain ⟨d, hd⟩ := h.deep
      rw [plF, List.reverse_append, List.map_append] at hd
      exact ⟨_, deep_drop _ _ _ hd⟩
    lev := h.lev
    flat := h.flat
    v1 := h.v1
    v2 := h.v2
    lt := fun b hb => Nat.lt_of_lt_of_le (h.lt b hb) hs }
set_option maxHeartbeats 2000000 in
theorem cut_full (h : RMat E w l (L ++ L2) T n A c S SB I) (hL2 : L2 ≠ []) : Calls Tryz.prog 53 #[.pointer (some ⟨E.q, 0, none⟩), .int .i64 L.length] w fun e w' => (∃ v, e = .returned v) ∧ RMat E w' l L T n A c S SB I ∧ Tr E w S w' S ∧ ∀ b, I b → w'.heap[b]? = w.heap[b]? := by
  have h0 : 0 < L2.length := List.length_pos_iff.2 hL2
  obtain ⟨g, hA, hSg, hBg, hIg, hgq, hgl, hc1, hc2, hfz, hcells⟩ := h.at_ (by simp; omega)
  have hf := h.frames
  have hfl : L.length + L2.length ≤ 7 := by simpa using hf
  have c11 := h.c11
  have fz := h.fz 11
  rw [hA, List.length_append] at c11
  have hrow := h.row
  rw [hA, List.length_append] at hrow
  have hD := del9_any g L.length (L.length + L2.length) c _ (by omega) (by omega) w.drew hrow.drew
  rw [show ((L ++ L2).flatMap Fx.cells).take (L.length * 4) = L.flatMap Fx.cells from by rw [List.flatMap_append, List.take_left' (flat4_len L)]] at hD
  have H := Lib.hid h
  have HD := Lib.hid hD
  have hi1 : ((L.length : Int) + (L2.length : Int)) = ((L.length + L2.length : Nat) : Int) := by omega
  rw [← hi1] at hD
  have HD := Lib.hid hD
  have FIN : Hid (∀ w9 : World, w9.ownsRow 0 66 4 (.slice (some ⟨g, 0, none⟩) L.length c) L.length (L.flatMap Fx.cells) → w.drew.grownBy w9 (some g) → RMat E (w9.setCell ⟨E.q, 11, none⟩ (.slice (some ⟨g, 0, none⟩) L.length c)) l L T n A c S SB I ∧ Tr E w S (w9.setCell ⟨E.q, 11, none⟩ (.slice (some ⟨g, 0, none⟩) L.length c)) S ∧ ∀ b, I b → (w9.setCell ⟨E.q, 11, none⟩ (.slice (some ⟨g, 0, none⟩) L.length c)).heap[b]? = w.heap[b]?) := fun w9 ho hg => by
    have hql : E.q < w.heap.size := h.lt _ h.qS
    have hq9 := (hg.block E.q hql (fun e => hgq (by injection e with e; exact e.symm))).trans h.obj
    have hs9 : (w9.setCell ⟨E.q, 11, none⟩ (.slice (some ⟨g, 0, none⟩) L.length c)).heap.size = w9.heap.size := by simp [World.setCell]
    have hsz : w.heap.size ≤ w9.heap.size := hg.size
    have hk : ∀ b, b < w.heap.size → b ≠ E.q → b ≠ g → (w9.setCell ⟨E.q, 11, none⟩ (.slice (some ⟨g, 0, none⟩) L.length c)).heap[b]? = w.heap[b]? := fun b hb h1 h2 => (Below.heap_setCell w9 ⟨E.q, 11, none⟩ _ b h1).trans (hg.block b hb fun e => h2 (by injection e))
    have hq10 := heap_set_same w9 E.q 11 (.slice (some ⟨g, 0, none⟩) L.length c) _ _ hq9
    rw [mc_set11 E h.len] at hq10
    refine ⟨h.popped hA (ownsRow_of_block ho fun p e => ?_) (by rw [hA]; exact hq10) hk (by rw [hs9]; exact hsz), ⟨fun b hb => .inl hb, ⟨hg.os, hg.tape, hg.output, by rw [hs9]; exact hsz, fun b hb hn => hk b hb (fun e => hn (e ▸ h.qS)) (fun e => hn (e ▸ hSg))⟩, fun b b1 b2 => hk b (by have := h.hiw; omega) (fun e => h.qI (e ▸ h.win b b1 b2)) (fun e => hIg (e ▸ h.win b b1 b2))⟩, fun b hb => hk b (h.lt b (h.IS b hb)) (fun e => h.qI (e ▸ hb)) (fun e => hIg (e ▸ hb))⟩
    injection e with e
    rw [← e]
    exact Below.heap_setCell w9 ⟨E.q, 11, none⟩ _ g hgq
  clear h hcells hfz hrow hD hi1
  go_enter Tryz.func53, Tryz.ntmps53
  go_wp2_with fail
  go_region_law
    (first
      | (rw [if_pos (by rfl)]; go_simp; go_at_call 71; refine HD.out.mono ?_; rintro e w9 ⟨rfl, ho9, hg9⟩; have hq9 := (hg9.block E.q (H.out.lt _ H.out.qS) (fun e => hgq (by injection e with e; exact e.symm))).trans H.out.obj; have f9 : w9.frozen? ⟨E.q, 11, none⟩ = false := (by simp [World.frozen?, hq9]); have e9 : w9.cell? ⟨E.q, 11, none⟩ = some (.slice (some ⟨g, 0, none⟩) (L.length + L2.length) c) := (World.cell?_of_block (a := ⟨E.q, 11, none⟩) (hq9.trans H.out.obj.symm)).trans c11)
      | fail)
  all_goals
    have F9 := Lib.hid (FIN.out w9 ho9 hg9)
    clear ho9 hg9 hq9 f9 e9
    go_wp2_with fail
    go_end0
    exact ⟨⟨_, rfl⟩, F9.out.1, F9.out.2.1, F9.out.2.2⟩
theorem cut_any (h : RMat E w l (L ++ L2) T n A c S SB I) (hL2 : L2 ≠ []) : Calls Tryz.prog 53 #[.pointer (some ⟨E.q, 0, none⟩), .int .i64 L.length] w fun e w' => (∃ v, e = .returned v) ∧ RMat E w' l L T n A c S SB I ∧ Tr E w S w' S :=
  (cut_full h hL2).mono fun e w' ⟨h1, h2, h3, _⟩ => ⟨h1, h2, h3⟩
end
end Go.Proofs.YthdcdffdpdoeoaaGreatDoor
/-
  CONTRACT OF PACKAGE interp's leave (layer 9): on to the next statement; blocks that are at their end are begun anew, or left. Conditions: as they stand.
-/
namespace Go.Proofs.YthdcdffdpdoeoaaGreatDoor
set_option maxRecDepth 100000
open Go.RowKit Go.Deep
set_option linter.unusedVariables false
section
variable {E : Ev9} {w w' : World} {l : List Int} {L L2 : List Fx} {f : Fx} {T : List (List Pr)} {n : Nat} {A : Option Addr} {c : Nat} {S S2 SB I : Nat → Prop}
/-- A machine whose buffer was changed. -/
theorem RMat.buffed (h : RMat E w l L T n A c S SB I) {SB' : Nat → Prop} {T' : List (List Pr)} (hb : RB w' E.bq SB' T') (hs : ∀ b, SB' b → SB b ∨ w.heap.size ≤ b) (hf : Fro SB w w') (hT : T'.length ≤ 20) (hn : (flatB T').length ≤ n) : RMat E w' l L T' n A c (fun b => S b ∨ SB' b) SB' I ∧ Tr E w S w' (fun b => S b ∨ SB' b) := by
  have hk : ∀ b, b < w.heap.size → ¬ SB b → w'.heap[b]? = w.heap[b]? := hf.block
  have hI : ∀ b, I b → w'.heap[b]? = w.heap[b]? := fun b hb' => hk b (h.lt b (h.IS b hb')) fun e => (h.bufS b e).2.1 hb'
  have hold : ∀ b, SB' b → b < w.heap.size → SB b := fun b e hl => by
    rcases hs b e with h1 | h1
    · exact h1
    · omega
  refine ⟨?_, ⟨fun b hb' => ?_, hf.weak fun b e _ => (h.bufS b e).1, fun b b1 b2 => hI b (h.win b b1 b2)⟩⟩
  · exact {
      obj := (hk _ (h.lt _ h.qS) (fun e => (h.bufS _ e).2.2 rfl)).trans h.obj
      row := ownsRow_of_block h.row fun p e => hk _ (h.lt _ (h.rowS p e).1) (h.rowS p e).2.1
      rowS := fun p e => ⟨.inl (h.rowS p e).1, fun hb' => (h.rowS p e).2.1 (hold _ hb' (h.lt _ (h.rowS p e).1)), (h.rowS p e).2.2⟩
      buf := hb
      bufS := fun b hb' => by
        refine ⟨.inr hb', fun hi => ?_, fun e => ?_⟩
        · exact (h.bufS b (hold b hb' (h.lt b (h.IS b hi)))).2.1 hi
        · exact (h.bufS b (hold b hb' (by rw [e]; exact h.lt _ h.qS))).2.2 e
      qS := .inl h.qS
      qI := h.qI
      IS := fun b hb' => .inl (h.IS b hb')
      win := h.win
      hiw := Nat.le_trans h.hiw hf.size
      got := fun k hk' => by
        obtain ⟨a, e, i', c⟩ := h.got k hk'
        exact ⟨a, e, i', (World.cell?_of_block (a := a.add k) (by rw [ad_block]; exact hI _ i')).trans c⟩
      gl := h.gl
      gwf := h.gwf
      len := h.len
      wf := h.wf
      fr := fun x hx' => (h.fr x hx').keep h.win hI
      deep := h.deep
      lev := hT
      flat := hn
      v1 := h.v1
      v2 := h.v2
      lt := fun b hb' => by
        rcases hb' with e | e
        · exact Nat.lt_of_lt_of_le (h.lt b e) hf.size
        · exact hb.lt b e }
  · rcases hb' with e | e
    · exact .inl e
    · rcases hs b e with h1 | h1
      · exact .inl (h.bufS b h1).1
      · exact .inr h1
/-- How a machine is on its way to the next statement. -/
def Lv9 (E : Ev9) (w0 : World) (S0 : Nat → Prop) (l : List Int) (n : Nat) (K : List It) (FL : List Pr) (I : Nat → Prop) (k : Nat) (wr : World) : Prop :=
  ∃ L T A c S SB, RMat E wr l L T n A c S SB I ∧ Tr E w0 S0 wr S ∧ bareI (kOf (plF L) T) = K ∧ flatB T = FL ∧ T.length = keptN (plF L) + 1 ∧ k = (L.map fun f => f.turns + 1).sum
set_option maxHeartbeats 4000000 in
theorem leave_any (h : RMat E w l L T n A c S SB I) (hk : T.length = keptN (plF L) + 1) (hn : (flatB T).length ≤ 100000) : Calls Tryz.prog 30 #[.pointer (some ⟨E.q, 0, none⟩)] w fun e w' => (∃ v, e = .returned v) ∧ ∃ L' T' A' c' S' SB', RMat E w' l L' T' n A' c' S' SB' I ∧ Tr E w S w' S' ∧ kOf (plF L') T' = bareI (kOf (plF L) T) ∧ flatB T' = flatB T ∧ T'.length = keptN (plF L') + 1 ∧ Ready9 (plF L') := by
  have H0 : Hid (Lv9 E w S l n (bareI (kOf (plF L) T)) (flatB T) I (L.map fun f => f.turns + 1).sum w) := ⟨L, T, A, c, S, SB, h, Tr.refl E w S, rfl, rfl, hk, rfl⟩
  clear h hk
  go_enter Tryz.func30, Tryz.ntmps30
  go_wp2_with fail
  go_loopg [] (L.map fun f => f.turns + 1).sum (fun k wr => Hid (Lv9 E w S l n (bareI (kOf (plF L) T)) (flatB T) I k wr))
  case atStart => exact H0
  case round =>
    clear H0
    obtain ⟨KK, hKK⟩ : ∃ KK, KK = bareI (kOf (plF L) T) := ⟨_, rfl⟩
    obtain ⟨FL, hFL⟩ : ∃ FL, FL = flatB T := ⟨_, rfl⟩
    rw [← hKK, ← hFL] at hrel
    rw [← hFL] at hn
    obtain ⟨L1, T1, A1, c1, S1, SB1, h1, t1, k1, f1, l1, m1⟩ := hrel.out
    clear hrel
    rcases List.eq_nil_or_concat L1 with rfl | ⟨L2, f, hLf⟩
    · have c11 := h1.c11
      have H1 := Lib.hid h1
      have HX := Lib.hid (And.intro t1 (And.intro k1 (And.intro f1 l1)))
      clear h1 t1 k1 f1 l1 m1
      go_wp2_with fail
      go_end0
      exact ⟨⟨_, rfl⟩, [], T1, A1, c1, S1, SB1, H1.out, HX.out.1, HX.out.2.1.trans hKK, HX.out.2.2.1.trans hFL, HX.out.2.2.2, trivial⟩
    · try rw [List.concat_eq_append] at hLf
      subst hLf
      obtain ⟨g, hA, hSg, hBg, hIg, hgq, hgl, hc1, hc2, hfz, hcells⟩ := h1.at_ (by simp)
      have hl7 := h1.frames
      have c11 := h1.c11
      simp only [List.length_append, List.length_cons, List.length_nil, Nat.zero_add] at c11 hl7
      rw [hA] at c11
      have HTOP := Lib.hid (top_any h1 hA)
      have H1 := Lib.hid h1
      have HX := Lib.hid (And.intro t1 (And.intro k1 (And.intro f1 (And.intro l1 m1))))
      have i0 : (0 : Int) < ((L2.length + 1 : Nat) : Int) := by omega
      clear h1 t1 k1 f1 l1 m1 hcells hfz
      go_wp2_with fail
      refine HTOP.out.mono ?_
      rintro e w2 ⟨rfl, b2⟩
      have h2 := H1.out.below b2
      obtain ⟨g', hA', _, _, _, _, hgl2, _, _, hfz, hcells⟩ := h2.at_ (by simp)
      obtain rfl : g = g' := by rw [hA] at hA'; injection hA' with e; injection e
      have kc : ∀ i, i < 4 → w2.cell? ⟨g, L2.length * 4 + i, none⟩ = (f.cells)[i]? := fun i hi => by
        have := hcells L2.length (by simp) i hi
        simpa using this
      have hfr := h2.fr f (by simp)
      have k0 := kc 0 (by omega)
      have k1 := kc 1 (by omega)
      have k2 := kc 2 (by omega)
      have k3 := kc 3 (by omega)
      have z0 := hfz (L2.length * 4)
      have z2 := hfz (L2.length * 4 + 2)
      clear hcells hfz kc hA'
      have k0 : w2.cell? ⟨g, L2.length * 4, none⟩ = some (.slice f.RA f.rest.length f.rc) := k0
      have k1 : w2.cell? ⟨g, L2.length * 4 + 1, none⟩ = some (.slice f.BA f.body.length f.bc) := k1
      have k2 : w2.cell? ⟨g, L2.length * 4 + 2, none⟩ = some (.int .i64 f.turns) := k2
      have k3 : w2.cell? ⟨g, L2.length * 4 + 3, none⟩ = some (.pointer f.kp) := k3
      cases hr : f.rest with
      | cons s rr =>
        rw [hr] at k0
        have k0 : w2.cell? ⟨g, L2.length * 4, none⟩ = some (.slice f.RA (rr.length + 1) f.rc) := k0
        have H2 := Lib.hid h2
        have HT := Lib.hid (HX.out.1.trans (Tr.below b2 H1.out.hiw))
        have HR := Lib.hid hr
        clear h2 b2 hfr hr
        go_wp2_with fail
        go_end0
        exact ⟨⟨_, rfl⟩, L2 ++ [f], T1, A1, c1, S1, SB1, H2.out, HT.out, (bare_ready (F := plF (L2 ++ [f])) (by rw [plF_snoc]; show f.rest ≠ []; rw [HR.out]; simp)).symm.trans (HX.out.2.1.trans hKK), HX.out.2.2.1.trans hFL, HX.out.2.2.2.1, by rw [plF_snoc]; show f.rest ≠ []; rw [HR.out]; simp⟩
      | nil =>
        rw [hr] at k0
        have k0 : w2.cell? ⟨g, L2.length * 4, none⟩ = some (.slice f.RA 0 f.rc) := k0
        have H2 := Lib.hid h2
        have HT := Lib.hid (HX.out.1.trans (Tr.below b2 H1.out.hiw))
        have HR := Lib.hid hr
        have HTOP2 := Lib.hid (top_any h2 hA)
        clear h2 b2 hfr hr HTOP k1 k2 k3 z0 z2
        go_wp2_with fail
        refine HTOP2.out.mono ?_
        rintro e w3 ⟨rfl, b3⟩
        have h3 := H2.out.below b3
        obtain ⟨g', hA', _, _, _, _, hgl3, _, _, hfz, hcells⟩ := h3.at_ (by simp)
        obtain rfl : g = g' := by rw [hA] at hA'; injection hA' with e; injection e
        have kc : ∀ i, i < 4 → w3.cell? ⟨g, L2.length * 4 + i, none⟩ = (f.cells)[i]? := fun i hi => by
          have := hcells L2.length (by simp) i hi
          simpa using this
        have hfr := h3.fr f (by simp)
        have k0' := kc 0 (by omega)
        have k1' := kc 1 (by omega)
        have k2' := kc 2 (by omega)
        have k3' := kc 3 (by omega)
        have z0 := hfz (L2.length * 4)
        have z2 := hfz (L2.length * 4 + 2)
        have k0 : w3.cell? ⟨g, L2.length * 4, none⟩ = some (.slice f.RA f.rest.length f.rc) := k0'
        have k1 : w3.cell? ⟨g, L2.length * 4 + 1, none⟩ = some (.slice f.BA f.body.length f.bc) := k1'
        have k2 : w3.cell? ⟨g, L2.length * 4 + 2, none⟩ = some (.int .i64 f.turns) := k2'
        have k3 : w3.cell? ⟨g, L2.length * 4 + 3, none⟩ = some (.pointer f.kp) := k3'
        have H3 := Lib.hid h3
        have HT3 := Lib.hid (HT.out.trans (Tr.below b3 H2.out.hiw))
        have HFR := Lib.hid hfr
        clear hcells hfz kc hA' h3 b3 k0' k1' k2' k3' hfr
        rcases Nat.eq_zero_or_pos f.turns with ht0 | ht0
        · have HT0 := Lib.hid ht0
          rw [ht0] at k2
          have k2 : w3.cell? ⟨g, L2.length * 4 + 2, none⟩ = some (.int .i64 0) := k2
          clear ht0 z0 z2
          have c10 := H3.out.c10
          have c11' := H3.out.c11
          simp only [List.length_append, List.length_cons, List.length_nil, Nat.zero_add] at c11'
          rw [hA] at c11'
          have HPL : Hid (f.pl = ⟨[], f.body, 0, f.pl.kept⟩) := by show _ = _; rw [← HT0.out, ← HR.out]; rfl
          cases hk : f.kept with
          | none =>
            have k3' : w3.cell? ⟨g, L2.length * 4 + 3, none⟩ = some (.pointer none) := by rw [k3, Fx.kp, hk]; rfl
            clear k3
            have HCUT := Lib.hid (cut_any H3.out (by simp))
            have HK := Lib.hid hk
            clear hk
            go_wp2_with fail
            refine HCUT.out.mono ?_
            rintro e w4 ⟨⟨v, rfl⟩, h4, t4⟩
            have HF : Hid (Lv9 E w S l n KK FL I (gk - 1) w4 ∧ gk - 1 < gk) := by
              obtain ⟨x1, x2, x3, x4, x5⟩ := HX.out
              have hg : gk = (L2.map fun f => f.turns + 1).sum + 1 := by rw [x5]; simp [HT0.out]
              have hkp : f.pl.kept = none := by show f.kept.map _ = none; rw [HK.out]; rfl
              refine ⟨⟨L2, T1, A1, c1, S1, SB1, h4, HT3.out.trans t4, ?_, x3, ?_, by omega⟩, by omega⟩
              · rw [← x2, plF_snoc, HPL.out, hkp]
                rfl
              · rw [x4, plF_snoc, keptN, hkp]
                simp
            clear h4 t4
            go_wp2_with fail
            go_roundg (gk - 1)
            case measure => exact HF.out.2
            case rel =>
              have h := HF.out.1
              rw [hKK, hFL] at h
              exact h
          | some x =>
            have k3' : w3.cell? ⟨g, L2.length * 4 + 3, none⟩ = some (.pointer (some ⟨x.b, 0, none⟩)) := by rw [k3, Fx.kp, hk]; rfl
            clear k3
            have HK := Lib.hid hk
            have hkp : f.pl.kept = some (x.l, x.els) := by show f.kept.map _ = _; rw [hk]; rfl
            have HKP := Lib.hid hkp
            have hT2 : ¬ T1.length < 2 := by
              have := HX.out.2.2.2.1
              rw [plF_snoc, keptN, hkp] at this
              simp at this
              omega
            have hlev := H3.out.lev
            have HM := merge_any E.bq SB1 T1 w3 H3.out.buf (by omega) (by rw [HX.out.2.2.1]; exact hn)
            rw [if_neg hT2] at HM
            have HM := Lib.hid HM
            clear hk hkp
            go_wp2_with fail
            refine HM.out.mono ?_
            rintro e w4 ⟨rfl, hb4, hf4⟩
            have hml : (mergeT T1).length = T1.length - 1 := by
              match T1, hT2 with
              | [], h => exact absurd (by simp) h
              | [a], h => exact absurd (by simp) h
              | a :: b :: t, _ => simp [mergeT]
            obtain ⟨h4, t4⟩ := H3.out.buffed hb4 (fun b hb => .inl hb) hf4 (by omega) (by rw [flat_merge]; exact H3.out.flat)
            have HCUT := Lib.hid (cut_any h4 (by simp))
            have c114 := h4.c11
            simp only [List.length_append, List.length_cons, List.length_nil, Nat.zero_add] at c114
            rw [hA] at c114
            have HT4 := Lib.hid (HT3.out.trans t4)
            have HML := Lib.hid hml
            have HT2 := Lib.hid hT2
            clear h4 t4 hb4 hf4 hml hT2 hlev
            go_wp2_with fail
            refine HCUT.out.mono ?_
            rintro e w5 ⟨⟨v, rfl⟩, h5, t5⟩
            have HF : Hid (Lv9 E w S l n KK FL I (gk - 1) w5 ∧ gk - 1 < gk) := by
              obtain ⟨x1, x2, x3, x4, x5⟩ := HX.out
              have hg : gk = (L2.map fun f => f.turns + 1).sum + 1 := by rw [x5]; simp [HT0.out]
              refine ⟨⟨L2, mergeT T1, A1, c1, _, _, h5, HT4.out.trans t5, ?_, ?_, ?_, by omega⟩, by omega⟩
              · rw [← x2, plF_snoc, HPL.out, HKP.out, leave_some]
              · rw [flat_merge, x3]
              · rw [HML.out, x4, plF_snoc, keptN, HKP.out]
                simp
                omega
            clear h5 t5
            go_wp2_with fail
            go_roundg (gk - 1)
            case measure => exact HF.out.2
            case rel =>
              have h := HF.out.1
              rw [hKK, hFL] at h
              exact h
        · obtain ⟨tn, htn⟩ : ∃ tn, f.turns = tn + 1 := ⟨f.turns - 1, by omega⟩
          have i9 : tn + 1 ≤ 8 := by rw [← htn]; exact HFR.out.turns
          rw [htn] at k2
          have k2 : w3.cell? ⟨g, L2.length * 4 + 2, none⟩ = some (.int .i64 ((tn : Int) + 1)) := k2
          have i8 : (0 : Int) < (tn : Int) + 1 := by omega
          have HF : Hid (Lv9 E w S l n KK FL I (gk - 1) ((w3.setCell ⟨g, L2.length * 4, none⟩ (.slice f.BA f.body.length f.bc)).setCell ⟨g, L2.length * 4 + 2, none⟩ (.int .i64 tn)) ∧ gk - 1 < gk) := by
            obtain ⟨f1, hf1⟩ : ∃ f1 : Fx, f1 = { f with rest := f.body, RA := f.BA, rc := f.bc } := ⟨_, rfl⟩
            obtain ⟨f2, hf2⟩ : ∃ f2 : Fx, f2 = { f1 with turns := tn } := ⟨_, rfl⟩
            have hx1 : FxAt w3 E.lo E.hi E.D I f1 := by rw [hf1]; exact ⟨HFR.out.body, HFR.out.bcap, HFR.out.body, HFR.out.bcap, HFR.out.turns, HFR.out.blen, HFR.out.blen, HFR.out.kept⟩
            have hd1 : ∃ d, Deep9 d (plF (L2 ++ [f1])) := by
              obtain ⟨d, hd⟩ := H3.out.deep
              rw [plF_snoc] at hd
              refine ⟨d, ?_⟩
              rw [plF_snoc, hf1]
              exact ⟨⟨hd.1.2.1, hd.1.2.1, hd.1.2.2⟩, hd.2⟩
            have h4 := H3.out.store hA hgq (f' := f1) 0 (.slice f.BA f.body.length f.bc) (by omega) (by rw [hf1]; rfl) hx1 hd1
            rw [Nat.add_zero] at h4
            have t4 := H3.out.tr_store hA (L2.length * 4) (.slice f.BA f.body.length f.bc)
            have hx2 : FxAt (w3.setCell ⟨g, L2.length * 4, none⟩ (.slice f.BA f.body.length f.bc)) E.lo E.hi E.D I f2 := by
              have := h4.fr f1 (by simp)
              rw [hf2]
              exact ⟨this.rest, this.rcap, this.body, this.bcap, by show tn ≤ 8; omega, this.rlen, this.blen, this.kept⟩
            have hd2 : ∃ d, Deep9 d (plF (L2 ++ [f2])) := by
              obtain ⟨d, hd⟩ := hd1
              rw [plF_snoc] at hd
              refine ⟨d, ?_⟩
              rw [plF_snoc, hf2]
              exact hd
            have h5 := h4.store hA hgq (f' := f2) 2 (.int .i64 tn) (by omega) (by rw [hf2]; rfl) hx2 hd2
            have t5 := h4.tr_store hA (L2.length * 4 + 2) (.int .i64 tn)
            obtain ⟨x1, x2, x3, x4, x5⟩ := HX.out
            have hg : gk = (L2.map fun f => f.turns + 1).sum + (tn + 1 + 1) := by rw [x5]; simp [htn]
            have hpl : f2.pl = ⟨f.body, f.body, tn, f.pl.kept⟩ := by rw [hf2, hf1]; rfl
            have hpl0 : f.pl = ⟨[], f.body, tn + 1, f.pl.kept⟩ := by rw [← htn, ← HR.out]; rfl
            refine ⟨⟨L2 ++ [f2], T1, A1, c1, S1, SB1, h5, (HT3.out.trans t4).trans t5, ?_, x3, ?_, ?_⟩, by omega⟩
            · rw [← x2, plF_snoc, plF_snoc, hpl, hpl0]
              rfl
            · rw [x4, plF_snoc, plF_snoc, keptN, keptN, hpl]
            · rw [hg]
              have : f2.turns = tn := by rw [hf2]
              simp [this]
          clear htn ht0
          go_wp2_with fail
          go_roundg (gk - 1)
          case measure => exact HF.out.2
          case rel =>
            have h := HF.out.1
            rw [hKK, hFL] at h
            exact h
end
end Go.Proofs.YthdcdffdpdoeoaaGreatDoor
