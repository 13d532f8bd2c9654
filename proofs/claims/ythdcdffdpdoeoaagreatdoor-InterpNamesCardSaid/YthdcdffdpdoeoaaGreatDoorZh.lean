/-
  SEVERAL TEXTS IN ONE (a claim has sixty files at most): Jh, Ji, Jj: the head of each stands ahead of it. No condition but theirs.
-/
import Derived.Test.YthdcdffdpdoeoaaGreatDoorJg
import Derived.Deep.RegionLawGrows
import Derived.StillTailTactics
import Derived.BigQuiet
import Derived.Deep.QuietTactic
import Derived.Test.YthdcdffdpdoeoaaGreatDoorCx
/-
  THE STACK'S ROW (layer 9): a block's four cells; what a store of one makes of the row; a machine behind a store. No condition.
-/
namespace Go.Proofs.YthdcdffdpdoeoaaGreatDoor
set_option maxRecDepth 100000
open Go.RowKit
set_option linter.unusedVariables false
theorem cells4 (f : Fx) : f.cells.length = 4 := rfl
theorem flat4_len (L : List Fx) : (L.flatMap Fx.cells).length = L.length * 4 := by
  induction L with
  | nil => rfl
  | cons f r ih => rw [List.flatMap_cons, List.length_append, ih, cells4, List.length_cons]; omega
theorem flat4 (L : List Fx) : ∀ (j : Nat) (hj : j < L.length) (i : Nat), i < 4 → (L.flatMap Fx.cells)[j * 4 + i]? = (L[j].cells)[i]? := by
  induction L with
  | nil => intro j hj; exact absurd hj (by simp)
  | cons f r ih =>
    intro j hj i hi
    rw [List.flatMap_cons]
    cases j with
    | zero => rw [List.getElem?_append_left (by rw [cells4]; omega)]; simp
    | succ j =>
      rw [List.getElem?_append_right (by rw [cells4]; omega), cells4, show (j + 1) * 4 + i - 4 = j * 4 + i from by omega]
      exact ih j (by simpa using hj) i hi
theorem flat4_set (L : List Fx) (f f' : Fx) (i : Nat) (v : Value) (h : f'.cells = f.cells.set i v) (hi : i < 4) : ((L ++ [f]).flatMap Fx.cells).set (L.length * 4 + i) v = (L ++ [f']).flatMap Fx.cells := by
  rw [List.flatMap_append, List.flatMap_append, List.set_append_right _ _ (by rw [flat4_len]; omega), flat4_len, show L.length * 4 + i - L.length * 4 = i from by omega]
  simp [h]
theorem row_set {w : World} {base : Nat} {e : TypeId} {size g n c : Nat} {xs : List Value} (h : w.ownsRow base e size (.slice (some ⟨g, 0, none⟩) n c) n xs) (hn : 0 < n) (k : Nat) (hk : k < n * size) (v : Value) : (w.setCell ⟨g, k, none⟩ v).ownsRow base e size (.slice (some ⟨g, 0, none⟩) n c) n (xs.set k v) := by
  rcases h.2 with ⟨hv, _⟩ | ⟨g', cap, cur, hv, hb, hg, h1, h2, h3, h4⟩
  · cases hv
  · injection hv with hA hn' hc
    injection hA with hA
    injection hA with hA
    subst hA
    subst hc
    refine ⟨by simpa using h.1, .inr ⟨g, c, cur.setIfInBounds k v, rfl, hb, heap_set_same _ g k v _ _ hg, h1, h2, by simpa using h3, ?_⟩⟩
    rw [Array.toList_setIfInBounds, List.take_set, h4]
section
variable {E : Ev9} {w w' : World} {l : List Int} {L : List Fx} {f : Fx} {T : List (List Pr)} {n : Nat} {A : Option Addr} {c : Nat} {S S2 SB I : Nat → Prop}
theorem Tr.low {E : Ev9} {w w1 w2 : World} {S S1 : Nat → Prop} (h : Tr E w S w1 S1) (b : Below w.heap.size w1 w2) (hh : E.hi ≤ w.heap.size) : Tr E w S w2 S1 :=
  ⟨h.own, ⟨b.os.trans h.fro.os, b.tape.trans h.fro.tape, b.output.trans h.fro.output, Nat.le_trans h.fro.size b.size, fun i hi hn => (b.block i hi).trans (h.fro.block i hi hn)⟩, fun i b1 b2 => (b.block i (by omega)).trans (h.win i b1 b2)⟩
/-- Where the stack lies. -/
theorem RMat.at_ (h : RMat E w l L T n A c S SB I) (hL : 0 < L.length) : ∃ g, A = some ⟨g, 0, none⟩ ∧ S g ∧ ¬ SB g ∧ ¬ I g ∧ g ≠ E.q ∧ g < w.heap.size ∧ L.length ≤ c ∧ c ≤ maxLen ∧ (∀ i, w.frozen? ⟨g, i, none⟩ = false) ∧ (∀ j (hj : j < L.length) i, i < 4 → w.cell? ⟨g, j * 4 + i, none⟩ = (L[j].cells)[i]?) := by
  rcases h.row.2 with ⟨hv, h0⟩ | ⟨g, cap, cur, hv, hb, hg, h1, h2, h3, h4⟩
  · omega
  · injection hv with hA _ hc
    subst hc
    obtain ⟨s1, s2, s3⟩ := h.rowS _ hA
    refine ⟨g, hA, s1, s2, s3, fun e => ?_, (Array.getElem?_eq_some_iff.1 hg).1, h1, h2, fun i => by simp [World.frozen?, hg], fun j hj i hi => ?_⟩
    · rw [e, h.obj] at hg
      injection hg with hg
      injection hg with _ h5
      exact absurd h5 (by decide)
    · rw [← flat4 L j hj i hi, ← h4, List.getElem?_take_of_lt (by omega)]
      simp [World.cell?, hg]
/-- A store into a block's cell. -/
theorem RMat.store (h : RMat E w l (L ++ [f]) T n A c S SB I) {g : Nat} (hA : A = some ⟨g, 0, none⟩) (hgq : g ≠ E.q) {f' : Fx} (i : Nat) (v : Value) (hi : i < 4) (hf : f'.cells = f.cells.set i v) (hx : FxAt w E.lo E.hi E.D I f') (hd : ∃ d, Deep9 d (plF (L ++ [f']))) : RMat E (w.setCell ⟨g, L.length * 4 + i, none⟩ v) l (L ++ [f']) T n A c S SB I := by
  subst hA
  obtain ⟨s1, s2, s3⟩ := h.rowS _ rfl
  have hkk : ∀ b, b ≠ g → (w.setCell ⟨g, L.length * 4 + i, none⟩ v).heap[b]? = w.heap[b]? := fun b hb => Below.heap_setCell w ⟨g, _, none⟩ v b hb
  have hI : ∀ b, I b → (w.setCell ⟨g, L.length * 4 + i, none⟩ v).heap[b]? = w.heap[b]? := fun b hb => hkk b fun e => s3 (e ▸ hb)
  have hs : (w.setCell ⟨g, L.length * 4 + i, none⟩ v).heap.size = w.heap.size := by simp [World.setCell]
  exact {
    obj := by
      have := (hkk E.q fun e => hgq e.symm).trans h.obj
      simpa using this
    row := by
      have := row_set h.row (by simp) (L.length * 4 + i) (by simp; omega) v
      rw [flat4_set L f f' i v hf hi] at this
      simpa using this
    rowS := h.rowS
    buf := by
      obtain ⟨p0, top, A', c', L', hb, e⟩ := h.buf
      exact ⟨p0, top, A', c', L', hb.frame (fun _ h => h) (fun b hb' => hkk b fun e => s2 (e ▸ hb')) (fun b hb' => by rw [hs]; exact hb.lt b hb'), e⟩
    bufS := h.bufS
    qS := h.qS
    qI := h.qI
    IS := h.IS
    win := h.win
    hiw := by rw [hs]; exact h.hiw
    got := fun k hk' => by
      obtain ⟨a, e, i', c⟩ := h.got k hk'
      exact ⟨a, e, i', (World.cell?_of_block (a := a.add k) (by rw [ad_block]; exact hI _ i')).trans c⟩
    gl := h.gl
    gwf := h.gwf
    len := h.len
    wf := h.wf
    fr := fun x hx' => by
      rcases List.mem_append.1 hx' with e | e
      · exact (h.fr x (List.mem_append_left _ e)).keep h.win hI
      · rw [List.mem_singleton.1 e]; exact hx.keep h.win hI
    deep := hd
    lev := h.lev
    flat := h.flat
    v1 := h.v1
    v2 := h.v2
    lt := fun b hb => by rw [hs]; exact h.lt b hb }
theorem RMat.tr_store (h : RMat E w l L T n A c S SB I) {g : Nat} (hA : A = some ⟨g, 0, none⟩) (k : Nat) (v : Value) : Tr E w S (w.setCell ⟨g, k, none⟩ v) S := by
  obtain ⟨s1, s2, s3⟩ := h.rowS _ hA
  exact ⟨fun b h => .inl h, Fro.set (S := S) ⟨g, k, none⟩ v s1, fun b b1 b2 => Below.heap_setCell w ⟨g, k, none⟩ v b fun e => s3 (by rw [← e]; exact h.win b b1 b2)⟩
/-- A store into a cell of the machine's own. -/
theorem RMat.put (h : RMat E w l L T n A c S SB I) (i : Nat) (v : Value) {l' : List Int} {n' : Nat} (hm : (mCells E l A L.length c n).setIfInBounds i v = mCells E l' A L.length c n') (hl : l'.length = 8) (hw : ∀ x ∈ l', wfI x) (hn : (flatB T).length ≤ n') : RMat E (w.setCell ⟨E.q, i, none⟩ v) l' L T n' A c S SB I := by
  have hkk : ∀ b, b ≠ E.q → (w.setCell ⟨E.q, i, none⟩ v).heap[b]? = w.heap[b]? := fun b hb => Below.heap_setCell w ⟨E.q, i, none⟩ v b hb
  have hI : ∀ b, I b → (w.setCell ⟨E.q, i, none⟩ v).heap[b]? = w.heap[b]? := fun b hb => hkk b fun e => h.qI (e ▸ hb)
  have hs : (w.setCell ⟨E.q, i, none⟩ v).heap.size = w.heap.size := by simp [World.setCell]
  exact {
    obj := by
      have := heap_set_same w E.q i v _ _ h.obj
      rw [hm] at this
      exact this
    row := by
      rcases Nat.eq_zero_or_pos L.length with h0 | h0
      · have hr := h.row
        rcases hr.2 with ⟨hv, e0⟩ | ⟨g, cap, cur, hv, hb, hg, h1, h2, h3, h4⟩
        · exact ⟨hr.1, .inl ⟨hv, e0⟩⟩
        · refine ⟨hr.1, .inr ⟨g, cap, cur, hv, hb, (hkk g fun e => ?_).trans hg, h1, h2, h3, h4⟩⟩
          rw [e, h.obj] at hg
          injection hg with hg
          injection hg with _ h5
          exact absurd h5 (by decide)
      · obtain ⟨g, hA, _, _, _, hgq, _⟩ := h.at_ h0
        exact ownsRow_of_block h.row fun p e => hkk _ (by rw [hA] at e; injection e with e; rw [← e]; exact hgq)
    rowS := h.rowS
    buf := by
      obtain ⟨p0, top, A', c', L', hb, e⟩ := h.buf
      exact ⟨p0, top, A', c', L', hb.frame (fun _ h => h) (fun b hb' => hkk b (h.bufS b hb').2.2) (fun b hb' => by rw [hs]; exact hb.lt b hb'), e⟩
    bufS := h.bufS
    qS := h.qS
    qI := h.qI
    IS := h.IS
    win := h.win
    hiw := by rw [hs]; exact h.hiw
    got := fun k hk' => by
      obtain ⟨a, e, i', c⟩ := h.got k hk'
      exact ⟨a, e, i', (World.cell?_of_block (a := a.add k) (by rw [ad_block]; exact hI _ i')).trans c⟩
    gl := h.gl
    gwf := h.gwf
    len := hl
    wf := hw
    fr := fun x hx' => (h.fr x hx').keep h.win hI
    deep := h.deep
    lev := h.lev
    flat := hn
    v1 := h.v1
    v2 := h.v2
    lt := fun b hb => by rw [hs]; exact h.lt b hb }
theorem RMat.tr_put (h : RMat E w l L T n A c S SB I) (k : Nat) (v : Value) : Tr E w S (w.setCell ⟨E.q, k, none⟩ v) S :=
  ⟨fun b h => .inl h, Fro.set (S := S) ⟨E.q, k, none⟩ v h.qS, fun b b1 b2 => Below.heap_setCell w ⟨E.q, k, none⟩ v b fun e => h.qI (by have e : b = E.q := e; rw [← e]; exact h.win b b1 b2)⟩
theorem RMat.putn (h : RMat E w l L T n A c S SB I) (n' : Nat) (hn : n ≤ n') : RMat E (w.setCell ⟨E.q, 12, none⟩ (.int .i64 n')) l L T n' A c S SB I := h.put 12 _ (mc_set12 E h.len _ _ _ _ _) h.len h.wf (Nat.le_trans h.flat hn)
theorem RMat.putl (h : RMat E w l L T n A c S SB I) (i : Nat) (hi : i < 8) (x : Int) (hx : wfI x) : RMat E (w.setCell ⟨E.q, 2 + i, none⟩ (.int .i64 x)) (l.set i x) L T n A c S SB I := h.put (2 + i) _ (mc_setl E h.len _ _ _ _ i hi x) (by simpa using h.len) (fun y hy => by
  rcases List.mem_or_eq_of_mem_set hy with e | e
  · exact h.wf y e
  · rw [e]; exact hx) h.flat
end
end Go.Proofs.YthdcdffdpdoeoaaGreatDoor
/-
  CONTRACTS OF PACKAGE interp's top, enter and take (layer 9). Conditions: as they stand.
-/
namespace Go.Proofs.YthdcdffdpdoeoaaGreatDoor
set_option maxRecDepth 100000
open Go.RowKit Go.Deep
set_option linter.unusedVariables false
section
variable {E : Ev9} {w w' : World} {l : List Int} {L : List Fx} {f : Fx} {T : List (List Pr)} {n : Nat} {A : Option Addr} {c : Nat} {S S2 SB I : Nat → Prop}
set_option maxHeartbeats 2000000 in
theorem top_any (h : RMat E w l (L ++ [f]) T n A c S SB I) {g : Nat} (hA : A = some ⟨g, 0, none⟩) : Calls Tryz.prog 23 #[.pointer (some ⟨E.q, 0, none⟩)] w fun e w' => e = .returned (.pointer (some ⟨g, L.length * 4, none⟩)) ∧ Below w.heap.size w w' := by
  subst hA
  have c11 := h.c11
  have hl := h.frames
  simp only [List.length_append, List.length_cons, List.length_nil, Nat.zero_add] at c11 hl
  have i1 : (((L.length + 1 : Nat) : Int) - 1).toNat = L.length := by omega
  have i2 : (0 : Int) ≤ ((L.length + 1 : Nat) : Int) - 1 := by omega
  have i3 : ((L.length + 1 : Nat) : Int) - 1 < ((L.length + 1 : Nat) : Int) := by omega
  clear h
  go_enter Tryz.func23, Tryz.ntmps23
  go_wp2_with fail
  go_quiet (fail)
  go_wp2_with fail
  go_ret
  exact ⟨rfl, drewN_below8 _ _⟩
end
theorem frame_info : (Tryz.prog.info? 66).map (fun i => (i.zero, i.size, i.bytes)) = some (some (.agg #[.slice none 0 0, .slice none 0 0, .int .i64 0, .pointer none]), 4, 64) := by kernel_rfl
theorem one4 (a : Option Addr) (i j : Nat) (b : Option Addr) (k m : Nat) (x : Int) (p : Option Addr) : ∀ u ∈ [Value.slice a i j, .slice b k m, .int .i64 x, .pointer p], u.oneCell' = true := by
  intro u hu
  simp only [List.mem_cons, List.not_mem_nil, or_false] at hu
  rcases hu with rfl | rfl | rfl | rfl <;> rfl
/-- A block appended to the stack. -/
theorem append_frame_step {ops : Array Oper} {o : Oper} {a : Act} {K : Act → World → Prop} {Q : Exit → Act → World → Prop} {EE : Prop} {wx : World} {k : Nat} {sv u0 u1 u2 u3 : Value} {xs : List Value}
    (own : wx.ownsRow 0 66 4 sv k xs) (hk : k ≤ 3000) (hgd : o.guard = none) (s x : Operand) (ho : o.op = .call { callee := .builtin .append, args := #[s, x], argTypes := #[61, 61] }) (hs : a.eval s = sv) (hx : a.eval x = .slice (some ⟨wx.heap.size, 0, none⟩) 1 1) (h1 : ∀ u ∈ [u0, u1, u2, u3], u.oneCell' = true)
    (h : ∀ g cap w', w'.ownsRow 0 66 4 (.slice (some ⟨g, 0, none⟩) (k + 1) cap) (k + 1) (xs ++ [u0, u1, u2, u3]) → (wx.alloc (.cells #[u0, u1, u2, u3] 66)).grownBy w' sv.ownBlock → (sv.ownBlock = some g ∨ g = wx.heap.size + 1) → g < w'.heap.size → K (a.put o.dst (.slice (some ⟨g, 0, none⟩) (k + 1) cap)) w') :
    if Region.wanted o (yielded ops a.tmps) = true then Oper.wp Tryz.prog o a (wx.alloc (.cells #[u0, u1, u2, u3] 66)) K Q else EE := by
  obtain ⟨i0, hi0, hz0, hz1, hz2⟩ := info_parts frame_info
  have zz : (wx.alloc (.cells #[u0, u1, u2, u3] 66)).heap.size = wx.heap.size + 1 := by simp
  exact step_append_lies _ hgd s x _ ho 0 66 i0 _ 4 64 Tryz.underlying61 hi0 hz0 hz1 hz2 rfl (by omega) sv k xs hs (own.alloc _) ⟨wx.heap.size, 0, none⟩ 1 1 [u0, u1, u2, u3] hx rfl (World.news_of_block (cs := #[u0, u1, u2, u3]) (t := 66) (fr := (0, 0)) (World.alloc_heap_new wx _)) h1 (by omega) (by unfold maxLen; omega) (by omega) (by omega) (wx.heap.size + 1) zz h
section
variable {E : Ev9} {w w' : World} {l : List Int} {L : List Fx} {f : Fx} {T : List (List Pr)} {n : Nat} {A : Option Addr} {c : Nat} {S S2 SB I : Nat → Prop}
/-- A machine whose stack has a block more. -/
theorem RMat.pushed (h : RMat E w l L T n A c S SB I) {g cap : Nat} (hr : w'.ownsRow 0 66 4 (.slice (some ⟨g, 0, none⟩) (L.length + 1) cap) (L.length + 1) (L.flatMap Fx.cells ++ f.cells)) (hq : w'.heap[E.q]? = some (.cells (mCells E l (some ⟨g, 0, none⟩) (L.length + 1) cap n) 63 (0, 0)))
    (hk : ∀ b, b < w.heap.size → b ≠ E.q → (Value.slice A L.length c).ownBlock ≠ some b → w'.heap[b]? = w.heap[b]?) (hat : (Value.slice A L.length c).ownBlock = some g ∨ w.heap.size ≤ g) (hgl : g < w'.heap.size) (hs : w.heap.size ≤ w'.heap.size) (hf : FxAt w E.lo E.hi E.D I f) (hd : ∃ d, Deep9 d (plF (L ++ [f]))) : RMat E w' l (L ++ [f]) T n (some ⟨g, 0, none⟩) cap (fun b => S b ∨ b = g) SB I := by
  have hob : ∀ b, (Value.slice A L.length c).ownBlock = some b → S b ∧ ¬ SB b ∧ ¬ I b := fun b e => by
    cases A with
    | none => cases e
    | some p => injection e with e; subst e; exact h.rowS p rfl
  have hsz : ∀ b, S b → b < w.heap.size := h.lt
  have hI : ∀ b, I b → w'.heap[b]? = w.heap[b]? := fun b hb => hk b (hsz b (h.IS b hb)) (fun e => h.qI (e ▸ hb)) fun e => (hob b e).2.2 hb
  have hB : ∀ b, SB b → w'.heap[b]? = w.heap[b]? := fun b hb => hk b (hsz b (h.bufS b hb).1) (h.bufS b hb).2.2 fun e => (hob b e).2.1 hb
  have hg : ¬ SB g ∧ ¬ I g := by
    rcases hat with e | e
    · exact (hob g e).2
    · exact ⟨fun hb => by have := hsz g (h.bufS g hb).1; omega, fun hb => by have := hsz g (h.IS g hb); omega⟩
  exact {
    obj := by simpa using hq
    row := by simpa using hr
    rowS := fun p e => by injection e with e; subst e; exact ⟨.inr rfl, hg.1, hg.2⟩
    buf := by
      obtain ⟨p0, top, A', c', L', hb, e⟩ := h.buf
      exact ⟨p0, top, A', c', L', hb.frame (fun _ h => h) hB (fun b hb' => Nat.lt_of_lt_of_le (hb.lt b hb') hs), e⟩
    bufS := fun b hb => ⟨.inl (h.bufS b hb).1, (h.bufS b hb).2⟩
    qS := .inl h.qS
    qI := h.qI
    IS := fun b hb => .inl (h.IS b hb)
    win := h.win
    hiw := Nat.le_trans h.hiw hs
    got := fun k hk' => by
      obtain ⟨a, e, i', c⟩ := h.got k hk'
      exact ⟨a, e, i', (World.cell?_of_block (a := a.add k) (by rw [ad_block]; exact hI _ i')).trans c⟩
    gl := h.gl
    gwf := h.gwf
    len := h.len
    wf := h.wf
    fr := fun x hx' => by
      rcases List.mem_append.1 hx' with e | e
      · exact (h.fr x e).keep h.win hI
      · rw [List.mem_singleton.1 e]; exact hf.keep h.win hI
    deep := hd
    lev := h.lev
    flat := h.flat
    v1 := h.v1
    v2 := h.v2
    lt := fun b hb => by
      rcases hb with hb | rfl
      · exact Nat.lt_of_lt_of_le (h.lt b hb) hs
      · exact hgl }
set_option maxHeartbeats 2000000 in
theorem enter_any (h : RMat E w l L T n A c S SB I) (f : Fx) (hf : FxAt w E.lo E.hi E.D I f) (hd : ∃ d, Deep9 d (plF (L ++ [f]))) : Calls Tryz.prog 37 #[.pointer (some ⟨E.q, 0, none⟩), .agg #[.slice f.RA f.rest.length f.rc, .slice f.BA f.body.length f.bc, .int .i64 f.turns, .pointer f.kp]] w fun e w' => (∃ v, e = .returned v) ∧ ∃ A' c' S', RMat E w' l (L ++ [f]) T n A' c' S' SB I ∧ Tr E w S w' S' := by
  have hl := h.frames
  have H := Lib.hid h
  have HF := Lib.hid hf
  have HD := Lib.hid hd
  have hb0 : Below w.heap.size w (w.alloc (.cells #[.slice f.RA f.rest.length f.rc, .slice f.BA f.body.length f.bc, .int .i64 f.turns, .pointer f.kp] 66)) := (Below.refl _ _).alloc (Nat.le_refl _) _
  have hbx : (w.alloc (.cells #[.slice f.RA f.rest.length f.rc, .slice f.BA f.body.length f.bc, .int .i64 f.turns, .pointer f.kp] 66)).heap[w.heap.size]? = some (.cells #[.slice f.RA f.rest.length f.rc, .slice f.BA f.body.length f.bc, .int .i64 f.turns, .pointer f.kp] 66 (0, 0)) := World.alloc_heap_new w _
  have hz : (w.alloc (.cells #[.slice f.RA f.rest.length f.rc, .slice f.BA f.body.length f.bc, .int .i64 f.turns, .pointer f.kp] 66)).heap.size = w.heap.size + 1 := by simp
  have h2 := h.below hb0
  have c11 := h2.c11
  have fz := h2.fz 11
  have hrow := h2.row
  have hobj := h2.obj
  clear h hf hd
  go_enter Tryz.func37, Tryz.ntmps37
  go_upto_region 1 with fail
  obtain ⟨W, hW⟩ : ∃ W, W = w.alloc (.cells #[.slice f.RA f.rest.length f.rc, .slice f.BA f.body.length f.bc, .int .i64 f.turns, .pointer f.kp] 66) := ⟨_, rfl⟩
  rw [← hW] at hb0 hbx hz c11 fz hrow hobj h2 ⊢
  have b0 : W.cell? ⟨w.heap.size, 0, none⟩ = some (.slice f.RA f.rest.length f.rc) := by simp [World.cell?, hbx]
  have b1 : W.cell? ⟨w.heap.size, 1, none⟩ = some (.slice f.BA f.body.length f.bc) := by simp [World.cell?, hbx]
  have b2 : W.cell? ⟨w.heap.size, 2, none⟩ = some (.int .i64 f.turns) := by simp [World.cell?, hbx]
  have b3 : W.cell? ⟨w.heap.size, 3, none⟩ = some (.pointer f.kp) := by simp [World.cell?, hbx]
  have H2 := Lib.hid h2
  have HROW := Lib.hid hrow
  have HOBJ := Lib.hid hobj
  have HB0 := Lib.hid hb0
  have HZ := Lib.hid hz
  have HQL : Hid (E.q < W.heap.size) := h2.lt _ h2.qS
  have HAQ : Hid (∀ r, (Value.slice A L.length c).ownBlock = some r → r ≠ E.q) := fun r e => by
    rcases Nat.eq_zero_or_pos L.length with h0 | h0
    · rcases h2.row.2 with ⟨hv, e0⟩ | ⟨g, cap, cur, hv, hb, hg, h1, h2', h3, h4⟩
      · injection hv with hA; rw [hA] at e; cases e
      · injection hv with hA
        rw [hA] at e
        injection e with e
        have e : g = r := e
        intro e2
        rw [e, e2, hobj] at hg
        injection hg with hg
        injection hg with _ h5
        exact absurd h5 (by decide)
    · obtain ⟨g, hA, _, _, _, hgq, _⟩ := h2.at_ h0
      rw [hA] at e
      injection e with e
      have e : g = r := e
      rw [← e]; exact hgq
  have c11b : (W.alloc (.cells #[.slice f.RA f.rest.length f.rc, .slice f.BA f.body.length f.bc, .int .i64 f.turns, .pointer f.kp] 66)).cell? ⟨E.q, 11, none⟩ = some (.slice A L.length c) := (((Below.refl _ W).alloc (Nat.le_refl _) _).cell (p := ⟨E.q, 11, none⟩) HQL.out).trans c11
  clear hW hb0 hbx hz hrow hobj h2
  go_region_law
    (first
      | (refine append_frame_step (ops := _) (K := _) (Q := _) (EE := _) (wx := W.drew) (u0 := .slice f.RA f.rest.length f.rc) (u1 := .slice f.BA f.body.length f.bc) (u2 := .int .i64 f.turns) (u3 := .pointer f.kp) HROW.out.drew (by omega) rfl (.tmp 8) (.tmp 10) rfl rfl rfl (one4 _ _ _ _ _ _ _ _) ?_
         intro gg cap w9 hown hgrow hat hgl; have hq9 := grown_q hgrow HOBJ.out HAQ.out; have f9 : w9.frozen? ⟨E.q, 11, none⟩ = false := (by simp [World.frozen?, hq9]); have e9 : w9.cell? ⟨E.q, 11, none⟩ = some (.slice A L.length c) := (World.cell?_of_block (a := ⟨E.q, 11, none⟩) (hq9.trans HOBJ.out.symm)).trans c11)
      | fail)
  all_goals
    obtain ⟨W9, hW9⟩ : ∃ W9, W9 = w9.setCell ⟨E.q, 11, none⟩ (.slice (some ⟨gg, 0, none⟩) (L.length + 1) cap) := ⟨_, rfl⟩
    have hz := HZ.out
    have hql := HQL.out
    have hgs := hgrow.size
    have hk9 : ∀ b, b < W.heap.size → b ≠ E.q → (Value.slice A L.length c).ownBlock ≠ some b → W9.heap[b]? = W.heap[b]? := fun b hb h1 h2 => by
      rw [hW9]
      refine (Below.heap_setCell w9 ⟨E.q, 11, none⟩ _ b h1).trans ((hgrow.block b (by simp; show b < W.heap.size + 1; omega) (fun e => h2 e.symm)).trans ?_)
      exact Below.heap_alloc W.drew _ b hb
    have hq10 : W9.heap[E.q]? = some (.cells (mCells E l (some ⟨gg, 0, none⟩) (L.length + 1) cap n) 63 (0, 0)) := by
      have := heap_set_same w9 E.q 11 (.slice (some ⟨gg, 0, none⟩) (L.length + 1) cap) _ _ hq9
      rw [mc_set11 E H.out.len] at this
      rw [hW9]
      exact this
    have hgq : gg ≠ E.q := by
      rcases hat with h | h
      · exact HAQ.out gg h
      · have h : gg = W.heap.size + 1 := h
        omega
    have hrow9 := ownsRow_of_block (w' := W9) hown (fun p e => by injection e with e; subst e; rw [hW9]; exact Below.heap_setCell w9 ⟨E.q, 11, none⟩ _ gg hgq)
    have hs9 : W9.heap.size = w9.heap.size := by rw [hW9]; simp [World.setCell]
    have hsz9 : W.heap.size ≤ W9.heap.size := by rw [hs9]; simp at hgs; have hgs : W.heap.size + 1 ≤ w9.heap.size := hgs; omega
    have hM := H2.out.pushed (f := f) hrow9 hq10 hk9 (hat.imp id (fun h => by have h : gg = W.heap.size + 1 := h; omega)) (by rw [hs9]; exact hgl) hsz9 ((HF.out.keep H.out.win fun b hb => HB0.out.block b (H.out.lt b (H.out.IS b hb)))) HD.out
    have hob : ∀ b, (Value.slice A L.length c).ownBlock = some b → S b ∧ ¬ I b := fun b e => by
      cases A with
      | none => cases e
      | some p => injection e with e; subst e; exact ⟨(H.out.rowS p rfl).1, (H.out.rowS p rfl).2.2⟩
    have hT : Tr E w S W9 (fun b => S b ∨ b = gg) := by
      refine (Tr.below HB0.out H.out.hiw).trans ⟨fun b hb => ?_, ⟨?_, ?_, ?_, hsz9, fun b hb hn => hk9 b hb (fun e => hn (e ▸ H.out.qS)) (fun e => hn (hob b e).1)⟩, fun b b1 b2 => hk9 b (by have := H2.out.hiw; omega) (fun e => H.out.qI (e ▸ H.out.win b b1 b2)) (fun e => (hob b e).2 (H.out.win b b1 b2))⟩
      · rcases hb with hb | rfl
        · exact .inl hb
        · rcases hat with h | h
          · exact .inl (hob _ h).1
          · have h : b = W.heap.size + 1 := h
            exact .inr (by omega)
      · rw [hW9]; exact hgrow.os
      · rw [hW9]; exact hgrow.tape
      · rw [hW9]; exact hgrow.output
    rw [← hW9]
    clear hown hgrow hat e9 f9 hk9 hq10 hrow9 hs9 hsz9 hob hW9 hgs hq9
    go_wp2_with fail
    go_end0
    exact ⟨⟨_, rfl⟩, _, _, _, hM, hT⟩
end
end Go.Proofs.YthdcdffdpdoeoaaGreatDoor
/-
  CONTRACT OF PACKAGE interp's take (layer 9): the next statement, which is done from now on. Conditions: as they stand.
-/
namespace Go.Proofs.YthdcdffdpdoeoaaGreatDoor
set_option maxRecDepth 100000
open Go.RowKit Go.Deep
set_option linter.unusedVariables false
section
variable {E : Ev9} {w w' : World} {l : List Int} {L : List Fx} {f : Fx} {T : List (List Pr)} {n : Nat} {A : Option Addr} {c : Nat} {S S2 SB I : Nat → Prop}
theorem deep_rest {L : List Fx} {f f' : Fx} {s : St} {r : List St} (hr : f.rest = s :: r) (h1 : f'.rest = r) (h2 : f'.body = f.body) (h3 : f'.kept = f.kept) (hd : ∃ d, Deep9 d (plF (L ++ [f]))) : ∃ d, Deep9 d (plF (L ++ [f'])) := by
  obtain ⟨d, hd⟩ := hd
  rw [plF_snoc] at hd
  refine ⟨d, ?_⟩
  rw [plF_snoc]
  obtain ⟨⟨a, b, c⟩, hr2⟩ := hd
  refine ⟨⟨fun x hx => a x ?_, fun x hx => b x ?_, fun x hx => c x ?_⟩, hr2⟩
  · have hx : x ∈ f'.rest := hx
    show x ∈ f.rest
    rw [hr]
    rw [h1] at hx
    exact List.mem_cons_of_mem _ hx
  · have hx : x ∈ f'.body := hx
    show x ∈ f.body
    rwa [h2] at hx
  · have hx : f'.kept.map _ = some x := hx
    show f.kept.map _ = some x
    rwa [h3] at hx
theorem ten_next (p : Addr) (j : Nat) : (⟨p.block, p.off + 10, none⟩ : Addr).add (j * 10) = p.add ((j + 1) * 10) := by
  unfold Addr.add
  split <;> split <;> simp_all <;> omega
set_option maxHeartbeats 2000000 in
theorem take_any (h : RMat E w l (L ++ [f]) T n A c S SB I) {s : St} {rr : List St} (hr : f.rest = s :: rr) (hn : n ≤ 100000) : Calls Tryz.prog 28 #[.pointer (some ⟨E.q, 0, none⟩)] w fun e w' => ∃ (r : Raw) (f' : Fx), e = .returned r.v ∧ SAc w' E.lo E.hi E.D r s ∧ f'.rest = rr ∧ f'.body = f.body ∧ f'.turns = f.turns ∧ f'.kept = f.kept ∧ RMat E w' l (L ++ [f']) T (n + 1) A c S SB I ∧ Tr E w S w' S := by
  have hlen : (L ++ [f]).length = L.length + 1 := by simp
  have hb0 : Below w.heap.size w (w.alloc (.cells #[.int .u8 0, .int .i64 0, .int .u8 0, .int .i64 0, .slice none 0 0, .int .u8 0, .int .i64 0, .slice none 0 0, .slice none 0 0, .slice none 0 0] 43)) := (Below.refl _ _).alloc (Nat.le_refl _) _
  have hz0 : (w.alloc (.cells #[.int .u8 0, .int .i64 0, .int .u8 0, .int .i64 0, .slice none 0 0, .int .u8 0, .int .i64 0, .slice none 0 0, .slice none 0 0, .slice none 0 0] 43)).heap.size = w.heap.size + 1 := by simp
  have hbox : (w.alloc (.cells #[.int .u8 0, .int .i64 0, .int .u8 0, .int .i64 0, .slice none 0 0, .int .u8 0, .int .i64 0, .slice none 0 0, .slice none 0 0, .slice none 0 0] 43)).heap[w.heap.size]? = some (.cells #[.int .u8 0, .int .i64 0, .int .u8 0, .int .i64 0, .slice none 0 0, .int .u8 0, .int .i64 0, .slice none 0 0, .slice none 0 0, .slice none 0 0] 43 (0, 0)) := World.alloc_heap_new w _
  have h1 := h.below hb0
  obtain ⟨g, hA, hSg, hBg, hIg, hgq, _, hc1, hc2, _, _⟩ := h.at_ (by omega)
  have HTOP := Lib.hid (top_any h1 hA)
  have H := Lib.hid h
  have HB0 := Lib.hid hb0
  have HQ1 := Lib.hid (And.intro (h.lt _ h.qS) (h.lt _ hSg))
  have H1 := Lib.hid h1
  have HZ := Lib.hid hz0
  have HBX := Lib.hid hbox
  clear h hb0 hbox h1
  go_enter Tryz.func28, Tryz.ntmps28
  go_wp2_with fail
  refine HTOP.out.mono ?_
  rintro e w2 ⟨rfl, b2⟩
  have h2 := H1.out.below b2
  have hz := HZ.out
  obtain ⟨g', hA', _, _, _, _, hgl, _, _, hfz, hcells⟩ := h2.at_ (by omega)
  obtain rfl : g = g' := by rw [hA] at hA'; injection hA' with e; injection e
  have hfr := h2.fr f (by simp)
  obtain ⟨p, r, hRA, m1, m2, ten, sac⟩ := hfr.rest 0 (by rw [hr]; simp)
  have hs0 : f.rest[0]'(by rw [hr]; simp) = s := by simp [hr]
  rw [hs0] at sac
  rw [show p.add (0 * 10) = p from by unfold Addr.add; simp] at ten
  have k0 := hcells L.length (by omega) 0 (by omega)
  have k3 := hfz (L.length * 4)
  simp only [List.getElem_append_right (Nat.le_refl _), Nat.sub_self, List.getElem_cons_zero] at k0
  have hlen1 : f.rest.length = rr.length + 1 := by rw [hr]; simp
  have k0 : w2.cell? ⟨g, L.length * 4, none⟩ = some (.slice (some p) (rr.length + 1) f.rc) := by
    have : (f.cells)[0]? = some (.slice f.RA f.rest.length f.rc) := rfl
    rw [this, hRA, hlen1] at k0
    exact k0
  have hrc := hfr.rcap
  rw [hlen1] at hrc
  have hrl := hfr.rlen
  rw [hlen1] at hrl
  have c12 := h2.c12
  have fz12 := h2.fz 12
  obtain ⟨rk, rt, rao, ran, raA, ral, rac, rbo, rbn, rbA, rbl, rbc, ryA, ryl, ryc, reA, rel, rec_⟩ := r
  have g0 := ten.c0
  have g1 := ten.c1
  have g2 := ten.c2
  have g3 := ten.c3
  have g4 := ten.c4
  have g5 := ten.c5
  have g6 := ten.c6
  have g7 := ten.c7
  have g8 := ten.c8
  have g9 := ten.c9
  dsimp only at g0 g1 g2 g3 g4 g5 g6 g7 g8 g9
  have hbx2 := (b2.block w.heap.size (by omega)).trans HBX.out
  have hc : ∀ i, w2.cell? ⟨w.heap.size, i, none⟩ = (#[.int .u8 0, .int .i64 0, .int .u8 0, .int .i64 0, .slice none 0 0, .int .u8 0, .int .i64 0, .slice none 0 0, .slice none 0 0, .slice none 0 0] : Array Value)[i]? := fun i => by simp [World.cell?, hbx2]
  have fz : ∀ i, w2.frozen? ⟨w.heap.size, i, none⟩ = false := fun i => by simp [World.frozen?, hbx2]
  have d0 := hc 0
  have d1 := hc 1
  have d2 := hc 2
  have d3 := hc 3
  have d4 := hc 4
  have d5 := hc 5
  have d6 := hc 6
  have d7 := hc 7
  have d8 := hc 8
  have d9 := hc 9
  simp only [List.getElem?_toArray, List.getElem?_cons_zero, List.getElem?_cons_succ] at d0 d1 d2 d3 d4 d5 d6 d7 d8 d9
  have HS := Lib.hid sac
  have H2 := Lib.hid h2
  have HTEN := Lib.hid ten
  have HFR := Lib.hid hfr
  have HB2 := Lib.hid b2
  have HBX2 := Lib.hid hbx2
  have HCE := Lib.hid hcells
  have HHR := Lib.hid hr
  clear sac h2 ten hfr b2 hbx2 hc m1 m2 hcells hs0 hr
  go_upto_region 2 with fail
  go_upto_region 3 with fail
  have h3 := H2.out.below ((Below.refl _ w2).alloc (Nat.le_refl _) (.cells #[.int .u8 rk, .int .i64 rt, .int .u8 rao, .int .i64 ran, .slice raA ral rac, .int .u8 rbo, .int .i64 rbn, .slice rbA rbl rbc, .slice ryA ryl ryc, .slice reA rel rec_] 43))
  have hb3 : Below w2.heap.size w2 (w2.alloc (.cells #[.int .u8 rk, .int .i64 rt, .int .u8 rao, .int .i64 ran, .slice raA ral rac, .int .u8 rbo, .int .i64 rbn, .slice rbA rbl rbc, .slice ryA ryl ryc, .slice reA rel rec_] 43)) := (Below.refl _ w2).alloc (Nat.le_refl _) _
  have hbx3 : (w2.alloc (.cells #[.int .u8 rk, .int .i64 rt, .int .u8 rao, .int .i64 ran, .slice raA ral rac, .int .u8 rbo, .int .i64 rbn, .slice rbA rbl rbc, .slice ryA ryl ryc, .slice reA rel rec_] 43)).heap[w2.heap.size]? = some (.cells #[.int .u8 rk, .int .i64 rt, .int .u8 rao, .int .i64 ran, .slice raA ral rac, .int .u8 rbo, .int .i64 rbn, .slice rbA rbl rbc, .slice ryA ryl ryc, .slice reA rel rec_] 43 (0, 0)) := World.alloc_heap_new w2 _
  have hz3 : (w2.alloc (.cells #[.int .u8 rk, .int .i64 rt, .int .u8 rao, .int .i64 ran, .slice raA ral rac, .int .u8 rbo, .int .i64 rbn, .slice rbA rbl rbc, .slice ryA ryl ryc, .slice reA rel rec_] 43)).heap.size = w2.heap.size + 1 := by simp
  clear d0 d1 d2 d3 d4 d5 d6 d7 d8 d9 g0 g1 g2 g3 g4 g5 g6 g7 g8 g9 c12 fz12 fz
  have k0 := (hb3.cell (p := ⟨g, L.length * 4, none⟩) hgl).trans k0
  obtain ⟨W3, hW3⟩ : ∃ W3, W3 = w2.alloc (.cells #[.int .u8 rk, .int .i64 rt, .int .u8 rao, .int .i64 ran, .slice raA ral rac, .int .u8 rbo, .int .i64 rbn, .slice rbA rbl rbc, .slice ryA ryl ryc, .slice reA rel rec_] 43) := ⟨_, rfl⟩
  rw [← hW3] at h3 hb3 hbx3 hz3 k0 ⊢
  clear hW3
  have k3 : W3.frozen? ⟨g, L.length * 4, none⟩ = false := by
    obtain ⟨g', hA', _, _, _, _, _, _, _, hfz, _⟩ := h3.at_ (by omega)
    rw [hA] at hA'
    injection hA' with e
    injection e with e
    rw [e]
    exact hfz _
  have HB3 := Lib.hid hb3
  have HBX3 := Lib.hid hbx3
  have HZ3 := Lib.hid hz3
  have H3 := Lib.hid h3
  clear hb3 hbx3 hz3 h3
  have i1 : 1 ≤ ((rr.length + 1 : Nat) : Int) := by omega
  go_upto_region 4 with fail
  obtain ⟨f', hf'⟩ : ∃ f' : Fx, f' = { f with rest := rr, RA := (if f.rc = 1 then some p else some ⟨p.block, p.off + 10, none⟩), rc := f.rc - 1 } := ⟨_, rfl⟩
  have hcel : f'.cells = f.cells.set 0 (.slice (if f.rc = 1 then some p else some ⟨p.block, p.off + 10, none⟩) rr.length (f.rc - 1)) := by rw [hf']; rfl
  have hfr3 := H3.out.fr f (by simp)
  have hfx : FxAt W3 E.lo E.hi E.D I f' := by
    rw [hf']
    refine ⟨fun j hj => ?_, by show rr.length ≤ f.rc - 1; omega, hfr3.body, hfr3.bcap, hfr3.turns, by show rr.length ≤ _; omega, hfr3.blen, hfr3.kept⟩
    have hj : j < rr.length := hj
    obtain ⟨p', q, e1, n1, n2, t1, s1⟩ := hfr3.rest (j + 1) (by omega)
    rw [hRA] at e1
    injection e1 with e1
    subst e1
    have hx : f.rest[j + 1]'(by omega) = rr[j] := by simp [HHR.out]
    rw [hx] at s1
    refine ⟨⟨p.block, p.off + 10, none⟩, q, if_neg (by omega), n1, n2, ?_, s1⟩
    rw [show (⟨p.block, p.off + 10, none⟩ : Addr).add (j * 10) = p.add ((j + 1) * 10) from ten_next p j]
    exact t1
  have hdp := deep_rest (f' := f') HHR.out (by rw [hf']) (by rw [hf']) (by rw [hf']) H3.out.deep
  have hst := H3.out.store hA hgq 0 (.slice (if f.rc = 1 then some p else some ⟨p.block, p.off + 10, none⟩) rr.length (f.rc - 1)) (by omega) hcel hfx hdp
  rw [Nat.add_zero] at hst
  have htr := H3.out.tr_store hA (L.length * 4) (.slice (if f.rc = 1 then some p else some ⟨p.block, p.off + 10, none⟩) rr.length (f.rc - 1))
  have hbx4 : (W3.setCell ⟨g, L.length * 4, none⟩ (.slice (if f.rc = 1 then some p else some ⟨p.block, p.off + 10, none⟩) rr.length (f.rc - 1))).heap[w2.heap.size]? = some (.cells #[.int .u8 rk, .int .i64 rt, .int .u8 rao, .int .i64 ran, .slice raA ral rac, .int .u8 rbo, .int .i64 rbn, .slice rbA rbl rbc, .slice ryA ryl ryc, .slice reA rel rec_] 43 (0, 0)) := (Below.heap_setCell W3 ⟨g, L.length * 4, none⟩ _ w2.heap.size (by show w2.heap.size ≠ g; omega)).trans HBX3.out
  have hres4 : (W3.setCell ⟨g, L.length * 4, none⟩ (.slice (if f.rc = 1 then some p else some ⟨p.block, p.off + 10, none⟩) rr.length (f.rc - 1))).heap[w.heap.size]? = _ := (Below.heap_setCell W3 ⟨g, L.length * 4, none⟩ _ w.heap.size (by show w.heap.size ≠ g; have := HQ1.out.2; omega)).trans ((HB3.out.block w.heap.size (by have := HB2.out.size; have := HZ.out; omega)).trans HBX2.out)
  have hz4 : (W3.setCell ⟨g, L.length * 4, none⟩ (.slice (if f.rc = 1 then some p else some ⟨p.block, p.off + 10, none⟩) rr.length (f.rc - 1))).heap.size = W3.heap.size := by simp [World.setCell]
  obtain ⟨W4, hW4⟩ : ∃ W4, W4 = W3.setCell ⟨g, L.length * 4, none⟩ (.slice (if f.rc = 1 then some p else some ⟨p.block, p.off + 10, none⟩) rr.length (f.rc - 1)) := ⟨_, rfl⟩
  rw [← hW4] at hst htr hbx4 hres4 hz4 ⊢
  clear hW4 k0 k3
  have c12 := hst.c12
  have fz12 := hst.fz 12
  have H4 := Lib.hid hst
  have HT4 := Lib.hid htr
  have HBX4 := Lib.hid hbx4
  have HRES4 := Lib.hid hres4
  have HF' : Hid (f'.rest = rr ∧ f'.body = f.body ∧ f'.turns = f.turns ∧ f'.kept = f.kept) := by rw [hf']; exact ⟨rfl, rfl, rfl, rfl⟩
  have q1 : w2.heap.size ≠ E.q := by have := HQ1.out.1; have := HB2.out.size; have := HZ.out; omega
  clear hst htr hbx4 hres4 hf' hcel hfx hdp hfr3
  generalize (if f.rc = 1 then some p else some (⟨p.block, p.off + 10, none⟩ : Addr)) = RB
  have i4 : (n : Int) ≤ 100000 := by omega
  have q2 : w.heap.size ≠ E.q := by have := HQ1.out.1; omega
  have q3 : w.heap.size ≠ g := by have := HQ1.out.2; omega
  have hzz : w.heap.size < w2.heap.size := by
    have := HB2.out.size
    have := HZ.out
    omega
  clear hrl hrc hc1 hc2 hz hz0 i1 hz4
  go_upto_region 5 with fail
  clear c12 fz12
  have h5 := H4.out.putn (n + 1) (by omega)
  have ht5 := H4.out.tr_put 12 (.int .i64 ((n + 1 : Nat) : Int))
  have e5 : ((n : Int) + 1) = ((n + 1 : Nat) : Int) := by omega
  rw [e5]
  have hbx5 : (W4.setCell ⟨E.q, 12, none⟩ (.int .i64 ((n + 1 : Nat) : Int))).heap[w2.heap.size]? = _ := (Below.heap_setCell W4 ⟨E.q, 12, none⟩ _ w2.heap.size q1).trans HBX4.out
  have hres5 : (W4.setCell ⟨E.q, 12, none⟩ (.int .i64 ((n + 1 : Nat) : Int))).heap[w.heap.size]? = _ := (Below.heap_setCell W4 ⟨E.q, 12, none⟩ _ w.heap.size q2).trans (HRES4.out)
  obtain ⟨W5, hW5⟩ : ∃ W5, W5 = W4.setCell ⟨E.q, 12, none⟩ (.int .i64 ((n + 1 : Nat) : Int)) := ⟨_, rfl⟩
  rw [← hW5] at h5 ht5 hbx5 hres5 ⊢
  clear hW5 e5
  have e0 := cell_of_row _ w2.heap.size 0 _ _ (0, 0) hbx5
  have e1 := cell_of_row _ w2.heap.size 1 _ _ (0, 0) hbx5
  have e2 := cell_of_row _ w2.heap.size 2 _ _ (0, 0) hbx5
  have e3 := cell_of_row _ w2.heap.size 3 _ _ (0, 0) hbx5
  have e4 := cell_of_row _ w2.heap.size 4 _ _ (0, 0) hbx5
  have e5 := cell_of_row _ w2.heap.size 5 _ _ (0, 0) hbx5
  have e6 := cell_of_row _ w2.heap.size 6 _ _ (0, 0) hbx5
  have e7 := cell_of_row _ w2.heap.size 7 _ _ (0, 0) hbx5
  have e8 := cell_of_row _ w2.heap.size 8 _ _ (0, 0) hbx5
  have e9 := cell_of_row _ w2.heap.size 9 _ _ (0, 0) hbx5
  simp only [List.getElem?_toArray, List.getElem?_cons_zero, List.getElem?_cons_succ] at e0 e1 e2 e3 e4 e5 e6 e7 e8 e9
  have hc : ∀ i, W5.cell? ⟨w.heap.size, i, none⟩ = (#[.int .u8 0, .int .i64 0, .int .u8 0, .int .i64 0, .slice none 0 0, .int .u8 0, .int .i64 0, .slice none 0 0, .slice none 0 0, .slice none 0 0] : Array Value)[i]? := fun i => by simp [World.cell?, hres5]
  have fz : ∀ i, W5.frozen? ⟨w.heap.size, i, none⟩ = false := fun i => by simp [World.frozen?, hres5]
  have d0 := hc 0
  have d1 := hc 1
  have d2 := hc 2
  have d3 := hc 3
  have d4 := hc 4
  have d5 := hc 5
  have d6 := hc 6
  have d7 := hc 7
  have d8 := hc 8
  have d9 := hc 9
  simp only [List.getElem?_toArray, List.getElem?_cons_zero, List.getElem?_cons_succ] at d0 d1 d2 d3 d4 d5 d6 d7 d8 d9
  have h9 := ten_set hres5 (.int .u8 rk) (.int .i64 rt) (.int .u8 rao) (.int .i64 ran) (.slice raA ral rac) (.int .u8 rbo) (.int .i64 rbn) (.slice rbA rbl rbc) (.slice ryA ryl ryc) (.slice reA rel rec_)
  have hl9 := Lib.hid (ten_low (g := w.heap.size) (B := w.heap.size) ((Below.refl w.heap.size W5)) (Nat.le_refl _) (.int .u8 rk) (.int .i64 rt) (.int .u8 rao) (.int .i64 ran) (.slice raA ral rac) (.int .u8 rbo) (.int .i64 rbn) (.slice rbA rbl rbc) (.slice ryA ryl ryc) (.slice reA rel rec_))
  have hd := fun i => cell_of_row _ (w.heap.size) i _ _ (0, 0) h9
  have HD := Lib.hid hd
  have H5 := Lib.hid h5
  have HT5 := Lib.hid ht5
  clear h5 ht5 hbx5 hres5 hc h9 hd
  have HT : Hid (Tr E w S W5 S) := ((((Tr.below HB0.out H.out.hiw).trans (Tr.below HB2.out H1.out.hiw)).trans (Tr.below HB3.out H2.out.hiw)).trans HT4.out).trans HT5.out
  go_wp2_with fail
  have d0 := HD.out 0
  have d1 := HD.out 1
  have d2 := HD.out 2
  have d3 := HD.out 3
  have d4 := HD.out 4
  have d5 := HD.out 5
  have d6 := HD.out 6
  have d7 := HD.out 7
  have d8 := HD.out 8
  have d9 := HD.out 9
  simp only [List.getElem?_toArray, List.getElem?_cons_zero, List.getElem?_cons_succ] at d0 d1 d2 d3 d4 d5 d6 d7 d8 d9
  refine bodyPost_ret (v := .agg #[.int .u8 rk, .int .i64 rt, .int .u8 rao, .int .i64 ran, .slice raA ral rac, .int .u8 rbo, .int .i64 rbn, .slice rbA rbl rbc, .slice ryA ryl ryc, .slice reA rel rec_]) (by simp [results, Tryz.results28, go_sem, d0, d1, d2, d3, d4, d5, d6, d7, d8, d9]) rfl ?_
  have hT := HT.out.low hl9.out H.out.hiw
  obtain ⟨q4, q5, q6, q7⟩ := HF'.out
  have hS2 : SAc w2 E.lo E.hi E.D ⟨rk, rt, rao, ran, raA, ral, rac, rbo, rbn, rbA, rbl, rbc, ryA, ryl, ryc, reA, rel, rec_⟩ s := HS.out
  have hT2 : ∀ b, E.lo ≤ b → b < E.hi → w2.heap[b]? = w.heap[b]? := ((Tr.below (S := S) HB0.out H.out.hiw).trans (Tr.below (S := S) HB2.out H1.out.hiw)).win
  refine ⟨⟨rk, rt, rao, ran, raA, ral, rac, rbo, rbn, rbA, rbl, rbc, ryA, ryl, ryc, reA, rel, rec_⟩, f', rfl, hS2.keep (fun p p1 p2 => World.cell?_of_block ((hT.win _ p1 p2).trans (hT2 _ p1 p2).symm)) E.D, q4, q5, q6, q7, H5.out.same (fun b hb => hl9.out.block b (H.out.lt b hb)) hl9.out.size, hT⟩
end
end Go.Proofs.YthdcdffdpdoeoaaGreatDoor
