/-
  THE DRAWN REGION OF SetupAlike: three copies, each in blocks of its own, each in a box of its own, whatever the order. Conditions: as they stand.
-/
import Derived.Test.YtnkdaehmdcpafaaDoorUw
import Derived.Test.YtnkdaehmdcpafaaDoorRt
namespace Go.Proofs.YtnkdaehmdcpafaaDoor
open Go.RowKit Go.Deep
set_option linter.unusedVariables false
section
variable {a : Act} {w : World} {K : Act → World → Prop} {Q : Exit → Act → World → Prop} {o : Oper}
theorem al_load (x g : Nat) {u0 u1 u2 u3 u4 : Value} (ho : o.op = .load 25 (.tmp x)) (hx : a.tmps[x]?.getD undef = .pointer (some ⟨g, 0, none⟩)) (c0 : w.cell? ⟨g, 0, none⟩ = some u0) (c1 : w.cell? ⟨g, 1, none⟩ = some u1) (c2 : w.cell? ⟨g, 2, none⟩ = some u2) (c3 : w.cell? ⟨g, 3, none⟩ = some u3) (c4 : w.cell? ⟨g, 4, none⟩ = some u4) (hK : K (a.put o.dst (.agg #[u0, u1, u2, u3, u4])) w) : Oper.wp Tryd.prog o a w K Q := by
  obtain ⟨dst, op, type, pos, after, guard⟩ := o
  have ho' : op = _ := ho
  subst ho'
  clear ho
  have hi := Tryd.isAgg25
  have hs := Tryd.sizeOf25
  go_simp
  exact hK
theorem al_alloc (ho : o.op = .alloc 25) (hK : K (a.put o.dst (.pointer (some ⟨w.heap.size, 0, none⟩))) (w.alloc (.cells #[.int .i64 0, .int .i64 0, .int .i64 0, .slice none 0 0, .slice none 0 0] 25))) : Oper.wp Tryd.prog o a w K Q := by
  obtain ⟨dst, op, type, pos, after, guard⟩ := o
  have ho' : op = _ := ho
  subst ho'
  clear ho
  go_simp
  exact hK
theorem al_copy (x : Nat) {v : Value} {d : Nat} {s : Su} (ho : o.op = .call { callee := .value (.func 13), args := #[.tmp x], argTypes := #[25] }) (hx : a.tmps[x]?.getD undef = v) (hc : Calls Tryd.prog 13 #[v] w (CopiedC w d s)) (hK : ∀ v w', CopiedC w d s (.returned v) w' → K (a.put o.dst v) w') : Oper.wp Tryd.prog o a w K Q := by
  obtain ⟨dst, op, type, pos, after, guard⟩ := o
  have ho' : op = _ := ho
  subst ho'
  clear ho
  subst hx
  have h1 := Tryd.func13
  go_simp
  refine hc.mono ?_
  rintro e w' ⟨I, c, T, c', mid, b, hs, rfl, h⟩
  exact hK _ w' ⟨I, c, T, c', mid, b, hs, rfl, h⟩
theorem al_store (x y g : Nat) {st cl tr : Int} {I T : Option Addr} {n c M c' : Nat} (ho : o.op = .store 25 (.tmp x) (.tmp y)) (hx : a.tmps[x]?.getD undef = .pointer (some ⟨g, 0, none⟩)) (hy : a.tmps[y]?.getD undef = .agg #[.int .i64 st, .int .i64 cl, .int .i64 tr, .slice I n c, .slice T M c']) (hr : w.heap[g]? = some (.cells #[.int .i64 0, .int .i64 0, .int .i64 0, .slice none 0 0, .slice none 0 0] 25 (0, 0)))
    (hK : K (a.put o.dst undef) (((((w.setCell ⟨g, 0, none⟩ (.int .i64 st)).setCell ⟨g, 1, none⟩ (.int .i64 cl)).setCell ⟨g, 2, none⟩ (.int .i64 tr)).setCell ⟨g, 3, none⟩ (.slice I n c)).setCell ⟨g, 4, none⟩ (.slice T M c'))) : Oper.wp Tryd.prog o a w K Q := by
  obtain ⟨dst, op, type, pos, after, guard⟩ := o
  have ho' : op = _ := ho
  subst ho'
  clear ho
  have hi := Tryd.isAgg25
  have hs := Tryd.sizeOf25
  have c0 : w.cell? ⟨g, 0, none⟩ = some (.int .i64 0) := cell_of_row w _ 0 _ _ (0, 0) hr
  have c1 : w.cell? ⟨g, 1, none⟩ = some (.int .i64 0) := cell_of_row w _ 1 _ _ (0, 0) hr
  have c2 : w.cell? ⟨g, 2, none⟩ = some (.int .i64 0) := cell_of_row w _ 2 _ _ (0, 0) hr
  have c3 : w.cell? ⟨g, 3, none⟩ = some (.slice none 0 0) := cell_of_row w _ 3 _ _ (0, 0) hr
  have c4 : w.cell? ⟨g, 4, none⟩ = some (.slice none 0 0) := cell_of_row w _ 4 _ _ (0, 0) hr
  have c5 : ∀ i, w.frozen? ⟨g, i, none⟩ = false := fun i => by simp [World.frozen?, hr]
  clear hr
  go_simp
  exact hK
end
noncomputable def regOpsA (n : Nat) : Code → Option (Array Oper)
  | .region id ops _ => if id == n then some ops else none
  | .seq a b => match regOpsA n a with | some x => some x | none => regOpsA n b
  | .cond _ a b => match regOpsA n a with | some x => some x | none => regOpsA n b
  | .block _ b => regOpsA n b
  | .loop b => regOpsA n b
  | .scope b => regOpsA n b
  | _ => none
noncomputable def opsOfA (n : Nat) : Array Oper := match Tryd.f8.body with
  | some c => (regOpsA n c).getD #[]
  | none => #[]
theorem opAtA {ops : Array Oper} {i : Nat} {o : Oper} {x : Op} (ho : ops[i]? = some o) (h : (ops[i]?).map Oper.op = some x) : o.op = x := by
  rw [ho] at h
  exact Option.some.inj h
theorem dstAtA {ops : Array Oper} {i : Nat} {o : Oper} {x : Option Tmp} (ho : ops[i]? = some o) (h : (ops[i]?).map Oper.dst = some x) : o.dst = x := by
  rw [ho] at h
  exact Option.some.inj h
theorem guardAtA {ops : Array Oper} {i : Nat} {o : Oper} (ho : ops[i]? = some o) (h : (ops[i]?).map (fun o => o.guard.isNone) = some true) : o.guard = none := by
  rw [ho] at h
  have := Option.some.inj h
  simpa using this
def waitsA (ops : Array Oper) (i j : Nat) : Bool := match ops[i]? with
  | some o => o.after.any fun e => Region.binds .any e && e.on == j
  | none => false
theorem waitsA_of {ops : Array Oper} {i j : Nat} {o : Oper} {P : Nat → Prop} (ho : ops[i]? = some o) (hd : ∀ e ∈ o.after.toList, Region.binds .any e = true → P e.on) (h : waitsA ops i j = true) : P j := by
  unfold waitsA at h
  rw [ho] at h
  obtain ⟨e, he, h6⟩ := Array.any_eq_true'.1 h
  simp only [Bool.and_eq_true, beq_iff_eq] at h6
  have := hd e (by simpa using he) h6.1
  rwa [h6.2] at this
/-- One operation of a list, at its place. -/
theorem wpList_step {P : Program} {ops : Array Oper} {Q : Exit → Act → World → Prop} {k : Nat} {o : Oper} {a : Act} {w : World} (ho : ops[k]? = some o) (hg : o.guard = none) (h : Oper.wp P o a w (fun a' w' => wpList P ops Q (ops.toList.drop (k + 1)) a' w') Q) : wpList P ops Q (ops.toList.drop k) a w := by
  have hk : k < ops.size := (Array.getElem?_eq_some_iff.1 ho).1
  rw [wpList_at hk]
  unfold wpOp
  rw [ho]
  have hw : Region.wanted o (yielded ops a.tmps) = true := by simp [Region.wanted, hg]
  simp only [hw, if_true]
  exact .inl h
/-- What a copy left, where it was made. -/
structure Lies6 (d : Nat) (s : Su) (lo hi mid : Nat) (I : Option Addr) (c : Nat) (T : Option Addr) (c' : Nat) (w0 : World) : Prop where
  suw : ∃ a, SuW w0 lo mid d I T s a
  ownI : w0.ownsRow lo 2 1 (.slice I s.init.length c) s.init.length (s.init.map (Value.int .i64 ·))
  ownT : ∃ hs, w0.ownsRow mid 33 1 (.slice T s.thr.length c') s.thr.length hs
  inm : ∀ p, I = some p → p.block < mid
  size : w0.heap.size = hi
/-- The blocks between two numbers are as they were. -/
def Agree (lo hi : Nat) (w0 w : World) : Prop := hi ≤ w.heap.size ∧ ∀ b, lo ≤ b → b < hi → w.heap[b]? = w0.heap[b]?
theorem Agree.trans {lo hi : Nat} {w0 w w' : World} (h : Agree lo hi w0 w) (h' : Agree lo hi w w') : Agree lo hi w0 w' := ⟨h'.1, fun b h1 h2 => (h'.2 b h1 h2).trans (h.2 b h1 h2)⟩
theorem Agree.low {lo hi : Nat} {w w' : World} {B : Nat} (h : Below B w w') (hB : hi ≤ B) (hw : hi ≤ w.heap.size) : Agree lo hi w w' := ⟨Nat.le_trans hw h.size, fun b _ h2 => h.block b (by omega)⟩
theorem Agree.set {lo hi : Nat} {w : World} {g i : Nat} {v : Value} (hw : hi ≤ w.heap.size) (hg : ¬ (lo ≤ g ∧ g < hi)) : Agree lo hi w (w.setCell ⟨g, i, none⟩ v) := ⟨by simpa using hw, fun b h1 h2 => heap_set_other w g i v b (by omega)⟩
theorem Agree.sub {lo hi lo' hi' : Nat} {w w' : World} (h : Agree lo hi w w') (h1 : lo ≤ lo') (h2 : hi' ≤ hi) : Agree lo' hi' w w' := ⟨Nat.le_trans h2 h.1, fun b a1 a2 => h.2 b (by omega) (by omega)⟩
section
variable {d : Nat} {s : Su} {lo hi mid : Nat} {I : Option Addr} {c : Nat} {T : Option Addr} {c' : Nat} {w0 w : World}
theorem Lies6.mids (h : Lies6 d s lo hi mid I c T c' w0) : lo ≤ mid ∧ mid ≤ hi := by
  obtain ⟨a, ha⟩ := h.suw
  have := h.size
  exact ⟨ha.lm, by have := ha.ms; omega⟩
theorem Lies6.at (h : Lies6 d s lo hi mid I c T c' w0) (hk : Agree lo hi w0 w) : ∃ a, SuW w lo mid d I T s a := by
  obtain ⟨a, ha⟩ := h.suw
  exact ⟨a, ha.keep (by have := hk.1; have := h.size; omega) fun b h1 h2 => hk.2 b h1 (by have := h.size; omega)⟩
theorem Lies6.ints (h : Lies6 d s lo hi mid I c T c' w0) (hk : Agree lo mid w0 w) : Ints w mid I s.init := by
  obtain ⟨a, ha⟩ := h.suw
  refine ⟨ha.ini.len, fun k hk' => ?_⟩
  obtain ⟨p, e, b, c1⟩ := ha.ini.cell k hk'
  exact ⟨p, e, b, (World.cell?_of_block (a := p.add k) (by rw [ad_block]; exact hk.2 p.block (ha.inl p e) b)).trans c1⟩
theorem Lies6.rowI (h : Lies6 d s lo hi mid I c T c' w0) (hk : Agree lo mid w0 w) : w.ownsRow lo 2 1 (.slice I s.init.length c) s.init.length (s.init.map (Value.int .i64 ·)) :=
  own_keep h.ownI fun b h1 h2 h3 => hk.2 b h1 (by
    cases hI : I with
    | none => rw [hI] at h3; cases h3
    | some p =>
      have := h.inm p hI
      rw [hI] at h3
      have : p.block = b := by simpa [Value.ownBlock] using h3
      omega)
theorem Lies6.rowT (h : Lies6 d s lo hi mid I c T c' w0) (hk : Agree mid hi w0 w) : ∃ hs, w.ownsRow mid 33 1 (.slice T s.thr.length c') s.thr.length hs := by
  obtain ⟨hs, ho⟩ := h.ownT
  exact ⟨hs, own_keep ho fun b h1 h2 _ => hk.2 b h1 (by have := h.size; omega)⟩
/-- The threads alone: what lies from mid on. -/
theorem Lies6.thr (h : Lies6 d s lo hi mid I c T c' w0) (hk : Agree mid hi w0 w) : Thr w lo hi d T s.thr := fun j hj => by
  obtain ⟨a, ha⟩ := h.suw
  have hz := h.size
  have hlm := ha.lm
  obtain ⟨p, u, e, m1, m2, c1, B, c2, rfl, l1, t1, t2, t3⟩ := ha.parts j hj
  have q1 := ha.mono 0 j (by omega)
  have q2 := ha.alo
  have q3 := ha.ahi (j + 1)
  refine ⟨p, B, c2, e, by omega, by omega, (World.cell?_of_block (a := p.add j) (by rw [ad_block]; exact hk.2 p.block m1 (by omega))).trans c1, l1, ?_⟩
  exact (t1.keep (S' := fun b => (a j ≤ b ∧ b < a (j + 1)) ∧ ∀ p, T = some p → b ≠ p.block) (fun _ hb => hb) fun b hb => hk.2 b (by omega) (by omega)).to fun b hb => by omega
end
/-- A box that is filled. -/
theorem set_box {w w' : World} {g : Nat} {st cl tr : Int} {I T : Option Addr} {n c M c' : Nat} (hw : w' = ((((w.setCell ⟨g, 0, none⟩ (.int .i64 st)).setCell ⟨g, 1, none⟩ (.int .i64 cl)).setCell ⟨g, 2, none⟩ (.int .i64 tr)).setCell ⟨g, 3, none⟩ (.slice I n c)).setCell ⟨g, 4, none⟩ (.slice T M c')) (hr : w.heap[g]? = some (.cells #[.int .i64 0, .int .i64 0, .int .i64 0, .slice none 0 0, .slice none 0 0] 25 (0, 0))) :
    w'.heap[g]? = some (.cells #[.int .i64 st, .int .i64 cl, .int .i64 tr, .slice I n c, .slice T M c'] 25 (0, 0)) ∧ (∀ b, b ≠ g → w'.heap[b]? = w.heap[b]?) ∧ w'.heap.size = w.heap.size ∧ ∀ {B : Nat} (w0 : World), Below B w0 w → B ≤ g → Below B w0 w' := by
  subst hw
  refine ⟨?_, fun b hb => ?_, by simp, fun {B} w0 hb hg => ((((hb.setCell (p := ⟨g, 0, none⟩) hg _).setCell (p := ⟨g, 1, none⟩) hg _).setCell (p := ⟨g, 2, none⟩) hg _).setCell (p := ⟨g, 3, none⟩) hg _).setCell (p := ⟨g, 4, none⟩) hg _⟩
  · have h1 := heap_set_same w g 0 (.int .i64 st) _ _ hr
    have h2 := heap_set_same _ g 1 (.int .i64 cl) _ _ h1
    have h3 := heap_set_same _ g 2 (.int .i64 tr) _ _ h2
    have h4 := heap_set_same _ g 3 (.slice I n c) _ _ h3
    exact heap_set_same _ g 4 (.slice T M c') _ _ h4
  · rw [heap_set_other _ _ _ _ _ hb, heap_set_other _ _ _ _ _ hb, heap_set_other _ _ _ _ _ hb, heap_set_other _ _ _ _ _ hb, heap_set_other _ _ _ _ _ hb]
def BoxK (lo hi : Nat) (v : Value) (w : World) : Prop := ∃ g, v = .pointer (some ⟨g, 0, none⟩) ∧ lo ≤ g ∧ g < hi ∧ w.heap[g]? = some (.cells #[.int .i64 0, .int .i64 0, .int .i64 0, .slice none 0 0, .slice none 0 0] 25 (0, 0))
def CopyK (d : Nat) (s : Su) (lo hi : Nat) (v : Value) (w : World) : Prop := ∃ I c T c' mid w0, v = .agg #[.int .i64 s.st, .int .i64 s.cl, .int .i64 s.tr, .slice I s.init.length c, .slice T s.thr.length c'] ∧ Lies6 d s lo hi mid I c T c' w0 ∧ Agree lo hi w0 w
def AK (v0 : Value) (d : Nat) (s : Su) : Nat → Nat → Nat → Value → World → Prop
  | 0, _, _, v, _ => v = v0
  | 1, lo, hi, v, w => CopyK d s lo hi v w
  | 2, _, _, v, _ => v = v0
  | 3, lo, hi, v, w => CopyK d s lo hi v w
  | 4, _, _, v, _ => v = v0
  | 5, lo, hi, v, w => CopyK d s lo hi v w
  | 6, lo, hi, v, w => BoxK lo hi v w
  | 7, lo, hi, v, w => BoxK lo hi v w
  | 8, lo, hi, v, w => BoxK lo hi v w
  | _, _, _, _, _ => False
theorem BoxK.mono {x y : Nat} {v : Value} {w w' : World} (hy : y ≤ w.heap.size) (b : Below w.heap.size w w') (h : BoxK x y v w) : BoxK x y v w' := by
  obtain ⟨g, e, h1, h2, h3⟩ := h
  exact ⟨g, e, h1, h2, (b.block g (by omega)).trans h3⟩
theorem CopyK.mono {d : Nat} {s : Su} {x y : Nat} {v : Value} {w w' : World} (hy : y ≤ w.heap.size) (b : Below w.heap.size w w') (h : CopyK d s x y v w) : CopyK d s x y v w' := by
  obtain ⟨I, c, T, c', mid, w0, e, h1, h2⟩ := h
  exact ⟨I, c, T, c', mid, w0, e, h1, h2.trans (.low b hy hy)⟩
theorem CopiedC.k {d : Nat} {s : Su} {v : Value} {w w' : World} (h : CopiedC w d s (.returned v) w') : CopyK d s w.heap.size w'.heap.size v w' ∧ Below w.heap.size w w' := by
  obtain ⟨I, c, T, c', mid, a, hs, e, h1, h2, h3, h4, h5⟩ := h
  cases e
  exact ⟨⟨I, c, T, c', mid, w', rfl, ⟨⟨a, h1⟩, h2, ⟨hs, h3⟩, h5, rfl⟩, Nat.le_refl _, fun _ _ _ => rfl⟩, h4⟩
def box6 (s : Su) (I : Option Addr) (c : Nat) (T : Option Addr) (c' : Nat) : Obj := .cells #[.int .i64 s.st, .int .i64 s.cl, .int .i64 s.tr, .slice I s.init.length c, .slice T s.thr.length c'] 25 (0, 0)
/-- What is left behind the region: three copies in three boxes. -/
structure Post6 (W : World) (d : Nat) (s : Su) (ga gb gd la ha ma lb hb mb ld hd md : Nat) (Ia : Option Addr) (ca : Nat) (Ta : Option Addr) (cta : Nat) (Ib : Option Addr) (cb : Nat) (Tb : Option Addr) (ctb : Nat) (Id : Option Addr) (cd : Nat) (Td : Option Addr) (ctd : Nat) (wa wb wd w : World) : Prop where
  low : Below W.heap.size W w
  ba : w.heap[ga]? = some (box6 s Ia ca Ta cta)
  bb : w.heap[gb]? = some (box6 s Ib cb Tb ctb)
  bd : w.heap[gd]? = some (box6 s Id cd Td ctd)
  a : Lies6 d s la ha ma Ia ca Ta cta wa
  aw : Agree la ha wa w
  b : Lies6 d s lb hb mb Ib cb Tb ctb wb
  bw : Agree lb hb wb w
  d : Lies6 d s ld hd md Id cd Td ctd wd
  dw : Agree ld hd wd w
  lo : W.heap.size ≤ ga ∧ W.heap.size ≤ gb ∧ W.heap.size ≤ gd ∧ W.heap.size ≤ la ∧ W.heap.size ≤ lb ∧ W.heap.size ≤ ld
  gg : ga ≠ gb ∧ ga ≠ gd ∧ gb ≠ gd
  ga : ¬ (la ≤ ga ∧ ga < ha) ∧ ¬ (lb ≤ ga ∧ ga < hb) ∧ ¬ (ld ≤ ga ∧ ga < hd)
  gb : ¬ (la ≤ gb ∧ gb < ha) ∧ ¬ (lb ≤ gb ∧ gb < hb) ∧ ¬ (ld ≤ gb ∧ gb < hd)
  gd : ¬ (la ≤ gd ∧ gd < ha) ∧ ¬ (lb ≤ gd ∧ gd < hb) ∧ ¬ (ld ≤ gd ∧ gd < hd)
  ab : ha ≤ lb ∨ hb ≤ la
  ad : ha ≤ ld ∨ hd ≤ la
  bd2 : hb ≤ ld ∨ hd ≤ lb
theorem AK.mono {v0 : Value} {d : Nat} {s : Su} (i x y : Nat) (v : Value) (w w' : World) (hy : y ≤ w.heap.size) (b : Below w.heap.size w w') (h : AK v0 d s i x y v w) : AK v0 d s i x y v w' := by
  match i, h with
  | 0, h => exact h
  | 1, h => exact CopyK.mono hy b h
  | 2, h => exact h
  | 3, h => exact CopyK.mono hy b h
  | 4, h => exact h
  | 5, h => exact CopyK.mono hy b h
  | 6, h => exact BoxK.mono hy b h
  | 7, h => exact BoxK.mono hy b h
  | 8, h => exact BoxK.mono hy b h
  | _ + 9, h => exact h.elim
theorem getD_frame {a : Act} {x : Nat} {v : Value} (h : a.tmps[x]? = some v) : a.tmps[x]?.getD undef = v := by rw [h]; rfl
theorem getD_frame6 {F : Array Value} {x : Nat} {v : Value} (h : F[x]? = some v) : F[x]?.getD undef = v := by rw [h]; rfl
theorem frameA (T0 : Array Value) (hsz : 90 ≤ T0.size) (u0 u1 u2 u3 u4 u5 u6 u7 u8 : Value) : (putAll T0 [35, 36, 37, 38, 39, 40, 6, 7, 8] [u0, u1, u2, u3, u4, u5, u6, u7, u8])[6]? = some u6 ∧ (putAll T0 [35, 36, 37, 38, 39, 40, 6, 7, 8] [u0, u1, u2, u3, u4, u5, u6, u7, u8])[7]? = some u7 ∧ (putAll T0 [35, 36, 37, 38, 39, 40, 6, 7, 8] [u0, u1, u2, u3, u4, u5, u6, u7, u8])[8]? = some u8 ∧
    (putAll T0 [35, 36, 37, 38, 39, 40, 6, 7, 8] [u0, u1, u2, u3, u4, u5, u6, u7, u8])[36]? = some u1 ∧ (putAll T0 [35, 36, 37, 38, 39, 40, 6, 7, 8] [u0, u1, u2, u3, u4, u5, u6, u7, u8])[38]? = some u3 ∧ (putAll T0 [35, 36, 37, 38, 39, 40, 6, 7, 8] [u0, u1, u2, u3, u4, u5, u6, u7, u8])[40]? = some u5 := by
  simp only [putAll]
  refine ⟨?_, ?_, ?_, ?_, ?_, ?_⟩ <;> simp [Array.getElem?_setIfInBounds] <;> omega
theorem ne_win {x y a b g h : Nat} (h1 : x ≤ g) (h2 : g < y) (h3 : a ≤ h) (h4 : h < b) (j : y ≤ a ∨ b ≤ x) : g ≠ h := by omega
theorem out_win {x y a b g : Nat} (h1 : x ≤ g) (h2 : g < y) (j : b ≤ x ∨ y ≤ a) : ¬ (a ≤ g ∧ g < b) := by omega
set_option maxRecDepth 100000
theorem opA9 {o : Oper} (ho : (opsOfA 6)[9]? = some o) : o.op = .store 25 (.tmp 6) (.tmp 36) := opAtA ho (by kernel_rfl)
theorem guA9 {o : Oper} (ho : (opsOfA 6)[9]? = some o) : o.guard = none := guardAtA ho (by kernel_rfl)
theorem dsA9 {o : Oper} (ho : (opsOfA 6)[9]? = some o) : o.dst = none := dstAtA ho (by kernel_rfl)
theorem opA10 {o : Oper} (ho : (opsOfA 6)[10]? = some o) : o.op = .store 25 (.tmp 7) (.tmp 38) := opAtA ho (by kernel_rfl)
theorem guA10 {o : Oper} (ho : (opsOfA 6)[10]? = some o) : o.guard = none := guardAtA ho (by kernel_rfl)
theorem dsA10 {o : Oper} (ho : (opsOfA 6)[10]? = some o) : o.dst = none := dstAtA ho (by kernel_rfl)
theorem opA11 {o : Oper} (ho : (opsOfA 6)[11]? = some o) : o.op = .store 25 (.tmp 8) (.tmp 40) := opAtA ho (by kernel_rfl)
theorem guA11 {o : Oper} (ho : (opsOfA 6)[11]? = some o) : o.guard = none := guardAtA ho (by kernel_rfl)
theorem dsA11 {o : Oper} (ho : (opsOfA 6)[11]? = some o) : o.dst = none := dstAtA ho (by kernel_rfl)
set_option maxRecDepth 100000 in
set_option maxHeartbeats 800000 in
theorem regA {id : Nat} {ops : Array Oper} (hops : ops = opsOfA 6) (T0 : Array Value) (hsz : 90 ≤ T0.size) (W : World) (g2 d c c' lo hi : Nat) (I T : Option Addr) (s : Su) (h2 : T0[2]? = some (.pointer (some ⟨g2, 0, none⟩))) (hbox : ∀ w, Below W.heap.size W w → SFive w g2 s.st s.cl s.tr I s.init.length c T s.thr.length c') (hsu : SuAt W lo hi d I T s) (hhi : hi ≤ W.heap.size) (hf : FewS s) {Q : Exit → Act → World → Prop}
    (hend : ∀ (ga gb gd la ha ma lb hb mb ld hd md : Nat) (Ia : Option Addr) (ca : Nat) (Ta : Option Addr) (cta : Nat) (Ib : Option Addr) (cb : Nat) (Tb : Option Addr) (ctb : Nat) (Id : Option Addr) (cd : Nat) (Td : Option Addr) (ctd : Nat) (wa wb wd w : World), Post6 W d s ga gb gd la ha ma lb hb mb ld hd md Ia ca Ta cta Ib cb Tb ctb Id cd Td ctd wa wb wd w → ∀ va vb vd : Value, va = .agg #[.int .i64 s.st, .int .i64 s.cl, .int .i64 s.tr, .slice Ia s.init.length ca, .slice Ta s.thr.length cta] → vb = .agg #[.int .i64 s.st, .int .i64 s.cl, .int .i64 s.tr, .slice Ib s.init.length cb, .slice Tb s.thr.length ctb] → vd = .agg #[.int .i64 s.st, .int .i64 s.cl, .int .i64 s.tr, .slice Id s.init.length cd, .slice Td s.thr.length ctd] →
      Q .normal ⟨putAll T0 [35, 36, 37, 38, 39, 40, 6, 7, 8] [.agg #[.int .i64 s.st, .int .i64 s.cl, .int .i64 s.tr, .slice I s.init.length c, .slice T s.thr.length c'], va, .agg #[.int .i64 s.st, .int .i64 s.cl, .int .i64 s.tr, .slice I s.init.length c, .slice T s.thr.length c'], vb, .agg #[.int .i64 s.st, .int .i64 s.cl, .int .i64 s.tr, .slice I s.init.length c, .slice T s.thr.length c'], vd, .pointer (some ⟨ga, 0, none⟩), .pointer (some ⟨gb, 0, none⟩), .pointer (some ⟨gd, 0, none⟩)], []⟩ w) :
    (Code.region id ops true).wp Tryd.prog Q ⟨T0, []⟩ W := by
  subst hops
  obtain ⟨v0, hv0⟩ : ∃ v, v = Value.agg #[.int .i64 s.st, .int .i64 s.cl, .int .i64 s.tr, .slice I s.init.length c, .slice T s.thr.length c'] := ⟨_, rfl⟩
  have hos : (opsOfA 6).size = 12 := by kernel_rfl
  refine wp_region_tail (AK v0 d s) [35, 36, 37, 38, 39, 40, 6, 7, 8] W T0 (by decide) (fun x hx => ?_) (by kernel_rfl) (by kernel_rfl) (fun i x y v w w' _ hy b h => AK.mono i x y v w w' hy b h) ?_ ?_
  · simp at hx
    omega
  · intro i o ho hi9 a w hT hdone hlow K hK
    have hcopy : ∀ v, v = v0 → Calls Tryd.prog 13 #[v] w (CopiedC w d s) := fun v hv => by
      rw [hv, hv0]
      exact copy6_any d s I T c c' lo hi w (hsu.below hlow hhi) (Nat.le_trans hhi hlow.size) hf
    have hload : ∀ (K : Act → World → Prop), o.op = .load 25 (.tmp 2) → K (a.put o.dst v0) w → Oper.wp Tryd.prog o a w K Q := fun K hop hK => by
      have hx := hbox w hlow
      rw [hv0] at hK
      exact al_load 2 g2 hop (getD_frame ((hT 2 (by decide)).trans h2)) hx.c0 hx.c1 hx.c2 hx.c3 hx.c4 hK
    match i, hi9 with
    | 0, _ => exact hload K (opAtA ho (by kernel_rfl)) (hK _ _ (Below.refl _ _) rfl)
    | 1, _ =>
      obtain ⟨v, x, y, e, hv⟩ := waitsA_of (P := fun j => ∃ v x y, a.tmps[([35, 36, 37, 38, 39, 40, 6, 7, 8] : List Nat).getD j 0]? = some v ∧ AK v0 d s j x y v w) ho hdone (show waitsA (opsOfA 6) 1 0 = true by kernel_rfl)
      exact al_copy 35 (opAtA ho (by kernel_rfl)) (getD_frame e) (hcopy v hv) fun v w' h => hK _ _ h.k.2 h.k.1
    | 2, _ => exact hload K (opAtA ho (by kernel_rfl)) (hK _ _ (Below.refl _ _) rfl)
    | 3, _ =>
      obtain ⟨v, x, y, e, hv⟩ := waitsA_of (P := fun j => ∃ v x y, a.tmps[([35, 36, 37, 38, 39, 40, 6, 7, 8] : List Nat).getD j 0]? = some v ∧ AK v0 d s j x y v w) ho hdone (show waitsA (opsOfA 6) 3 2 = true by kernel_rfl)
      exact al_copy 37 (opAtA ho (by kernel_rfl)) (getD_frame e) (hcopy v hv) fun v w' h => hK _ _ h.k.2 h.k.1
    | 4, _ => exact hload K (opAtA ho (by kernel_rfl)) (hK _ _ (Below.refl _ _) rfl)
    | 5, _ =>
      obtain ⟨v, x, y, e, hv⟩ := waitsA_of (P := fun j => ∃ v x y, a.tmps[([35, 36, 37, 38, 39, 40, 6, 7, 8] : List Nat).getD j 0]? = some v ∧ AK v0 d s j x y v w) ho hdone (show waitsA (opsOfA 6) 5 4 = true by kernel_rfl)
      exact al_copy 39 (opAtA ho (by kernel_rfl)) (getD_frame e) (hcopy v hv) fun v w' h => hK _ _ h.k.2 h.k.1
    | 6, _ => exact al_alloc (opAtA ho (by kernel_rfl)) (hK _ _ ((Below.refl _ _).alloc (Nat.le_refl _) _) ⟨w.heap.size, rfl, Nat.le_refl _, by simp, heap_alloc_new w _⟩)
    | 7, _ => exact al_alloc (opAtA ho (by kernel_rfl)) (hK _ _ ((Below.refl _ _).alloc (Nat.le_refl _) _) ⟨w.heap.size, rfl, Nat.le_refl _, by simp, heap_alloc_new w _⟩)
    | 8, _ => exact al_alloc (opAtA ho (by kernel_rfl)) (hK _ _ ((Below.refl _ _).alloc (Nat.le_refl _) _) ⟨w.heap.size, rfl, Nat.le_refl _, by simp, heap_alloc_new w _⟩)
  · intro us lo' hi' w hu hlow hS hdj
    match us, hu with
    | [u0, u1, u2, u3, u4, u5, u6, u7, u8], _ =>
      obtain rfl : u0 = v0 := (hS 0 (by decide)).2.2.2
      obtain rfl : u2 = u0 := (hS 2 (by decide)).2.2.2
      obtain rfl : u4 = u2 := (hS 4 (by decide)).2.2.2
      obtain ⟨a1, a2, a3, Ia, ca, Ta, cta, ma, wa, ea, La, Aa⟩ := hS 1 (by decide)
      obtain ⟨b1, b2, b3, Ib, cb, Tb, ctb, mb, wb, eb, Lb, Ab⟩ := hS 3 (by decide)
      obtain ⟨d1, d2, d3, Id, cd, Td, ctd, md, wd, ed, Ld, Ad⟩ := hS 5 (by decide)
      obtain ⟨p1, p2, p3, ga, ea', ga1, ga2, ga3⟩ := hS 6 (by decide)
      obtain ⟨q1, q2, q3, gb, eb', gb1, gb2, gb3⟩ := hS 7 (by decide)
      obtain ⟨r1, r2, r3, gd, ed', gd1, gd2, gd3⟩ := hS 8 (by decide)
      have j67 := hdj 6 7 (by decide) (by decide) (by decide)
      have j68 := hdj 6 8 (by decide) (by decide) (by decide)
      have j78 := hdj 7 8 (by decide) (by decide) (by decide)
      have j16 := hdj 1 6 (by decide) (by decide) (by decide)
      have j17 := hdj 1 7 (by decide) (by decide) (by decide)
      have j18 := hdj 1 8 (by decide) (by decide) (by decide)
      have j36 := hdj 3 6 (by decide) (by decide) (by decide)
      have j37 := hdj 3 7 (by decide) (by decide) (by decide)
      have j38 := hdj 3 8 (by decide) (by decide) (by decide)
      have j56 := hdj 5 6 (by decide) (by decide) (by decide)
      have j57 := hdj 5 7 (by decide) (by decide) (by decide)
      have j58 := hdj 5 8 (by decide) (by decide) (by decide)
      have j13 := hdj 1 3 (by decide) (by decide) (by decide)
      have j15 := hdj 1 5 (by decide) (by decide) (by decide)
      have j35 := hdj 3 5 (by decide) (by decide) (by decide)
      have gg := And.intro (ne_win ga1 ga2 gb1 gb2 j67) (And.intro (ne_win ga1 ga2 gd1 gd2 j68) (ne_win gb1 gb2 gd1 gd2 j78))
      have oa := And.intro (out_win ga1 ga2 j16) (And.intro (out_win ga1 ga2 j36) (out_win ga1 ga2 j56))
      have ob := And.intro (out_win gb1 gb2 j17) (And.intro (out_win gb1 gb2 j37) (out_win gb1 gb2 j57))
      have od := And.intro (out_win gd1 gd2 j18) (And.intro (out_win gd1 gd2 j38) (out_win gd1 gd2 j58))
      have hlow6 := And.intro (Nat.le_trans p1 ga1) (And.intro (Nat.le_trans q1 gb1) (And.intro (Nat.le_trans r1 gd1) (And.intro a1 (And.intro b1 d1))))
      clear j67 j68 j78 j16 j36 j56 j17 j37 j57 j18 j38 j58 hdj p1 p2 q1 q2 r1 r2
      replace ea : u1 = _ := ea
      replace eb : u3 = _ := eb
      replace ed : u5 = _ := ed
      replace ea' : u6 = _ := ea'
      replace eb' : u7 = _ := eb'
      replace ed' : u8 = _ := ed'
      obtain ⟨f6, f7, f8, f36, f38, f40⟩ := frameA T0 hsz u4 u1 u4 u3 u4 u5 u6 u7 u8
      replace f6 := f6.trans (congrArg some ea')
      replace f7 := f7.trans (congrArg some eb')
      replace f8 := f8.trans (congrArg some ed')
      replace f36 := f36.trans (congrArg some ea)
      replace f38 := f38.trans (congrArg some eb)
      replace f40 := f40.trans (congrArg some ed)
      have t6 := getD_frame6 f6
      have t7 := getD_frame6 f7
      have t8 := getD_frame6 f8
      have t36 := getD_frame6 f36
      have t38 := getD_frame6 f38
      have t40 := getD_frame6 f40
      obtain ⟨o9, h9⟩ : ∃ o, (opsOfA 6)[9]? = some o := ⟨_, Array.getElem?_eq_getElem (by omega)⟩
      obtain ⟨o10, h10⟩ : ∃ o, (opsOfA 6)[10]? = some o := ⟨_, Array.getElem?_eq_getElem (by omega)⟩
      obtain ⟨o11, h11⟩ : ∃ o, (opsOfA 6)[11]? = some o := ⟨_, Array.getElem?_eq_getElem (by omega)⟩
      rw [show ([35, 36, 37, 38, 39, 40, 6, 7, 8] : List Nat).length = 9 from rfl]
      refine wpList_step h9 (guA9 h9) ?_
      refine al_store (st := s.st) (cl := s.cl) (tr := s.tr) (I := Ia) (T := Ta) (n := s.init.length) (c := ca) (M := s.thr.length) (c' := cta) 6 36 ga (opA9 h9) ?_ ?_ ga3 ?_
      · dsimp only
        exact t6
      · dsimp only
        exact t36
      rw [dsA9 h9]
      dsimp only [Act.put]
      obtain ⟨wA, hwA⟩ : ∃ wA, wA = ((((w.setCell ⟨ga, 0, none⟩ (.int .i64 s.st)).setCell ⟨ga, 1, none⟩ (.int .i64 s.cl)).setCell ⟨ga, 2, none⟩ (.int .i64 s.tr)).setCell ⟨ga, 3, none⟩ (.slice Ia s.init.length ca)).setCell ⟨ga, 4, none⟩ (.slice Ta s.thr.length cta) := ⟨_, rfl⟩
      obtain ⟨kA1, kA2, kA3, kA4⟩ := set_box hwA ga3
      rw [← hwA]
      refine wpList_step h10 (guA10 h10) ?_
      refine al_store (st := s.st) (cl := s.cl) (tr := s.tr) (I := Ib) (T := Tb) (n := s.init.length) (c := cb) (M := s.thr.length) (c' := ctb) 7 38 gb (opA10 h10) ?_ ?_ ((kA2 gb gg.1.symm).trans gb3) ?_
      · dsimp only
        exact t7
      · dsimp only
        exact t38
      rw [dsA10 h10]
      dsimp only [Act.put]
      obtain ⟨wB, hwB⟩ : ∃ wB, wB = ((((wA.setCell ⟨gb, 0, none⟩ (.int .i64 s.st)).setCell ⟨gb, 1, none⟩ (.int .i64 s.cl)).setCell ⟨gb, 2, none⟩ (.int .i64 s.tr)).setCell ⟨gb, 3, none⟩ (.slice Ib s.init.length cb)).setCell ⟨gb, 4, none⟩ (.slice Tb s.thr.length ctb) := ⟨_, rfl⟩
      obtain ⟨kB1, kB2, kB3, kB4⟩ := set_box hwB ((kA2 gb gg.1.symm).trans gb3)
      rw [← hwB]
      refine wpList_step h11 (guA11 h11) ?_
      refine al_store (st := s.st) (cl := s.cl) (tr := s.tr) (I := Id) (T := Td) (n := s.init.length) (c := cd) (M := s.thr.length) (c' := ctd) 8 40 gd (opA11 h11) ?_ ?_ ((kB2 gd gg.2.2.symm).trans ((kA2 gd gg.2.1.symm).trans gd3)) ?_
      · dsimp only
        exact t8
      · dsimp only
        exact t40
      rw [dsA11 h11]
      dsimp only [Act.put]
      obtain ⟨wD, hwD⟩ : ∃ wD, wD = ((((wB.setCell ⟨gd, 0, none⟩ (.int .i64 s.st)).setCell ⟨gd, 1, none⟩ (.int .i64 s.cl)).setCell ⟨gd, 2, none⟩ (.int .i64 s.tr)).setCell ⟨gd, 3, none⟩ (.slice Id s.init.length cd)).setCell ⟨gd, 4, none⟩ (.slice Td s.thr.length ctd) := ⟨_, rfl⟩
      obtain ⟨kD1, kD2, kD3, kD4⟩ := set_box hwD ((kB2 gd gg.2.2.symm).trans ((kA2 gd gg.2.1.symm).trans gd3))
      rw [← hwD, show (opsOfA 6).toList.drop (11 + 1) = [] from List.drop_eq_nil_of_le (by simp [hos])]
      have hkk : ∀ b, b ≠ ga → b ≠ gb → b ≠ gd → wD.heap[b]? = w.heap[b]? := fun b h1 h2 h3 => (kD2 b h3).trans ((kB2 b h2).trans (kA2 b h1))
      have hag : ∀ x y, y ≤ w.heap.size → ¬ (x ≤ ga ∧ ga < y) → ¬ (x ≤ gb ∧ gb < y) → ¬ (x ≤ gd ∧ gd < y) → Agree x y w wD := fun x y hy n1 n2 n3 => ⟨by rw [kD3, kB3, kA3]; exact hy, fun b x1 x2 => hkk b (by rintro rfl; exact n1 ⟨x1, x2⟩) (by rintro rfl; exact n2 ⟨x1, x2⟩) (by rintro rfl; exact n3 ⟨x1, x2⟩)⟩
      have hres := hend ga gb gd (lo' 1) (hi' 1) ma (lo' 3) (hi' 3) mb (lo' 5) (hi' 5) md Ia ca Ta cta Ib cb Tb ctb Id cd Td ctd wa wb wd wD
        { low := kD4 _ (kB4 _ (kA4 _ hlow hlow6.1) hlow6.2.1) hlow6.2.2.1
          ba := (kD2 ga gg.2.1).trans ((kB2 ga gg.1).trans kA1)
          bb := (kD2 gb gg.2.2).trans kB1
          bd := kD1
          a := La
          aw := Aa.trans (hag _ _ a3 oa.1 ob.1 od.1)
          b := Lb
          bw := Ab.trans (hag _ _ b3 oa.2.1 ob.2.1 od.2.1)
          d := Ld
          dw := Ad.trans (hag _ _ d3 oa.2.2 ob.2.2 od.2.2)
          lo := hlow6
          gg := gg
          ga := oa
          gb := ob
          gd := od
          ab := j13
          ad := j15
          bd2 := j35 } u1 u3 u5 ea eb ed
      rw [← hv0, ← ea', ← eb', ← ed'] at hres
      rw [wpList]
      exact hres
end Go.Proofs.YtnkdaehmdcpafaaDoor
