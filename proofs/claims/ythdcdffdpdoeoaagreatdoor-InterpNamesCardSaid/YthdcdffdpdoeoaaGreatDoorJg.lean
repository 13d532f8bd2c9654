/-
  A MACHINE AS IT LIES (layer 9): its cells, its stack, its buffer, and what of it is never changed; what keeps it. No condition.
-/
import Derived.Test.YthdcdffdpdoeoaaGreatDoorJe
import Derived.Test.YthdcdffdpdoeoaaGreatDoorJf
import Derived.Test.YthdcdffdpdoeoaaGreatDoorZp
namespace Go.Proofs.YthdcdffdpdoeoaaGreatDoor
set_option maxRecDepth 100000
open Go.RowKit
set_option linter.unusedVariables false
theorem SKc.keep {w w' : World} {lo hi : Nat} (hk : ∀ p : Addr, lo ≤ p.block → p.block < hi → w'.cell? p = w.cell? p) {d : Nat} {A : Option Addr} {l : List St} (h : SKc w lo hi d A l) : SKc w' lo hi d A l := fun j hj => by
  obtain ⟨p, q, e1, m1, m2, t1, s1⟩ := h j hj
  exact ⟨p, q, e1, m1, m2, t1.keep (fun z hz => hk z (by rw [hz, ad_block]; exact m1) (by rw [hz, ad_block]; exact m2)), s1.keep hk d⟩
/-- How things were at an OrElse, as it lies. -/
structure Kx where
  (b : Nat) (l : List Int) (els : List St) (EA : Option Addr) (ec : Nat)
/-- A block, as it lies. -/
structure Fx where
  (rest : List St) (RA : Option Addr) (rc : Nat) (body : List St) (BA : Option Addr) (bc : Nat) (turns : Nat) (kept : Option Kx)
def Fx.pl (f : Fx) : Fr9 := ⟨f.rest, f.body, f.turns, f.kept.map fun k => (k.l, k.els)⟩
def Fx.kp (f : Fx) : Option Addr := f.kept.map fun k => ⟨k.b, 0, none⟩
def Fx.cells (f : Fx) : List Value := [.slice f.RA f.rest.length f.rc, .slice f.BA f.body.length f.bc, .int .i64 f.turns, .pointer f.kp]
def plF (L : List Fx) : List Fr9 := L.reverse.map Fx.pl
theorem plF_snoc (L : List Fx) (f : Fx) : plF (L ++ [f]) = f.pl :: plF L := by simp [plF]
/-- What does not change of a machine: where it is, over how many variables, what was returned, its buffer; the blocks of its transaction, and how deep it is. -/
structure Ev9 where
  (q : Nat) (vars : Int) (got : List Int) (G : Option Addr) (gc bq lo hi D : Nat)
def mCells (E : Ev9) (l : List Int) (A : Option Addr) (k c n : Nat) : Array Value := List.toArray (([Value.int .i64 E.vars, .slice E.G E.got.length E.gc] ++ l.map (Value.int .i64)) ++ [Value.pointer (some ⟨E.bq, 0, none⟩), .slice A k c, .int .i64 n])
structure KxAt (w : World) (lo hi D : Nat) (I : Nat → Prop) (k : Kx) : Prop where
  inI : I k.b
  obj : w.heap[k.b]? = some (.cells (List.toArray (k.l.map (Value.int .i64) ++ [Value.slice k.EA k.els.length k.ec])) 117 (0, 0))
  els : SKc w lo hi D k.EA k.els
  cap : k.els.length ≤ k.ec
  len : k.l.length = 8
  wf : ∀ x ∈ k.l, wfI x
  small : k.els.length ≤ 9223372036854775807
structure FxAt (w : World) (lo hi D : Nat) (I : Nat → Prop) (f : Fx) : Prop where
  rest : SKc w lo hi D f.RA f.rest
  rcap : f.rest.length ≤ f.rc
  body : SKc w lo hi D f.BA f.body
  bcap : f.body.length ≤ f.bc
  turns : f.turns ≤ 8
  rlen : f.rest.length ≤ 9223372036854775807
  blen : f.body.length ≤ 9223372036854775807
  kept : ∀ k, f.kept = some k → KxAt w lo hi D I k
theorem KxAt.keep {w w' : World} {lo hi D : Nat} {I : Nat → Prop} {k : Kx} (h : KxAt w lo hi D I k) (hw : ∀ b, lo ≤ b → b < hi → I b) (hk : ∀ b, I b → w'.heap[b]? = w.heap[b]?) : KxAt w' lo hi D I k :=
  ⟨h.inI, (hk _ h.inI).trans h.obj, h.els.keep fun p p1 p2 => World.cell?_of_block (hk _ (hw _ p1 p2)), h.cap, h.len, h.wf, h.small⟩
theorem FxAt.keep {w w' : World} {lo hi D : Nat} {I : Nat → Prop} {f : Fx} (h : FxAt w lo hi D I f) (hw : ∀ b, lo ≤ b → b < hi → I b) (hk : ∀ b, I b → w'.heap[b]? = w.heap[b]?) : FxAt w' lo hi D I f :=
  ⟨h.rest.keep fun p p1 p2 => World.cell?_of_block (hk _ (hw _ p1 p2)), h.rcap, h.body.keep fun p p1 p2 => World.cell?_of_block (hk _ (hw _ p1 p2)), h.bcap, h.turns, h.rlen, h.blen, fun k e => (h.kept k e).keep hw hk⟩
theorem KxAt.more {w : World} {lo hi D : Nat} {I I' : Nat → Prop} {k : Kx} (h : KxAt w lo hi D I k) (hi' : ∀ b, I b → I' b) : KxAt w lo hi D I' k := ⟨hi' _ h.inI, h.obj, h.els, h.cap, h.len, h.wf, h.small⟩
theorem FxAt.more {w : World} {lo hi D : Nat} {I I' : Nat → Prop} {f : Fx} (h : FxAt w lo hi D I f) (hi' : ∀ b, I b → I' b) : FxAt w lo hi D I' f := ⟨h.rest, h.rcap, h.body, h.bcap, h.turns, h.rlen, h.blen, fun k e => (h.kept k e).more hi'⟩
/-- A machine: locals l, the stack L (the innermost block last), the buffer's levels T, so many steps; A, c: where the stack lies; S: all its blocks; SB: those of the buffer; I: those that are never changed. -/
structure RMat (E : Ev9) (w : World) (l : List Int) (L : List Fx) (T : List (List Pr)) (n : Nat) (A : Option Addr) (c : Nat) (S SB I : Nat → Prop) : Prop where
  obj : w.heap[E.q]? = some (.cells (mCells E l A L.length c n) 63 (0, 0))
  row : w.ownsRow 0 66 4 (.slice A L.length c) L.length (L.flatMap Fx.cells)
  rowS : ∀ p, A = some p → S p.block ∧ ¬ SB p.block ∧ ¬ I p.block
  buf : RB w E.bq SB T
  bufS : ∀ b, SB b → S b ∧ ¬ I b ∧ b ≠ E.q
  qS : S E.q
  qI : ¬ I E.q
  IS : ∀ b, I b → S b
  win : ∀ b, E.lo ≤ b → b < E.hi → I b
  hiw : E.hi ≤ w.heap.size
  got : ∀ k (h : k < E.got.length), ∃ a, E.G = some a ∧ I a.block ∧ w.cell? (a.add k) = some (.int .i64 E.got[k])
  gl : E.got.length ≤ 1000
  gwf : ∀ x ∈ E.got, wfI x
  len : l.length = 8
  wf : ∀ x ∈ l, wfI x
  fr : ∀ f ∈ L, FxAt w E.lo E.hi E.D I f
  deep : ∃ d, Deep9 d (plF L)
  lev : T.length ≤ 20
  flat : (flatB T).length ≤ n
  v1 : 1 ≤ E.vars
  v2 : E.vars ≤ 32
  lt : ∀ b, S b → b < w.heap.size
def RM (E : Ev9) (w : World) (l : List Int) (L : List Fx) (T : List (List Pr)) (n : Nat) (S : Nat → Prop) : Prop := ∃ A c SB I, RMat E w l L T n A c S SB I
/-- From one world to another: what of a machine's blocks, and of new ones, is its own then; nothing else was changed, nor its transaction. -/
structure Tr (E : Ev9) (w : World) (S : Nat → Prop) (w' : World) (S' : Nat → Prop) : Prop where
  own : ∀ b, S' b → S b ∨ w.heap.size ≤ b
  fro : Fro S w w'
  win : ∀ b, E.lo ≤ b → b < E.hi → w'.heap[b]? = w.heap[b]?
theorem Tr.refl (E : Ev9) (w : World) (S : Nat → Prop) : Tr E w S w S := ⟨fun b h => .inl h, Fro.refl _ _, fun _ _ _ => rfl⟩
theorem Tr.trans {E : Ev9} {w w1 w2 : World} {S S1 S2 : Nat → Prop} (h : Tr E w S w1 S1) (k : Tr E w1 S1 w2 S2) : Tr E w S w2 S2 :=
  ⟨fun b hb => by
    rcases k.own b hb with e | e
    · exact h.own b e
    · exact .inr (Nat.le_trans h.fro.size e), h.fro.trans k.fro h.own, fun b b1 b2 => (k.win b b1 b2).trans (h.win b b1 b2)⟩
theorem Tr.below {E : Ev9} {w w' : World} {S : Nat → Prop} (h : Below w.heap.size w w') (hh : E.hi ≤ w.heap.size) : Tr E w S w' S := ⟨fun b h => .inl h, Fro.of_below h (Nat.le_refl _), fun b b1 b2 => h.block b (by omega)⟩
theorem Tr.skc {E : Ev9} {w w' : World} {S S' : Nat → Prop} (h : Tr E w S w' S') {d : Nat} {A : Option Addr} {l : List St} (k : SKc w E.lo E.hi d A l) : SKc w' E.lo E.hi d A l := k.keep fun p p1 p2 => World.cell?_of_block (h.win _ p1 p2)
theorem Tr.sac {E : Ev9} {w w' : World} {S S' : Nat → Prop} (h : Tr E w S w' S') {d : Nat} {r : Raw} {s : St} (k : SAc w E.lo E.hi d r s) : SAc w' E.lo E.hi d r s := k.keep (fun p p1 p2 => World.cell?_of_block (h.win _ p1 p2)) d
section
variable {E : Ev9} {w w' : World} {l : List Int} {L : List Fx} {T : List (List Pr)} {n : Nat} {A : Option Addr} {c : Nat} {S S2 SB I : Nat → Prop}
/-- What is of the same blocks is the same machine. -/
theorem RMat.same (h : RMat E w l L T n A c S SB I) (hk : ∀ b, S b → w'.heap[b]? = w.heap[b]?) (hs : w.heap.size ≤ w'.heap.size) : RMat E w' l L T n A c S SB I where
  obj := (hk _ h.qS).trans h.obj
  row := ownsRow_of_block h.row fun p e => hk _ (h.rowS p e).1
  rowS := h.rowS
  buf := by
    obtain ⟨p0, top, A', c', L', hb, e⟩ := h.buf
    exact ⟨p0, top, A', c', L', hb.frame (fun _ h => h) (fun b hb' => hk b (h.bufS b hb').1) (fun b hb' => Nat.lt_of_lt_of_le (hb.lt b hb') hs), e⟩
  bufS := h.bufS
  qS := h.qS
  qI := h.qI
  IS := h.IS
  win := h.win
  hiw := Nat.le_trans h.hiw hs
  got := fun k hk' => by
    obtain ⟨a, e, i, c⟩ := h.got k hk'
    exact ⟨a, e, i, (World.cell?_of_block (a := a.add k) (by rw [ad_block]; exact hk _ (h.IS _ i))).trans c⟩
  gl := h.gl
  gwf := h.gwf
  len := h.len
  wf := h.wf
  fr := fun f hf => (h.fr f hf).keep h.win fun b hb => hk b (h.IS b hb)
  deep := h.deep
  lev := h.lev
  flat := h.flat
  v1 := h.v1
  v2 := h.v2
  lt := fun b hb => Nat.lt_of_lt_of_le (h.lt b hb) hs
theorem RMat.below (h : RMat E w l L T n A c S SB I) (hb : Below w.heap.size w w') : RMat E w' l L T n A c S SB I := h.same (fun b hs => hb.block b (h.lt b hs)) hb.size
theorem RMat.fro (h : RMat E w l L T n A c S SB I) (f : Fro S2 w w') (hS : ∀ b, S b → ¬ S2 b) : RMat E w' l L T n A c S SB I := h.same (fun b hs => f.block b (h.lt b hs) (hS b hs)) f.size
theorem mc_eight {l : List Int} (h : l.length = 8) : ∃ a b c d e f g i : Int, l = [a, b, c, d, e, f, g, i] := by
  match l, h with
  | [a, b, c, d, e, f, g, i], _ => exact ⟨a, b, c, d, e, f, g, i, rfl⟩
theorem mc_set11 (E : Ev9) {l : List Int} (h : l.length = 8) (A A' : Option Addr) (k c n k' c' : Nat) : (mCells E l A k c n).setIfInBounds 11 (.slice A' k' c') = mCells E l A' k' c' n := by
  obtain ⟨a0, a1, a2, a3, a4, a5, a6, a7, rfl⟩ := mc_eight h
  rfl
theorem mc_set12 (E : Ev9) {l : List Int} (h : l.length = 8) (A : Option Addr) (k c n n' : Nat) : (mCells E l A k c n).setIfInBounds 12 (.int .i64 n') = mCells E l A k c n' := by
  obtain ⟨a0, a1, a2, a3, a4, a5, a6, a7, rfl⟩ := mc_eight h
  rfl
theorem mc_setl (E : Ev9) {l : List Int} (h : l.length = 8) (A : Option Addr) (k c n i : Nat) (hi : i < 8) (x : Int) : (mCells E l A k c n).setIfInBounds (2 + i) (.int .i64 x) = mCells E (l.set i x) A k c n := by
  obtain ⟨a0, a1, a2, a3, a4, a5, a6, a7, rfl⟩ := mc_eight h
  have h8 : i = 0 ∨ i = 1 ∨ i = 2 ∨ i = 3 ∨ i = 4 ∨ i = 5 ∨ i = 6 ∨ i = 7 := by omega
  rcases h8 with rfl | rfl | rfl | rfl | rfl | rfl | rfl | rfl <;> rfl
theorem mc_getl (E : Ev9) {l : List Int} (h : l.length = 8) (A : Option Addr) (k c n i : Nat) (hi : i < l.length) : (mCells E l A k c n)[2 + i]? = some (.int .i64 l[i]) := by
  obtain ⟨a0, a1, a2, a3, a4, a5, a6, a7, rfl⟩ := mc_eight h
  have h8 : i = 0 ∨ i = 1 ∨ i = 2 ∨ i = 3 ∨ i = 4 ∨ i = 5 ∨ i = 6 ∨ i = 7 := by omega
  rcases h8 with rfl | rfl | rfl | rfl | rfl | rfl | rfl | rfl <;> rfl
theorem RMat.cell (h : RMat E w l L T n A c S SB I) (i : Nat) : w.cell? ⟨E.q, i, none⟩ = (mCells E l A L.length c n)[i]? := by
  simp [World.cell?, h.obj]
theorem RMat.c0 (h : RMat E w l L T n A c S SB I) : w.cell? ⟨E.q, 0, none⟩ = some (.int .i64 E.vars) := h.cell 0
theorem RMat.c1 (h : RMat E w l L T n A c S SB I) : w.cell? ⟨E.q, 1, none⟩ = some (.slice E.G E.got.length E.gc) := h.cell 1
theorem RMat.cl (h : RMat E w l L T n A c S SB I) (i : Nat) (hi : i < l.length) : w.cell? ⟨E.q, 2 + i, none⟩ = some (.int .i64 l[i]) := (h.cell (2 + i)).trans (mc_getl E h.len _ _ _ _ i hi)
theorem RMat.c10 (h : RMat E w l L T n A c S SB I) : w.cell? ⟨E.q, 10, none⟩ = some (.pointer (some ⟨E.bq, 0, none⟩)) := by
  rw [h.cell]
  obtain ⟨a0, a1, a2, a3, a4, a5, a6, a7, rfl⟩ := mc_eight h.len
  rfl
theorem RMat.c11 (h : RMat E w l L T n A c S SB I) : w.cell? ⟨E.q, 11, none⟩ = some (.slice A L.length c) := by
  rw [h.cell]
  obtain ⟨a0, a1, a2, a3, a4, a5, a6, a7, rfl⟩ := mc_eight h.len
  rfl
theorem RMat.c12 (h : RMat E w l L T n A c S SB I) : w.cell? ⟨E.q, 12, none⟩ = some (.int .i64 n) := by
  rw [h.cell]
  obtain ⟨a0, a1, a2, a3, a4, a5, a6, a7, rfl⟩ := mc_eight h.len
  rfl
theorem RMat.fz (h : RMat E w l L T n A c S SB I) (i : Nat) : w.frozen? ⟨E.q, i, none⟩ = false := by
  simp [World.frozen?, h.obj]
theorem RMat.ints (h : RMat E w l L T n A c S SB I) : Ints w w.heap.size (some ⟨E.q, 2, none⟩) l := ⟨by rw [h.len]; omega, fun k hk => ⟨_, rfl, h.lt _ h.qS, by rw [show (⟨E.q, 2, none⟩ : Addr).add k = ⟨E.q, 2 + k, none⟩ from by simp [Addr.add]]; exact h.cl k hk⟩⟩
theorem RMat.gots (h : RMat E w l L T n A c S SB I) : Ints w w.heap.size E.G E.got := ⟨by have := h.gl; omega, fun k hk => by
  obtain ⟨a, e, i, c⟩ := h.got k hk
  exact ⟨a, e, h.lt _ (h.IS _ i), c⟩⟩
theorem RMat.frames (h : RMat E w l L T n A c S SB I) : L.length ≤ 7 := by
  obtain ⟨d, hd⟩ := h.deep
  have := deep_len hd
  simp [plF] at this
  omega
end
end Go.Proofs.YthdcdffdpdoeoaaGreatDoor
