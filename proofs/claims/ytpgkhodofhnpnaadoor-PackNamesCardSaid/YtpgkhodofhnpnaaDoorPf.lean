/-
  LAYER 7's READER: a statement that is read letter by letter: how things are behind some letters; what a letter changes. Conditions: as they stand.
-/
import Derived.Test.YtpgkhodofhnpnaaDoorPd
import Derived.Test.YtpgkhodofhnpnaaDoorPe
import Derived.Test.YtpgkhodofhnpnaaDoorZc
import Derived.Lib.OthersKept
import Derived.WalkSmall
namespace Go.Proofs.YtpgkhodofhnpnaaDoor
set_option maxRecDepth 100000
open Go.RowKit
set_option linter.unusedVariables false
/-- The texts of what stands behind each Kind, as they lie. -/
def Pt (w : World) : Prop := ∀ k, k < 9 → w.cell? ⟨0, k, none⟩ = some (.string (bs (letters k)))
theorem Pt.pos {w : World} (h : Pt w) : 0 < w.heap.size := there_blk (h 0 (by omega))
/-- The table is neither of a reader's blocks. -/
structure Tab (w : World) (q g : Nat) : Prop where
  pt : Pt w
  nq : 0 ≠ q
  ng : 0 ≠ g
theorem Tab.kp {w w' : World} {q g : Nat} (h : Tab w q g) (k : Kp g (some q) w w') : Tab w' q g :=
  ⟨fun j hj => (World.cell?_of_block (a := ⟨0, j, none⟩) (k.block _ h.pt.pos h.ng (by simpa using h.nq))).trans (h.pt j hj), h.nq, h.ng⟩
/-- Only block E has changed. -/
structure Set1 (E : Nat) (w w' : World) : Prop where
  os : w'.os = w.os
  tape : w'.tape = w.tape
  output : w'.output = w.output
  size : w'.heap.size = w.heap.size
  block : ∀ b, b ≠ E → w'.heap[b]? = w.heap[b]?
theorem Set1.set (E i : Nat) (w : World) (u : Value) : Set1 E w (w.setCell ⟨E, i, none⟩ u) := ⟨rfl, rfl, rfl, by simp, fun b hb => Below.heap_setCell w ⟨E, i, none⟩ u b hb⟩
theorem Set1.trans {E : Nat} {a b c : World} (h : Set1 E a b) (k : Set1 E b c) : Set1 E a c := ⟨k.os.trans h.os, k.tape.trans h.tape, k.output.trans h.output, k.size.trans h.size, fun i hi => (k.block i hi).trans (h.block i hi)⟩
theorem Set1.iter (E : Nat) (w : World) (txt : ByteArray) (pos : Nat) : Set1 E w (w.iterAt E txt pos) := ⟨rfl, rfl, rfl, Lib.iterAt_size _ _ _ _, fun b hb => Lib.iterAt_other w E b txt pos hb⟩
theorem Set1.kp {E g : Nat} {o : Option Nat} {w0 w w' : World} (h : Set1 E w w') (k : Kp g o w0 w) (hE : w0.heap.size ≤ E) : Kp g o w0 w' :=
  ⟨h.os.trans k.os, h.tape.trans k.tape, h.output.trans k.output, by rw [h.size]; exact k.size, fun i hi hg ho => (h.block i (by omega)).trans (k.block i hi hg ho)⟩
theorem PR.set {E : Nat} {w w' : World} {q g : Nat} {s : ByteArray} {a : Nat} {wr : Int} {n : Nat} (h : PR w q g s a wr n) (k : Set1 E w w') (hq : q ≠ E) (hg : g ≠ E) : PR w' q g s a wr n :=
  ⟨h.obj.same (k.block q hq), ⟨h.rd.1.same (k.block g hg), h.rd.2⟩⟩
def raw0 (k : Nat) : Raw := ⟨k, 0, 0, 0, none, 0, 0, 0, 0, none, 0, 0, none, 0, 0, none, 0, 0⟩
/-- How things are behind some letters. -/
structure LS (w : World) (q g : Nat) (s : ByteArray) (E D : Nat) (txt : ByteArray) (pos a : Nat) (W : Int) (n : Nat) (r : Raw) (x : St) (wr : World) : Prop where
  pr : PR wr q g s a W n
  kp : Kp g (some q) w wr
  res : Obj wr w.heap.size 33 #[.int .u8 0, .int .i64 0, .int .u8 0, .int .i64 0, .slice none 0 0, .int .u8 0, .int .i64 0, .slice none 0 0, .slice none 0 0, .slice none 0 0]
  box : Obj wr E 33 r.cells.toArray
  it : wr.heap[E + 1]? = some (.stringIter txt pos)
  at_ : SAt wr (E + 2) wr.heap.size D r x
  lt : w.heap.size < E
  gq : g < w.heap.size ∧ q < w.heap.size
  sz : E + 2 ≤ wr.heap.size
theorem SAt.mem {w w' : World} {lo hi hi' D : Nat} {r : Raw} {x : St} (h : SAt w lo hi D r x) (hk : ∀ b, lo ≤ b → b < hi → w'.heap[b]? = w.heap[b]?) (hh : hi ≤ hi') : SAt w' lo hi' D r x :=
  (h.keep (w' := w') (fun p h1 h2 => World.cell?_of_block (hk p.block h1 h2)) D).wide (Nat.le_refl _) hh D
theorem LS.next {w : World} {q g : Nat} {s : ByteArray} {E D : Nat} {txt : ByteArray} {pos a : Nat} {W : Int} {n : Nat} {r : Raw} {x : St} {wr : World} (h : LS w q g s E D txt pos a W n r x wr) : LS w q g s E D txt (pos + 1) a W n r x (wr.iterAt (E + 1) txt (pos + 1)) := by
  have k := Set1.iter (E + 1) wr txt (pos + 1)
  have h1 := h.lt
  have h2 := h.gq
  exact ⟨h.pr.set k (by omega) (by omega), k.kp h.kp (by omega), h.res.same (k.block _ (by omega)), h.box.same (k.block _ (by omega)), Lib.iterAt_heap wr (E + 1) txt pos (pos + 1) h.it, h.at_.mem (fun b hb _ => k.block b (by omega)) (by rw [k.size]; exact Nat.le_refl _), h1, h2, by rw [k.size]; exact h.sz⟩
theorem LS.call {w : World} {q g : Nat} {s : ByteArray} {E D : Nat} {txt : ByteArray} {pos a a' : Nat} {W W' : Int} {n n' : Nat} {r : Raw} {x : St} {wr w6 : World} (h : LS w q g s E D txt pos a W n r x wr) (hp : PR w6 q g s a' W' n') (k : Kp g (some q) wr w6) : LS w q g s E D txt pos a' W' n' r x w6 := by
  have h1 := h.lt
  have h2 := h.gq
  have hs := h.sz
  have hk : ∀ b, b < wr.heap.size → b ≠ g → b ≠ q → w6.heap[b]? = wr.heap[b]? := fun b hb hg hq => k.block b hb hg (by simpa using hq)
  exact ⟨hp, h.kp.trans2 k, h.res.same (hk _ h.res.lt (by omega) (by omega)), h.box.same (hk _ h.box.lt (by omega) (by omega)), (hk _ (by omega) (by omega) (by omega)).trans h.it, h.at_.mem (fun b hb hb2 => hk b hb2 (by omega) (by omega)) k.size, h1, h2, Nat.le_trans hs k.size⟩
theorem LS.put {w : World} {q g : Nat} {s : ByteArray} {E D : Nat} {txt : ByteArray} {pos a : Nat} {W : Int} {n : Nat} {r r' : Raw} {x x' : St} {wr w' : World} (h : LS w q g s E D txt pos a W n r x wr) (k : Set1 E wr w') (ho : Obj w' E 33 r'.cells.toArray) (ha : SAt wr (E + 2) wr.heap.size D r' x') : LS w q g s E D txt pos a W n r' x' w' := by
  have h1 := h.lt
  have h2 := h.gq
  exact ⟨h.pr.set k (by omega) (by omega), k.kp h.kp (by omega), h.res.same (k.block _ (by omega)), ho, (k.block _ (by omega)).trans h.it, ha.mem (fun b hb _ => k.block b (by omega)) (by rw [k.size]; exact Nat.le_refl _), h1, h2, by rw [k.size]; exact h.sz⟩
/-- To is set. -/
theorem LS.setT {w : World} {q g : Nat} {s : ByteArray} {E D : Nat} {txt : ByteArray} {pos a : Nat} {W : Int} {n : Nat} {r : Raw} {k : Nat} {t : Int} {xa xb : Ex} {y e : List St} {wr : World} (h : LS w q g s E D txt pos a W n r (.node k t xa xb y e) wr) (t' : Int) (h0 : -9223372036854775808 ≤ t') (h1 : t' < 9223372036854775808) :
    LS w q g s E D txt pos a W n { r with t := t' } (.node k t' xa xb y e) (wr.setCell ⟨E, 1, none⟩ (.int .i64 t')) := by
  refine h.put (Set1.set E 1 wr _) (h.box.store 1 _) ?_
  obtain ⟨D, rfl⟩ := h.at_.pos
  obtain ⟨⟨e1, e2, e3, e4⟩, ⟨q1, q2, q3, q4, q5⟩, ha, hb, hy, he⟩ := h.at_
  exact ⟨⟨e1, rfl, e3, e4⟩, ⟨q1, h0, h1, q4, q5⟩, ha, hb, hy, he⟩
theorem LS.setA {w : World} {q g : Nat} {s : ByteArray} {E D : Nat} {txt : ByteArray} {pos a : Nat} {W : Int} {n : Nat} {r : Raw} {k : Nat} {t : Int} {xa xb : Ex} {y e : List St} {wr : World} (h : LS w q g s E (D + 1) txt pos a W n r (.node k t xa xb y e) wr) {o l c : Nat} {m : Int} {A : Option Addr} {z : Ex} (hz : At wr (E + 2) wr.heap.size D (.agg #[.int .u8 o, .int .i64 m, .slice A l c]) z) :
    LS w q g s E (D + 1) txt pos a W n { r with ao := o, an := m, aA := A, al := l, ac := c } (.node k t z xb y e) (((wr.setCell ⟨E, 2, none⟩ (.int .u8 o)).setCell ⟨E, 3, none⟩ (.int .i64 m)).setCell ⟨E, 4, none⟩ (.slice A l c)) := by
  refine h.put (((Set1.set E 2 wr _).trans (Set1.set E 3 _ _)).trans (Set1.set E 4 _ _)) (((h.box.store 2 _).store 3 _).store 4 _) ?_
  obtain ⟨⟨e1, e2, e3, e4⟩, hq, ha, hb, hy, he⟩ := h.at_
  exact ⟨⟨e1, e2, e3, e4⟩, hq, hz, hb, hy, he⟩
theorem LS.setB {w : World} {q g : Nat} {s : ByteArray} {E D : Nat} {txt : ByteArray} {pos a : Nat} {W : Int} {n : Nat} {r : Raw} {k : Nat} {t : Int} {xa xb : Ex} {y e : List St} {wr : World} (h : LS w q g s E (D + 1) txt pos a W n r (.node k t xa xb y e) wr) {o l c : Nat} {m : Int} {A : Option Addr} {z : Ex} (hz : At wr (E + 2) wr.heap.size D (.agg #[.int .u8 o, .int .i64 m, .slice A l c]) z) :
    LS w q g s E (D + 1) txt pos a W n { r with bo := o, bn := m, bA := A, bl := l, bc := c } (.node k t xa z y e) (((wr.setCell ⟨E, 5, none⟩ (.int .u8 o)).setCell ⟨E, 6, none⟩ (.int .i64 m)).setCell ⟨E, 7, none⟩ (.slice A l c)) := by
  refine h.put (((Set1.set E 5 wr _).trans (Set1.set E 6 _ _)).trans (Set1.set E 7 _ _)) (((h.box.store 5 _).store 6 _).store 7 _) ?_
  obtain ⟨⟨e1, e2, e3, e4⟩, hq, ha, hb, hy, he⟩ := h.at_
  exact ⟨⟨e1, e2, e3, e4⟩, hq, ha, hz, hy, he⟩
theorem LS.setY {w : World} {q g : Nat} {s : ByteArray} {E D : Nat} {txt : ByteArray} {pos a : Nat} {W : Int} {n : Nat} {r : Raw} {k : Nat} {t : Int} {xa xb : Ex} {y e : List St} {wr : World} (h : LS w q g s E (D + 1) txt pos a W n r (.node k t xa xb y e) wr) {c : Nat} {A : Option Addr} {z : List St} (hz : SKids wr (E + 2) wr.heap.size D A z) (hl : z.length ≤ 9223372036854775807) :
    LS w q g s E (D + 1) txt pos a W n { r with yA := A, yl := z.length, yc := c } (.node k t xa xb z e) (wr.setCell ⟨E, 8, none⟩ (.slice A z.length c)) := by
  refine h.put (Set1.set E 8 wr _) (h.box.store 8 _) ?_
  obtain ⟨⟨e1, e2, e3, e4⟩, ⟨q1, q2, q3, q4, q5⟩, ha, hb, hy, he⟩ := h.at_
  exact ⟨⟨e1, e2, rfl, e4⟩, ⟨q1, q2, q3, hl, q5⟩, ha, hb, hz, he⟩
theorem LS.setE {w : World} {q g : Nat} {s : ByteArray} {E D : Nat} {txt : ByteArray} {pos a : Nat} {W : Int} {n : Nat} {r : Raw} {k : Nat} {t : Int} {xa xb : Ex} {y e : List St} {wr : World} (h : LS w q g s E (D + 1) txt pos a W n r (.node k t xa xb y e) wr) {c : Nat} {A : Option Addr} {z : List St} (hz : SKids wr (E + 2) wr.heap.size D A z) (hl : z.length ≤ 9223372036854775807) :
    LS w q g s E (D + 1) txt pos a W n { r with eA := A, el := z.length, ec := c } (.node k t xa xb y z) (wr.setCell ⟨E, 9, none⟩ (.slice A z.length c)) := by
  refine h.put (Set1.set E 9 wr _) (h.box.store 9 _) ?_
  obtain ⟨⟨e1, e2, e3, e4⟩, ⟨q1, q2, q3, q4, q5⟩, ha, hb, hy, he⟩ := h.at_
  exact ⟨⟨e1, e2, e3, rfl⟩, ⟨q1, q2, q3, q4, hl⟩, ha, hb, hy, hz⟩
end Go.Proofs.YtpgkhodofhnpnaaDoor
