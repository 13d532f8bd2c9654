/-
  WORDS FOR LAYER 2's MEMORY: a block that holds just these cells (an object), what a call leaves as it was, a writer with its bytes, a reader with its place; and the plain numbers that the calls tell. No condition.
-/
import Derived.Test.YtkfcglgikemefaaDoorVrz
import Derived.Lib.AppendStr
import Derived.Lib.Hide
import Derived.Deep.Draws
namespace Go.Proofs.YtkfcglgikemefaaDoor
set_option maxRecDepth 100000
open Go.RowKit
set_option linter.unusedVariables false

/-- Block g holds just these cells, none of them frozen. -/
def Obj (w : World) (g : Nat) (t : TypeId) (cs : Array Value) : Prop := w.heap[g]? = some (.cells cs t (0, 0))
theorem Obj.lt {w : World} {g : Nat} {t : TypeId} {cs : Array Value} (h : Obj w g t cs) : g < w.heap.size := lt_of_block h
theorem Obj.cell {w : World} {g : Nat} {t : TypeId} {cs : Array Value} (h : Obj w g t cs) (i : Nat) : w.cell? ⟨g, i, none⟩ = cs[i]? := by
  unfold Obj at h
  simp [World.cell?, h]
theorem Obj.free {w : World} {g : Nat} {t : TypeId} {cs : Array Value} (h : Obj w g t cs) (i : Nat) : w.frozen? ⟨g, i, none⟩ = false := by
  unfold Obj at h
  simp [World.frozen?, h]
theorem Obj.made (w : World) (t : TypeId) (cs : Array Value) : Obj (w.alloc (.cells cs t)) w.heap.size t cs := by
  show (w.heap.push _)[_]? = _
  simp
theorem Obj.same {w w' : World} {g : Nat} {t : TypeId} {cs : Array Value} (h : Obj w g t cs) (e : w'.heap[g]? = w.heap[g]?) : Obj w' g t cs := e.trans h
theorem Obj.store {w : World} {g : Nat} {t : TypeId} {cs : Array Value} (h : Obj w g t cs) (i : Nat) (u : Value) : Obj (w.setCell ⟨g, i, none⟩ u) g t (cs.setIfInBounds i u) := by
  have hl := h.lt
  unfold Obj at h
  have h' : w.heap[g] = .cells cs t (0, 0) := by simpa [Array.getElem?_eq_getElem hl] using h
  show (w.heap.modify g _)[g]? = _
  rw [Array.getElem?_eq_getElem (by simpa using hl), Array.getElem_modify_self, h']
  rfl
theorem Obj.unlike {w : World} {g g' : Nat} {t t' : TypeId} {cs cs' : Array Value} (h : Obj w g t cs) (h' : Obj w g' t' cs') (hn : t ≠ t') : g ≠ g' := by
  rintro rfl
  unfold Obj at h h'
  rw [h] at h'
  injection h' with h'
  injection h' with _ e
  exact hn e
theorem Obj.unlike_row {w : World} {g base size n : Nat} {t e : TypeId} {cs : Array Value} {v : Value} {xs : List Value} (h : Obj w g t cs) (hr : w.ownsRow base e size v n xs) (hn : t ≠ e) : v.ownBlock ≠ some g := by
  rcases hr.2 with ⟨rfl, _⟩ | ⟨r, cap, cur, rfl, _, hh, _⟩
  · intro h; cases h
  · intro he
    have : r = g := by simpa [Value.ownBlock] using he
    subst this
    exact Obj.unlike (w := w) h hh hn rfl

/-- All blocks but g, and but the one that o names, are as they were; the streams too; no block has gone. -/
structure Kp (g : Nat) (o : Option Nat) (w w' : World) : Prop where
  os : w'.os = w.os
  tape : w'.tape = w.tape
  output : w'.output = w.output
  size : w.heap.size ≤ w'.heap.size
  block : ∀ i, i < w.heap.size → i ≠ g → some i ≠ o → w'.heap[i]? = w.heap[i]?

/-- All blocks below B but g are as they were. -/
structure Fr (B g : Nat) (w w' : World) : Prop where
  os : w'.os = w.os
  tape : w'.tape = w.tape
  output : w'.output = w.output
  size : w.heap.size ≤ w'.heap.size
  block : ∀ i, i < w.heap.size → i ≠ g → i < B → w'.heap[i]? = w.heap[i]?
theorem Fr.refl (B g : Nat) (w : World) : Fr B g w w := ⟨rfl, rfl, rfl, Nat.le_refl _, fun _ _ _ _ => rfl⟩
theorem Fr.trans {B g : Nat} {a b c : World} (h : Fr B g a b) (k : Fr B g b c) : Fr B g a c :=
  ⟨k.os.trans h.os, k.tape.trans h.tape, k.output.trans h.output, Nat.le_trans h.size k.size, fun i hi hg hb => (k.block i (Nat.lt_of_lt_of_le hi h.size) hg hb).trans (h.block i hi hg hb)⟩
theorem Kp.fr {B g : Nat} {o : Option Nat} {w w' : World} (h : Kp g o w w') (ho : ∀ r, o = some r → B ≤ r) : Fr B g w w' :=
  ⟨h.os, h.tape, h.output, h.size, fun i hi hg hb => h.block i hi hg (fun e => by have := ho i e.symm; omega)⟩
theorem Kp.of_below {g : Nat} {o : Option Nat} {w w1 w' : World} (hb : Below w.heap.size w w1) (h : Kp g o w1 w') : Kp g o w w' :=
  ⟨h.os.trans hb.os, h.tape.trans hb.tape, h.output.trans hb.output, Nat.le_trans hb.size h.size, fun i hi hg ho => (h.block i (Nat.lt_of_lt_of_le hi hb.size) hg ho).trans (hb.block i hi)⟩
theorem Kp.then_below {g : Nat} {o : Option Nat} {w w1 w' : World} (h : Kp g o w w1) (hb : Below w1.heap.size w1 w') : Kp g o w w' :=
  ⟨hb.os.trans h.os, hb.tape.trans h.tape, hb.output.trans h.output, Nat.le_trans h.size hb.size, fun i hi hg ho => (hb.block i (Nat.lt_of_lt_of_le hi h.size)).trans (h.block i hi hg ho)⟩
theorem kp_below {g : Nat} {o : Option Nat} {w w' : World} (hb : Below w.heap.size w w') : Kp g o w w' :=
  ⟨hb.os, hb.tape, hb.output, hb.size, fun i hi _ _ => hb.block i hi⟩
theorem Kp.trans {g : Nat} {a b c : World} (h : Kp g none a b) (k : Kp g none b c) : Kp g none a c :=
  ⟨k.os.trans h.os, k.tape.trans h.tape, k.output.trans h.output, Nat.le_trans h.size k.size, fun i hi hg ho => (k.block i (Nat.lt_of_lt_of_le hi h.size) hg ho).trans (h.block i hi hg ho)⟩
theorem Fr.below {B0 B g : Nat} {w w' : World} (h : Fr B g w w') (h0 : B0 ≤ B) (hg : B0 ≤ g) (hw : B0 ≤ w.heap.size) : Below B0 w w' :=
  ⟨h.os, h.tape, h.output, h.size, fun i hi => h.block i (by omega) (by omega) (by omega)⟩
theorem Fr.mono {B B' g : Nat} {w w' : World} (h : Fr B g w w') (hb : B' ≤ B) : Fr B' g w w' :=
  ⟨h.os, h.tape, h.output, h.size, fun i hi hg hi' => h.block i hi hg (by omega)⟩
theorem Fr.of_below {B g : Nat} {w w' : World} (hb : Below w.heap.size w w') : Fr B g w w' :=
  ⟨hb.os, hb.tape, hb.output, hb.size, fun i hi _ _ => hb.block i hi⟩
theorem Obj.fr {B g i : Nat} {w w' : World} {t : TypeId} {cs : Array Value} (h : Obj w i t cs) (f : Fr B g w w') (hg : i ≠ g) (hi : i < B) : Obj w' i t cs := h.same (f.block i h.lt hg hi)
theorem Obj.kp {g i : Nat} {o : Option Nat} {w w' : World} {t : TypeId} {cs : Array Value} (h : Obj w i t cs) (f : Kp g o w w') (hg : i ≠ g) (ho : o ≠ some i) : Obj w' i t cs := h.same (f.block i h.lt hg (fun e => ho e.symm))
theorem Obj.below {B i : Nat} {w w' : World} {t : TypeId} {cs : Array Value} (h : Obj w i t cs) (f : Below B w w') (hi : i < B) : Obj w' i t cs := h.same (f.block i hi)

/-- The bytes as cells. -/
def bcells (l : List UInt8) : List Value := l.map fun b => Value.int .u8 b.toNat
theorem bcells_len (l : List UInt8) : (bcells l).length = l.length := by simp [bcells]
theorem bcells_append (l : List UInt8) (s : ByteArray) : bcells l ++ Lib.strCells s = bcells (l ++ s.data.toList) := by simp [bcells, Lib.strCells]

/-- At block g lies a writer of at most 'most' bytes that has the bytes l; v is its slice, which lies from B on. -/
def WrV (w : World) (B g : Nat) (most : Int) (l : List UInt8) (v : Value) : Prop :=
  Obj w g 85 #[.int .i64 most, v] ∧ w.ownsRow B 5 1 v l.length (bcells l) ∧ 0 ≤ most ∧ most ≤ 16777216 ∧ (l.length : Int) ≤ most
def Wr (w : World) (B g : Nat) (most : Int) (l : List UInt8) : Prop := ∃ v, WrV w B g most l v

theorem own_below {w w' : World} {base : Nat} {e : TypeId} {size n : Nat} {v : Value} {xs : List Value} (h : w.ownsRow base e size v n xs) (hs : ∀ r, v.ownBlock = some r → w'.heap[r]? = w.heap[r]?) : w'.ownsRow base e size v n xs := by
  obtain ⟨h1, h2⟩ := h
  refine ⟨h1, ?_⟩
  rcases h2 with h2 | ⟨g, cap, cur, hv, hg, hh, r⟩
  · exact Or.inl h2
  · subst hv
    exact Or.inr ⟨g, cap, cur, rfl, hg, (hs g rfl).trans hh, r⟩
theorem WrV.same {w w' : World} {B g : Nat} {most : Int} {l : List UInt8} {v : Value} (h : WrV w B g most l v) (hg : w'.heap[g]? = w.heap[g]?) (hs : ∀ r, v.ownBlock = some r → w'.heap[r]? = w.heap[r]?) : WrV w' B g most l v :=
  ⟨h.1.same hg, own_below h.2.1 hs, h.2.2⟩
theorem WrV.row_lt {w : World} {B g : Nat} {most : Int} {l : List UInt8} {v : Value} (h : WrV w B g most l v) : ∀ r, v.ownBlock = some r → B ≤ r ∧ r < w.heap.size := h.2.1.lt
theorem WrV.below {w w' : World} {B B' g : Nat} {most : Int} {l : List UInt8} {v : Value} (h : WrV w B g most l v) (hb : Below B' w w') (hw : w.heap.size ≤ B') : WrV w' B g most l v :=
  h.same (hb.block g (Nat.lt_of_lt_of_le h.1.lt hw)) (fun r hr => hb.block r (Nat.lt_of_lt_of_le (h.row_lt r hr).2 hw))
theorem Wr.below {w w' : World} {B B' g : Nat} {most : Int} {l : List UInt8} (h : Wr w B g most l) (hb : Below B' w w') (hw : w.heap.size ≤ B') : Wr w' B g most l := by
  obtain ⟨v, h⟩ := h
  exact ⟨v, h.below hb hw⟩
theorem WrV.form {w : World} {B g : Nat} {most : Int} {l : List UInt8} {v : Value} (h : WrV w B g most l v) : ∃ A c, v = .slice A l.length c := by
  rcases h.2.1.2 with ⟨rfl, h0⟩ | ⟨r, cap, cur, rfl, _⟩
  · exact ⟨none, 0, by rw [h0]⟩
  · exact ⟨_, _, rfl⟩

/-- What a writer answers, and has then. -/
def rawE (most : Int) (l s : List UInt8) : Int := if (l.length : Int) + s.length ≤ most then 0 else 40
def rawL (most : Int) (l s : List UInt8) : List UInt8 := if (l.length : Int) + s.length ≤ most then l ++ s else l
def RawPost (B g : Nat) (most : Int) (l : List UInt8) (v : Value) (s : List UInt8) (w : World) (e : Ending) (w' : World) : Prop :=
  e = .returned (.int .i64 (rawE most l s)) ∧ Wr w' B g most (rawL most l s) ∧ Kp g v.ownBlock w w'
theorem RawPost.of_below {B g : Nat} {most : Int} {l s : List UInt8} {v : Value} {w w1 w' : World} {e : Ending} (hb : Below w.heap.size w w1) (h : RawPost B g most l v s w1 e w') : RawPost B g most l v s w e w' :=
  ⟨h.1, h.2.1, Kp.of_below hb h.2.2⟩
end Go.Proofs.YtkfcglgikemefaaDoor
