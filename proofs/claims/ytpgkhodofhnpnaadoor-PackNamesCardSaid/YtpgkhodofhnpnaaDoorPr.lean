/-
  LAYER 7's WRITER: words for statements: what is written, letter by letter; which statements may be written; the boxes of a call. Conditions: as they stand.
-/
import Derived.Test.YtpgkhodofhnpnaaDoorPq
import Derived.Test.YtpgkhodofhnpnaaDoorPg
namespace Go.Proofs.YtpgkhodofhnpnaaDoor
set_option maxRecDepth 100000
open Go.RowKit
set_option linter.unusedVariables false
def wL (blk : List St → List UInt8) (x : St) (c : UInt8) : List UInt8 := if c = 84 then Vm.put x.to.toNat else if c = 65 then prE 6 x.a else if c = 66 then prE 6 x.b else if c = 98 then blk x.body else blk x.els
theorem prS_letters (blk : List St → List UInt8) (x : St) (h1 : 1 ≤ x.kind) (h8 : x.kind ≤ 8) : prS blk x = Vm.put x.kind ++ prAll (wL blk x) (letters x.kind) := by
  obtain ⟨k, t, a, b, y, e⟩ := x
  have h1 : 1 ≤ k := h1
  have h8 : k ≤ 8 := h8
  have ho : k = 1 ∨ k = 2 ∨ k = 3 ∨ k = 4 ∨ k = 5 ∨ k = 6 ∨ k = 7 ∨ k = 8 := by omega
  rcases ho with rfl | rfl | rfl | rfl | rfl | rfl | rfl | rfl <;> simp [prS, St.kind, letters, prAll, wL, St.to, St.a, St.b, St.body, St.els]
/-- What may be written of a statement. -/
structure LT (x : St) : Prop where
  k1 : 1 ≤ x.kind
  k8 : x.kind ≤ 8
  t0 : 0 ≤ x.to
  t8 : x.to < 8
  a : 65 ∈ letters x.kind → wholeF 6 x.a = true
  b : 66 ∈ letters x.kind → wholeF 6 x.b = true
/-- A statement of a block of that level. -/
def GS : Nat → St → Prop
  | 0, _ => False
  | d + 1, .node k t a b y e => LT (.node k t a b y e) ∧ (∀ u ∈ y, GS d u) ∧ (∀ u ∈ e, GS d u)
theorem SKids.wf {w w' : World} {lo hi d B g : Nat} {A : Option Addr} {l : List St} (h : SKids w lo hi d A l) (f : Wf B g w w') (hB : hi ≤ B) (hg : hi ≤ g) (hw : B ≤ w.heap.size) : SKids w' lo hi d A l := fun j hj => by
  have hk : ∀ p : Addr, lo ≤ p.block → p.block < hi → w'.cell? p = w.cell? p := fun p _ hp => World.cell?_of_block (f.fr.block p.block (by omega) (by omega) (by omega))
  obtain ⟨p, q, e1, m1, m2, t1, s1⟩ := h j hj
  exact ⟨p, q, e1, m1, m2, t1.keep fun z hz => hk z (by rw [hz, ad_block]; omega) (by rw [hz, ad_block]; omega), s1.keep hk d⟩
/-- The table is below B, and not the writer. -/
structure Tb (w : World) (B g : Nat) : Prop where
  pt : Pt w
  lt : 0 < B
  ng : 0 ≠ g
theorem Tb.wf {w w' : World} {B g : Nat} (h : Tb w B g) (f : Wf B g w w') : Tb w' B g :=
  ⟨fun j hj => (World.cell?_of_block (a := ⟨0, j, none⟩) (f.fr.block _ h.pt.pos h.ng h.lt)).trans (h.pt j hj), h.lt, h.ng⟩
/-- The boxes of a call that writes a statement; I: its iterator. -/
structure WS (w : World) (B g : Nat) (r : Raw) (I : Nat) (txt : ByteArray) (pos : Nat) (W : World) : Prop where
  bw : Obj W w.heap.size 49 #[.pointer (some ⟨g, 0, none⟩)]
  bs : Obj W (w.heap.size + 1) 33 r.cells.toArray
  it : W.heap[I]? = some (.stringIter txt pos)
  il : w.heap.size + 2 ≤ I
  wf : Wf B g w W
theorem WS.next {w : World} {B g : Nat} {r : Raw} {I : Nat} {txt : ByteArray} {pos : Nat} {W : World} (h : WS w B g r I txt pos W) (hB : B ≤ w.heap.size) : WS w B g r I txt (pos + 1) (W.iterAt I txt (pos + 1)) := by
  have hil := h.il
  refine ⟨h.bw.same (Lib.iterAt_other _ _ _ _ _ (by omega)), h.bs.same (Lib.iterAt_other _ _ _ _ _ (by omega)), Lib.iterAt_heap W I txt pos (pos + 1) h.it, hil, ?_⟩
  have hf := h.wf
  refine ⟨⟨hf.fr.os, hf.fr.tape, hf.fr.output, by rw [Lib.iterAt_size]; exact hf.fr.size, fun i hi hg hb => (Lib.iterAt_other _ _ _ _ _ (by omega)).trans (hf.fr.block i hi hg hb)⟩, fun i o hi hg ho => ?_⟩
  have h1 := (Array.getElem?_eq_some_iff.1 hi).1
  exact (Lib.iterAt_other _ _ _ _ _ (by omega)).trans (hf.ot i o hi hg ho)
theorem Wr.iter {w : World} {B g : Nat} {most : Int} {l : List UInt8} (h : Wr w B g most l) {I pos : Nat} {txt : ByteArray} (hi : w.heap[I]? = some (.stringIter txt pos)) (pos' : Nat) : Wr (w.iterAt I txt pos') B g most l := by
  obtain ⟨v, hv⟩ := h
  refine ⟨v, hv.same (Lib.iterAt_other _ _ _ _ _ fun e => ?_) fun r hr => Lib.iterAt_other _ _ _ _ _ fun e => ?_⟩
  · subst e
    have := hv.1
    unfold Obj at this
    rw [hi] at this
    cases this
  · subst e
    rcases hv.2.1.2 with ⟨h1, _⟩ | ⟨r', cap, cur, h1, _, h3, _⟩
    · rw [h1] at hr; cases hr
    · rw [h1] at hr
      have : r' = r := by simpa [Value.ownBlock] using hr
      subst this
      rw [hi] at h3
      cases h3
theorem WS.call {w : World} {B g : Nat} {r : Raw} {I : Nat} {txt : ByteArray} {pos : Nat} {W W' : World} (h : WS w B g r I txt pos W) (f : Wf B g W W') (hg : g < w.heap.size) : WS w B g r I txt pos W' :=
  ⟨h.bw.wf f (by omega) (by decide), h.bs.wf f (by omega) (by decide), f.ot I _ h.it (by have := h.il; omega) (fun c fz e => by cases e), h.il, h.wf.trans f⟩
end Go.Proofs.YtpgkhodofhnpnaaDoor
