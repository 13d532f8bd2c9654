/-
  LAYER 7's WRITER: a number, an expression. Conditions: what is written fits; expressions that are whole.
-/
import Derived.Test.YtpgkhodofhnpnaaDoorZf
import Derived.Test.YtpgkhodofhnpnaaDoorPe
import Derived.Test.YtpgkhodofhnpnaaDoorZb
namespace Go.Proofs.YtpgkhodofhnpnaaDoor
set_option maxRecDepth 100000
open Go.RowKit
set_option linter.unusedVariables false
/-- All that lies below B but the writer is as it was, and whatever is no row of bytes. -/
structure Wf (B g : Nat) (w w' : World) : Prop where
  fr : Fr B g w w'
  ot : ∀ i o, w.heap[i]? = some o → i ≠ g → (∀ c fz, o ≠ .cells c 5 fz) → w'.heap[i]? = some o
theorem Wf.trans {B g : Nat} {a b c : World} (h : Wf B g a b) (k : Wf B g b c) : Wf B g a c := ⟨h.fr.trans k.fr, fun i o hi hg ho => k.ot i o (h.ot i o hi hg ho) hg ho⟩
theorem Wf.of_below {B g : Nat} {w w' : World} (hb : Below w.heap.size w w') : Wf B g w w' := ⟨Fr.of_below hb, fun i o hi _ _ => (hb.block i (Array.getElem?_eq_some_iff.1 hi).1).trans hi⟩
theorem Obj.wf {B g i : Nat} {w w' : World} {t : TypeId} {cs : Array Value} (h : Obj w i t cs) (f : Wf B g w w') (hi : i ≠ g) (ht : t ≠ 5) : Obj w' i t cs :=
  f.ot i _ h hi fun c fz e => by injection e with e1 e2 e3; exact ht e2
theorem wf_of {B g : Nat} {most : Int} {l : List UInt8} {v : Value} {w w' : World} (hv : WrV w B g most l v) (k : Kp g v.ownBlock w w') : Wf B g w w' := by
  refine ⟨k.fr fun r hr => (hv.row_lt r hr).1, fun i o hi hg ho => ?_⟩
  refine (k.block i (Array.getElem?_eq_some_iff.1 hi).1 hg fun e => ?_).trans hi
  rcases hv.2.1.2 with ⟨h1, _⟩ | ⟨r, cap, cur, h1, _, h3, _⟩
  · rw [h1] at e; cases e
  · rw [h1] at e
    have : i = r := by simpa [Value.ownBlock] using e
    subst this
    rw [h3] at hi
    cases hi
    exact ho _ _ rfl
/-- What was written is there. -/
def Wp (B g : Nat) (most : Int) (l : List UInt8) (w : World) (e : Ending) (w' : World) : Prop := e = .returned (.tuple #[]) ∧ Wr w' B g most l ∧ Wf B g w w'
theorem raw_wp {B g : Nat} {most : Int} {l s : List UInt8} {v : Value} {w : World} {e : Ending} {w' : World} (hv : WrV w B g most l v) (h : RawPost B g most l v s w e w') (hf : (l.length : Int) + s.length ≤ most) : e = .returned (.int .i64 0) ∧ Wr w' B g most (l ++ s) ∧ Wf B g w w' := by
  obtain ⟨h1, h2, h3⟩ := h
  rw [rawE, if_pos hf] at h1
  rw [rawL, if_pos hf] at h2
  exact ⟨h1, h2, wf_of hv h3⟩
def wrB (w : World) (g : Nat) : World := w.alloc (.cells #[.pointer (some ⟨g, 0, none⟩)] 49)
theorem wrB_below (w : World) (g : Nat) : Below w.heap.size w (wrB w g) := (Below.refl _ _).alloc (Nat.le_refl _) _
theorem Wr.more {w w' : World} {B g : Nat} {most : Int} {l : List UInt8} (h : Wr w B g most l) (hb : Below w.heap.size w w') : Wr w' B g most l := h.below hb (Nat.le_refl _)
theorem Wr.lt {w : World} {B g : Nat} {most : Int} {l : List UInt8} (h : Wr w B g most l) : g < w.heap.size := by
  obtain ⟨v, hv⟩ := h
  exact hv.1.lt
theorem Wr.obj {w : World} {B g : Nat} {most : Int} {l : List UInt8} (h : Wr w B g most l) : ∃ v, Obj w g 72 #[.int .i64 most, v] := by
  obtain ⟨v, hv⟩ := h
  exact ⟨v, hv.1⟩
set_option maxRecDepth 100000 in
theorem wnum_any (B g : Nat) (most : Int) (l : List UInt8) (n : Nat) (hn : n < 9223372036854775808) (w : World) (h : Wr w B g most l) (hB : B ≤ w.heap.size) (hf : (l.length : Int) + (Vm.put n).length ≤ most) :
    Calls Tryd.prog 28 #[.agg #[.pointer (some ⟨g, 0, none⟩)], .int .i64 n] w (Wp B g most (l ++ Vm.put n) w) := by
  have hb := wrB_below w g
  obtain ⟨v, hv⟩ := h.more hb
  have HC := Lib.hid (num_any B g most l v n (by omega) (wrB w g) hv (Nat.le_trans hB hb.size))
  have HV := Lib.hid hv
  have HB := Lib.hid hb
  have HF := Lib.hid hf
  have i0 : (n : Int) < 9223372036854775808 := by omega
  unfold wrB at HC
  clear h hb hv hf
  go_enter Tryd.func28, Tryd.ntmps28
  go_wp2_with fail
  refine HC.out.mono ?_
  intro e w' he
  obtain ⟨rfl, h2, h3⟩ := raw_wp HV.out he HF.out
  have H2 := Lib.hid h2
  have H3 := Lib.hid ((Wf.of_below HB.out).trans h3)
  clear he h2 h3
  go_wp2_with fail
  go_end0
  exact ⟨rfl, H2.out, H3.out⟩
theorem wint_any (B g : Nat) (most : Int) (l : List UInt8) (x : Int) (h0 : -9223372036854775808 ≤ x) (h1 : x < 9223372036854775808) (w : World) (h : Wr w B g most l) (hB : B ≤ w.heap.size) (hf : (l.length : Int) + (Vm.put (zigW x)).length ≤ most) :
    Calls Tryd.prog 29 #[.pointer (some ⟨g, 0, none⟩), .int .i64 x] w fun e w' => e = .returned (.int .i64 0) ∧ Wr w' B g most (l ++ Vm.put (zigW x)) ∧ Wf B g w w' := by
  obtain ⟨v, hv⟩ := h
  exact (int_any B g most l v x h0 h1 w hv hB).mono fun e w' he => raw_wp hv he hf
theorem At.wf {w w' : World} {lo hi d B g : Nat} {v : Value} {e : Ex} (h : At w lo hi d v e) (f : Wf B g w w') (hB : hi ≤ B) (hg : hi ≤ g) (hw : B ≤ w.heap.size) : At w' lo hi d v e :=
  h.keep (fun p _ hp => World.cell?_of_block (f.fr.block p.block (by omega) (by omega) (by omega))) d
/-- The boxes of a call that writes an expression. -/
structure WE (w : World) (B g : Nat) (op : Nat) (n : Int) (A : Option Addr) (z c : Nat) (W : World) : Prop where
  bw : Obj W w.heap.size 49 #[.pointer (some ⟨g, 0, none⟩)]
  be : Obj W (w.heap.size + 1) 25 #[.int .u8 op, .int .i64 n, .slice A z c]
  wf : Wf B g w W
  sz : w.heap.size + 2 ≤ W.heap.size
theorem WE.start (w : World) (B g op : Nat) (n : Int) (A : Option Addr) (z c : Nat) : WE w B g op n A z c ((wrB w g).alloc (.cells #[.int .u8 op, .int .i64 n, .slice A z c] 25)) := by
  have h1 : (wrB w g).heap.size = w.heap.size + 1 := by simp [wrB]
  refine ⟨(Obj.made w _ _).same (heap_alloc_old _ _ (by omega)), ?_, Wf.of_below ((wrB_below w g).alloc (by omega) _), by simp [h1]⟩
  have := Obj.made (wrB w g) 25 #[.int .u8 op, .int .i64 n, .slice A z c]
  rw [h1] at this
  exact this
theorem WE.next {w : World} {B g op : Nat} {n : Int} {A : Option Addr} {z c : Nat} {W W' : World} (h : WE w B g op n A z c W) (f : Wf B g W W') (hg : g < w.heap.size) : WE w B g op n A z c W' :=
  ⟨h.bw.wf f (by omega) (by decide), h.be.wf f (by omega) (by decide), h.wf.trans f, Nat.le_trans h.sz f.fr.size⟩
end Go.Proofs.YtpgkhodofhnpnaaDoor
