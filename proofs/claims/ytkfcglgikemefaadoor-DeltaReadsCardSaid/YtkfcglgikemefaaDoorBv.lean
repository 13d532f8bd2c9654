/-
  CONTRACT OF THE STATEMENTS' OWN 'awake' (layer 2: the chapter's examples): it returns true; what was in memory stays as it was. No condition. And a writer's contracts for a writer whose slice is not named.
-/
import Derived.Test.YtkfcglgikemefaaDoorBa
namespace Go.Proofs.YtkfcglgikemefaaDoor
set_option maxRecDepth 100000
open Go.RowKit
set_option linter.unusedVariables false
def WPost (B g : Nat) (most : Int) (l : List UInt8) (er : Int) (w : World) (e : Ending) (w' : World) : Prop :=
  e = .returned (.int .i64 er) ∧ Wr w' B g most l ∧ Fr B g w w'
theorem wpost_of {B g : Nat} {most : Int} {l s : List UInt8} {v : Value} {w w' : World} {e : Ending} (hv : WrV w B g most l v) (h : RawPost B g most l v s w e w') : WPost B g most (rawL most l s) (rawE most l s) w e w' :=
  ⟨h.1, h.2.1, h.2.2.fr fun r hr => (hv.row_lt r hr).1⟩
theorem raw_w (B g : Nat) (most : Int) (l : List UInt8) (s : ByteArray) (w : World) (h : Wr w B g most l) (hB : B ≤ w.heap.size) (hs : s.size ≤ 9223372036854775807) (l' : List UInt8) (er : Int) (h1 : rawL most l s.data.toList = l') (h2 : rawE most l s.data.toList = er) :
    Calls Tryd.prog 34 #[.pointer (some ⟨g, 0, none⟩), .string s] w (WPost B g most l' er w) := by
  obtain ⟨v, hv⟩ := h
  subst h1; subst h2
  exact (raw_any B g most l v s w hv hB hs).mono fun e w' hp => wpost_of hv hp
theorem text_w (B g : Nat) (most : Int) (l : List UInt8) (w : World) (h : Wr w B g most l) (s : ByteArray) (hs : bs l = s) :
    Calls Tryd.prog 17 #[.pointer (some ⟨g, 0, none⟩)] w fun e w' => e = .returned (.string s) ∧ w = w' := by
  obtain ⟨v, hv⟩ := h
  subst hs
  exact text_any B g most l v w hv
/-- A new writer. -/
theorem wr_new (most : Int) (h0 : 0 ≤ most) (h1 : most ≤ 16777216) (w : World) : Wr (w.alloc (.cells #[.int .i64 most, .slice none 0 0] 85)) (w.heap.size + 1) w.heap.size most [] :=
  ⟨_, Obj.made _ _ _, World.ownsRow_nil _ _ _ _, h0, h1, by simpa using h0⟩
theorem rd_new (s : ByteArray) (hs : s.size ≤ 16777216) (w : World) : Rd (w.alloc (.cells #[.string s, .int .i64 0, .int .i64 0] 96)) w.heap.size s 0 0 :=
  ⟨Obj.made _ _ _, Nat.zero_le _, hs⟩
theorem alloc_below (w : World) (o : Go.Obj) : Below w.heap.size w (w.alloc o) := (Below.refl _ _).alloc (Nat.le_refl _) o
theorem size_alloc1 (w : World) (o : Go.Obj) : (w.alloc o).heap.size = w.heap.size + 1 := by simp
theorem Kp.below0 {g : Nat} {w w' : World} {B0 : Nat} (h : Kp g none w w') (hg : B0 ≤ g) (hw : B0 ≤ w.heap.size) : Below B0 w w' :=
  ⟨h.os, h.tape, h.output, h.size, fun i hi => h.block i (by omega) (by omega) (by simp)⟩

theorem e_num (s : ByteArray) (most : Int) (g : Nat) (w : World) (at_ : Nat) (wr : Int) (h : Rd w g s at_ wr) (x er : Int) (a : Nat) (wr' : Int) (e : rNum most s at_ wr = (x, er, a, wr')) :
    Calls Tryd.prog 41 #[.pointer (some ⟨g, 0, none⟩), .int .u64 most] w (RdPost (.int .u64 x) er g s a wr' w) := by
  have := rNum_any most g s at_ wr w h
  rw [e] at this
  exact this
end Go.Proofs.YtkfcglgikemefaaDoor
