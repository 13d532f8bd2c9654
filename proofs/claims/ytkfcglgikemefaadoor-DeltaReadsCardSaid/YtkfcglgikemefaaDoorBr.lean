/-
  CONTRACTS OF A READER (layer 2): NewReader, Wrong, At, Left, Fail, Byte, Num, Int, Raw, End: what each answers, where the reader is then, and that all else in memory is as it was. Conditions: texts of at most 2^24 bytes; integers within their kinds.
-/
import Derived.Test.YtkfcglgikemefaaDoorBw
import Derived.Deep.RegionHeld3
import Derived.Deep.RegionWith
namespace Go.Proofs.YtkfcglgikemefaaDoor
set_option maxRecDepth 100000
open Go.RowKit
set_option linter.unusedVariables false

/-- At block g lies a reader of the text s, at a place, where wr is wrong (0: nothing). -/
def Rd (w : World) (g : Nat) (s : ByteArray) (at_ : Nat) (wr : Int) : Prop := Obj w g 96 #[.string s, .int .i64 at_, .int .i64 wr] ∧ at_ ≤ s.size ∧ s.size ≤ 16777216

theorem new_reader (s : ByteArray) (hs : s.size ≤ 16777216) (w : World) :
    Calls Tryd.prog 18 #[.string s] w fun e w' => e = .returned (.tuple #[.pointer (some ⟨w.heap.size, 0, none⟩), .int .i64 0]) ∧ w' = w.alloc (.cells #[.string s, .int .i64 0, .int .i64 0] 96) := by
  go_enter Tryd.func18, Tryd.ntmps18
  go_wp2
  go_ret2
  exact ⟨rfl, rfl⟩
theorem new_reader_bad (s : ByteArray) (hs : 16777216 < s.size) (h2 : s.size ≤ 9223372036854775807) (w : World) :
    Calls Tryd.prog 18 #[.string s] w fun e w' => e = .returned (.tuple #[.pointer none, .int .i64 40]) ∧ w = w' := by
  go_enter Tryd.func18, Tryd.ntmps18
  go_wp2
  go_ret2
  exact ⟨rfl, rfl⟩

theorem wrong_no (g : Nat) (s : ByteArray) (at_ : Nat) (w : World) (h : Rd w g s at_ 0) :
    Calls Tryd.prog 22 #[.pointer (some ⟨g, 0, none⟩)] w fun e w' => e = .returned (.tuple #[.int .i64 0, .int .i64 0]) ∧ w = w' := by
  have c2 := h.1.cell 2
  simp at c2
  clear h
  go_enter Tryd.func22, Tryd.ntmps22
  go_wp2
  go_ret2
  exact ⟨rfl, rfl⟩
theorem wrong_yes (g : Nat) (s : ByteArray) (at_ : Nat) (wr : Int) (hw : wr ≠ 0) (w : World) (h : Rd w g s at_ wr) :
    Calls Tryd.prog 22 #[.pointer (some ⟨g, 0, none⟩)] w fun e w' => e = .returned (.tuple #[.int .i64 at_, .int .i64 wr]) ∧ ∃ n, w' = w.drewN n := by
  have c1 := h.1.cell 1
  have c2 := h.1.cell 2
  simp at c1 c2
  have hb : (wr == 0) = false := by simpa using hw
  clear h
  go_enter Tryd.func22, Tryd.ntmps22
  go_wp2_with fail
  go_quiet (fail)
  go_wp2_with fail
  go_ret2
  exact ⟨rfl, _, rfl⟩
theorem at_any (g : Nat) (s : ByteArray) (at_ : Nat) (wr : Int) (w : World) (h : Rd w g s at_ wr) :
    Calls Tryd.prog 24 #[.pointer (some ⟨g, 0, none⟩)] w fun e w' => e = .returned (.int .i64 at_) ∧ w = w' := by
  have c1 := h.1.cell 1
  simp at c1
  clear h
  go_enter Tryd.func24, Tryd.ntmps24
  go_wp2
  go_ret
  exact ⟨rfl, rfl⟩
/-- What is known while a reader's text is handed on: its text, its place, and what was there. -/
abbrev SR (w : World) (g : Nat) (s : ByteArray) (at_ : Nat) (w' : World) : Prop :=
  w'.cell? ⟨g, 0, none⟩ = some (.string s) ∧ w'.cell? ⟨g, 1, none⟩ = some (.int .i64 at_) ∧ Below w.heap.size w w'
theorem sr_drew {w w' : World} {g : Nat} {s : ByteArray} {at_ : Nat} (h0 : w'.cell? ⟨g, 0, none⟩ = some (.string s)) (h1 : w'.cell? ⟨g, 1, none⟩ = some (.int .i64 at_)) (hb : Below w.heap.size w w') : SR w g s at_ w'.drew := ⟨h0, h1, hb.drew⟩
theorem sr_call {w w' w3 : World} {g : Nat} {s : ByteArray} {at_ : Nat} (h0 : w'.cell? ⟨g, 0, none⟩ = some (.string s)) (h1 : w'.cell? ⟨g, 1, none⟩ = some (.int .i64 at_)) (hb : Below w.heap.size w w') (hg : g < w.heap.size) (b3 : Below w'.heap.size w' w3) : SR w g s at_ w3 :=
  ⟨(b3.cell (p := ⟨g, 0, none⟩) (Nat.lt_of_lt_of_le hg hb.size)).trans h0, (b3.cell (p := ⟨g, 1, none⟩) (Nat.lt_of_lt_of_le hg hb.size)).trans h1, hb.trans (b3.mono hb.size)⟩
theorem below_of_drew {w w3 : World} (b3 : Below w.drew.heap.size w.drew w3) : Below w.heap.size w w3 := ((Below.refl _ _).drew).trans b3
theorem bl1 (W : World) : Below W.heap.size W W.drew := (Below.refl _ _).drew
theorem rd_go {w w3 : World} {g : Nat} {s : ByteArray} {at_ size : Nat} {z : Int} (ho : Obj w g 96 #[.string s, .int .i64 at_, .int .i64 0]) (b3 : Below w.heap.size w w3) (hz : z = ((at_ + size : Nat) : Int)) (h1 : at_ + size ≤ s.size) (h2 : s.size ≤ 16777216) :
    Rd (w3.setCell ⟨g, 1, none⟩ (.int .i64 z)) g s (at_ + size) 0 ∧ Kp g none w (w3.setCell ⟨g, 1, none⟩ (.int .i64 z)) := by
  subst hz
  have o3 := ho.below b3 ho.lt
  refine ⟨⟨by simpa using o3.store 1 (.int .i64 ((at_ + size : Nat) : Int)), h1, h2⟩, ⟨b3.os, b3.tape, b3.output, by simpa [World.setCell] using b3.size, fun i hi hg _ => ?_⟩⟩
  rw [Below.heap_setCell _ _ _ _ hg]
  exact b3.block i hi
theorem rd_bad {w w3 : World} {g : Nat} {s : ByteArray} {at_ : Nat} {wr : Int} (er : Int) (ho : Obj w g 96 #[.string s, .int .i64 at_, .int .i64 wr]) (b3 : Below w.heap.size w w3) (h1 : at_ ≤ s.size) (h2 : s.size ≤ 16777216) :
    Rd (w3.setCell ⟨g, 2, none⟩ (.int .i64 er)) g s at_ er ∧ Kp g none w (w3.setCell ⟨g, 2, none⟩ (.int .i64 er)) := by
  have o3 := ho.below b3 ho.lt
  refine ⟨⟨by simpa using o3.store 2 (.int .i64 er), h1, h2⟩, ⟨b3.os, b3.tape, b3.output, by simpa [World.setCell] using b3.size, fun i hi hg _ => ?_⟩⟩
  rw [Below.heap_setCell _ _ _ _ hg]
  exact b3.block i hi
end Go.Proofs.YtkfcglgikemefaaDoor
