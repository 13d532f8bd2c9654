/-
  CONTRACTS OF THE ONE FUNCTION THAT A READER's CALLS GO BY (layer 2, read at each of its types): what was wrong ahead is told; what is taken is told, and gone over; what is wrong now stays. Conditions: texts of at most 2^24 bytes.
-/
import Derived.Test.YtkfcglgikemefaaDoorBr
namespace Go.Proofs.YtkfcglgikemefaaDoor
set_option maxRecDepth 100000
open Go.RowKit
set_option linter.unusedVariables false

set_option maxRecDepth 100000 in
theorem readN_wrong (g : Nat) (s : ByteArray) (at_ : Nat) (wr : Int) (hw : wr ≠ 0) (f : Value) (w : World) (h : Rd w g s at_ wr) :
    Calls Tryd.prog 70 #[.pointer (some ⟨g, 0, none⟩), f] w fun e w' => e = .returned (.tuple #[.int .u64 0, .int .i64 wr]) ∧ ∃ n, w' = w.drewN n := by
  have Hw := Lib.hid (wrong_yes g s at_ wr hw w h)
  have hb : (wr != 0) = true := by simpa using hw
  clear h
  go_enter Tryd.func70, Tryd.ntmps70
  go_wp2_with fail
  refine Hw.out.mono ?_
  rintro e w' ⟨rfl, n, rfl⟩
  go_wp2_with fail
  go_ret2
  exact ⟨rfl, _, rfl⟩
set_option maxRecDepth 100000 in
theorem readN_ok (g : Nat) (s : ByteArray) (at_ : Nat) (cap : Addr) (w : World) (h : Rd w g s at_ 0) (x : Int) (size : Nat) (hz : at_ + size ≤ s.size)
    (ht : ∀ W, Below w.heap.size w W → Calls Tryd.prog 71 #[.string (s.extract at_ s.size), .pointer (some cap)] W fun e w' => e = .returned (.tuple #[.int .u64 x, .int .i64 size, .int .i64 0]) ∧ Below W.heap.size W w') :
    Calls Tryd.prog 70 #[.pointer (some ⟨g, 0, none⟩), .func (.func 71) #[] #[.pointer (some cap)]] w fun e w' => e = .returned (.tuple #[.int .u64 x, .int .i64 0]) ∧ Rd w' g s (at_ + size) 0 ∧ Kp g none w w' := by
  have Hw := Lib.hid (wrong_no g s at_ w h)
  have Ht := Lib.hid (ht w.drew (bl1 w))
  clear ht
  obtain ⟨ho, h1, h2⟩ := h
  have c0 := ho.cell 0
  have c1 := ho.cell 1
  simp at c0 c1
  have hg := ho.lt
  go_enter Tryd.func70, Tryd.ntmps70
  go_wp2_with fail
  refine Hw.out.mono ?_
  rintro e w' ⟨rfl, rfl⟩
  go_wp2_with fail
  go_region_held3 (fun w' => w'.cell? ⟨g, 0, none⟩ = some (.string s) ∧ w'.cell? ⟨g, 1, none⟩ = some (.int .i64 at_) ∧ Below w.heap.size w w')
    (first | exact sr_call (w' := w.drew) c0 c1 (Below.refl _ _).drew hg b3 | exact sr_drew c0 c1 (Below.refl _ _) | fail)
    (first | (go_at_call 71; refine Ht.out.mono ?_; rintro e w3 ⟨rfl, b3⟩) | fail)
  have b := below_of_drew b3
  have o3 := ho.below b ho.lt
  have d1 : w3.cell? ⟨g, 1, none⟩ = some (.int .i64 at_) := by simpa using o3.cell 1
  have f1 := o3.free 1
  clear o3 c0 c1
  have hi1 : (at_ : Int) + (size : Int) ≤ 16777216 := by omega
  go_wp2_with fail
  go_ret2
  have R := rd_go (z := (at_ : Int) + (size : Int)) ho b (by omega) hz h2
  exact ⟨rfl, R.1, R.2⟩
set_option maxRecDepth 100000 in
theorem readN_bad (g : Nat) (s : ByteArray) (at_ : Nat) (cap : Addr) (w : World) (h : Rd w g s at_ 0) (x : Int) (size er : Int) (her : er ≠ 0)
    (ht : ∀ W, Below w.heap.size w W → Calls Tryd.prog 71 #[.string (s.extract at_ s.size), .pointer (some cap)] W fun e w' => e = .returned (.tuple #[.int .u64 x, .int .i64 size, .int .i64 er]) ∧ Below W.heap.size W w') :
    Calls Tryd.prog 70 #[.pointer (some ⟨g, 0, none⟩), .func (.func 71) #[] #[.pointer (some cap)]] w fun e w' => e = .returned (.tuple #[.int .u64 0, .int .i64 er]) ∧ Rd w' g s at_ er ∧ Kp g none w w' := by
  have Hw := Lib.hid (wrong_no g s at_ w h)
  have Ht := Lib.hid (ht w.drew (bl1 w))
  clear ht
  obtain ⟨ho, h1, h2⟩ := h
  have c0 := ho.cell 0
  have c1 := ho.cell 1
  simp at c0 c1
  have hg := ho.lt
  have hb : (er != 0) = true := by simpa using her
  go_enter Tryd.func70, Tryd.ntmps70
  go_wp2_with fail
  refine Hw.out.mono ?_
  rintro e w' ⟨rfl, rfl⟩
  go_wp2_with fail
  go_region_held3 (fun w' => w'.cell? ⟨g, 0, none⟩ = some (.string s) ∧ w'.cell? ⟨g, 1, none⟩ = some (.int .i64 at_) ∧ Below w.heap.size w w')
    (first | exact sr_call (w' := w.drew) c0 c1 (Below.refl _ _).drew hg b3 | exact sr_drew c0 c1 (Below.refl _ _) | fail)
    (first | (go_at_call 71; refine Ht.out.mono ?_; rintro e w3 ⟨rfl, b3⟩) | fail)
  have b := below_of_drew b3
  have o3 := ho.below b ho.lt
  have d2 : w3.cell? ⟨g, 2, none⟩ = some (.int .i64 0) := by simpa using o3.cell 2
  have f2 := o3.free 2
  clear o3 c0 c1
  go_wp2_with fail
  go_ret2
  have R := rd_bad er ho b h1 h2
  exact ⟨rfl, R.1, R.2⟩

end Go.Proofs.YtkfcglgikemefaaDoor
