/-
  CONTRACT OF seesawref03's Unwrap (the document's own answer): what it answers of any bytes, in the same words as the contract of package frame's. Condition: texts of at most 2^24 bytes.
-/
import Derived.Test.YtianpbgnfdkpmaaFr
namespace Go.Proofs.Ytianpbgnfdkpmaa
open Go.ChangeShapes Go.WideShapes Go.ChangeAt Go.RowKit Go.ChangeMaps
set_option linter.unusedVariables false
theorem rget_is (s : ByteArray) (n size e : Nat) (hs : s.size ≤ 9223372036854775807) (h : Vm.get (bytes s) = (n, size, e)) (w : World) :
    Calls Try.prog 25 #[.string s] w fun r w' => r = .returned (.tuple #[.int .u64 n, .int .i64 size, .int .i64 e]) ∧ w = w' := by
  have := rget_any s hs w
  rw [h] at this
  exact this

theorem below_drew {w w3 : World} (h : Below w.drew.heap.size w.drew w3) : Below w.heap.size w w3 := ((Below.refl _ _).drew).trans (h.mono (by simp))
theorem turned_test {a b : List UInt8} {v : Bool} (h : (a == b) = v) : (!(b == a)) = !v := by rw [← h, BEq.comm]
/-- What the document's Unwrap answers. -/
def RUnwIs (s t : ByteArray) (place e : Nat) : Prop := ∀ w : World, Calls Try.prog 16 #[.string s] w fun r w' => r = .returned (.tuple #[.string t, .int .i64 place, .int .i64 e]) ∧ Below w.heap.size w w'

set_option maxRecDepth 100000 in
theorem r_bad (s : ByteArray) (e : Nat) (he : e ≠ 0) (h : s.size ≤ 16777216) (hg : Vm.get (bytes s) = (0, 0, e)) : RUnwIs s ⟨#[]⟩ 0 e := by
  intro w
  have hb : ((e : Int) != 0) = true := by simp; omega
  have Hg := Lib.hid hg
  clear hg he
  go_enter Try.func16, Try.ntmps16
  go_wp2_with fail
  refine (rget_is s 0 0 e (by omega) Hg.out _).mono ?_
  rintro r w' ⟨rfl, rfl⟩
  go_wp2_with fail
  go_ret3
  exact ⟨rfl, Below.refl _ _⟩
set_option maxRecDepth 100000 in
theorem r_range (s : ByteArray) (n size : Nat) (h : s.size ≤ 16777216) (hn : 16777216 < n) (hg : Vm.get (bytes s) = (n, size, 0)) : RUnwIs s ⟨#[]⟩ 0 20 := by
  intro w
  have Hg := Lib.hid hg
  clear hg
  go_enter Try.func16, Try.ntmps16
  go_wp2_with fail
  refine (rget_is s n size 0 (by omega) Hg.out _).mono ?_
  rintro r w' ⟨rfl, rfl⟩
  go_wp2_with fail
  go_ret3
  exact ⟨rfl, Below.refl _ _⟩
set_option maxRecDepth 100000 in
theorem r_short (s : ByteArray) (n size : Nat) (h : s.size ≤ 16777216) (hn : n ≤ 16777216) (hz : size ≤ 10) (hl : s.size < size + n + 4) (hg : Vm.get (bytes s) = (n, size, 0)) : RUnwIs s ⟨#[]⟩ s.size 8 := by
  intro w
  have Hg := Lib.hid hg
  clear hg
  go_enter Try.func16, Try.ntmps16
  go_wp2_with fail
  refine (rget_is s n size 0 (by omega) Hg.out _).mono ?_
  rintro r w' ⟨rfl, rfl⟩
  go_wp2_with fail
  go_ret3
  exact ⟨rfl, Below.refl _ _⟩
set_option maxRecDepth 100000 in
theorem r_long (s : ByteArray) (n size : Nat) (h : s.size ≤ 16777216) (hn : n ≤ 16777216) (hz : size ≤ 10) (hl : size + n + 4 < s.size) (hg : Vm.get (bytes s) = (n, size, 0)) : RUnwIs s ⟨#[]⟩ (size + n + 4) 10 := by
  intro w
  have Hg := Lib.hid hg
  clear hg
  go_enter Try.func16, Try.ntmps16
  go_wp2_with fail
  refine (rget_is s n size 0 (by omega) Hg.out _).mono ?_
  rintro r w' ⟨rfl, rfl⟩
  go_wp2_with fail
  go_ret3
  exact ⟨rfl, Below.refl _ _⟩

set_option maxRecDepth 100000 in
theorem r_sum (s : ByteArray) (n size : Nat) (h : s.size ≤ 16777216) (hz : size ≤ 10) (hl : s.size = size + n + 4) (hg : Vm.get (bytes s) = (n, size, 0))
    (hf : ((s.extract (size + n) s.size).toList == (footS (Fm.sum (nats (s.extract 0 (size + n))))).toList) = false) : RUnwIs s ⟨#[]⟩ (size + n) 9 := by
  intro w
  have Hg := Lib.hid hg
  have Hf := Lib.hid hf
  have h1 : ¬ s.size < size + n + 4 := by omega
  have h2 : ¬ size + n + 4 < s.size := by omega
  have h3 : n ≤ 16777216 := by omega
  clear hg hl hf
  go_enter Try.func16, Try.ntmps16
  go_wp2_with fail
  refine (rget_is s n size 0 (by omega) Hg.out _).mono ?_
  rintro r w' ⟨rfl, rfl⟩
  go_wp2_with fail
  have g1 : (0 : Int) ≤ (size : Int) + (n : Int) := by omega
  have g2 : (size : Int) + (n : Int) ≤ (s.size : Int) := by omega
  have hx : (s.extract 0 (size + n)).size ≤ 9223372036854775807 := by rw [ByteArray.size_extract]; omega
  have hm := sum_lt _ (nats_lt (s.extract 0 (size + n)))
  clear h1 h2 h3
  go_region_with (first | (go_at_call 14; refine (rSum_any (s.extract 0 (size + n)) hx _).mono ?_; rintro e w' ⟨rfl, rfl⟩) | (go_at_call 21; refine (Seal_any (Fm.sum (nats (s.extract 0 (size + n)))) hm _).mono ?_; rintro e w3 ⟨rfl, b3⟩))
  all_goals
    have b4 := below_drew b3
    clear b3 hx g1 g2 hm
    have e3 : ((size : Int) + (n : Int)).toNat = size + n := by omega
    have e5 := turned_test Hf.out
    rw [e3] at *
    go_wp2_with fail
    · go_ret3
      exact ⟨rfl, b4⟩
    · exact absurd (e5.symm.trans (by assumption)) (by decide)

set_option maxRecDepth 100000 in
theorem r_ok (s : ByteArray) (n size : Nat) (h : s.size ≤ 16777216) (hz : size ≤ 10) (hl : s.size = size + n + 4) (hg : Vm.get (bytes s) = (n, size, 0))
    (hf : ((s.extract (size + n) s.size).toList == (footS (Fm.sum (nats (s.extract 0 (size + n))))).toList) = true) : RUnwIs s (s.extract size (size + n)) 0 0 := by
  intro w
  have Hg := Lib.hid hg
  have Hf := Lib.hid hf
  have h1 : ¬ s.size < size + n + 4 := by omega
  have h2 : ¬ size + n + 4 < s.size := by omega
  have h3 : n ≤ 16777216 := by omega
  clear hg hl hf
  go_enter Try.func16, Try.ntmps16
  go_wp2_with fail
  refine (rget_is s n size 0 (by omega) Hg.out _).mono ?_
  rintro r w' ⟨rfl, rfl⟩
  go_wp2_with fail
  have g3 : (size : Int) ≤ (size : Int) + (n : Int) := by omega
  have g1 : (0 : Int) ≤ (size : Int) + (n : Int) := by omega
  have g2 : (size : Int) + (n : Int) ≤ (s.size : Int) := by omega
  have hx : (s.extract 0 (size + n)).size ≤ 9223372036854775807 := by rw [ByteArray.size_extract]; omega
  have hm := sum_lt _ (nats_lt (s.extract 0 (size + n)))
  clear h1 h2 h3
  go_region_with (first | (go_at_call 14; refine (rSum_any (s.extract 0 (size + n)) hx _).mono ?_; rintro e w' ⟨rfl, rfl⟩) | (go_at_call 21; refine (Seal_any (Fm.sum (nats (s.extract 0 (size + n)))) hm _).mono ?_; rintro e w3 ⟨rfl, b3⟩))
  all_goals
    have b4 := below_drew b3
    clear b3 hx g1 g2 hm
    have e3 : ((size : Int) + (n : Int)).toNat = size + n := by omega
    have e5 := turned_test Hf.out
    rw [e3] at *
    go_wp2_with fail
    · exact absurd (e5.symm.trans (by assumption)) (by decide)
    · go_ret3
      exact ⟨rfl, b4⟩
end Go.Proofs.Ytianpbgnfdkpmaa
