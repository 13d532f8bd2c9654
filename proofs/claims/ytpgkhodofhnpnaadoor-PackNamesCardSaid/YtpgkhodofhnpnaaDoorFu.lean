/-
  CONTRACT OF PACKAGE frame's Unwrap: what it answers of any bytes, in plain numbers and bytes; the memory that was there stays as it was. Condition: texts of at most 2^48 bytes.
-/
import Derived.Test.YtpgkhodofhnpnaaDoorFe
import Derived.Test.YtpgkhodofhnpnaaDoorZa
import Derived.Deep.RegionHeld3
import Derived.Deep.RegionWith
import Derived.Outline
namespace Go.Proofs.YtpgkhodofhnpnaaDoor
set_option maxRecDepth 100000
open Go.ChangeShapes Go.WideShapes Go.ChangeAt Go.RowKit Go.ChangeMaps
set_option linter.unusedVariables false
theorem get_isF (s : ByteArray) (n size e : Nat) (hs : s.size ≤ 9223372036854775807) (h : Vm.get (bytes s) = (n, size, e)) (w : World) :
    Calls Tryd.prog 34 #[.string s] w fun r w' => r = .returned (.tuple #[.int .u64 n, .int .i64 size, .int .i64 e]) ∧ w = w' := by
  have := get_any s hs w
  rw [h] at this
  exact this

theorem one_cell (W : World) (x : ByteArray) : ∀ j (h : j < [x].length), (W.alloc (.cells #[.string x] 9)).cell? ⟨W.heap.size, j, none⟩ = some (.string [x][j]) := by
  intro j hj
  obtain rfl : j = 0 := by simp at hj; omega
  rw [cell_new]
  rfl
/-- What Unwrap answers. -/
def UnwIs (s t : ByteArray) (place e : Nat) : Prop := ∀ w : World, Calls Tryd.prog 18 #[.string s] w fun r w' => r = .returned (.tuple #[.string t, .int .i64 place, .int .i64 e]) ∧ Below w.heap.size w w'

set_option maxRecDepth 100000 in
theorem u_large (s : ByteArray) (h : 16777216 < s.size) (hs : s.size ≤ 281474976710656) : UnwIs s ⟨#[]⟩ 0 40 := by
  intro w
  go_enter Tryd.func18, Tryd.ntmps18
  go_wp2_with fail
  go_ret3
  exact ⟨rfl, Below.refl _ _⟩
set_option maxRecDepth 100000 in
theorem u_bad (s : ByteArray) (e : Nat) (he : e ≠ 0) (h : s.size ≤ 16777216) (hg : Vm.get (bytes s) = (0, 0, e)) : UnwIs s ⟨#[]⟩ 0 e := by
  intro w
  have hb : ((e : Int) != 0) = true := by simp; omega
  have Hg := Lib.hid hg
  clear hg he
  go_enter Tryd.func18, Tryd.ntmps18
  go_wp2_with fail
  refine (get_isF s 0 0 e (by omega) Hg.out _).mono ?_
  rintro r w' ⟨rfl, rfl⟩
  go_wp2_with fail
  go_ret3
  exact ⟨rfl, Below.refl _ _⟩
set_option maxRecDepth 100000 in
theorem u_range (s : ByteArray) (n size : Nat) (h : s.size ≤ 16777216) (hn : 16777216 < n) (hg : Vm.get (bytes s) = (n, size, 0)) : UnwIs s ⟨#[]⟩ 0 20 := by
  intro w
  have Hg := Lib.hid hg
  clear hg
  go_enter Tryd.func18, Tryd.ntmps18
  go_wp2_with fail
  refine (get_isF s n size 0 (by omega) Hg.out _).mono ?_
  rintro r w' ⟨rfl, rfl⟩
  go_wp2_with fail
  go_ret3
  exact ⟨rfl, Below.refl _ _⟩
set_option maxRecDepth 100000 in
theorem u_short (s : ByteArray) (n size : Nat) (h : s.size ≤ 16777216) (hn : n ≤ 16777216) (hz : size ≤ 10) (hl : s.size < size + n + 4) (hg : Vm.get (bytes s) = (n, size, 0)) : UnwIs s ⟨#[]⟩ s.size 8 := by
  intro w
  have Hg := Lib.hid hg
  clear hg
  go_enter Tryd.func18, Tryd.ntmps18
  go_wp2_with fail
  refine (get_isF s n size 0 (by omega) Hg.out _).mono ?_
  rintro r w' ⟨rfl, rfl⟩
  go_wp2_with fail
  go_ret3
  exact ⟨rfl, Below.refl _ _⟩
set_option maxRecDepth 100000 in
theorem u_long (s : ByteArray) (n size : Nat) (h : s.size ≤ 16777216) (hn : n ≤ 16777216) (hz : size ≤ 10) (hl : size + n + 4 < s.size) (hg : Vm.get (bytes s) = (n, size, 0)) : UnwIs s ⟨#[]⟩ (size + n + 4) 10 := by
  intro w
  have Hg := Lib.hid hg
  clear hg
  go_enter Tryd.func18, Tryd.ntmps18
  go_wp2_with fail
  refine (get_isF s n size 0 (by omega) Hg.out _).mono ?_
  rintro r w' ⟨rfl, rfl⟩
  go_wp2_with fail
  go_ret3
  exact ⟨rfl, Below.refl _ _⟩

set_option maxRecDepth 100000 in
theorem u_sum (s : ByteArray) (n size : Nat) (h : s.size ≤ 16777216) (hz : size ≤ 10) (hl : s.size = size + n + 4) (hg : Vm.get (bytes s) = (n, size, 0))
    (hf : ((s.extract (size + n) s.size).toList == (footS (Fm.sum (nats (s.extract 0 (size + n))))).toList) = false) : UnwIs s ⟨#[]⟩ (size + n) 9 := by
  intro w
  have Hg := Lib.hid hg
  have Hf := Lib.hid hf
  have h1 : ¬ s.size < size + n + 4 := by omega
  have h2 : ¬ size + n + 4 < s.size := by omega
  have h3 : n ≤ 16777216 := by omega
  clear hg hl hf
  go_enter Tryd.func18, Tryd.ntmps18
  go_wp2_with fail
  refine (get_isF s n size 0 (by omega) Hg.out _).mono ?_
  rintro r w' ⟨rfl, rfl⟩
  go_wp2_with fail
  have g1 : (0 : Int) ≤ (size : Int) + (n : Int) := by omega
  have g2 : (size : Int) + (n : Int) ≤ (s.size : Int) := by omega
  have hx : (s.extract 0 (size + n)).size ≤ 9223372036854775807 := by rw [ByteArray.size_extract]; omega
  have hL : ∀ W : World, ∀ j (h : j < [s.extract 0 (size + n)].length), (W.alloc (.cells #[.string (s.extract 0 (size + n))] 9)).cell? ⟨W.heap.size, j, none⟩ = some (.string [s.extract 0 (size + n)][j]) := fun W => one_cell W _
  clear h1 h2 h3
  have HL := Lib.hid hL
  clear hL
  go_region_with (first | (go_at_call 31; refine (end_in _ 1 [s.extract 0 (size + n)] _ (by simp) (by simp) (by first | exact HL.out _ | exact HL.out w) (by simpa using hx)).mono ?_; rintro e w3 ⟨rfl, b3⟩))
  all_goals
    have b4 := below_first b3
    clear b3 hx g1 g2
    have e3 : ((size : Int) + (n : Int)).toNat = size + n := by omega
    have e4 := Hf.out
    rw [← natsAll_one] at e4
    have e5 : (!((s.extract (size + n) s.size).toList == (footS (Fm.sum (natsAll [s.extract 0 (size + n)]))).toList)) = true := by rw [e4]; rfl
    clear e4
    rw [e3] at *
    go_wp2_with fail
    · go_ret3
      exact ⟨rfl, b4⟩
    · exact absurd (e5.symm.trans (by assumption)) (by decide)

set_option maxRecDepth 100000 in
theorem u_ok (s : ByteArray) (n size : Nat) (h : s.size ≤ 16777216) (hz : size ≤ 10) (hl : s.size = size + n + 4) (hg : Vm.get (bytes s) = (n, size, 0))
    (hf : ((s.extract (size + n) s.size).toList == (footS (Fm.sum (nats (s.extract 0 (size + n))))).toList) = true) : UnwIs s (s.extract size (size + n)) 0 0 := by
  intro w
  have Hg := Lib.hid hg
  have Hf := Lib.hid hf
  have h1 : ¬ s.size < size + n + 4 := by omega
  have h2 : ¬ size + n + 4 < s.size := by omega
  have h3 : n ≤ 16777216 := by omega
  clear hg hl hf
  go_enter Tryd.func18, Tryd.ntmps18
  go_wp2_with fail
  refine (get_isF s n size 0 (by omega) Hg.out _).mono ?_
  rintro r w' ⟨rfl, rfl⟩
  go_wp2_with fail
  have g1 : (0 : Int) ≤ (size : Int) + (n : Int) := by omega
  have g2 : (size : Int) + (n : Int) ≤ (s.size : Int) := by omega
  have g3 : (size : Int) ≤ (size : Int) + (n : Int) := by omega
  have hx : (s.extract 0 (size + n)).size ≤ 9223372036854775807 := by rw [ByteArray.size_extract]; omega
  have hy : (s.extract size (size + n)).size ≤ 281474976710656 := by rw [ByteArray.size_extract]; omega
  have hL : ∀ W : World, ∀ j (h : j < [s.extract 0 (size + n)].length), (W.alloc (.cells #[.string (s.extract 0 (size + n))] 9)).cell? ⟨W.heap.size, j, none⟩ = some (.string [s.extract 0 (size + n)][j]) := fun W => one_cell W _
  clear h1 h2 h3
  have HL := Lib.hid hL
  clear hL
  go_region_with (first | (go_at_call 31; refine (end_in _ 1 [s.extract 0 (size + n)] _ (by simp) (by simp) (by first | exact HL.out _ | exact HL.out w) (by simpa using hx)).mono ?_; rintro e w3 ⟨rfl, b3⟩))
  all_goals
    have b4 := below_first b3
    clear b3 hx
    have e3 : ((size : Int) + (n : Int)).toNat = size + n := by omega
    have e4 := Hf.out
    rw [← natsAll_one] at e4
    have e5 : (!((s.extract (size + n) s.size).toList == (footS (Fm.sum (natsAll [s.extract 0 (size + n)]))).toList)) = false := by rw [e4]; rfl
    clear e4
    rw [e3] at *
    go_wp2_with fail
    · exact absurd (e5.symm.trans (by assumption)) (by decide)
    · refine (clone_any _ _ hy).mono ?_
      rintro e w5 ⟨rfl, b5⟩
      go_wp2_with fail
      go_ret3
      exact ⟨rfl, b4.trans (b5.mono b4.size)⟩
end Go.Proofs.YtpgkhodofhnpnaaDoor
