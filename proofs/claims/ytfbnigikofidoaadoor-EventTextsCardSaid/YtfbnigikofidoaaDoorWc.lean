/-
  CONTRACTS OF PACKAGE event (layer 12): the tables that it reads; Name, Kind, full, within, sizes, Stripe, and the methods that tell where a number is. Conditions: as they stand.
-/
import Derived.Test.YtfbnigikofidoaaDoorWd
import Derived.WalkKit
import Derived.Below
import Derived.PlainAid
import Derived.Lib.Hide
import Derived.LoopTactic
import Derived.Handy
import Derived.WalkLawsBesides
import Derived.WalkSpells
import Derived.Deep.QuietTactic
import Derived.BigQuiet
namespace Go.Proofs.YtfbnigikofidoaaDoor
set_option maxRecDepth 100000
open Go.RowKit
set_option linter.unusedVariables false
def bsW (l : List UInt8) : ByteArray := ⟨l.toArray⟩
theorem bsW_list (l : List UInt8) : (bsW l).data.toList = l := by simp [bsW]
theorem bsW_of (s : ByteArray) : bsW s.data.toList = s := by cases s; simp [bsW]
theorem testW (l : List UInt8) (s : ByteArray) : ((bsW l).toList == s.toList) = (l == s.data.toList) := by rw [ByteArray.toList_eq, ByteArray.toList_eq, bsW_list]
theorem there_blockW {w : World} {p : Addr} {v : Value} (h : w.cell? p = some v) : p.block < w.heap.size := by
  unfold World.cell? at h
  rcases Nat.lt_or_ge p.block w.heap.size with hh | hh
  · exact hh
  · rw [Array.getElem?_eq_none hh] at h; simp at h
/-- The tables that package event, and the library under it, read. -/
structure Ek (w : World) : Prop where
  nm : ∀ k, k < 14 → w.cell? ⟨0, k, none⟩ = some (.string (bsW (nmL k)))
  tab : Lib.TabIs Tryd.prog w "internal/strconv.uint64pow10" .u64 Lib.pow10Tab
  e1 : ∃ t p, w.cell? ⟨6, 0, none⟩ = some (.iface t p)
  e2 : ∃ t p, w.cell? ⟨7, 0, none⟩ = some (.iface t p)
theorem gPow : Tryd.prog.globalNamed "internal/strconv.uint64pow10" = some 2 := by kernel_rfl
theorem Ek.below {w w' : World} (h : Ek w) (hb : Below w.heap.size w w') : Ek w' := by
  refine ⟨fun k hk => (hb.cell (there_blockW (h.nm k hk))).trans (h.nm k hk), ?_, ?_, ?_⟩
  · have h2 := h.tab
    unfold Lib.TabIs World.var? at h2 ⊢
    rw [gPow] at h2 ⊢
    simp only [Option.bind_some] at h2 ⊢
    have hlt : 2 < w.heap.size := by
      rcases Nat.lt_or_ge 2 w.heap.size with h' | h'
      · exact h'
      · rw [Array.getElem?_eq_none h'] at h2; cases h2
    rw [hb.block _ hlt]
    exact h2
  · obtain ⟨t, p, h2⟩ := h.e1
    exact ⟨t, p, (hb.cell (there_blockW h2)).trans h2⟩
  · obtain ⟨t, p, h2⟩ := h.e2
    exact ⟨t, p, (hb.cell (there_blockW h2)).trans h2⟩
theorem nmL_none {k : Nat} (h : 14 ≤ k) : nmL k = [] := by
  unfold nmL
  split <;> first | omega | rfl
def nmV (k : Nat) : Value := .string (bsW (nmL k))
theorem name_any (k : Nat) (hk : k < 256) (w : World) (he : Ek w) :
    Calls Tryd.prog 11 #[.int .u8 k] w fun e w' => e = .returned (nmV k) ∧ w = w' := by
  have i1 : (0 : Int) ≤ (k : Int) := by omega
  have i2 : (k : Int) ≤ 255 := by omega
  by_cases h : k < 14
  · have c1 := he.nm k h
    have i3 : (k : Int) < 14 := by omega
    obtain ⟨v, hv⟩ : ∃ v, v = nmV k := ⟨_, rfl⟩
    rw [← hv]
    unfold nmV at hv
    rw [← hv] at c1
    clear hv he h hk
    go_enter Tryd.func11, Tryd.ntmps11
    go_wp2
    go_ret
    exact ⟨rfl, rfl⟩
  · have i3 : (14 : Int) ≤ (k : Int) := by omega
    rw [show nmV k = .string ⟨#[]⟩ by unfold nmV; rw [nmL_none (by omega)]; rfl]
    clear he h hk
    go_enter Tryd.func11, Tryd.ntmps11
    go_wp2
    go_ret
    exact ⟨rfl, rfl⟩
theorem within_any (n lo hi : Int) (w : World) :
    Calls Tryd.prog 24 #[.int .i64 n, .int .i64 lo, .int .i64 hi] w fun e w' => e = .returned (.bool (decide (lo ≤ n) && decide (n ≤ hi))) ∧ w = w' := by
  by_cases h1 : lo ≤ n
  · by_cases h2 : n ≤ hi
    · rw [show (decide (lo ≤ n) && decide (n ≤ hi)) = true by simp [h1, h2]]
      go_enter Tryd.func24, Tryd.ntmps24
      go_wp2
      go_ret
      exact ⟨rfl, rfl⟩
    · have h3 : decide (n ≤ hi) = false := by simpa using h2
      rw [h3, Bool.and_false]
      clear h2
      go_enter Tryd.func24, Tryd.ntmps24
      go_wp2
      go_ret
      exact ⟨rfl, rfl⟩
  · have h3 : n < lo := by omega
    rw [show (decide (lo ≤ n) && decide (n ≤ hi)) = false by simp [h1]]
    clear h1
    go_enter Tryd.func24, Tryd.ntmps24
    go_wp2
    go_ret
    exact ⟨rfl, rfl⟩
theorem within64_any (n lo hi : Int) (w : World) :
    Calls Tryd.prog 26 #[.int .i64 n, .int .i64 lo, .int .i64 hi] w fun e w' => e = .returned (.bool (decide (lo ≤ n) && decide (n ≤ hi))) ∧ w = w' := by
  by_cases h1 : lo ≤ n
  · by_cases h2 : n ≤ hi
    · rw [show (decide (lo ≤ n) && decide (n ≤ hi)) = true by simp [h1, h2]]
      go_enter Tryd.func26, Tryd.ntmps26
      go_wp2
      go_ret
      exact ⟨rfl, rfl⟩
    · have h3 : decide (n ≤ hi) = false := by simpa using h2
      rw [h3, Bool.and_false]
      clear h2
      go_enter Tryd.func26, Tryd.ntmps26
      go_wp2
      go_ret
      exact ⟨rfl, rfl⟩
  · have h3 : n < lo := by omega
    rw [show (decide (lo ≤ n) && decide (n ≤ hi)) = false by simp [h1]]
    clear h1
    go_enter Tryd.func26, Tryd.ntmps26
    go_wp2
    go_ret
    exact ⟨rfl, rfl⟩
theorem sizes_any (T V S : Int) (w : World) :
    Calls Tryd.prog 23 #[.int .i64 T, .int .i64 V, .int .i64 S] w fun e w' => e = .returned (.bool (sizesB T V S)) ∧ w = w' := by
  unfold sizesB
  obtain ⟨a, ha⟩ : ∃ a, a = (decide (1 ≤ T) && decide (T ≤ 6)) := ⟨_, rfl⟩
  obtain ⟨b, hb⟩ : ∃ b, b = (decide (1 ≤ V) && decide (V ≤ 32)) := ⟨_, rfl⟩
  obtain ⟨c, hc⟩ : ∃ c, c = (decide (1 ≤ S) && decide (S ≤ V)) := ⟨_, rfl⟩
  have k1 := Lib.hid (within_any T 1 6 w)
  have k2 := Lib.hid (within_any V 1 32 w)
  have k3 := Lib.hid (within_any S 1 V w)
  rw [← ha] at k1 ⊢
  rw [← hb] at k2 ⊢
  rw [← hc] at k3 ⊢
  clear ha hb hc
  cases a with
  | false =>
    rw [show (false && b && c) = false by simp]
    go_enter Tryd.func23, Tryd.ntmps23
    go_wp2_with fail
    refine k1.out.mono ?_
    rintro _ w1 ⟨rfl, rfl⟩
    go_wp2_with fail
    go_ret
    exact ⟨rfl, rfl⟩
  | true =>
    cases b with
    | false =>
      rw [show (true && false && c) = false by simp]
      go_enter Tryd.func23, Tryd.ntmps23
      go_wp2_with fail
      refine k1.out.mono ?_
      rintro _ w1 ⟨rfl, rfl⟩
      go_wp2_with fail
      refine k2.out.mono ?_
      rintro _ w1 ⟨rfl, rfl⟩
      go_wp2_with fail
      go_ret
      exact ⟨rfl, rfl⟩
    | true =>
      rw [show (true && true && c) = c by simp]
      go_enter Tryd.func23, Tryd.ntmps23
      go_wp2_with fail
      refine k1.out.mono ?_
      rintro _ w1 ⟨rfl, rfl⟩
      go_wp2_with fail
      refine k2.out.mono ?_
      rintro _ w1 ⟨rfl, rfl⟩
      go_wp2_with fail
      refine k3.out.mono ?_
      rintro _ w1 ⟨rfl, rfl⟩
      go_wp2_with fail
      go_ret
      exact ⟨rfl, rfl⟩
/-- An event as a value. -/
def evV (e : Ev) : Value := .agg #[.int .u8 e.kd, .int .i64 e.th, .int .i64 e.tx, .int .i64 e.pl, .int .i64 e.v, .int .i64 e.x, .int .u8 e.why]
def evC (e : Ev) : Array Value := #[.int .u8 e.kd, .int .i64 e.th, .int .i64 e.tx, .int .i64 e.pl, .int .i64 e.v, .int .i64 e.x, .int .u8 e.why]
theorem full_any (e : Ev) (w : World) :
    Calls Tryd.prog 25 #[evV e] w fun r w' => r = .returned (.bool (fullB e.kd e.why)) ∧ Below w.heap.size w w' := by
  obtain ⟨kd, th, tx, pl, v, x, why⟩ := e
  unfold evV fullB
  simp only
  cases h1 : (kd == 10) with
  | false =>
    rw [Bool.false_and]
    go_enter Tryd.func25, Tryd.ntmps25
    go_wp2
    go_ret
    exact ⟨rfl, (Below.refl _ _).alloc (Nat.le_refl _) _⟩
  | true =>
    rw [Bool.true_and]
    go_enter Tryd.func25, Tryd.ntmps25
    go_wp2
    go_ret
    exact ⟨rfl, (Below.refl _ _).alloc (Nat.le_refl _) _⟩
theorem ret_kind {k K : Nat} {b B : Bool} (h : K = k) (hb : B = b) : Ending.returned (.tuple #[.int .u8 k, .bool b]) = .returned (.tuple #[.int .u8 K, .bool B]) := by rw [h, hb]
theorem kind_any (s : ByteArray) (w : World) (he : Ek w) :
    Calls Tryd.prog 41 #[.string s] w fun r w' => r = .returned (.tuple #[.int .u8 (kindF s.data.toList), .bool (kindF s.data.toList != 0)]) ∧ w = w' := by
  obtain ⟨K, hK⟩ : ∃ K, K = kindF s.data.toList := ⟨_, rfl⟩
  obtain ⟨B, hB⟩ : ∃ B, B = (K != 0) := ⟨_, rfl⟩
  rw [← hK, ← hB]
  have HK := Lib.hid hK
  have HB := Lib.hid hB
  clear hK hB
  go_enter Tryd.func41, Tryd.ntmps41
  go_wp2
  go_loop [4] (fun t => ∃ k : Nat, 1 ≤ k ∧ k ≤ 14 ∧ (∀ j, 1 ≤ j → j < k → nmL j ≠ s.data.toList) ∧ t = .int .u8 k) (fun t => 14 - (intOf t).toNat)
  case atStart => exact ⟨1, by omega, by omega, fun j h1 h2 => by omega, rfl⟩
  case round =>
    obtain ⟨k, h1, h2, hn, rfl⟩ := hrel
    have HN := Lib.hid hn
    clear hn
    by_cases hlt : k ≤ 13
    · have c1 := he.nm k (by omega)
      have i1 : (k : Int) ≤ 13 := by omega
      have i2 : (1 : Int) ≤ (k : Int) := by omega
      have i3 : (k : Int) < 14 := by omega
      by_cases hs : nmL k = s.data.toList
      · have hq : bsW (nmL k) = s := by rw [hs, bsW_of]
        rw [hq] at c1
        have hk : kindF s.data.toList = k := by rw [← hs]; exact kindF_nm h1 hlt
        have HQ := Lib.hid (HK.out.trans hk)
        clear he hs hq hk
        go_wp2
        go_ret2
        exact ⟨ret_kind HQ.out (by rw [HB.out, HQ.out]; simp; omega), rfl⟩
      · obtain ⟨b, hb⟩ : ∃ b, b = bsW (nmL k) := ⟨_, rfl⟩
        rw [← hb] at c1
        have hq : (b.toList == s.toList) = false := by rw [hb, testW]; simpa using hs
        have HN2 : Hid (∀ j, 1 ≤ j → j < k + 1 → nmL j ≠ s.data.toList) := fun j g1 g2 => by
          by_cases g : j < k
          · exact HN.out j g1 g
          · obtain rfl : j = k := by omega
            exact hs
        clear he hs hb
        go_wp2
        go_round
        case rel => exact ⟨k + 1, by omega, by omega, HN2.out, by go_num⟩
        case measure => simp [intOf]; omega
    · obtain rfl : k = 14 := by omega
      have hk : kindF s.data.toList = 0 := kindF_none fun j g1 g2 => HN.out j g1 (by omega)
      have HQ := Lib.hid (HK.out.trans hk)
      clear he hk
      go_wp2
      go_ret2
      exact ⟨ret_kind HQ.out (by rw [HB.out, HQ.out]; rfl), rfl⟩
/-- The stripe that an event is about. -/
def stripeF (e : Ev) (S : Int) : Int × Bool :=
  if S < 1 ∨ e.pl < 0 ∨ fullB e.kd e.why = true then (0, false)
  else if e.kd = 2 ∨ e.kd = 4 ∨ e.kd = 6 ∨ e.kd = 9 ∨ e.kd = 11 ∨ e.kd = 10 then (e.pl, true)
  else if e.kd = 3 ∨ e.kd = 8 then (e.pl % S, true) else (0, false)
def strV (p : Int × Bool) : Value := .tuple #[.int .i64 p.1, .bool p.2]
theorem ret_str {p : Int × Bool} {a : Int} {b : Bool} (h : p = (a, b)) : Ending.returned (.tuple #[.int .i64 a, .bool b]) = .returned (strV p) := by rw [h]; rfl
end Go.Proofs.YtfbnigikofidoaaDoor

