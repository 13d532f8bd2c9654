/-
  CONTRACTS OF PACKAGE readset (layer 10): a set as it lies in memory; New, Add, Has, RV, Look, Stale, Copy, at. Conditions: as they stand.
-/
import Derived.Test.YtmjaphcofimbeaaGa
import Derived.Test.YtmjaphcofimbeaaLift
namespace Go.Proofs.Ytmjaphcofimbeaa
set_option maxRecDepth 100000
open Go.RowKit Go.Deep
set_option linter.unusedVariables false
/-- A set's cells: its RV, how many stripes, which were read. -/
def setC (rv st : Int) (f : Nat → Bool) : Array Value := #[.int .i64 rv, .int .i64 st, .bool (f 0), .bool (f 1), .bool (f 2), .bool (f 3), .bool (f 4), .bool (f 5), .bool (f 6), .bool (f 7), .bool (f 8), .bool (f 9), .bool (f 10), .bool (f 11), .bool (f 12), .bool (f 13), .bool (f 14), .bool (f 15), .bool (f 16), .bool (f 17), .bool (f 18), .bool (f 19), .bool (f 20), .bool (f 21), .bool (f 22), .bool (f 23), .bool (f 24), .bool (f 25), .bool (f 26), .bool (f 27), .bool (f 28), .bool (f 29), .bool (f 30), .bool (f 31)]
def upd (f : Nat → Bool) (i : Nat) : Nat → Bool := fun j => j == i || f j
theorem setC_get (rv st : Int) (f : Nat → Bool) {i : Nat} (h : i < 32) : (setC rv st f)[2 + i]? = some (.bool (f i)) := by
  match i, h with
  | 0, _ | 1, _ | 2, _ | 3, _ | 4, _ | 5, _ | 6, _ | 7, _ | 8, _ | 9, _ | 10, _ | 11, _ | 12, _ | 13, _ | 14, _ | 15, _ => rfl
  | 16, _ | 17, _ | 18, _ | 19, _ | 20, _ | 21, _ | 22, _ | 23, _ | 24, _ | 25, _ | 26, _ | 27, _ | 28, _ | 29, _ | 30, _ | 31, _ => rfl
  | i + 32, h => exact absurd h (by omega)
theorem setC_set (rv st : Int) (f : Nat → Bool) {i : Nat} (h : i < 32) : (setC rv st f).setIfInBounds (2 + i) (.bool true) = setC rv st (upd f i) := by
  match i, h with
  | 0, _ | 1, _ | 2, _ | 3, _ | 4, _ | 5, _ | 6, _ | 7, _ | 8, _ | 9, _ | 10, _ | 11, _ | 12, _ | 13, _ | 14, _ | 15, _ => rfl
  | 16, _ | 17, _ | 18, _ | 19, _ | 20, _ | 21, _ | 22, _ | 23, _ | 24, _ | 25, _ | 26, _ | 27, _ | 28, _ | 29, _ | 30, _ | 31, _ => rfl
  | i + 32, h => exact absurd h (by omega)
/-- A set, as it lies. -/
structure SetAt (w : World) (g : Nat) (rv st : Int) (f : Nat → Bool) : Prop where
  row : w.heap[g]? = some (.cells (setC rv st f) 45 (0, 0))
  r0 : 0 ≤ rv
  r1 : rv ≤ 1099511627776
  s1 : 1 ≤ st
  s2 : st ≤ 32
section
variable {w : World} {g : Nat} {rv st : Int} {f : Nat → Bool}
theorem SetAt.lt (h : SetAt w g rv st f) : g < w.heap.size := (Array.getElem?_eq_some_iff.1 h.row).1
theorem SetAt.same {w' : World} (h : SetAt w g rv st f) (e : w'.heap[g]? = w.heap[g]?) : SetAt w' g rv st f := ⟨e.trans h.row, h.r0, h.r1, h.s1, h.s2⟩
theorem SetAt.below {w' : World} (h : SetAt w g rv st f) (hb : Below w.heap.size w w') : SetAt w' g rv st f := h.same (hb.block g h.lt)
theorem SetAt.c0 (h : SetAt w g rv st f) : w.cell? ⟨g, 0, none⟩ = some (.int .i64 rv) := by simp [World.cell?, h.row, setC]
theorem SetAt.c1 (h : SetAt w g rv st f) : w.cell? ⟨g, 1, none⟩ = some (.int .i64 st) := by simp [World.cell?, h.row, setC]
theorem SetAt.cr (h : SetAt w g rv st f) {i : Nat} (hi : i < 32) : w.cell? ⟨g, 2 + i, none⟩ = some (.bool (f i)) := by
  have := setC_get rv st f hi
  unfold World.cell?
  rw [h.row]
  exact this
theorem SetAt.fr (h : SetAt w g rv st f) (i : Nat) : w.frozen? ⟨g, i, none⟩ = false := by simp [World.frozen?, h.row]
end
set_option maxHeartbeats 4000000 in
theorem new_no (rv st : Int) (h : rv < 0 ∨ 1099511627776 < rv ∨ st < 1 ∨ 32 < st) (w : World) : Calls Try.prog 5 #[.int .i64 rv, .int .i64 st] w fun e w' => e = .returned (.tuple #[.pointer none, .int .i64 1]) ∧ w = w' := by
  by_cases h1 : rv < 0
  · go_enter Try.func5, Try.ntmps5
    go_wp2_with fail
    go_ret2
    exact ⟨rfl, rfl⟩
  by_cases h2 : 1099511627776 < rv
  · go_enter Try.func5, Try.ntmps5
    go_wp2_with fail
    go_ret2
    exact ⟨rfl, rfl⟩
  by_cases h3 : st < 1
  · go_enter Try.func5, Try.ntmps5
    go_wp2_with fail
    go_ret2
    exact ⟨rfl, rfl⟩
  have h4 : 32 < st := by omega
  go_enter Try.func5, Try.ntmps5
  go_wp2_with fail
  go_ret2
  exact ⟨rfl, rfl⟩
set_option maxHeartbeats 4000000 in
theorem new_yes (rv st : Int) (r0 : 0 ≤ rv) (r1 : rv ≤ 1099511627776) (s1 : 1 ≤ st) (s2 : st ≤ 32) (w : World) : Calls Try.prog 5 #[.int .i64 rv, .int .i64 st] w fun e w' => e = .returned (.tuple #[.pointer (some ⟨w.heap.size, 0, none⟩), .int .i64 0]) ∧ SetAt w' w.heap.size rv st (fun _ => false) ∧ Below w.heap.size w w' ∧ w'.heap.size = w.heap.size + 1 := by
  have n1 : ¬ rv < 0 := by omega
  have n2 : ¬ 1099511627776 < rv := by omega
  have n3 : ¬ st < 1 := by omega
  have n4 : ¬ 32 < st := by omega
  go_enter Try.func5, Try.ntmps5
  go_wp2_with fail
  go_ret2
  exact ⟨rfl, ⟨heap_alloc_new w _, r0, r1, s1, s2⟩, (Below.refl _ _).alloc (Nat.le_refl _) _, by simp⟩
set_option maxHeartbeats 4000000 in
theorem there_any {w : World} {g : Nat} {rv st : Int} {f : Nat → Bool} (h : SetAt w g rv st f) (n : Int) : Calls Try.prog 19 #[.pointer (some ⟨g, 0, none⟩), .int .i64 n] w fun e w' => e = .returned (.bool (decide (0 ≤ n ∧ n < st))) ∧ w = w' := by
  have c1 := h.c1
  by_cases h1 : 0 ≤ n
  · have hd : decide (0 ≤ n ∧ n < st) = decide (n < st) := by simp [h1]
    rw [hd]
    clear hd h
    go_enter Try.func19, Try.ntmps19
    go_wp2_with fail
    go_ret
    exact ⟨rfl, rfl⟩
  · have hd : decide (0 ≤ n ∧ n < st) = false := by simp [h1]
    rw [hd]
    clear hd h
    go_enter Try.func19, Try.ntmps19
    go_wp2_with fail
    go_ret
    exact ⟨rfl, rfl⟩
set_option maxHeartbeats 4000000 in
theorem add_no {w : World} {g : Nat} {rv st : Int} {f : Nat → Bool} (h : SetAt w g rv st f) (n : Int) (hn : ¬ (0 ≤ n ∧ n < st)) : Calls Try.prog 9 #[.pointer (some ⟨g, 0, none⟩), .int .i64 n] w fun e w' => e = .returned (.int .i64 1) ∧ w = w' := by
  have ht := there_any h n
  rw [decide_eq_false hn] at ht
  clear hn h
  go_enter Try.func9, Try.ntmps9
  go_wp2_with fail
  refine ht.mono ?_
  rintro e w' ⟨rfl, rfl⟩
  go_wp2_with fail
  go_ret
  exact ⟨rfl, rfl⟩
set_option maxHeartbeats 4000000 in
theorem add_yes {w : World} {g : Nat} {rv st : Int} {f : Nat → Bool} (h : SetAt w g rv st f) (n : Nat) (hn : (n : Int) < st) : Calls Try.prog 9 #[.pointer (some ⟨g, 0, none⟩), .int .i64 n] w fun e w' => e = .returned (.int .i64 0) ∧ SetAt w' g rv st (upd f n) ∧ (∀ b, b ≠ g → w'.heap[b]? = w.heap[b]?) ∧ w'.heap.size = w.heap.size ∧ (∀ B, B ≤ g → Below B w w') := by
  have ht := there_any h n
  rw [decide_eq_true (by omega)] at ht
  have s2 := h.s2
  have c := h.cr (i := n) (by omega)
  have fr := h.fr
  have hi : (n : Int) < 32 := by omega
  have hi0 : (0 : Int) ≤ (n : Int) := by omega
  have HS : Hid (SetAt (w.setCell ⟨g, 2 + n, none⟩ (.bool true)) g rv st (upd f n)) := ⟨by
    rw [heap_set_same _ _ _ _ _ _ h.row, setC_set rv st f (by omega)], h.r0, h.r1, h.s1, h.s2⟩
  clear hn h s2
  go_enter Try.func9, Try.ntmps9
  go_wp2_with fail
  refine ht.mono ?_
  rintro e w' ⟨rfl, rfl⟩
  go_wp2_with fail
  go_ret
  exact ⟨rfl, HS.out, fun b hb => heap_set_other _ _ _ _ _ hb, by simp, fun B hB => (Below.refl B w).setCell (p := ⟨g, 2 + n, none⟩) hB _⟩
set_option maxHeartbeats 4000000 in
theorem has_no {w : World} {g : Nat} {rv st : Int} {f : Nat → Bool} (h : SetAt w g rv st f) (n : Int) (hn : ¬ (0 ≤ n ∧ n < st)) : Calls Try.prog 14 #[.pointer (some ⟨g, 0, none⟩), .int .i64 n] w fun e w' => e = .returned (.bool false) ∧ w = w' := by
  have ht := there_any h n
  rw [decide_eq_false hn] at ht
  clear hn h
  go_enter Try.func14, Try.ntmps14
  go_wp2_with fail
  refine ht.mono ?_
  rintro e w' ⟨rfl, rfl⟩
  go_wp2_with fail
  go_ret
  exact ⟨rfl, rfl⟩
set_option maxHeartbeats 4000000 in
theorem has_yes {w : World} {g : Nat} {rv st : Int} {f : Nat → Bool} (h : SetAt w g rv st f) (n : Nat) (hn : (n : Int) < st) : Calls Try.prog 14 #[.pointer (some ⟨g, 0, none⟩), .int .i64 n] w fun e w' => e = .returned (.bool (f n)) ∧ w = w' := by
  have ht := there_any h n
  rw [decide_eq_true (by omega)] at ht
  have s2 := h.s2
  have c := h.cr (i := n) (by omega)
  have hi : (n : Int) < 32 := by omega
  have hi0 : (0 : Int) ≤ (n : Int) := by omega
  obtain ⟨b, hb⟩ : ∃ b, b = f n := ⟨_, rfl⟩
  rw [← hb] at c ⊢
  clear hn h s2 hb
  go_enter Try.func14, Try.ntmps14
  go_wp2_with fail
  refine ht.mono ?_
  rintro e w' ⟨rfl, rfl⟩
  go_wp2_with fail
  go_ret
  exact ⟨rfl, rfl⟩
set_option maxHeartbeats 4000000 in
theorem rv_any {w : World} {g : Nat} {rv st : Int} {f : Nat → Bool} (h : SetAt w g rv st f) : Calls Try.prog 11 #[.pointer (some ⟨g, 0, none⟩)] w fun e w' => e = .returned (.int .i64 rv) ∧ w = w' := by
  have c := h.c0
  clear h
  go_enter Try.func11, Try.ntmps11
  go_wp2_with fail
  go_ret
  exact ⟨rfl, rfl⟩
/-- Why a stripe may not be looked at. -/
def lookF (rv o v : Int) : Int := if o ≠ -1 then 1 else if rv < v then 2 else 0
def staleF (rv o v me : Int) : Bool := (decide (o ≠ -1) && decide (o ≠ me)) || decide (rv < v)
set_option maxHeartbeats 4000000 in
theorem look_any {w : World} {g : Nat} {rv st : Int} {f : Nat → Bool} (h : SetAt w g rv st f) (o v : Int) : Calls Try.prog 16 #[.pointer (some ⟨g, 0, none⟩), .int .i64 o, .int .i64 v] w fun e w' => e = .returned (.int .u8 (lookF rv o v)) ∧ w = w' := by
  have c := h.c0
  clear h
  by_cases h1 : o = -1
  · have i1 : (o != -1) = false := bne_eq_false_iff_eq.2 h1
    by_cases h2 : rv < v
    · rw [show lookF rv o v = 2 by unfold lookF; rw [if_neg (by omega), if_pos h2]]
      clear h1
      go_enter Try.func16, Try.ntmps16
      go_wp2_with fail
      go_ret
      exact ⟨rfl, rfl⟩
    · rw [show lookF rv o v = 0 by unfold lookF; rw [if_neg (by omega), if_neg h2]]
      clear h1
      go_enter Try.func16, Try.ntmps16
      go_wp2_with fail
      go_ret
      exact ⟨rfl, rfl⟩
  · have i1 : (o != -1) = true := bne_iff_ne.2 h1
    rw [show lookF rv o v = 1 by unfold lookF; rw [if_pos h1]]
    clear h1
    go_enter Try.func16, Try.ntmps16
    go_wp2_with fail
    go_ret
    exact ⟨rfl, rfl⟩
set_option maxHeartbeats 4000000 in
theorem stale_any {w : World} {g : Nat} {rv st : Int} {f : Nat → Bool} (h : SetAt w g rv st f) (o v me : Int) : Calls Try.prog 17 #[.pointer (some ⟨g, 0, none⟩), .int .i64 o, .int .i64 v, .int .i64 me] w fun e w' => e = .returned (.bool (staleF rv o v me)) ∧ w = w' := by
  have c := h.c0
  clear h
  by_cases h1 : o = -1
  · have i1 : (o != -1) = false := bne_eq_false_iff_eq.2 h1
    rw [show staleF rv o v me = decide (rv < v) by unfold staleF; simp [h1]]
    clear h1
    go_enter Try.func17, Try.ntmps17
    go_wp2_with fail
    go_ret
    exact ⟨rfl, rfl⟩
  · have i1 : (o != -1) = true := bne_iff_ne.2 h1
    by_cases h2 : o = me
    · have i2 : (o != me) = false := bne_eq_false_iff_eq.2 h2
      rw [show staleF rv o v me = decide (rv < v) by unfold staleF; simp [h2]]
      clear h1 h2
      go_enter Try.func17, Try.ntmps17
      go_wp2_with fail
      go_ret
      exact ⟨rfl, rfl⟩
    · have i2 : (o != me) = true := bne_iff_ne.2 h2
      rw [show staleF rv o v me = true by unfold staleF; simp [h1, h2]]
      clear h1 h2
      go_enter Try.func17, Try.ntmps17
      go_wp2_with fail
      go_ret
      exact ⟨rfl, rfl⟩
/-- What a list has at a place. -/
def atF (L : List Int) (n : Nat) (d : Int) : Int := (L[n]?).getD d
set_option maxHeartbeats 4000000 in
theorem at_any {w : World} {hi : Nat} {A : Option Addr} {L : List Int} (h : Ints w hi A L) (c : Nat) (n : Nat) (d : Int) : Calls Try.prog 22 #[.slice A L.length c, .int .i64 n, .int .i64 d] w fun e w' => e = .returned (.int .i64 (atF L n d)) ∧ w = w' := by
  have hl := h.len
  by_cases h1 : n < L.length
  · obtain ⟨p, rfl, m, hc⟩ := h.cell n h1
    have hv : atF L n d = L[n] := by unfold atF; rw [List.getElem?_eq_getElem h1]; rfl
    rw [← hv] at hc
    obtain ⟨v, hv2⟩ : ∃ v, v = atF L n d := ⟨_, rfl⟩
    rw [← hv2] at hc ⊢
    have i0 : (n : Int) < (L.length : Int) := by omega
    have i1 : (0 : Int) ≤ (n : Int) := by omega
    clear hv hv2 h
    go_enter Try.func22, Try.ntmps22
    go_wp2_with fail
    go_ret
    exact ⟨rfl, rfl⟩
  · have hv : atF L n d = d := by unfold atF; rw [List.getElem?_eq_none (by omega)]; rfl
    rw [hv]
    have i0 : ¬ (n : Int) < (L.length : Int) := by omega
    clear hv h
    go_enter Try.func22, Try.ntmps22
    go_wp2_with fail
    go_ret
    exact ⟨rfl, rfl⟩
end Go.Proofs.Ytmjaphcofimbeaa
