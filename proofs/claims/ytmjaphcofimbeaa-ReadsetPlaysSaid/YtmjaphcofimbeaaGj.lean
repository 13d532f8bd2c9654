/-
  CONTRACTS OF seesawref10 (layer 10 by its words): a set as it lies; New, Has. Conditions: as they stand.
-/
import Derived.Test.YtmjaphcofimbeaaGi
namespace Go.Proofs.Ytmjaphcofimbeaa
set_option maxRecDepth 100000
open Go.RowKit Go.Deep
set_option linter.unusedVariables false
/-- A set by the document's words, as it lies: its list in blocks from lo on. -/
structure RefAt (w : World) (g lo : Nat) (V st : Int) (L : List Int) : Prop where
  ex : ∃ (A : Option Addr) (c : Nat), w.heap[g]? = some (.cells #[.int .i64 V, .int .i64 st, .slice A L.length c] 36 (0, 0)) ∧ Ints w w.heap.size A L ∧ (∀ p, A = some p → lo ≤ p.block ∧ p.block ≠ g) ∧ L.length ≤ c ∧ c ≤ maxLen
section
variable {w w' : World} {g lo : Nat} {V st : Int} {L : List Int}
theorem RefAt.lt (h : RefAt w g lo V st L) : g < w.heap.size := by
  obtain ⟨A, c, h1, _⟩ := h.ex
  exact (Array.getElem?_eq_some_iff.1 h1).1
theorem ints_block {hi : Nat} {A : Option Addr} (h : Ints w hi A L) {hi' : Nat} (hhi : hi ≤ hi') (hk : ∀ p, A = some p → w'.heap[p.block]? = w.heap[p.block]?) : Ints w' hi' A L :=
  ⟨h.len, fun k h1 => by
    obtain ⟨p, rfl, m, c⟩ := h.cell k h1
    refine ⟨p, rfl, by omega, ?_⟩
    rw [← c]
    unfold World.cell?
    rw [ad_block, hk p rfl]⟩
theorem RefAt.keep (h : RefAt w g lo V st L) (x : Nat) (hx : x ≠ g) (hxl : x < lo) (hk : ∀ b, b ≠ x → b < w.heap.size → w'.heap[b]? = w.heap[b]?) (hz : w.heap.size ≤ w'.heap.size) : RefAt w' g lo V st L := by
  have hg := h.lt
  obtain ⟨A, c, h1, h2, h3⟩ := h.ex
  refine ⟨A, c, (hk g (Ne.symm hx) hg).trans h1, ?_, h3⟩
  by_cases hL : L = []
  · subst hL
    exact ⟨by simp, fun k hk => absurd hk (by simp)⟩
  · have hpos := List.length_pos_iff.2 hL
    obtain ⟨p0, hp0, m0, _⟩ := h2.cell 0 hpos
    refine ints_block h2 hz fun p hp => ?_
    rw [hp0] at hp
    cases hp
    exact hk _ (by have := (h3.1 p0 hp0).1; omega) m0
theorem RefAt.below (h : RefAt w g lo V st L) (hb : Below w.heap.size w w') : RefAt w' g lo V st L := by
  have hg := h.lt
  obtain ⟨A, c, h1, h2, h3⟩ := h.ex
  exact ⟨A, c, (hb.block g hg).trans h1, h2.at10 hb hb.size, h3⟩
end
set_option maxHeartbeats 4000000 in
theorem rnew_no (rv st : Int) (h : rv < 0 ∨ 1099511627776 < rv ∨ st < 1 ∨ 32 < st) (w : World) : Calls Try.prog 6 #[.int .i64 rv, .int .i64 st] w fun e w' => e = .returned (.tuple #[.pointer none, .int .i64 1]) ∧ w = w' := by
  by_cases h1 : rv < 0
  · go_enter Try.func6, Try.ntmps6
    go_wp2_with fail
    go_ret2
    exact ⟨rfl, rfl⟩
  by_cases h2 : 1099511627776 < rv
  · go_enter Try.func6, Try.ntmps6
    go_wp2_with fail
    go_ret2
    exact ⟨rfl, rfl⟩
  by_cases h3 : st < 1
  · go_enter Try.func6, Try.ntmps6
    go_wp2_with fail
    go_ret2
    exact ⟨rfl, rfl⟩
  have h4 : 32 < st := by omega
  go_enter Try.func6, Try.ntmps6
  go_wp2_with fail
  go_ret2
  exact ⟨rfl, rfl⟩
set_option maxHeartbeats 4000000 in
theorem rnew_yes (rv st : Int) (r0 : 0 ≤ rv) (r1 : rv ≤ 1099511627776) (s1 : 1 ≤ st) (s2 : st ≤ 32) (w : World) (lo : Nat) : Calls Try.prog 6 #[.int .i64 rv, .int .i64 st] w fun e w' => e = .returned (.tuple #[.pointer (some ⟨w.heap.size, 0, none⟩), .int .i64 0]) ∧ RefAt w' w.heap.size lo rv st [] ∧ Below w.heap.size w w' ∧ w'.heap.size = w.heap.size + 1 := by
  have n1 : ¬ rv < 0 := by omega
  have n2 : ¬ 1099511627776 < rv := by omega
  have n3 : ¬ st < 1 := by omega
  have n4 : ¬ 32 < st := by omega
  go_enter Try.func6, Try.ntmps6
  go_wp2_with fail
  go_ret2
  exact ⟨rfl, ⟨none, 0, heap_alloc_new w _, Ints.no _ _, (fun p e => by cases e), by simp, by decide⟩, (Below.refl _ _).alloc (Nat.le_refl _) _, by simp⟩
set_option maxHeartbeats 4000000 in
theorem rhas_any {w : World} {g lo : Nat} {V st : Int} {L : List Int} (h : RefAt w g lo V st L) (n : Int) : Calls Try.prog 15 #[.pointer (some ⟨g, 0, none⟩), .int .i64 n] w fun e w' => e = .returned (.bool (decide (n ∈ L))) ∧ w = w' := by
  obtain ⟨res, hres⟩ : ∃ r, r = decide (n ∈ L) := ⟨_, rfl⟩
  rw [← hres]
  have HRES := Lib.hid hres
  clear hres
  obtain ⟨A, c, hr, hI, _⟩ := h.ex
  have c2 : w.cell? ⟨g, 2, none⟩ = some (.slice A L.length c) := by simp [World.cell?, hr]
  have hl := hI.len
  have HI := Lib.hid hI
  clear h hr hI
  go_enter Try.func15, Try.ntmps15
  go_wp2_with fail
  go_loopw [5] (fun i wr => ∃ k : Nat, k ≤ L.length ∧ i = .int .i64 k ∧ w = wr ∧ Hid (n ∉ L.take k)) (fun i _ => L.length - (intOf i).toNat)
  case atStart => exact ⟨0, by omega, by go_num, rfl, by show _ ∉ _; simp⟩
  case round =>
    obtain ⟨k, hk, rfl, rfl, hn⟩ := hrel
    by_cases hlt : k < L.length
    · obtain ⟨p, rfl, m, hc⟩ := HI.out.cell k hlt
      have i1 : (0 : Int) ≤ (k : Int) := by omega
      have i2 : (k : Int) < (L.length : Int) := by omega
      have ht : L.take (k + 1) = L.take k ++ [L[k]] := List.take_succ_eq_append_getElem hlt
      have hmem : L[k] ∈ L := List.getElem_mem hlt
      obtain ⟨x, hx⟩ : ∃ x, x = L[k] := ⟨_, rfl⟩
      rw [← hx] at hc ht hmem
      by_cases hxn : x = n
      · have q1 : (x == n) = true := beq_iff_eq.2 hxn
        obtain rfl : res = true := HRES.out.trans (decide_eq_true (hxn ▸ hmem))
        clear ht hx hxn hmem hn m
        go_wp2_with fail
        go_ret
        exact ⟨rfl, rfl⟩
      · have q1 : (x == n) = false := beq_eq_false_iff_ne.2 hxn
        have HN : Hid (n ∉ L.take (k + 1)) := by
          show n ∉ _
          rw [ht, List.mem_append, List.mem_singleton]
          rintro (h | h)
          · exact hn.out h
          · exact hxn h.symm
        clear ht hx hxn hmem hn m
        go_wp2_with fail
        go_roundw
        case rel => exact ⟨k + 1, by omega, by go_num, trivial, HN⟩
        case measure => simp [intOf]; omega
    · have hn0 := hn.out
      rw [List.take_of_length_le (by omega)] at hn0
      obtain rfl : res = false := HRES.out.trans (decide_eq_false hn0)
      have i2 : ¬ (k : Int) < (L.length : Int) := by omega
      clear hn hn0
      go_wp2_with fail
      go_ret
      exact ⟨rfl, rfl⟩
end Go.Proofs.Ytmjaphcofimbeaa
