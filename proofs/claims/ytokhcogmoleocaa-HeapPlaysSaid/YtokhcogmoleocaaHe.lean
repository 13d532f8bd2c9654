/-
  CONTRACTS OF PACKAGE heap: New. Conditions: as they stand.
-/
import Derived.Test.YtokhcogmoleocaaHd
namespace Go.Proofs.Ytokhcogmoleocaa
set_option maxRecDepth 100000
open Go.RowKit Go.Deep
set_option linter.unusedVariables false
/-- Why there is no such heap. -/
def badH (n : Nat) (st limit : Int) : Bool := decide (n < 1) || decide (32 < n) || decide (st < 1) || decide ((n : Int) < st) || decide (limit < 0) || decide (1099511627776 < limit)
theorem badH_no {n : Nat} {st limit : Int} (h : badH n st limit = false) : 1 ≤ n ∧ n ≤ 32 ∧ 1 ≤ st ∧ st ≤ n ∧ 0 ≤ limit ∧ limit ≤ 1099511627776 := by
  simp only [badH, Bool.or_eq_false_iff, decide_eq_false_iff_not] at h
  omega
theorem badH_yes {n : Nat} {st limit : Int} (h : badH n st limit = true) : n < 1 ∨ 32 < n ∨ st < 1 ∨ (n : Int) < st ∨ limit < 0 ∨ 1099511627776 < limit := by
  simp only [badH, Bool.or_eq_true, decide_eq_true_eq] at h
  omega
/-- A heap that New has made. -/
def newF (L : List Int) (st limit : Int) : Nat → Int := fun j => if j < 67 then lockF st limit st.toNat j else if j = 67 then L.length else if 68 ≤ j ∧ j - 68 < L.length then L.getD (j - 68) 0 else 0
set_option maxHeartbeats 4000000 in
theorem hnew_no {L : List Int} {st limit : Int} (h : badH L.length st limit = true) (A : Option Addr) (c : Nat) (hl : L.length ≤ 9223372036854775807) (w : World) : Calls Try.prog 28 #[.slice A L.length c, .int .i64 st, .int .i64 limit] w fun e w' => e = .returned (.tuple #[.pointer none, .int .i64 1]) ∧ w = w' := by
  have hb := badH_yes h
  clear h
  by_cases h1 : L.length < 1
  · have i1 : (L.length : Int) < 1 := by omega
    clear hb
    go_enter Try.func28, Try.ntmps28
    go_wp2_with fail
    go_ret2
    exact ⟨rfl, rfl⟩
  by_cases h2 : 32 < L.length
  · have i1 : ¬ (L.length : Int) < 1 := by omega
    have i2 : 32 < (L.length : Int) := by omega
    clear hb
    go_enter Try.func28, Try.ntmps28
    go_wp2_with fail
    go_ret2
    exact ⟨rfl, rfl⟩
  have i1 : ¬ (L.length : Int) < 1 := by omega
  have i2 : ¬ 32 < (L.length : Int) := by omega
  by_cases h3 : st < 1
  · clear hb
    go_enter Try.func28, Try.ntmps28
    go_wp2_with fail
    go_ret2
    exact ⟨rfl, rfl⟩
  by_cases h4 : (L.length : Int) < st
  · clear hb
    go_enter Try.func28, Try.ntmps28
    go_wp2_with fail
    go_ret2
    exact ⟨rfl, rfl⟩
  by_cases h5 : limit < 0
  · clear hb
    go_enter Try.func28, Try.ntmps28
    go_wp2_with fail
    go_ret2
    exact ⟨rfl, rfl⟩
  have h6 : 1099511627776 < limit := by omega
  clear hb
  go_enter Try.func28, Try.ntmps28
  go_wp2_with fail
  go_ret2
  exact ⟨rfl, rfl⟩
theorem wpList_built {P : Program} {ops : Array Oper} {rest : List Oper} {o : Oper} {a : Act} {w : World} {Q : Exit → Act → World → Prop} (hg : o.guard = none) (t : TypeId) (parts : Array (Nat × Operand)) (ho : o.op = .build t parts) (cs : Array Value)
    (hf : P.built t (parts.map fun (i, x) => (i, a.eval x)).toList = some cs)
    (h : wpList P ops Q rest (a.put o.dst (.agg cs)) w) : wpList P ops Q (o :: rest) a w :=
  wpList_build hg t parts ho (by rw [hf]; rfl) (by rw [hf]; exact h)
/-- What is built of locks, and how many variables there are. -/
def headF (lf : Nat → Int) (n : Int) : Nat → Int := fun j => if j < 67 then lf j else if j = 67 then n else 0
/-- .. and of what is copied into it. -/
theorem copied_row (lf : Nat → Int) (L : List Int) (hL : L.length ≤ 32) : ((rowC 100 (headF lf L.length)).toList.take 68 ++ (L.map (Value.int .i64) ++ (rowC 100 (headF lf L.length)).toList.drop (68 + (L.map (Value.int .i64)).length))).toArray = rowC 100 (fun j => if j < 67 then lf j else if j = 67 then (L.length : Int) else if 68 ≤ j ∧ j - 68 < L.length then L.getD (j - 68) 0 else 0) := by
  apply Array.ext_getElem?
  intro j
  rw [List.getElem?_toArray, List.length_map]
  have hR : ∀ (c : Nat → Int) (i : Nat), (rowC 100 c).toList[i]? = (rowC 100 c)[i]? := fun c i => by simp
  have hlen : ((rowC 100 (headF lf L.length)).toList.take 68).length = 68 := by simp [rowC_size]
  by_cases h1 : j < 68
  · rw [List.getElem?_append_left (by omega), List.getElem?_take_of_lt h1, hR, rowC_get 100 _ (by omega), rowC_get 100 _ (by omega)]
    unfold headF
    by_cases h2 : j < 67
    · rw [if_pos h2, if_pos h2]
    · rw [if_neg h2, if_neg h2, if_pos (by omega), if_pos (by omega)]
  · rw [List.getElem?_append_right (by omega), hlen]
    by_cases h2 : j - 68 < L.length
    · rw [List.getElem?_append_left (by simpa using h2), List.getElem?_map, List.getElem?_eq_getElem h2, rowC_get 100 _ (by omega), if_neg (by omega), if_neg (by omega), if_pos ⟨by omega, h2⟩, List.getD_eq_getElem?_getD, List.getElem?_eq_getElem h2]
      rfl
    · rw [List.getElem?_append_right (by simp; omega), List.length_map, List.getElem?_drop, hR, show 68 + L.length + (j - 68 - L.length) = j by omega]
      by_cases h3 : j < 100
      · rw [rowC_get 100 _ h3, rowC_get 100 _ h3]
        unfold headF
        rw [if_neg (by omega), if_neg (by omega), if_neg (by omega), if_neg (by omega), if_neg (by omega)]
      · rw [Array.getElem?_eq_none (by rw [rowC_size]; omega), Array.getElem?_eq_none (by rw [rowC_size]; omega)]
set_option maxHeartbeats 4000000 in
set_option maxRecDepth 100000 in
theorem hnew_yes {L : List Int} {st limit : Int} (h : badH L.length st limit = false) {w : World} {A : Option Addr} (c : Nat) (hI : Ints w w.heap.size A L) : Calls Try.prog 28 #[.slice A L.length c, .int .i64 st, .int .i64 limit] w fun e w' => ∃ g, e = .returned (.tuple #[.pointer (some ⟨g, 0, none⟩), .int .i64 0]) ∧ HeapAt w' g (newF L st limit) ∧ w.heap.size ≤ g ∧ Below w.heap.size w w' := by
  obtain ⟨h1, h2, h3, h4, h5, h6⟩ := badH_no h
  obtain ⟨k, rfl⟩ : ∃ k : Nat, st = k := ⟨st.toNat, by omega⟩
  have hz := zero_heap
  have i1 : ¬ (L.length : Int) < 1 := by omega
  have i2 : ¬ 32 < (L.length : Int) := by omega
  have i3 : ¬ (k : Int) < 1 := by omega
  have i4 : ¬ (L.length : Int) < (k : Int) := by omega
  have i5 : ¬ limit < 0 := by omega
  have i6 : ¬ 1099511627776 < limit := by omega
  have HU := Lib.hid (unlocked_any k limit (by omega) w)
  have HI := Lib.hid hI
  have HN : Hid (rowC 100 (fun j => if j < 67 then lockF (k : Int) limit k j else if j = 67 then (L.length : Int) else if 68 ≤ j ∧ j - 68 < L.length then L.getD (j - 68) 0 else 0) = rowC 100 (newF L k limit)) := rfl
  obtain ⟨lf, hlf⟩ : ∃ lf, lf = lockF (k : Int) limit k := ⟨_, rfl⟩
  rw [← hlf] at HU HN
  clear h hlf
  go_enter Try.func28, Try.ntmps28
  go_wp2_with fail
  refine HU.out.mono ?_
  rintro e w1 ⟨rfl, hb1⟩
  have HB1 := Lib.hid hb1
  have HI1 := Lib.hid (HI.out.below hb1 (Nat.le_refl _))
  have HC := Lib.hid (copied_row lf L (by omega))
  obtain ⟨ad, rfl, _, _⟩ := hI.cell 0 (by omega)
  have hsrc : Hid (∀ j v, (L.map (Value.int .i64))[j]? = some v → (w1.alloc (.cells (rowC 100 (headF lf L.length)) 64)).cell? (ad.add j) = some v) := fun j v hj => by
    rw [List.getElem?_map] at hj
    rcases Nat.lt_or_ge j L.length with hjl | hjl
    · rw [List.getElem?_eq_getElem hjl] at hj
      obtain ⟨a', ha, m, hc⟩ := HI1.out.cell j hjl
      cases ha
      have hw1 := HB1.out.size
      rw [((Below.refl w1.heap.size w1).alloc (Nat.le_refl _) (.cells (rowC 100 (headF lf L.length)) 64)).cell (p := ad.add j) (by rw [ad_block]; omega), hc]
      exact hj
    · rw [List.getElem?_eq_none hjl] at hj
      cases hj
  have h9 : ∀ {ops : Array Oper} {rest : List Oper} {o : Oper} {a : Act} {Q : Exit → Act → World → Prop} (hgd : o.guard = none) (d s : Operand) (ho : o.op = .call { callee := .builtin .copy, args := #[d, s], argTypes := #[33, 33] }) (hd : a.eval d = .slice (some ⟨w1.heap.size, 68, none⟩) 32 32) (hs : a.eval s = .slice (some ad) L.length c) (h : wpList Try.prog ops Q rest (a.put o.dst (goInt (L.map (Value.int .i64)).length)) ((w1.alloc (.cells (rowC 100 (headF lf L.length)) 64)).setRow w1.heap.size (rowC 100 (newF L k limit)))), wpList Try.prog ops Q (o :: rest) a (w1.alloc (.cells (rowC 100 (headF lf L.length)) 64)) := fun hgd d s ho hd hs h => by
    refine wpList_copy_own hgd _ _ 33 33 ho 2 Try.underlying33 (by kernel_rfl) w1.heap.size 68 32 32 ad L.length c hd hs (rowC 100 (headF lf L.length)) 64 (heap_alloc_new w1 _) (L.map (Value.int .i64)) (by rw [List.length_map]; exact (Nat.min_eq_left (by omega)).symm) hsrc.out (by rw [rowC_size, List.length_map]; omega) (by simp [Value.oneCell']) ?_
    rw [HC.out, HN.out]
    exact h
  clear hb1 hI
  go_wp2_with (first
    | (refine wpList_built rfl 64 _ rfl (rowC 100 (headF lf L.length)) (by kernel_rfl) ?_)
    | (refine h9 rfl _ _ rfl rfl rfl ?_)
    | fail)
  go_ret2
  exact ⟨w1.heap.size, rfl, setRow_heap _ _ _ _ _ _ (heap_alloc_new w1 _), HB1.out.size, below_setRow (HB1.out.alloc HB1.out.size _) HB1.out.size _⟩
end Go.Proofs.Ytokhcogmoleocaa
