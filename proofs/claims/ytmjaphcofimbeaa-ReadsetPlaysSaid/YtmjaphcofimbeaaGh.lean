/-
  CONTRACTS FOR LAYER 10's LAWS: awake, made. Conditions: as they stand.
-/
import Derived.Test.YtmjaphcofimbeaaGg
import Derived.Test.YtmjaphcofimbeaaGc
namespace Go.Proofs.Ytmjaphcofimbeaa
set_option maxRecDepth 100000
open Go.RowKit Go.Deep
set_option linter.unusedVariables false
theorem Ints.lit {w : World} {g hi : Nat} {t : TypeId} {cs : Array Value} (L : List Int) (h : w.heap[g]? = some (.cells cs t (0, 0))) (hc : cs = (L.map (Value.int .i64)).toArray) (hg : g < hi) (hl : L.length ≤ 1000) : Ints w hi (some ⟨g, 0, none⟩) L := by
  subst hc
  refine ⟨by omega, fun k hk => ⟨_, rfl, hg, ?_⟩⟩
  have : (⟨g, 0, none⟩ : Addr).add k = ⟨g, k, none⟩ := by cases k <;> simp [Addr.add]
  rw [this]
  simp [World.cell?, h, hk]
theorem wakes_lit {w : World} {g : Nat} {rv st : Int} {f : Nat → Bool} (h : SetAt w g rv st f) (a b c d a' b' c' d' : Int) : Calls Try.prog 18 #[.pointer (some ⟨g, 0, none⟩), .slice (some ⟨w.heap.size, 0, none⟩) 4 4, .slice (some ⟨w.heap.size + 1, 0, none⟩) 4 4] ((w.alloc (.cells #[.int .i64 a, .int .i64 b, .int .i64 c, .int .i64 d] 3)).alloc (.cells #[.int .i64 a', .int .i64 b', .int .i64 c', .int .i64 d'] 3)) fun e w' => e = .returned (.bool (wakeF rv st f [a, b, c, d] [a', b', c', d'])) ∧ Below w.heap.size w w' := by
  have hb : Below w.heap.size w ((w.alloc (.cells #[.int .i64 a, .int .i64 b, .int .i64 c, .int .i64 d] 3)).alloc (.cells #[.int .i64 a', .int .i64 b', .int .i64 c', .int .i64 d'] 3)) := ((Below.refl _ _).alloc (Nat.le_refl _) _).alloc (by simp) _
  have h1 := heap_alloc_new (w.alloc (.cells #[.int .i64 a, .int .i64 b, .int .i64 c, .int .i64 d] 3)) (.cells #[.int .i64 a', .int .i64 b', .int .i64 c', .int .i64 d'] 3)
  rw [World.size_alloc] at h1
  have h0 := (heap_alloc_old (w.alloc (.cells #[.int .i64 a, .int .i64 b, .int .i64 c, .int .i64 d] 3)) (.cells #[.int .i64 a', .int .i64 b', .int .i64 c', .int .i64 d'] 3) (show w.heap.size < _ by simp)).trans (heap_alloc_new w _)
  exact (wakes_any (h.below hb) (Ints.lit [a, b, c, d] h0 rfl (by simp; omega) (by simp)) (Ints.lit [a', b', c', d'] h1 rfl (by simp) (by simp)) 4 4).mono fun e w' ⟨h1, h2⟩ => ⟨h1, hb.trans (h2.mono hb.size)⟩
set_option maxHeartbeats 4000000 in
theorem awake10_any (w : World) : Calls Try.prog 4 #[] w fun e w' => e = .returned (.bool true) ∧ Below w.heap.size w w' := by
  go_enter Try.func4, Try.ntmps4
  go_wp2_with fail
  refine (new_yes 5 4 (by omega) (by omega) (by omega) (by omega) _).mono ?_
  rintro e w1 ⟨rfl, hS, hb, hz⟩
  have HB := Lib.hid hb
  obtain ⟨g, hg⟩ : ∃ g, g = w.heap.size := ⟨_, rfl⟩
  rw [← hg] at hS ⊢
  have hgl := hS.lt
  have hgw : Hid (w.heap.size ≤ g) := by show _ ≤ _; omega
  have T1 : Hid (Calls Try.prog 16 #[.pointer (some ⟨g, 0, none⟩), .int .i64 (-1), .int .i64 5] w1 fun e w' => e = .returned (.int .u8 0) ∧ w1 = w') := look_any hS (-1) 5
  have T2 : Hid (Calls Try.prog 16 #[.pointer (some ⟨g, 0, none⟩), .int .i64 (-1), .int .i64 6] w1 fun e w' => e = .returned (.int .u8 2) ∧ w1 = w') := look_any hS (-1) 6
  have T3 : Hid (Calls Try.prog 16 #[.pointer (some ⟨g, 0, none⟩), .int .i64 2, .int .i64 5] w1 fun e w' => e = .returned (.int .u8 1) ∧ w1 = w') := look_any hS 2 5
  have T4 : Hid (Calls Try.prog 17 #[.pointer (some ⟨g, 0, none⟩), .int .i64 2, .int .i64 5, .int .i64 2] w1 fun e w' => e = .returned (.bool false) ∧ w1 = w') := stale_any hS 2 5 2
  have T5 : Hid (Calls Try.prog 17 #[.pointer (some ⟨g, 0, none⟩), .int .i64 2, .int .i64 5, .int .i64 1] w1 fun e w' => e = .returned (.bool true) ∧ w1 = w') := stale_any hS 2 5 1
  have T6 := Lib.hid (add_yes hS 1 (by decide))
  clear hb hS hg hgl hz
  go_wp2_with fail
  refine T1.out.mono ?_
  rintro e w' ⟨rfl, rfl⟩
  go_wp2_with fail
  refine T2.out.mono ?_
  rintro e w' ⟨rfl, rfl⟩
  go_wp2_with fail
  refine T3.out.mono ?_
  rintro e w' ⟨rfl, rfl⟩
  go_wp2_with fail
  refine T4.out.mono ?_
  rintro e w' ⟨rfl, rfl⟩
  go_wp2_with fail
  refine T5.out.mono ?_
  rintro e w' ⟨rfl, rfl⟩
  go_wp2_with fail
  refine T6.out.mono ?_
  rintro e w2 ⟨rfl, hS2, k2, z2, b2⟩
  have T7 := Lib.hid (add_yes hS2 3 (by decide))
  have HB2 := Lib.hid (HB.out.trans (b2 w.heap.size hgw.out))
  clear T1 T2 T3 T4 T5 T6 k2 b2 HB hS2 z2
  go_wp2_with fail
  refine T7.out.mono ?_
  rintro e w3 ⟨rfl, hS3, k3, z3, b3⟩
  have HB3 := Lib.hid (HB2.out.trans (b3 w.heap.size hgw.out))
  have HS := Lib.hid hS3
  clear T7 k3 b3 HB2 hS3 z3
  go_wp2_with fail
  refine (wakes_lit HS.out (-1) (-1) (-1) (-1) 0 6 0 4).mono ?_
  rintro e w4 ⟨rfl, b4⟩
  have HS4 := Lib.hid (HS.out.below b4)
  have HB4 := Lib.hid (HB3.out.trans (b4.mono HB3.out.size))
  rw [show wakeF 5 4 (upd (upd (fun _ => false) 1) 3) [-1, -1, -1, -1] [0, 6, 0, 4] = true by kernel_rfl]
  clear b4 HS HB3
  go_wp2_with fail
  refine (wakes_lit HS4.out (-1) 0 (-1) (-1) 0 6 0 4).mono ?_
  rintro e w5 ⟨rfl, b5⟩
  have HB5 := Lib.hid (HB4.out.trans (b5.mono HB4.out.size))
  rw [show wakeF 5 4 (upd (upd (fun _ => false) 1) 3) [-1, 0, -1, -1] [0, 6, 0, 4] = false by kernel_rfl]
  clear b5 HS4 HB4
  go_wp2_with fail
  go_ret
  exact ⟨rfl, HB5.out⟩
/-- With one number more, if there is such a stripe. -/
def addF (st : Int) (f : Nat → Bool) (n : Int) : Nat → Bool := if 0 ≤ n ∧ n < st then upd f n.toNat else f
theorem add_any {w : World} {g : Nat} {rv st : Int} {f : Nat → Bool} (h : SetAt w g rv st f) (n : Int) : Calls Try.prog 9 #[.pointer (some ⟨g, 0, none⟩), .int .i64 n] w fun e w' => e = .returned (.int .i64 (if 0 ≤ n ∧ n < st then 0 else 1)) ∧ SetAt w' g rv st (addF st f n) ∧ (∀ b, b ≠ g → w'.heap[b]? = w.heap[b]?) ∧ w'.heap.size = w.heap.size ∧ (∀ B, B ≤ g → Below B w w') := by
  by_cases hn : 0 ≤ n ∧ n < st
  · obtain ⟨k, rfl⟩ : ∃ k : Nat, n = k := ⟨n.toNat, by omega⟩
    refine (add_yes h k hn.2).mono ?_
    rintro e w' ⟨rfl, h1, h2, h3, h4⟩
    refine ⟨by rw [if_pos hn], ?_, h2, h3, h4⟩
    unfold addF
    rw [if_pos hn]
    exact h1
  · refine (add_no h n hn).mono ?_
    rintro e w' ⟨rfl, rfl⟩
    refine ⟨by rw [if_neg hn], ?_, fun _ _ => rfl, rfl, fun B _ => Below.refl _ _⟩
    unfold addF
    rw [if_neg hn]
    exact h
theorem has_any {w : World} {g : Nat} {rv st : Int} {f : Nat → Bool} (h : SetAt w g rv st f) (n : Int) : Calls Try.prog 14 #[.pointer (some ⟨g, 0, none⟩), .int .i64 n] w fun e w' => e = .returned (.bool (decide (0 ≤ n ∧ n < st) && f n.toNat)) ∧ w = w' := by
  by_cases hn : 0 ≤ n ∧ n < st
  · obtain ⟨k, rfl⟩ : ∃ k : Nat, n = k := ⟨n.toNat, by omega⟩
    refine (has_yes h k hn.2).mono ?_
    rintro e w' ⟨rfl, rfl⟩
    exact ⟨by rw [decide_eq_true hn]; rfl, rfl⟩
  · refine (has_no h n hn).mono ?_
    rintro e w' ⟨rfl, rfl⟩
    exact ⟨by rw [decide_eq_false hn]; rfl, rfl⟩
/-- What was read, of a list of numbers. -/
def setOf (L : List Int) : Nat → Bool := L.foldl (addF 32) (fun _ => false)
theorem setOf_snoc (L : List Int) (n : Int) : setOf (L ++ [n]) = addF 32 (setOf L) n := by simp [setOf]
theorem fold_iff (L : List Int) (n : Nat) : ∀ f : Nat → Bool, L.foldl (addF 32) f n = true ↔ f n = true ∨ (n < 32 ∧ (n : Int) ∈ L) := by
  induction L with
  | nil => simp
  | cons m L ih =>
    intro f
    rw [List.foldl_cons, ih]
    unfold addF
    by_cases hm : 0 ≤ m ∧ m < 32
    · rw [if_pos hm]
      unfold upd
      simp only [Bool.or_eq_true, beq_iff_eq, List.mem_cons]
      constructor
      · rintro ((h | h) | h)
        · exact .inr ⟨by omega, .inl (by omega)⟩
        · exact .inl h
        · exact .inr ⟨h.1, .inr h.2⟩
      · rintro (h | ⟨h1, h | h⟩)
        · exact .inl (.inr h)
        · exact .inl (.inl (by omega))
        · exact .inr ⟨h1, h⟩
    · rw [if_neg hm]
      simp only [List.mem_cons]
      constructor
      · rintro (h | h)
        · exact .inl h
        · exact .inr ⟨h.1, .inr h.2⟩
      · rintro (h | ⟨h1, h | h⟩)
        · exact .inl h
        · exact absurd ⟨by omega, by omega⟩ hm
        · exact .inr ⟨h1, h⟩
theorem setOf_iff (L : List Int) (n : Nat) : setOf L n = true ↔ n < 32 ∧ (n : Int) ∈ L := by
  unfold setOf
  rw [fold_iff]
  simp
/-- An RV that may be, of any number. -/
def rvM (x : Int) : Int := (x % 18446744073709551616) % 1099511627776
theorem rvM_wrap (x : Int) : wrap64 ((IntKind.u64.wrap x).tmod 1099511627776) = rvM x := by
  have e2 : IntKind.u64.wrap x = x % 18446744073709551616 := by simp [IntKind.wrap, IntKind.bits, IntKind.signed]
  rw [e2, Int.tmod_eq_emod_of_nonneg (Int.emod_nonneg _ (by omega))]
  show wrap64 (rvM x) = rvM x
  unfold wrap64 rvM
  omega
theorem rvM_ge (x : Int) : 0 ≤ rvM x := by unfold rvM; omega
theorem rvM_le (x : Int) : rvM x ≤ 1099511627775 := by unfold rvM; omega
theorem Ints.no (w : World) (hi : Nat) : Ints w hi none [] := ⟨by simp, fun k hk => absurd hk (by simp)⟩
end Go.Proofs.Ytmjaphcofimbeaa
