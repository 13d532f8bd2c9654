/-
  CONTRACT OF THE STATEMENTS' OWN awake (layer 4): the chapter's examples hold: it returns true; what was in memory stays as it was. No condition. (Off the contracts of package expr's Eval, Variable and May.)
-/
import Derived.Test.YtlalknapmnadpaaDc
namespace Go.Proofs.Ytlalknapmnadpaa
open Go.RowKit
set_option linter.unusedVariables false
theorem At.leaf (w : World) (lo hi : Nat) (op : Nat) (n : Int) (h1 : op < 256) (h2 : -9223372036854775808 ≤ n) (h3 : n < 9223372036854775808) : At w lo hi 1 (.agg #[.int .u8 op, .int .i64 n, .slice none 0 0]) (.node op n []) :=
  ⟨h1, h2, h3, by simp, none, 0, rfl, fun k hk => absurd hk (by simp)⟩
/-- Two trees, one behind the other, as they are laid. -/
theorem At.pair {w : World} {lo hi g : Nat} {d op c : Nat} {x y z x' y' z' : Value} {e f : Ex} {t : TypeId} (hb : w.heap[g]? = some (.cells #[x, y, z, x', y', z'] t (0, 0))) (hl : lo ≤ g) (hg : g < hi) (h1 : op < 256)
    (he : At w lo hi d (.agg #[x, y, z]) e) (hf : At w lo hi d (.agg #[x', y', z']) f) : At w lo hi (d + 1) (.agg #[.int .u8 op, .int .i64 0, .slice (some ⟨g, 0, none⟩) 2 c]) (.node op 0 [e, f]) := by
  have hc : ∀ j, w.cell? ⟨g, j, none⟩ = #[x, y, z, x', y', z'][j]? := fun j => by simp [World.cell?, hb]
  refine ⟨h1, by decide, by decide, by simp, some ⟨g, 0, none⟩, c, rfl, fun k hk => ?_⟩
  have hk2 : k < 2 := hk
  rcases (by omega : k = 0 ∨ k = 1) with rfl | rfl
  · exact ⟨_, x, y, z, rfl, hl, hg, hc 0, hc 1, hc 2, he⟩
  · exact ⟨_, x', y', z', rfl, hl, hg, hc 3, hc 4, hc 5, hf⟩
theorem Ints.none_ (w : World) (hi : Nat) : Ints w hi none [] := ⟨by simp, fun k hk => absurd hk (by simp)⟩
theorem Ints.two {w : World} {hi g : Nat} {t : TypeId} {a b : Int} (hb : w.heap[g]? = some (.cells #[.int .i64 a, .int .i64 b] t (0, 0))) (hg : g < hi) : Ints w hi (some ⟨g, 0, none⟩) [a, b] :=
  ⟨by simp, fun k hk => by
    have hk2 : k < 2 := hk
    have hc : ∀ j, w.cell? ⟨g, j, none⟩ = #[Value.int .i64 a, Value.int .i64 b][j]? := fun j => by simp [World.cell?, hb]
    rcases (by omega : k = 0 ∨ k = 1) with rfl | rfl
    · exact ⟨_, rfl, hg, hc 0⟩
    · exact ⟨_, rfl, hg, hc 1⟩⟩

theorem ex_add (w : World) : Calls Try.prog 12 #[.agg #[.int .u8 4, .int .i64 0, .slice (some ⟨w.heap.size, 0, none⟩) 2 2], .slice (some ⟨w.heap.size + 1, 0, none⟩) 2 2, .slice none 0 0] ((w.alloc (.cells #[.int .u8 1, .int .i64 2, .slice none 0 0, .int .u8 2, .int .i64 1, .slice none 0 0] 24)).alloc (.cells #[.int .i64 0, .int .i64 5] 2))
    fun r w' => r = .returned (.tuple #[.int .i64 7, .int .i64 0]) ∧ Below w.heap.size w w' := by
  obtain ⟨W, hW⟩ : ∃ W, W = (w.alloc (.cells #[.int .u8 1, .int .i64 2, .slice none 0 0, .int .u8 2, .int .i64 1, .slice none 0 0] 24)).alloc (.cells #[.int .i64 0, .int .i64 5] 2) := ⟨_, rfl⟩
  have b0 : Below w.heap.size w W := by rw [hW]; go_grown
  have z0 : W.heap.size = w.heap.size + 2 := by rw [hW]; simp
  have g0 : W.heap[w.heap.size]? = some (.cells #[.int .u8 1, .int .i64 2, .slice none 0 0, .int .u8 2, .int .i64 1, .slice none 0 0] 24 (0, 0)) := by
    rw [hW, heap_alloc_old _ _ (by simp)]
    exact heap_alloc_new w _
  have g1 : W.heap[w.heap.size + 1]? = some (.cells #[.int .i64 0, .int .i64 5] 2 (0, 0)) := by
    have := heap_alloc_new (w.alloc (.cells #[.int .u8 1, .int .i64 2, .slice none 0 0, .int .u8 2, .int .i64 1, .slice none 0 0] 24)) (.cells #[.int .i64 0, .int .i64 5] 2)
    rw [← hW] at this
    simpa using this
  rw [← hW]
  clear hW
  have hA : At W 0 W.heap.size 2 (.agg #[.int .u8 (4 : Nat), .int .i64 0, .slice (some ⟨w.heap.size, 0, none⟩) 2 2]) (.node 4 0 [.node 1 2 [], .node 2 1 []]) :=
    At.pair g0 (Nat.zero_le _) (by omega) (by decide) (At.leaf W 0 W.heap.size 1 2 (by decide) (by decide) (by decide)) (At.leaf W 0 W.heap.size 2 1 (by decide) (by decide) (by decide))
  refine (eval_any _ none 2 0 W.heap.size W.heap.size [0, 5] [] 2 _ _ 0 W.heap.size W hA (Nat.le_refl _) (Ints.two g1 (by omega)) (Nat.le_refl _) (Ints.none_ _ _) (Nat.le_refl _)).mono ?_
  rintro r w' ⟨rfl, hb⟩
  exact ⟨by kernel_rfl, b0.trans (hb.mono b0.size)⟩

/-- An operator over two numbers, as they are laid. -/
theorem ex_two (op : Nat) (a b : Int) (h4 : 4 ≤ op) (h8 : op ≤ 8) (a0 : -9223372036854775808 ≤ a) (a1 : a < 9223372036854775808) (b0 : -9223372036854775808 ≤ b) (b1 : b < 9223372036854775808) (w : World) :
    Calls Try.prog 12 #[.agg #[.int .u8 op, .int .i64 0, .slice (some ⟨w.heap.size, 0, none⟩) 2 2], .slice none 0 0, .slice none 0 0] (w.alloc (.cells #[.int .u8 1, .int .i64 a, .slice none 0 0, .int .u8 1, .int .i64 b, .slice none 0 0] 24))
    fun r w' => r = .returned (.tuple #[.int .i64 (opV op a b), .int .i64 0]) ∧ Below w.heap.size w w' := by
  obtain ⟨W, hW⟩ : ∃ W, W = w.alloc (.cells #[.int .u8 1, .int .i64 a, .slice none 0 0, .int .u8 1, .int .i64 b, .slice none 0 0] 24) := ⟨_, rfl⟩
  have c0 : Below w.heap.size w W := by rw [hW]; go_grown
  have z0 : W.heap.size = w.heap.size + 1 := by rw [hW]; simp
  have g0 : W.heap[w.heap.size]? = some (.cells #[.int .u8 1, .int .i64 a, .slice none 0 0, .int .u8 1, .int .i64 b, .slice none 0 0] 24 (0, 0)) := by
    rw [hW]
    exact heap_alloc_new w _
  rw [← hW]
  clear hW
  have hA : At W 0 W.heap.size 2 (.agg #[.int .u8 op, .int .i64 0, .slice (some ⟨w.heap.size, 0, none⟩) 2 2]) (.node op 0 [.node 1 a [], .node 1 b []]) :=
    At.pair g0 (Nat.zero_le _) (by omega) (by omega) (At.leaf W 0 W.heap.size 1 a (by decide) a0 a1) (At.leaf W 0 W.heap.size 1 b (by decide) b0 b1)
  refine (eval_any none none 0 0 W.heap.size W.heap.size [] [] 2 _ _ 0 W.heap.size W hA (Nat.le_refl _) (Ints.none_ _ _) (Nat.le_refl _) (Ints.none_ _ _) (Nat.le_refl _)).mono ?_
  rintro r w' ⟨rfl, hb⟩
  have hw : wholeF 6 (.node op 0 [.node 1 a [], .node 1 b []]) = true := by
    rw [wholeF, if_neg (by omega), if_neg (by omega), if_neg (by omega), if_pos ⟨h4, h8⟩]
    simp [both, wholeF]
  have hv : evalF (.node op 0 [.node 1 a [], .node 1 b []]) [] [] = (opV op a b, 0) := by
    rw [evalF, hw, if_pos rfl, comeF, if_neg (by omega), if_neg (by omega), if_neg (by omega)]
    simp [come2, comeF]
  rw [hv]
  exact ⟨rfl, c0.trans (hb.mono c0.size)⟩
theorem ex_less (w : World) : Calls Try.prog 12 #[.agg #[.int .u8 7, .int .i64 0, .slice (some ⟨w.heap.size, 0, none⟩) 2 2], .slice none 0 0, .slice none 0 0] (w.alloc (.cells #[.int .u8 1, .int .i64 (-1), .slice none 0 0, .int .u8 1, .int .i64 0, .slice none 0 0] 24))
    fun r w' => r = .returned (.tuple #[.int .i64 1, .int .i64 0]) ∧ Below w.heap.size w w' :=
  ex_two 7 (-1) 0 (by decide) (by decide) (by decide) (by decide) (by decide) (by decide) w
theorem ex_var (w : World) : Calls Try.prog 24 #[.int .i64 (-1), .int .i64 4] w fun r w' => r = .returned (.tuple #[.int .i64 3, .int .i64 0]) ∧ Below w.heap.size w w' :=
  (variable_any (-1) 4 (by decide) (by decide) (by decide) (by decide) w).mono fun r w' ⟨h1, h2⟩ => ⟨h1, by rw [← h2]; exact Below.refl _ _⟩
theorem ex_may (w : World) : Calls Try.prog 17 #[.agg #[.int .u8 3, .int .i64 0, .slice none 0 0], .int .i64 0] w fun r w' => r = .returned (.bool false) ∧ Below w.heap.size w w' :=
  may_any 1 _ _ 0 w.heap.size 0 (by decide) (by decide) w (At.leaf w 0 w.heap.size 3 0 (by decide) (by decide) (by decide)) (Nat.le_refl _)

set_option maxRecDepth 100000 in
theorem awake_any (w : World) : Calls Try.prog 11 #[] w fun r w' => r = .returned (.bool true) ∧ Below w.heap.size w w' := by
  go_enter Try.func11, Try.ntmps11
  go_wp2_with fail
  refine (ex_add w).mono ?_
  rintro e w1 ⟨rfl, b1⟩
  go_wp2_with fail
  refine (ex_less _).mono ?_
  rintro e w2 ⟨rfl, b2⟩
  go_wp2_with fail
  refine (ex_var _).mono ?_
  rintro e w3 ⟨rfl, b3⟩
  go_wp2_with fail
  refine (ex_may _).mono ?_
  rintro e w4 ⟨rfl, b4⟩
  have c2 := b1.trans (b2.mono b1.size)
  have c3 := c2.trans (b3.mono c2.size)
  have c4 := c3.trans (b4.mono c3.size)
  go_wp2_with fail
  go_ret
  exact ⟨rfl, c4⟩
end Go.Proofs.Ytlalknapmnadpaa
