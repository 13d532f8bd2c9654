/-
  THE KINDS OF VALUES THAT ExprNames' LIST OF WHAT IS NOT WHOLE IS BUILT OF: trees, slices of trees, the list; they stay so as memory grows. Conditions: as they stand.
-/
import Derived.Test.YtlalknapmnadpaaNo
namespace Go.Proofs.Ytlalknapmnadpaa
open Go.RowKit
set_option linter.unusedVariables false
/-- So many additions of 1, one in the other. -/
def deepT : Nat → Ex
  | 0 => .node 0 0 []
  | 1 => .node 1 1 []
  | k + 2 => .node 4 0 [deepT (k + 1), .node 1 1 []]
def deeperT : Ex := .node 4 0 [.node 1 1 [], deepT 6]
theorem Kids.wide {w : World} {lo hi lo' hi' d : Nat} {A : Option Addr} {es : List Ex} (h : Kids w lo hi d A es) (hl : lo' ≤ lo) (hh : hi ≤ hi') : Kids w lo' hi' d A es := fun k hk => by
  obtain ⟨a, x, y, z, rfl, b1, b2, c1, c2, c3, hr⟩ := h k hk
  exact ⟨a, x, y, z, rfl, by omega, by omega, c1, c2, c3, hr.wide hl hh d⟩
def Tr (d : Nat) (e : Ex) (v : Value) (w : World) : Prop := At w 0 w.heap.size d v e
def Sl (d : Nat) (es : List Ex) (v : Value) (w : World) : Prop := ∃ A c, v = .slice A es.length c ∧ Kids w 0 w.heap.size d A es
def IsV (u v : Value) (w : World) : Prop := v = u
def RowB (w : World) (g k : Nat) : Prop := ∃ (o : Nat) (n : Int) (A : Option Addr) (l c : Nat) (e : Ex), w.cell? ⟨g, k * 3, none⟩ = some (.int .u8 o) ∧ w.cell? ⟨g, k * 3 + 1, none⟩ = some (.int .i64 n) ∧ w.cell? ⟨g, k * 3 + 2, none⟩ = some (.slice A l c) ∧
  At w 0 w.heap.size 7 (.agg #[.int .u8 o, .int .i64 n, .slice A l c]) e ∧ wholeF 6 e = false
def Bad12 (v : Value) (w : World) : Prop := ∃ g, v = .slice (some ⟨g, 0, none⟩) 12 12 ∧ g < w.heap.size ∧ ∀ k, k < 12 → RowB w g k
theorem Tr.mono {d : Nat} {e : Ex} {v : Value} {w w' : World} (b : Below w.heap.size w w') (h : Tr d e v w) : Tr d e v w' := (At.below h b (Nat.le_refl _)).wide (Nat.le_refl _) b.size d
theorem Sl.mono {d : Nat} {es : List Ex} {v : Value} {w w' : World} (b : Below w.heap.size w w') (h : Sl d es v w) : Sl d es v w' := by
  obtain ⟨A, c, hv, hk⟩ := h
  exact ⟨A, c, hv, (hk.below b (Nat.le_refl _)).wide (Nat.le_refl _) b.size⟩
theorem Bad12.mono {v : Value} {w w' : World} (b : Below w.heap.size w w') (h : Bad12 v w) : Bad12 v w' := by
  obtain ⟨g, hv, hg, hr⟩ := h
  refine ⟨g, hv, Nat.lt_of_lt_of_le hg b.size, fun k hk => ?_⟩
  obtain ⟨o, n, A, l, c, e, c0, c1, c2, hA, hw⟩ := hr k hk
  exact ⟨o, n, A, l, c, e, (b.cell (p := ⟨g, _, none⟩) hg).trans c0, (b.cell (p := ⟨g, _, none⟩) hg).trans c1, (b.cell (p := ⟨g, _, none⟩) hg).trans c2, Tr.mono b hA, hw⟩
theorem Tr.leaf (w : World) (op : Nat) (n : Int) (h1 : op < 256) (h2 : -9223372036854775808 ≤ n) (h3 : n < 9223372036854775808) : Tr 1 (.node op n []) (.agg #[.int .u8 op, .int .i64 n, .slice none 0 0]) w := At.leaf w 0 w.heap.size op n h1 h2 h3
theorem Tr.of_sl {d op : Nat} {n : Int} {es : List Ex} {v : Value} {w : World} (h : Sl d es v w) (h1 : op < 256) (h2 : -9223372036854775808 ≤ n) (h3 : n < 9223372036854775808) (h4 : es.length ≤ 9223372036854775807) : ∃ A l c, v = .slice A l c ∧ Tr (d + 1) (.node op n es) (.agg #[.int .u8 op, .int .i64 n, .slice A l c]) w := by
  obtain ⟨A, c, hv, hk⟩ := h
  exact ⟨A, _, c, hv, h1, h2, h3, h4, A, c, rfl, hk⟩
theorem Tr.agg {d : Nat} {e : Ex} {v : Value} {w : World} (h : Tr d e v w) : ∃ (o : Nat) (n : Int) (A : Option Addr) (l c : Nat), v = .agg #[.int .u8 o, .int .i64 n, .slice A l c] := by
  obtain ⟨x, y, z, rfl⟩ := boxed_at h
  obtain ⟨o, n, A, l, c, rfl, rfl, rfl⟩ := At.form h
  exact ⟨o, n, A, l, c, rfl⟩
theorem Sl.one {w : World} {x y z : Value} {e : Ex} (h : Tr 1 e (.agg #[x, y, z]) w) : Sl 1 [e] (.slice (some ⟨w.heap.size, 0, none⟩) 1 1) (w.alloc (.cells #[x, y, z] 24)) := by
  have hr := heap_alloc_new w (.cells #[x, y, z] 24)
  have hc : ∀ j, (w.alloc (.cells #[x, y, z] 24)).cell? ⟨w.heap.size, j, none⟩ = #[x, y, z][j]? := fun j => cell_of_row _ _ j _ _ (0, 0) hr
  refine ⟨some ⟨w.heap.size, 0, none⟩, 1, rfl, fun k hk => ?_⟩
  have hk1 : k < 1 := hk
  obtain rfl : k = 0 := by omega
  exact ⟨_, x, y, z, rfl, Nat.zero_le _, by simp, hc 0, hc 1, hc 2, Tr.mono (b_alloc w _) h⟩
theorem Sl.two {w : World} {x y z x2 y2 z2 : Value} {e f : Ex} (h : Tr 1 e (.agg #[x, y, z]) w) (h2 : Tr 1 f (.agg #[x2, y2, z2]) w) : Sl 1 [e, f] (.slice (some ⟨w.heap.size, 0, none⟩) 2 2) (w.alloc (.cells #[x, y, z, x2, y2, z2] 24)) := by
  have hr := heap_alloc_new w (.cells #[x, y, z, x2, y2, z2] 24)
  have hc : ∀ j, (w.alloc (.cells #[x, y, z, x2, y2, z2] 24)).cell? ⟨w.heap.size, j, none⟩ = #[x, y, z, x2, y2, z2][j]? := fun j => cell_of_row _ _ j _ _ (0, 0) hr
  refine ⟨some ⟨w.heap.size, 0, none⟩, 2, rfl, fun k hk => ?_⟩
  have hk1 : k < 2 := hk
  obtain rfl | rfl : k = 0 ∨ k = 1 := by omega
  · exact ⟨_, x, y, z, rfl, Nat.zero_le _, by simp, hc 0, hc 1, hc 2, Tr.mono (b_alloc w _) h⟩
  · exact ⟨_, x2, y2, z2, rfl, Nat.zero_le _, by simp, hc 3, hc 4, hc 5, Tr.mono (b_alloc w _) h2⟩
theorem Bad12.new {w : World} {o0 : Nat} {n0 : Int} {A0 : Option Addr} {l0 k0 : Nat} {o1 : Nat} {n1 : Int} {A1 : Option Addr} {l1 k1 : Nat} {o2 : Nat} {n2 : Int} {A2 : Option Addr} {l2 k2 : Nat} {o3 : Nat} {n3 : Int} {A3 : Option Addr} {l3 k3 : Nat} {o4 : Nat} {n4 : Int} {A4 : Option Addr} {l4 k4 : Nat} {o5 : Nat} {n5 : Int} {A5 : Option Addr} {l5 k5 : Nat} {o6 : Nat} {n6 : Int} {A6 : Option Addr} {l6 k6 : Nat} {o7 : Nat} {n7 : Int} {A7 : Option Addr} {l7 k7 : Nat} {o8 : Nat} {n8 : Int} {A8 : Option Addr} {l8 k8 : Nat} {o9 : Nat} {n9 : Int} {A9 : Option Addr} {l9 k9 : Nat} {o10 : Nat} {n10 : Int} {A10 : Option Addr} {l10 k10 : Nat} {o11 : Nat} {n11 : Int} {A11 : Option Addr} {l11 k11 : Nat} (h0 : Tr 1 (.node 0 0 []) (.agg #[.int .u8 o0, .int .i64 n0, .slice A0 l0 k0]) w) (h1 : Tr 1 (.node 9 0 []) (.agg #[.int .u8 o1, .int .i64 n1, .slice A1 l1 k1]) w) (h2 : Tr 2 (.node 1 0 [.node 1 1 []]) (.agg #[.int .u8 o2, .int .i64 n2, .slice A2 l2 k2]) w) (h3 : Tr 1 (.node 2 8 []) (.agg #[.int .u8 o3, .int .i64 n3, .slice A3 l3 k3]) w) (h4 : Tr 1 (.node 2 (-1) []) (.agg #[.int .u8 o4, .int .i64 n4, .slice A4 l4 k4]) w) (h5 : Tr 1 (.node 3 6 []) (.agg #[.int .u8 o5, .int .i64 n5, .slice A5 l5 k5]) w) (h6 : Tr 1 (.node 3 (-1) []) (.agg #[.int .u8 o6, .int .i64 n6, .slice A6 l6 k6]) w) (h7 : Tr 1 (.node 4 0 []) (.agg #[.int .u8 o7, .int .i64 n7, .slice A7 l7 k7]) w) (h8 : Tr 2 (.node 4 1 [.node 1 1 [], .node 1 2 []]) (.agg #[.int .u8 o8, .int .i64 n8, .slice A8 l8 k8]) w) (h9 : Tr 2 (.node 7 0 [.node 1 1 []]) (.agg #[.int .u8 o9, .int .i64 n9, .slice A9 l9 k9]) w) (h10 : Tr 2 (.node 7 0 [.node 1 1 [], .node 0 0 []]) (.agg #[.int .u8 o10, .int .i64 n10, .slice A10 l10 k10]) w) (h11 : Tr 7 (deeperT) (.agg #[.int .u8 o11, .int .i64 n11, .slice A11 l11 k11]) w) : Bad12 (.slice (some ⟨w.heap.size, 0, none⟩) 12 12) (w.alloc (.cells #[.int .u8 o0, .int .i64 n0, .slice A0 l0 k0, .int .u8 o1, .int .i64 n1, .slice A1 l1 k1, .int .u8 o2, .int .i64 n2, .slice A2 l2 k2, .int .u8 o3, .int .i64 n3, .slice A3 l3 k3, .int .u8 o4, .int .i64 n4, .slice A4 l4 k4, .int .u8 o5, .int .i64 n5, .slice A5 l5 k5, .int .u8 o6, .int .i64 n6, .slice A6 l6 k6, .int .u8 o7, .int .i64 n7, .slice A7 l7 k7, .int .u8 o8, .int .i64 n8, .slice A8 l8 k8, .int .u8 o9, .int .i64 n9, .slice A9 l9 k9, .int .u8 o10, .int .i64 n10, .slice A10 l10 k10, .int .u8 o11, .int .i64 n11, .slice A11 l11 k11] 24)) := by
  have hr := heap_alloc_new w (.cells #[.int .u8 o0, .int .i64 n0, .slice A0 l0 k0, .int .u8 o1, .int .i64 n1, .slice A1 l1 k1, .int .u8 o2, .int .i64 n2, .slice A2 l2 k2, .int .u8 o3, .int .i64 n3, .slice A3 l3 k3, .int .u8 o4, .int .i64 n4, .slice A4 l4 k4, .int .u8 o5, .int .i64 n5, .slice A5 l5 k5, .int .u8 o6, .int .i64 n6, .slice A6 l6 k6, .int .u8 o7, .int .i64 n7, .slice A7 l7 k7, .int .u8 o8, .int .i64 n8, .slice A8 l8 k8, .int .u8 o9, .int .i64 n9, .slice A9 l9 k9, .int .u8 o10, .int .i64 n10, .slice A10 l10 k10, .int .u8 o11, .int .i64 n11, .slice A11 l11 k11] 24)
  have b := b_alloc w (.cells #[.int .u8 o0, .int .i64 n0, .slice A0 l0 k0, .int .u8 o1, .int .i64 n1, .slice A1 l1 k1, .int .u8 o2, .int .i64 n2, .slice A2 l2 k2, .int .u8 o3, .int .i64 n3, .slice A3 l3 k3, .int .u8 o4, .int .i64 n4, .slice A4 l4 k4, .int .u8 o5, .int .i64 n5, .slice A5 l5 k5, .int .u8 o6, .int .i64 n6, .slice A6 l6 k6, .int .u8 o7, .int .i64 n7, .slice A7 l7 k7, .int .u8 o8, .int .i64 n8, .slice A8 l8 k8, .int .u8 o9, .int .i64 n9, .slice A9 l9 k9, .int .u8 o10, .int .i64 n10, .slice A10 l10 k10, .int .u8 o11, .int .i64 n11, .slice A11 l11 k11] 24)
  have hc : ∀ j, (w.alloc (.cells #[.int .u8 o0, .int .i64 n0, .slice A0 l0 k0, .int .u8 o1, .int .i64 n1, .slice A1 l1 k1, .int .u8 o2, .int .i64 n2, .slice A2 l2 k2, .int .u8 o3, .int .i64 n3, .slice A3 l3 k3, .int .u8 o4, .int .i64 n4, .slice A4 l4 k4, .int .u8 o5, .int .i64 n5, .slice A5 l5 k5, .int .u8 o6, .int .i64 n6, .slice A6 l6 k6, .int .u8 o7, .int .i64 n7, .slice A7 l7 k7, .int .u8 o8, .int .i64 n8, .slice A8 l8 k8, .int .u8 o9, .int .i64 n9, .slice A9 l9 k9, .int .u8 o10, .int .i64 n10, .slice A10 l10 k10, .int .u8 o11, .int .i64 n11, .slice A11 l11 k11] 24)).cell? ⟨w.heap.size, j, none⟩ = #[.int .u8 o0, .int .i64 n0, .slice A0 l0 k0, .int .u8 o1, .int .i64 n1, .slice A1 l1 k1, .int .u8 o2, .int .i64 n2, .slice A2 l2 k2, .int .u8 o3, .int .i64 n3, .slice A3 l3 k3, .int .u8 o4, .int .i64 n4, .slice A4 l4 k4, .int .u8 o5, .int .i64 n5, .slice A5 l5 k5, .int .u8 o6, .int .i64 n6, .slice A6 l6 k6, .int .u8 o7, .int .i64 n7, .slice A7 l7 k7, .int .u8 o8, .int .i64 n8, .slice A8 l8 k8, .int .u8 o9, .int .i64 n9, .slice A9 l9 k9, .int .u8 o10, .int .i64 n10, .slice A10 l10 k10, .int .u8 o11, .int .i64 n11, .slice A11 l11 k11][j]? := fun j => cell_of_row _ _ j _ _ (0, 0) hr
  refine ⟨w.heap.size, rfl, by simp, fun k hk => ?_⟩
  obtain rfl | rfl | rfl | rfl | rfl | rfl | rfl | rfl | rfl | rfl | rfl | rfl : k = 0 ∨ k = 1 ∨ k = 2 ∨ k = 3 ∨ k = 4 ∨ k = 5 ∨ k = 6 ∨ k = 7 ∨ k = 8 ∨ k = 9 ∨ k = 10 ∨ k = 11 := by omega
  · exact ⟨o0, n0, A0, l0, k0, _, hc 0, hc 1, hc 2, (Tr.mono b h0).more _ _ (by decide), by kernel_rfl⟩
  · exact ⟨o1, n1, A1, l1, k1, _, hc 3, hc 4, hc 5, (Tr.mono b h1).more _ _ (by decide), by kernel_rfl⟩
  · exact ⟨o2, n2, A2, l2, k2, _, hc 6, hc 7, hc 8, (Tr.mono b h2).more _ _ (by decide), by kernel_rfl⟩
  · exact ⟨o3, n3, A3, l3, k3, _, hc 9, hc 10, hc 11, (Tr.mono b h3).more _ _ (by decide), by kernel_rfl⟩
  · exact ⟨o4, n4, A4, l4, k4, _, hc 12, hc 13, hc 14, (Tr.mono b h4).more _ _ (by decide), by kernel_rfl⟩
  · exact ⟨o5, n5, A5, l5, k5, _, hc 15, hc 16, hc 17, (Tr.mono b h5).more _ _ (by decide), by kernel_rfl⟩
  · exact ⟨o6, n6, A6, l6, k6, _, hc 18, hc 19, hc 20, (Tr.mono b h6).more _ _ (by decide), by kernel_rfl⟩
  · exact ⟨o7, n7, A7, l7, k7, _, hc 21, hc 22, hc 23, (Tr.mono b h7).more _ _ (by decide), by kernel_rfl⟩
  · exact ⟨o8, n8, A8, l8, k8, _, hc 24, hc 25, hc 26, (Tr.mono b h8).more _ _ (by decide), by kernel_rfl⟩
  · exact ⟨o9, n9, A9, l9, k9, _, hc 27, hc 28, hc 29, (Tr.mono b h9).more _ _ (by decide), by kernel_rfl⟩
  · exact ⟨o10, n10, A10, l10, k10, _, hc 30, hc 31, hc 32, (Tr.mono b h10).more _ _ (by decide), by kernel_rfl⟩
  · exact ⟨o11, n11, A11, l11, k11, _, hc 33, hc 34, hc 35, (Tr.mono b h11).more _ _ (by decide), by kernel_rfl⟩
/-- What stands in each temporary of the region. -/
def S16 : Nat → Value → World → Prop
  | 0 => Tr 1 (.node 0 0 [])
  | 1 => Tr 1 (.node 9 0 [])
  | 2 => IsV litV
  | 3 => Tr 1 (.node 1 1 [])
  | 4 => Sl 1 [.node 1 1 []]
  | 5 => Tr 2 (.node 1 0 [.node 1 1 []])
  | 6 => Tr 1 (.node 2 8 [])
  | 7 => Tr 1 (.node 2 (-1) [])
  | 8 => Tr 1 (.node 3 6 [])
  | 9 => Tr 1 (.node 3 (-1) [])
  | 10 => Tr 1 (.node 4 0 [])
  | 11 => IsV litV
  | 12 => Tr 1 (.node 1 1 [])
  | 13 => IsV litV
  | 14 => Tr 1 (.node 1 2 [])
  | 15 => Sl 1 [.node 1 1 [], .node 1 2 []]
  | 16 => Tr 2 (.node 4 1 [.node 1 1 [], .node 1 2 []])
  | 17 => IsV litV
  | 18 => Tr 1 (.node 1 1 [])
  | 19 => Sl 1 [.node 1 1 []]
  | 20 => Tr 2 (.node 7 0 [.node 1 1 []])
  | 21 => IsV litV
  | 22 => Tr 1 (.node 1 1 [])
  | 23 => Tr 1 (.node 0 0 [])
  | 24 => Sl 1 [.node 1 1 [], .node 0 0 []]
  | 25 => Tr 2 (.node 7 0 [.node 1 1 [], .node 0 0 []])
  | 26 => Tr 7 deeperT
  | 27 => Bad12
  | 28 => IsV (.int .i64 12)
  | 29 => IsV (.int .i64 0)
  | _ => fun _ _ => False
theorem S16.mono (i : Nat) (v : Value) (w w' : World) (b : Below w.heap.size w w') (h : S16 i v w) : S16 i v w' := by
  rcases Nat.lt_or_ge i 30 with hi | hi
  · obtain rfl | rfl | rfl | rfl | rfl | rfl | rfl | rfl | rfl | rfl | rfl | rfl | rfl | rfl | rfl | rfl | rfl | rfl | rfl | rfl | rfl | rfl | rfl | rfl | rfl | rfl | rfl | rfl | rfl | rfl : i = 0 ∨ i = 1 ∨ i = 2 ∨ i = 3 ∨ i = 4 ∨ i = 5 ∨ i = 6 ∨ i = 7 ∨ i = 8 ∨ i = 9 ∨ i = 10 ∨ i = 11 ∨ i = 12 ∨ i = 13 ∨ i = 14 ∨ i = 15 ∨ i = 16 ∨ i = 17 ∨ i = 18 ∨ i = 19 ∨ i = 20 ∨ i = 21 ∨ i = 22 ∨ i = 23 ∨ i = 24 ∨ i = 25 ∨ i = 26 ∨ i = 27 ∨ i = 28 ∨ i = 29 := by omega
    · exact Tr.mono b h
    · exact Tr.mono b h
    · exact h
    · exact Tr.mono b h
    · exact Sl.mono b h
    · exact Tr.mono b h
    · exact Tr.mono b h
    · exact Tr.mono b h
    · exact Tr.mono b h
    · exact Tr.mono b h
    · exact Tr.mono b h
    · exact h
    · exact Tr.mono b h
    · exact h
    · exact Tr.mono b h
    · exact Sl.mono b h
    · exact Tr.mono b h
    · exact h
    · exact Tr.mono b h
    · exact Sl.mono b h
    · exact Tr.mono b h
    · exact h
    · exact Tr.mono b h
    · exact Tr.mono b h
    · exact Sl.mono b h
    · exact Tr.mono b h
    · exact Tr.mono b h
    · exact Bad12.mono b h
    · exact h
    · exact h
  · obtain ⟨j, rfl⟩ : ∃ j, i = j + 30 := ⟨i - 30, by omega⟩
    exact h.elim
end Go.Proofs.Ytlalknapmnadpaa
