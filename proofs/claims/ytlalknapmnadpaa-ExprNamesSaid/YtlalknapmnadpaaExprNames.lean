/-
  ExprNames (chapter 4): the examples; each operator at its ends; what is not whole; how deep: the closed statement holds. No condition.
-/
import Derived.Test.YtlalknapmnadpaaNs
import Derived.Test.YtlalknapmnadpaaLift
namespace Go.Proofs.Ytlalknapmnadpaa
open Go.ChangeShapes Go.WideShapes Go.ChangeAt Go.RowKit Go.ChangeMaps
set_option linter.unusedVariables false
theorem At.pairForm {w : World} {lo hi d op : Nat} {n : Int} {v : Value} {e f : Ex} (h : At w lo hi (d + 1) v (.node op n [e, f])) : ∃ A c, v = .agg #[.int .u8 op, .int .i64 n, .slice A 2 c] := by
  obtain ⟨_, _, _, _, A, c, hv, _⟩ := h.open_
  exact ⟨A, c, hv⟩
/-- An example: an operator over two numbers, and what it comes to. -/
def exT (op : Nat) (a b : Int) : Ex := .node op 0 [.node 1 a [], .node 1 b []]
/-- What the first loop reads at a place: a tree, and what it should come to. -/
def Row8 (W : World) (g B k : Nat) : Prop := ∃ (o c : Nat) (A : Option Addr) (want : Int) (e : Ex), W.cell? ⟨g, k * 4, none⟩ = some (.int .u8 o) ∧ W.cell? ⟨g, k * 4 + 1, none⟩ = some (.int .i64 0) ∧ W.cell? ⟨g, k * 4 + 2, none⟩ = some (.slice A 2 c) ∧ W.cell? ⟨g, k * 4 + 3, none⟩ = some (.int .i64 want) ∧
  At W 0 B 2 (.agg #[.int .u8 o, .int .i64 0, .slice A 2 c]) e ∧ evalF e [] [] = (want, 0)
/-- How things are behind so many rounds of the second loop. -/
def DI (W5 : World) (g k : Nat) (wr : World) : Prop := ∃ x y z, wr.heap[g]? = some (.cells #[x, y, z] 24 (0, 0)) ∧ At wr (g + 1) wr.heap.size k (.agg #[x, y, z]) (deepT k) ∧ Below g W5 wr ∧ g < wr.heap.size
theorem DI.step {W5 wr w11 : World} {g k o l c : Nat} {n : Int} {A : Option Addr} (hk : 1 ≤ k) (hz : g < wr.heap.size) (hrow : wr.heap[g]? = some (.cells #[.int .u8 o, .int .i64 n, .slice A l c] 24 (0, 0))) (hA : At wr (g + 1) wr.heap.size k (.agg #[.int .u8 o, .int .i64 n, .slice A l c]) (deepT k)) (hb : Below g W5 wr) (b : Below wr.heap.size wr w11) :
    DI W5 g (k + 1) ((((w11.setCell ⟨g, 0, none⟩ (.int .u8 4)).setCell ⟨g, 1, none⟩ (.int .i64 0)).setCell ⟨g, 2, none⟩ (.slice (some ⟨w11.heap.size, 0, none⟩) 2 2)).alloc (.cells #[.int .u8 o, .int .i64 n, .slice A l c, .int .u8 1, .int .i64 1, .slice none 0 0] 24)) := by
  have hz11 := b.size
  have r0 := (b.block g hz).trans hrow
  have r1 := heap_set_same w11 g 0 (.int .u8 4) _ _ r0
  have r2 := heap_set_same _ g 1 (.int .i64 0) _ _ r1
  have r3 := heap_set_same _ g 2 (.slice (some ⟨w11.heap.size, 0, none⟩) 2 2) _ _ r2
  have hs : (((w11.setCell ⟨g, 0, none⟩ (.int .u8 4)).setCell ⟨g, 1, none⟩ (.int .i64 0)).setCell ⟨g, 2, none⟩ (.slice (some ⟨w11.heap.size, 0, none⟩) 2 2)).heap.size = w11.heap.size := by simp
  have hold : ∀ b, b ≠ g → b < w11.heap.size → ((((w11.setCell ⟨g, 0, none⟩ (.int .u8 4)).setCell ⟨g, 1, none⟩ (.int .i64 0)).setCell ⟨g, 2, none⟩ (.slice (some ⟨w11.heap.size, 0, none⟩) 2 2)).alloc (.cells #[.int .u8 o, .int .i64 n, .slice A l c, .int .u8 1, .int .i64 1, .slice none 0 0] 24)).heap[b]? = w11.heap[b]? := fun b hb hl => by
    rw [heap_alloc_old _ _ (by rw [hs]; exact hl), heap_set_other _ _ _ _ _ hb, heap_set_other _ _ _ _ _ hb, heap_set_other _ _ _ _ _ hb]
  have hnew := heap_alloc_new (((w11.setCell ⟨g, 0, none⟩ (.int .u8 4)).setCell ⟨g, 1, none⟩ (.int .i64 0)).setCell ⟨g, 2, none⟩ (.slice (some ⟨w11.heap.size, 0, none⟩) 2 2)) (.cells #[.int .u8 o, .int .i64 n, .slice A l c, .int .u8 1, .int .i64 1, .slice none 0 0] 24)
  rw [hs] at hnew
  refine ⟨_, _, _, (heap_alloc_old _ _ (by rw [hs]; omega)).trans r3, ?_, hb.trans ((b.mono (by omega)).trans (b_st3a (Nat.le_refl _) (by omega))), by simp; omega⟩
  obtain ⟨j, rfl⟩ : ∃ j, k = j + 1 := ⟨k - 1, by omega⟩
  have hA' := hA.keep (w' := ((((w11.setCell ⟨g, 0, none⟩ (.int .u8 4)).setCell ⟨g, 1, none⟩ (.int .i64 0)).setCell ⟨g, 2, none⟩ (.slice (some ⟨w11.heap.size, 0, none⟩) 2 2)).alloc (.cells #[.int .u8 o, .int .i64 n, .slice A l c, .int .u8 1, .int .i64 1, .slice none 0 0] 24))) (fun p h1 h2 => World.cell?_of_block ((hold _ (by omega) (by omega)).trans (b.block _ h2))) (j + 1)
  exact At.pair (lo := g + 1) (op := 4) (c := 2) hnew (by omega) (by simp) (by decide) (hA'.wide (Nat.le_refl _) (by simp; omega) (j + 1)) ((At.leaf _ _ _ 1 1 (by decide) (by decide) (by decide)).more 1 (j + 1) (by omega))
/-- A region, cut off: what it leaves, whatever comes behind. -/
theorem region_cut {P : Program} {id : Nat} {ops : Array Oper} {b : Bool} {Q : Exit → Act → World → Prop} {a : Act} {w : World} (Mid : Act → Act → World → Prop) (h : (Code.region id ops b).wp P (fun e a' w' => e = .normal ∧ Mid a a' w') a w) (hQ : ∀ a' w', Mid a a' w' → Q .normal a' w') : (Code.region id ops b).wp P Q a w :=
  Code.wp_mono (fun e a' w' ⟨he, hm⟩ => by subst he; exact hQ a' w' hm) h
theorem sD {B : Nat} {W wp w' : World} {g h : Nat} {v x y z : Value} (hg : g < B) (hh : h < B) (s : wp.cell? ⟨g, 0, none⟩ = some v ∧ wp.cell? ⟨h, 0, none⟩ = some x ∧ wp.cell? ⟨h, 1, none⟩ = some y ∧ wp.cell? ⟨h, 2, none⟩ = some z ∧ Below B W wp) (b : Below B wp w') :
    w'.cell? ⟨g, 0, none⟩ = some v ∧ w'.cell? ⟨h, 0, none⟩ = some x ∧ w'.cell? ⟨h, 1, none⟩ = some y ∧ w'.cell? ⟨h, 2, none⟩ = some z ∧ Below B W w' := by
  obtain ⟨s0, s1, s2, s3, hb⟩ := s
  exact ⟨(b.cell (p := ⟨g, 0, none⟩) hg).trans s0, (b.cell (p := ⟨h, 0, none⟩) hh).trans s1, (b.cell (p := ⟨h, 1, none⟩) hh).trans s2, (b.cell (p := ⟨h, 2, none⟩) hh).trans s3, hb.trans b⟩
theorem b_al {B : Nat} {w : World} {o : Obj} (h : B ≤ w.heap.size) : Below B w (w.alloc o) := (b_alloc w o).mono h
theorem b_al2 {B : Nat} {w : World} {o o' : Obj} (h : B ≤ w.heap.size) : Below B (w.alloc o) ((w.alloc o).alloc o') := b_al (by simp; omega)
theorem b_aa {B : Nat} {w : World} {o o' : Obj} (h : B ≤ w.heap.size) : Below B w ((w.alloc o).alloc o') := (b_al h).trans (b_al2 h)
theorem r_aa (w : World) (X Y : Array Value) (t u : TypeId) : ((w.alloc (.cells X t)).alloc (.cells Y u)).heap[w.heap.size]? = some (.cells X t (0, 0)) ∧ ((w.alloc (.cells X t)).alloc (.cells Y u)).heap[w.heap.size + 1]? = some (.cells Y u (0, 0)) := by
  have h1 := heap_alloc_new w (.cells X t)
  have h2 := heap_alloc_new (w.alloc (.cells X t)) (.cells Y u)
  exact ⟨(heap_alloc_old _ _ (by simp)).trans h1, by simpa using h2⟩
theorem r_st (w : World) (g : Nat) (x y z : Value) {x0 y0 z0 : Value} {t : TypeId} (X : Array Value) (h : w.heap[g]? = some (.cells #[x0, y0, z0] t (0, 0))) {u : TypeId} : ((((w.setCell ⟨g, 0, none⟩ x).setCell ⟨g, 1, none⟩ y).setCell ⟨g, 2, none⟩ z).alloc (.cells X u)).heap[w.heap.size]? = some (.cells X u (0, 0)) ∧
    ((((w.setCell ⟨g, 0, none⟩ x).setCell ⟨g, 1, none⟩ y).setCell ⟨g, 2, none⟩ z).alloc (.cells X u)).heap[g]? = some (.cells #[x, y, z] t (0, 0)) := by
  have r1 := heap_set_same w g 0 x _ _ h
  have r2 := heap_set_same _ g 1 y _ _ r1
  have r3 := heap_set_same _ g 2 z _ _ r2
  have h1 := heap_alloc_new (((w.setCell ⟨g, 0, none⟩ x).setCell ⟨g, 1, none⟩ y).setCell ⟨g, 2, none⟩ z) (.cells X u)
  have hs : (((w.setCell ⟨g, 0, none⟩ x).setCell ⟨g, 1, none⟩ y).setCell ⟨g, 2, none⟩ z).heap.size = w.heap.size := by simp
  rw [hs] at h1
  have hl : g < w.heap.size := lt_of_block h
  exact ⟨h1, (heap_alloc_old _ _ (by rw [hs]; exact hl)).trans r3⟩
theorem thirty {α : Type} (l : List α) (h : l.length = 30) : ∃ a0 a1 a2 a3 a4 a5 a6 a7 a8 a9 a10 a11 a12 a13 a14 a15 a16 a17 a18 a19 a20 a21 a22 a23 a24 a25 a26 a27 a28 a29, l = [a0, a1, a2, a3, a4, a5, a6, a7, a8, a9, a10, a11, a12, a13, a14, a15, a16, a17, a18, a19, a20, a21, a22, a23, a24, a25, a26, a27, a28, a29] := by
  match l, h with
  | [a0, a1, a2, a3, a4, a5, a6, a7, a8, a9, a10, a11, a12, a13, a14, a15, a16, a17, a18, a19, a20, a21, a22, a23, a24, a25, a26, a27, a28, a29], _ => exact ⟨_, _, _, _, _, _, _, _, _, _, _, _, _, _, _, _, _, _, _, _, _, _, _, _, _, _, _, _, _, _, rfl⟩
/-- What is not whole comes to nothing, whatever is handed in besides. -/
theorem eval_no (sx sy : Value) (d : Nat) (e : Ex) (v : Value) (lo hi : Nat) (w : World) (h : At w lo hi d v e) (hhi : hi ≤ w.heap.size) (hv : wholeF 6 e = false) :
    Calls Try.prog 12 #[v, sx, sy] w fun r w' => r = .returned (.tuple #[.int .i64 0, .int .i64 4]) ∧ Below w.heap.size w w' := by
  obtain ⟨x, y, z, rfl⟩ := h.boxed
  have b0 := boxed_below w x y z
  have HM := Lib.hid (Whole_any d _ _ lo hi _ (h.below b0 hhi) (by have := b0.size; omega))
  rw [hv] at HM
  have HB0 := Lib.hid b0
  clear h b0 hv
  go_enter Try.func12, Try.ntmps12
  go_wp2_with fail
  refine HM.out.mono ?_
  rintro r w5 ⟨rfl, b5⟩
  go_wp2_with fail
  go_ret2
  exact ⟨rfl, HB0.out.trans (b5.mono HB0.out.size)⟩
/-- What a region keeps: the cells of a struct, and all that was there. -/
theorem sB {W wp w' : World} {g : Nat} {x y z : Value} (hg : g < W.heap.size) (h : wp.cell? ⟨g, 0, none⟩ = some x ∧ wp.cell? ⟨g, 1, none⟩ = some y ∧ wp.cell? ⟨g, 2, none⟩ = some z ∧ Below W.heap.size W wp) (b : Below wp.heap.size wp w') :
    w'.cell? ⟨g, 0, none⟩ = some x ∧ w'.cell? ⟨g, 1, none⟩ = some y ∧ w'.cell? ⟨g, 2, none⟩ = some z ∧ Below W.heap.size W w' := by
  obtain ⟨h0, h1, h2, hb⟩ := h
  have hz := hb.size
  exact ⟨(b.cell (p := ⟨g, 0, none⟩) (by show g < _; omega)).trans h0, (b.cell (p := ⟨g, 1, none⟩) (by show g < _; omega)).trans h1, (b.cell (p := ⟨g, 2, none⟩) (by show g < _; omega)).trans h2, hb.trans (b.mono hz)⟩
theorem sBb {p q r : Prop} {W w' : World} (h : p ∧ q ∧ r ∧ Below W.heap.size W w') : Below W.heap.size W w' := h.2.2.2
/-- A row of numbers. -/
theorem ints_row {W : World} {g hi : Nat} {xs : List Int} {t : TypeId} (hr : W.heap[g]? = some (.cells (xs.map (Value.int .i64 ·)).toArray t (0, 0))) (hg : g < hi) (hl : xs.length ≤ 9223372036854775807) : Ints W hi (some ⟨g, 0, none⟩) xs :=
  ⟨hl, fun k hk => ⟨_, rfl, hg, by
    rw [row_add]
    have := cell_of_row W _ k _ _ (0, 0) hr
    rw [this]
    simp [hk]⟩⟩
theorem rows8 {W : World} {g B : Nat} {A1 A2 A3 A4 A5 A6 A7 A8 : Option Addr} {k1 k2 k3 k4 k5 k6 k7 k8 : Nat} {t : TypeId} (hr : W.heap[g]? = some (.cells #[.int .u8 4, .int .i64 0, .slice A1 2 k1, .int .i64 (-9223372036854775808), .int .u8 5, .int .i64 0, .slice A2 2 k2, .int .i64 9223372036854775807, .int .u8 6, .int .i64 0, .slice A3 2 k3, .int .i64 0, .int .u8 6, .int .i64 0, .slice A4 2 k4, .int .i64 (-9223372036854775808), .int .u8 7, .int .i64 0, .slice A5 2 k5, .int .i64 0, .int .u8 7, .int .i64 0, .slice A6 2 k6, .int .i64 1, .int .u8 8, .int .i64 0, .slice A7 2 k7, .int .i64 1, .int .u8 8, .int .i64 0, .slice A8 2 k8, .int .i64 0] t (0, 0)))
    (h1 : At W 0 B 2 (.agg #[.int .u8 4, .int .i64 0, .slice A1 2 k1]) (.node 4 0 [.node 1 9223372036854775807 [], .node 1 1 []])) (h2 : At W 0 B 2 (.agg #[.int .u8 5, .int .i64 0, .slice A2 2 k2]) (.node 5 0 [.node 1 (-9223372036854775808) [], .node 1 1 []])) (h3 : At W 0 B 2 (.agg #[.int .u8 6, .int .i64 0, .slice A3 2 k3]) (.node 6 0 [.node 1 4611686018427387904 [], .node 1 4 []])) (h4 : At W 0 B 2 (.agg #[.int .u8 6, .int .i64 0, .slice A4 2 k4]) (.node 6 0 [.node 1 (-1) [], .node 1 (-9223372036854775808) []])) (h5 : At W 0 B 2 (.agg #[.int .u8 7, .int .i64 0, .slice A5 2 k5]) (.node 7 0 [.node 1 3 [], .node 1 3 []])) (h6 : At W 0 B 2 (.agg #[.int .u8 7, .int .i64 0, .slice A6 2 k6]) (.node 7 0 [.node 1 (-9223372036854775808) [], .node 1 9223372036854775807 []])) (h7 : At W 0 B 2 (.agg #[.int .u8 8, .int .i64 0, .slice A7 2 k7]) (.node 8 0 [.node 1 3 [], .node 1 3 []])) (h8 : At W 0 B 2 (.agg #[.int .u8 8, .int .i64 0, .slice A8 2 k8]) (.node 8 0 [.node 1 3 [], .node 1 4 []])) : ∀ k, k < 8 → Row8 W g B k := by
  have hc : ∀ j, W.cell? ⟨g, j, none⟩ = #[.int .u8 4, .int .i64 0, .slice A1 2 k1, .int .i64 (-9223372036854775808), .int .u8 5, .int .i64 0, .slice A2 2 k2, .int .i64 9223372036854775807, .int .u8 6, .int .i64 0, .slice A3 2 k3, .int .i64 0, .int .u8 6, .int .i64 0, .slice A4 2 k4, .int .i64 (-9223372036854775808), .int .u8 7, .int .i64 0, .slice A5 2 k5, .int .i64 0, .int .u8 7, .int .i64 0, .slice A6 2 k6, .int .i64 1, .int .u8 8, .int .i64 0, .slice A7 2 k7, .int .i64 1, .int .u8 8, .int .i64 0, .slice A8 2 k8, .int .i64 0][j]? := fun j => by simp [World.cell?, hr]
  intro k hk
  obtain rfl | rfl | rfl | rfl | rfl | rfl | rfl | rfl : k = 0 ∨ k = 1 ∨ k = 2 ∨ k = 3 ∨ k = 4 ∨ k = 5 ∨ k = 6 ∨ k = 7 := by omega
  · exact ⟨4, k1, A1, (-9223372036854775808), _, hc 0, hc 1, hc 2, hc 3, h1, by kernel_rfl⟩
  · exact ⟨5, k2, A2, 9223372036854775807, _, hc 4, hc 5, hc 6, hc 7, h2, by kernel_rfl⟩
  · exact ⟨6, k3, A3, 0, _, hc 8, hc 9, hc 10, hc 11, h3, by kernel_rfl⟩
  · exact ⟨6, k4, A4, (-9223372036854775808), _, hc 12, hc 13, hc 14, hc 15, h4, by kernel_rfl⟩
  · exact ⟨7, k5, A5, 0, _, hc 16, hc 17, hc 18, hc 19, h5, by kernel_rfl⟩
  · exact ⟨7, k6, A6, 1, _, hc 20, hc 21, hc 22, hc 23, h6, by kernel_rfl⟩
  · exact ⟨8, k7, A7, 1, _, hc 24, hc 25, hc 26, hc 27, h7, by kernel_rfl⟩
  · exact ⟨8, k8, A8, 0, _, hc 28, hc 29, hc 30, hc 31, h8, by kernel_rfl⟩
set_option maxRecDepth 100000 in
set_option maxHeartbeats 8000000 in
theorem ExprNames_walk (w : World) : Calls Try.prog 5 #[] w fun e w' => e = .returned (.bool true) ∧ Below w.heap.size w w' := by
  have bl := b_alloc w (.cells #[.func (.func 26) #[] #[]] 39)
  have hr := heap_alloc_new w (.cells #[.func (.func 26) #[] #[]] 39)
  have hz : (w.alloc (.cells #[.func (.func 26) #[] #[]] 39)).heap.size = w.heap.size + 1 := by simp
  have hs1 := fun (w : World) (a : Addr) (m : Mode) => run_store Try.prog w a (.func (.func 26) #[] #[]) m rfl
  obtain ⟨W0, hW0⟩ : ∃ W0, W0 = w.alloc (.cells #[.func (.func 26) #[] #[]] 39) := ⟨_, rfl⟩
  have hlit : ∀ W', Below W0.heap.size W0 W' → W'.cell? ⟨w.heap.size, 0, none⟩ = some (.func (.func 26) #[] #[]) := fun W' h => by
    rw [h.cell (p := ⟨w.heap.size, 0, none⟩) (by show w.heap.size < _; rw [hW0, hz]; omega), hW0]
    exact cell_of_row _ _ 0 _ _ (0, 0) hr
  have HLIT := Lib.hid hlit
  have HTWO : Hid (∀ (op : Nat) (a b : Int) (W' : World), op < 256 → -9223372036854775808 ≤ a → a < 9223372036854775808 → -9223372036854775808 ≤ b → b < 9223372036854775808 → Below W0.heap.size W0 W' → Calls Try.prog 27 #[.int .u8 op, .int .i64 a, .int .i64 b, .pointer (some ⟨w.heap.size, 0, none⟩)] W' (Made2 W' op a b)) := fun op a b W' h1 h2 h3 h4 h5 h =>
    two_any op a b w.heap.size W' h1 h2 h3 h4 h5 (hlit W' h) (by have := h.size; rw [hW0, hz] at this; omega)
  have hz0 : W0.heap.size = w.heap.size + 1 := by rw [hW0]; exact hz
  rw [← hW0] at bl
  have HBL := Lib.hid bl
  have HZ0 := Lib.hid hz0
  clear hr hlit hz bl hz0
  go_enter Try.func5, Try.ntmps5
  go_wp2_with fail
  rw [← hW0]
  clear hW0 hs1
  refine (HTWO.out 4 9223372036854775807 1 W0 (by decide) (by decide) (by decide) (by decide) (by decide) (Below.refl _ _)).mono ?_
  rintro r w1 ⟨v1, rfl, hA1, b1⟩
  obtain ⟨A1, k1, rfl⟩ := hA1.pairForm
  have c1 : Below W0.heap.size W0 w1 := b1
  go_wp2_with fail
  refine (HTWO.out 5 (-9223372036854775808) 1 w1 (by decide) (by decide) (by decide) (by decide) (by decide) c1).mono ?_
  rintro r w2 ⟨v2, rfl, hA2, b2⟩
  obtain ⟨A2, k2, rfl⟩ := hA2.pairForm
  have c2 : Below W0.heap.size W0 w2 := c1.trans (b2.mono c1.size)
  go_wp2_with fail
  refine (HTWO.out 6 4611686018427387904 4 w2 (by decide) (by decide) (by decide) (by decide) (by decide) c2).mono ?_
  rintro r w3 ⟨v3, rfl, hA3, b3⟩
  obtain ⟨A3, k3, rfl⟩ := hA3.pairForm
  have c3 : Below W0.heap.size W0 w3 := c2.trans (b3.mono c2.size)
  go_wp2_with fail
  refine (HTWO.out 6 (-1) (-9223372036854775808) w3 (by decide) (by decide) (by decide) (by decide) (by decide) c3).mono ?_
  rintro r w4 ⟨v4, rfl, hA4, b4⟩
  obtain ⟨A4, k4, rfl⟩ := hA4.pairForm
  have c4 : Below W0.heap.size W0 w4 := c3.trans (b4.mono c3.size)
  go_wp2_with fail
  refine (HTWO.out 7 3 3 w4 (by decide) (by decide) (by decide) (by decide) (by decide) c4).mono ?_
  rintro r w5 ⟨v5, rfl, hA5, b5⟩
  obtain ⟨A5, k5, rfl⟩ := hA5.pairForm
  have c5 : Below W0.heap.size W0 w5 := c4.trans (b5.mono c4.size)
  go_wp2_with fail
  refine (HTWO.out 7 (-9223372036854775808) 9223372036854775807 w5 (by decide) (by decide) (by decide) (by decide) (by decide) c5).mono ?_
  rintro r w6 ⟨v6, rfl, hA6, b6⟩
  obtain ⟨A6, k6, rfl⟩ := hA6.pairForm
  have c6 : Below W0.heap.size W0 w6 := c5.trans (b6.mono c5.size)
  go_wp2_with fail
  refine (HTWO.out 8 3 3 w6 (by decide) (by decide) (by decide) (by decide) (by decide) c6).mono ?_
  rintro r w7 ⟨v7, rfl, hA7, b7⟩
  obtain ⟨A7, k7, rfl⟩ := hA7.pairForm
  have c7 : Below W0.heap.size W0 w7 := c6.trans (b7.mono c6.size)
  go_wp2_with fail
  refine (HTWO.out 8 3 4 w7 (by decide) (by decide) (by decide) (by decide) (by decide) c7).mono ?_
  rintro r w8 ⟨v8, rfl, hA8, b8⟩
  obtain ⟨A8, k8, rfl⟩ := hA8.pairForm
  have c8 : Below W0.heap.size W0 w8 := c7.trans (b8.mono c7.size)
  have bg := b_alloc w8 (.cells #[.int .u8 4, .int .i64 0, .slice A1 2 k1, .int .i64 (-9223372036854775808), .int .u8 5, .int .i64 0, .slice A2 2 k2, .int .i64 9223372036854775807, .int .u8 6, .int .i64 0, .slice A3 2 k3, .int .i64 0, .int .u8 6, .int .i64 0, .slice A4 2 k4, .int .i64 (-9223372036854775808), .int .u8 7, .int .i64 0, .slice A5 2 k5, .int .i64 0, .int .u8 7, .int .i64 0, .slice A6 2 k6, .int .i64 1, .int .u8 8, .int .i64 0, .slice A7 2 k7, .int .i64 1, .int .u8 8, .int .i64 0, .slice A8 2 k8, .int .i64 0] 41)
  have hr := heap_alloc_new w8 (.cells #[.int .u8 4, .int .i64 0, .slice A1 2 k1, .int .i64 (-9223372036854775808), .int .u8 5, .int .i64 0, .slice A2 2 k2, .int .i64 9223372036854775807, .int .u8 6, .int .i64 0, .slice A3 2 k3, .int .i64 0, .int .u8 6, .int .i64 0, .slice A4 2 k4, .int .i64 (-9223372036854775808), .int .u8 7, .int .i64 0, .slice A5 2 k5, .int .i64 0, .int .u8 7, .int .i64 0, .slice A6 2 k6, .int .i64 1, .int .u8 8, .int .i64 0, .slice A7 2 k7, .int .i64 1, .int .u8 8, .int .i64 0, .slice A8 2 k8, .int .i64 0] 41)
  obtain ⟨W1, hW1⟩ : ∃ W1, W1 = w8.alloc (.cells #[.int .u8 4, .int .i64 0, .slice A1 2 k1, .int .i64 (-9223372036854775808), .int .u8 5, .int .i64 0, .slice A2 2 k2, .int .i64 9223372036854775807, .int .u8 6, .int .i64 0, .slice A3 2 k3, .int .i64 0, .int .u8 6, .int .i64 0, .slice A4 2 k4, .int .i64 (-9223372036854775808), .int .u8 7, .int .i64 0, .slice A5 2 k5, .int .i64 0, .int .u8 7, .int .i64 0, .slice A6 2 k6, .int .i64 1, .int .u8 8, .int .i64 0, .slice A7 2 k7, .int .i64 1, .int .u8 8, .int .i64 0, .slice A8 2 k8, .int .i64 0] 41) := ⟨_, rfl⟩
  rw [← hW1] at bg hr
  have d1 := c8.trans (bg.mono c8.size)
  have z2 := b2.size
  have z3 := b3.size
  have z4 := b4.size
  have z5 := b5.size
  have z6 := b6.size
  have z7 := b7.size
  have z8 := b8.size
  have e7 := bg
  have e6 := (b8.trans (bg.mono b8.size))
  have e5 := (b7.trans (e6.mono b7.size))
  have e4 := (b6.trans (e5.mono b6.size))
  have e3 := (b5.trans (e4.mono b5.size))
  have e2 := (b4.trans (e3.mono b4.size))
  have e1 := (b3.trans (e2.mono b3.size))
  have e0 := (b2.trans (e1.mono b2.size))
  have hrows : ∀ k, k < 8 → Row8 W1 w8.heap.size w8.heap.size k := rows8 hr
    ((hA1.below e0 (Nat.le_refl _)).wide (Nat.zero_le _) (by omega) 2) ((hA2.below e1 (Nat.le_refl _)).wide (Nat.zero_le _) (by omega) 2) ((hA3.below e2 (Nat.le_refl _)).wide (Nat.zero_le _) (by omega) 2) ((hA4.below e3 (Nat.le_refl _)).wide (Nat.zero_le _) (by omega) 2)
    ((hA5.below e4 (Nat.le_refl _)).wide (Nat.zero_le _) (by omega) 2) ((hA6.below e5 (Nat.le_refl _)).wide (Nat.zero_le _) (by omega) 2) ((hA7.below e6 (Nat.le_refl _)).wide (Nat.zero_le _) (by omega) 2) ((hA8.below e7 (Nat.le_refl _)).wide (Nat.zero_le _) (by omega) 2)
  have HROWS := Lib.hid hrows
  have hz1 : w8.heap.size < W1.heap.size := lt_of_block hr
  have HD1 := Lib.hid d1
  have HZ1 := Lib.hid hz1
  clear hrows hr bg d1 hz1 c1 c2 c3 c4 c5 c6 c7 c8 b1 b2 b3 b4 b5 b6 b7 b8 hA1 hA2 hA3 hA4 hA5 hA6 hA7 hA8 z2 z3 z4 z5 z6 z7 z8 e0 e1 e2 e3 e4 e5 e6 e7 HTWO
  go_wp2_with fail
  rw [← hW1]
  clear hW1
  go_loopw [53] (fun i wr => ∃ k : Nat, k ≤ 8 ∧ i = .int .i64 k ∧ Below W1.heap.size W1 wr) (fun i _ => 8 - (intOf i).toNat)
  case atStart => exact ⟨0, by omega, rfl, Below.refl _ _⟩
  case round =>
    obtain ⟨k, hk, rfl, hb⟩ := hrel
    by_cases hlt : k < 8
    · obtain ⟨o, c, A, want, e, q0, q1, q2, q3, hA, hv⟩ := HROWS.out k hlt
      have g0 := (hb.cell (p := ⟨w8.heap.size, k * 4, none⟩) HZ1.out).trans q0
      have g1 := (hb.cell (p := ⟨w8.heap.size, k * 4 + 1, none⟩) HZ1.out).trans q1
      have g2 := (hb.cell (p := ⟨w8.heap.size, k * 4 + 2, none⟩) HZ1.out).trans q2
      have g3 := (hb.cell (p := ⟨w8.heap.size, k * 4 + 3, none⟩) HZ1.out).trans q3
      have bx := b_alloc wr (.cells #[.int .u8 o, .int .i64 0, .slice A 2 c, .int .i64 want] 41)
      have hbx := hb.trans (bx.mono hb.size)
      have hz8 := HZ1.out
      have hr4 := heap_alloc_new wr (.cells #[.int .u8 o, .int .i64 0, .slice A 2 c, .int .i64 want] 41)
      have HE := eval_any none none 0 0 0 0 [] [] 2 e _ 0 w8.heap.size _ (hA.below hbx (by omega)) (by have := hbx.size; omega) (Ints.none_ _ _) (Nat.zero_le _) (Ints.none_ _ _) (Nat.zero_le _)
      rw [hv] at HE
      have HI : Hid (Calls Try.prog 12 #[.agg #[.int .u8 o, .int .i64 0, .slice A 2 c], .slice none 0 0, .slice none 0 0] (wr.alloc (.cells #[.int .u8 o, .int .i64 0, .slice A 2 c, .int .i64 want] 41)) fun r w' => r = .returned (.tuple #[.int .i64 want, .int .i64 0]) ∧ Below (wr.alloc (.cells #[.int .u8 o, .int .i64 0, .slice A 2 c, .int .i64 want] 41)).heap.size (wr.alloc (.cells #[.int .u8 o, .int .i64 0, .slice A 2 c, .int .i64 want] 41)) w') := HE
      have HR4 := Lib.hid hr4
      have HBX := Lib.hid hbx
      have i1 : (0 : Int) ≤ (k : Int) := by omega
      have i2 : (k : Int) < 8 := by omega
      clear HE hr4 hbx bx q0 q1 q2 q3 hA hv hz8
      go_wp2_with fail
      refine HI.out.mono ?_
      rintro r w9 ⟨rfl, b9⟩
      have hx3 : w9.cell? ⟨wr.heap.size, 3, none⟩ = some (.int .i64 want) := cell_of_row w9 _ 3 _ _ (0, 0) ((b9.block _ (by simp)).trans HR4.out)
      have hww : (want != want) = false := by simp
      clear g0 g1 g2 g3
      go_wp2_with fail
      go_roundw
      case rel => exact ⟨k + 1, by omega, by go_num, HBX.out.trans (b9.mono HBX.out.size)⟩
      case measure => simp [intOf]; omega
    · have d2 := HD1.out.trans (hb.mono HD1.out.size)
      have f0 := HLIT.out wr d2
      have HD2 := Lib.hid d2
      clear d2 hb
      go_wp2_with fail
      refine (lit_any 1 wr).mono ?_
      rintro r w10 ⟨rfl, b10⟩
      have b5 := b_alloc w10 (.cells #[.int .u8 1, .int .i64 1, .slice none 0 0] 24)
      have hr5 := heap_alloc_new w10 (.cells #[.int .u8 1, .int .i64 1, .slice none 0 0] 24)
      obtain ⟨W5, hW5⟩ : ∃ W5, W5 = w10.alloc (.cells #[.int .u8 1, .int .i64 1, .slice none 0 0] 24) := ⟨_, rfl⟩
      rw [← hW5] at b5 hr5
      have hz5 : w10.heap.size < W5.heap.size := lt_of_block hr5
      have d5 : Below W0.heap.size W0 W5 := (HD2.out.trans (b10.mono HD2.out.size)).trans (b5.mono (HD2.out.trans (b10.mono HD2.out.size)).size)
      have hgd : W0.heap.size ≤ w10.heap.size := (HD2.out.trans (b10.mono HD2.out.size)).size
      have HD5 := Lib.hid d5
      have HI0 : Hid (DI W5 w10.heap.size 1 W5) := ⟨_, _, _, hr5, At.leaf _ _ _ 1 1 (by decide) (by decide) (by decide), Below.refl _ _, hz5⟩
      have HGD := Lib.hid hgd
      clear b5 hr5 hz5 d5 hgd f0 b10 HD2 HROWS HZ1 HD1
      go_wp2_with fail
      rw [← hW5]
      clear hW5
      go_loopw [8] (fun i wr => ∃ k : Nat, 1 ≤ k ∧ k ≤ 6 ∧ i = .int .i64 k ∧ Hid (DI W5 w10.heap.size k wr)) (fun i _ => 6 - (intOf i).toNat)
      case atStart => exact ⟨1, by omega, by omega, rfl, HI0⟩
      case round =>
        obtain ⟨k, hk1, hk, rfl, INV⟩ := hrel
        obtain ⟨x, y, z, hrow, hA, hb, hz⟩ := INV.out
        have c0 : wr.cell? ⟨w10.heap.size, 0, none⟩ = some x := cell_of_row wr _ 0 _ _ (0, 0) hrow
        have c1 : wr.cell? ⟨w10.heap.size, 1, none⟩ = some y := cell_of_row wr _ 1 _ _ (0, 0) hrow
        have c2 : wr.cell? ⟨w10.heap.size, 2, none⟩ = some z := cell_of_row wr _ 2 _ _ (0, 0) hrow
        have f0 := HLIT.out wr (HD5.out.trans (hb.mono HGD.out))
        by_cases hlt : k < 6
        · obtain ⟨o', n', A', l', c', rfl, rfl, rfl⟩ := hA.form
          have HROW := Lib.hid hrow
          have HAK := Lib.hid hA
          have HBK := Lib.hid hb
          clear hrow hA hb
          go_wp2_with fail
          go_region_law
            (rw [if_pos (by rfl)]; go_simp; refine (lit_any 1 _).mono ?_; rintro r w11 ⟨rfl, b11⟩; have hb := (b11.block w10.heap.size (by simpa using hz)).trans HROW.out; have e0 : w11.cell? ⟨w10.heap.size, 0, none⟩ = some (.int .u8 o') := cell_of_row w11 _ 0 _ _ (0, 0) hb; have e1 : w11.cell? ⟨w10.heap.size, 1, none⟩ = some (.int .i64 n') := cell_of_row w11 _ 1 _ _ (0, 0) hb; have e2 : w11.cell? ⟨w10.heap.size, 2, none⟩ = some (.slice A' l' c') := cell_of_row w11 _ 2 _ _ (0, 0) hb; have hl2 : w10.heap.size < w11.heap.size := lt_of_block hb; have q0 : w11.frozen? ⟨w10.heap.size, 0, none⟩ = false := row_free hb; have q1 : w11.frozen? ⟨w10.heap.size, 1, none⟩ = false := row_free hb; have q2 : w11.frozen? ⟨w10.heap.size, 2, none⟩ = false := row_free hb)
          all_goals
            have HN := Lib.hid (DI.step hk1 hz HROW.out HAK.out HBK.out ((b_drew wr).trans b11))
            clear c0 c1 c2 f0 e0 e1 e2 q0 q1 q2 hb b11
            go_wp2_with fail
            go_roundw
            case rel => exact ⟨k + 1, by omega, by omega, by go_num, HN⟩
            case measure => simp [intOf]; omega
        · obtain rfl : k = 6 := by omega
          obtain ⟨o', n', A', l', c', rfl, rfl, rfl⟩ := hA.form
          have HROW := Lib.hid hrow
          have HAK := Lib.hid hA
          have HBK := Lib.hid hb
          have hgl : w.heap.size < wr.heap.size := by have := HZ0.out; have := HGD.out; omega
          have hz9 := heap_alloc_new wr (.cells #[.int .u8 0, .int .i64 0, .slice none 0 0] 24)
          clear hrow hA hb
          go_upto_region 15 with fail
          refine region_cut (fun a a' w' => ∃ g6 g9 : Nat, a' = (((((a.put (some 83) (.func (.func 26) #[] #[])).put (some 84) (.agg #[.int .u8 1, .int .i64 1, .slice none 0 0])).put (some 85) (.agg #[.int .u8 o', .int .i64 n', .slice A' l' c'])).put (some 86) (.slice (some ⟨g6, 0, none⟩) 2 2)).put (some 87) (.agg #[.int .u8 4, .int .i64 0, .slice (some ⟨g6, 0, none⟩) 2 2])).put (some 9) (.pointer (some ⟨g9, 0, none⟩)) ∧
              Below wr.heap.size wr w' ∧ wr.heap.size ≤ g6 ∧ w'.heap[g6]? = some (.cells #[.int .u8 1, .int .i64 1, .slice none 0 0, .int .u8 o', .int .i64 n', .slice A' l' c'] 24 (0, 0)) ∧ w'.heap[g9]? = some (.cells #[.int .u8 4, .int .i64 0, .slice (some ⟨g6, 0, none⟩) 2 2] 24 (0, 0))) ?_ ?_
          · go_region_held3 (fun w' => w'.cell? ⟨w.heap.size, 0, none⟩ = some (.func (.func 26) #[] #[]) ∧ w'.cell? ⟨w10.heap.size, 0, none⟩ = some (.int .u8 o') ∧ w'.cell? ⟨w10.heap.size, 1, none⟩ = some (.int .i64 n') ∧ w'.cell? ⟨w10.heap.size, 2, none⟩ = some (.slice A' l' c') ∧ Below wr.heap.size wr w')
              (first | exact sD hgl hz hS12 (b_st3a (Nat.le_refl _) hle) | exact sD hgl hz hS12 (b_aa hle) | exact sD hgl hz (by assumption) (b12.mono hle0) | exact sD hgl hz (by assumption) (b_al hle) | exact sD hgl hz (by assumption) (b_al2 hle) | exact sD hgl hz ⟨f0, c0, c1, c2, Below.refl _ _⟩ (b_drew _) | exact sD hgl hz ⟨f0, c0, c1, c2, Below.refl _ _⟩ ((b_al (Nat.le_refl _)).trans ((b_drew _).mono (by simp))) | fail)
              (first
                | (go_at_call 26; have hle0 : wr.heap.size ≤ (wr.alloc (.cells #[.int .u8 0, .int .i64 0, .slice none 0 0] 24)).drew.heap.size := (by simp); refine (lit_any 1 (wr.alloc (.cells #[.int .u8 0, .int .i64 0, .slice none 0 0] 24)).drew).mono ?_; rintro r w12 ⟨rfl, b12⟩; have hle : wr.heap.size ≤ w12.heap.size := (by have := b12.size; simp at this; omega); have hS12 := sD hgl hz ⟨f0, c0, c1, c2, Below.refl _ _⟩ (((b_al (Nat.le_refl _)).trans ((b_drew _).mono (by simp))).trans (b12.mono hle0)); have hb := (b12.block wr.heap.size (by simp)).trans hz9; have e0 : w12.cell? ⟨wr.heap.size, 0, none⟩ = some (.int .u8 0) := cell_of_row w12 _ 0 _ _ (0, 0) hb; have e1 : w12.cell? ⟨wr.heap.size, 1, none⟩ = some (.int .i64 0) := cell_of_row w12 _ 1 _ _ (0, 0) hb; have e2 : w12.cell? ⟨wr.heap.size, 2, none⟩ = some (.slice none 0 0) := cell_of_row w12 _ 2 _ _ (0, 0) hb; have hl2 : wr.heap.size < w12.heap.size := lt_of_block hb; have q0 : w12.frozen? ⟨wr.heap.size, 0, none⟩ = false := row_free hb; have q1 : w12.frozen? ⟨wr.heap.size, 1, none⟩ = false := row_free hb; have q2 : w12.frozen? ⟨wr.heap.size, 2, none⟩ = false := row_free hb)
                | (go_at_call 26; have hle0 : wr.heap.size ≤ wr.drew.heap.size := (by simp); refine (lit_any 1 wr.drew).mono ?_; rintro r w12 ⟨rfl, b12⟩; have hle : wr.heap.size ≤ w12.heap.size := (by have := b12.size; simp at this; omega); have hS12 := sD hgl hz ⟨f0, c0, c1, c2, Below.refl _ _⟩ ((b_drew wr).trans (b12.mono hle0)))
                | fail)
            all_goals
              first
                | exact ⟨rfl, _, _, rfl, hS12.2.2.2.2.trans (b_aa hle), hle, (r_aa _ _ _ _ _).1, (r_aa _ _ _ _ _).2⟩
                | exact ⟨rfl, _, _, rfl, hS12.2.2.2.2.trans (b_aa hle), Nat.le_succ_of_le hle, (r_aa _ _ _ _ _).2, (r_aa _ _ _ _ _).1⟩
                | exact ⟨rfl, _, _, rfl, hS12.2.2.2.2.trans (b_st3a (Nat.le_refl _) hle), hle, (r_st _ _ _ _ _ _ hb).1, (r_st _ _ _ _ _ _ hb).2⟩
          · rintro a' w' ⟨g6, g9, rfl, hb6, hg6, hr6, hr9⟩
            simp only [Act.put, List.setIfInBounds_toArray, List.set_cons_zero, List.set_cons_succ]
            clear f0 c0 c1 c2
            have hdeep : At w' (w10.heap.size + 1) w'.heap.size 6 (.agg #[.int .u8 o', .int .i64 n', .slice A' l' c']) (deepT 6) := (HAK.out.below hb6 (Nat.le_refl _)).wide (Nat.le_refl _) hb6.size 6
            have hdx : Tr 7 deeperT (.agg #[.int .u8 4, .int .i64 0, .slice (some ⟨g6, 0, none⟩) 2 2]) w' :=
              At.pair (lo := 0) (hi := w'.heap.size) (op := 4) (c := 2) hr6 (Nat.zero_le _) (lt_of_block hr6) (by decide) ((At.leaf w' 0 w'.heap.size 1 1 (by decide) (by decide) (by decide)).more 1 6 (by decide)) (hdeep.wide (Nat.zero_le _) (Nat.le_refl _) 6)
            have hg9 := lt_of_block hr9
            have HDX : Hid (∀ wq, Below w'.heap.size w' wq → wq.cell? ⟨g9, 0, none⟩ = some (.int .u8 4) ∧ wq.cell? ⟨g9, 1, none⟩ = some (.int .i64 0) ∧ wq.cell? ⟨g9, 2, none⟩ = some (.slice (some ⟨g6, 0, none⟩) 2 2) ∧ Tr 7 deeperT (.agg #[.int .u8 4, .int .i64 0, .slice (some ⟨g6, 0, none⟩) 2 2]) wq) := fun wq hq =>
              have hr := (hq.block g9 hg9).trans hr9
              ⟨cell_of_row wq _ 0 _ _ (0, 0) hr, cell_of_row wq _ 1 _ _ (0, 0) hr, cell_of_row wq _ 2 _ _ (0, 0) hr, Tr.mono hq hdx⟩
            have d6 : Below W0.heap.size W0 w' := (HD5.out.trans (HBK.out.mono HGD.out)).trans (hb6.mono (HD5.out.trans (HBK.out.mono HGD.out)).size)
            have HLW : Hid (∀ wq, Below w'.heap.size w' wq → wq.cell? ⟨w.heap.size, 0, none⟩ = some (.func (.func 26) #[] #[])) := fun wq hq => HLIT.out wq (d6.trans (hq.mono d6.size))
            have hrd : w'.heap[w10.heap.size]? = some (.cells #[.int .u8 o', .int .i64 n', .slice A' l' c'] 24 (0, 0)) := (hb6.block _ hz).trans HROW.out
            have HD6 := Lib.hid d6
            have HRD := Lib.hid hrd
            have HDEEP := Lib.hid hdeep
            clear hdeep hdx hg9 d6 hrd hr6 hr9 hb6 hg6 HROW HAK HBK HD5 HGD hgl hz9 hz
            go_upto_region 16 with fail
            refine wp_region_kinds S16 w' _ 88 (by simp) (by kernel_rfl) (by kernel_rfl) (fun i v w1 w2 _ b h => S16.mono i v w1 w2 b h) ?_ ?_
            · intro i o ho a us wq hu hT hU hb hd K hK
              have hi : i < 30 := (Array.getElem?_eq_some_iff.1 ho).1
              obtain rfl | rfl | rfl | rfl | rfl | rfl | rfl | rfl | rfl | rfl | rfl | rfl | rfl | rfl | rfl | rfl | rfl | rfl | rfl | rfl | rfl | rfl | rfl | rfl | rfl | rfl | rfl | rfl | rfl | rfl : i = 0 ∨ i = 1 ∨ i = 2 ∨ i = 3 ∨ i = 4 ∨ i = 5 ∨ i = 6 ∨ i = 7 ∨ i = 8 ∨ i = 9 ∨ i = 10 ∨ i = 11 ∨ i = 12 ∨ i = 13 ∨ i = 14 ∨ i = 15 ∨ i = 16 ∨ i = 17 ∨ i = 18 ∨ i = 19 ∨ i = 20 ∨ i = 21 ∨ i = 22 ∨ i = 23 ∨ i = 24 ∨ i = 25 ∨ i = 26 ∨ i = 27 ∨ i = 28 ∨ i = 29 := by omega
              · have ho' := Option.some.inj (ho : some _ = some o)
                subst ho'
                exact no_c0 rfl (hK _ _ (Below.refl _ _) (Tr.leaf _ 0 0 (by decide) (by decide) (by decide)))
              · have ho' := Option.some.inj (ho : some _ = some o)
                subst ho'
                exact no_c1 9 rfl (hK _ _ (Below.refl _ _) (Tr.leaf _ 9 0 (by decide) (by decide) (by decide)))
              · have ho' := Option.some.inj (ho : some _ = some o)
                subst ho'
                exact no_load 1 w.heap.size rfl (hT 1 (by decide)) (HLW.out wq hb) (hK _ _ (Below.refl _ _) rfl)
              · have ho' := Option.some.inj (ho : some _ = some o)
                subst ho'
                have h2 := hd ⟨2, .data⟩ (by simp) rfl
                exact no_lit 90 1 rfl ((hU 2 (by decide)).trans h2) (fun w2 hb2 => hK _ _ hb2 (Tr.leaf _ 1 1 (by decide) (by decide) (by decide)))
              · have ho' := Option.some.inj (ho : some _ = some o)
                subst ho'
                have h3 := hd ⟨3, .data⟩ (by simp) rfl
                obtain ⟨p1, p2, p3, p4, p5, hv⟩ := Tr.agg h3
                rw [hv] at h3
                exact no_sl1 91 rfl ((hU 3 (by decide)).trans hv) (hK _ _ (b_alloc _ _) (Sl.one h3))
              · have ho' := Option.some.inj (ho : some _ = some o)
                subst ho'
                have h4 := hd ⟨4, .data⟩ (by simp) rfl
                obtain ⟨p1, p2, p3, hv, ht⟩ := Tr.of_sl (op := 1) (n := 0) h4 (by decide) (by decide) (by decide) (by decide)
                exact no_op2 92 1 rfl ((hU 4 (by decide)).trans hv) (hK _ _ (Below.refl _ _) ht)
              · have ho' := Option.some.inj (ho : some _ = some o)
                subst ho'
                exact no_c2 2 8 rfl (hK _ _ (Below.refl _ _) (Tr.leaf _ 2 8 (by decide) (by decide) (by decide)))
              · have ho' := Option.some.inj (ho : some _ = some o)
                subst ho'
                exact no_c2 2 (-1) rfl (hK _ _ (Below.refl _ _) (Tr.leaf _ 2 (-1) (by decide) (by decide) (by decide)))
              · have ho' := Option.some.inj (ho : some _ = some o)
                subst ho'
                exact no_c2 3 6 rfl (hK _ _ (Below.refl _ _) (Tr.leaf _ 3 6 (by decide) (by decide) (by decide)))
              · have ho' := Option.some.inj (ho : some _ = some o)
                subst ho'
                exact no_c2 3 (-1) rfl (hK _ _ (Below.refl _ _) (Tr.leaf _ 3 (-1) (by decide) (by decide) (by decide)))
              · have ho' := Option.some.inj (ho : some _ = some o)
                subst ho'
                exact no_c1 4 rfl (hK _ _ (Below.refl _ _) (Tr.leaf _ 4 0 (by decide) (by decide) (by decide)))
              · have ho' := Option.some.inj (ho : some _ = some o)
                subst ho'
                exact no_load 1 w.heap.size rfl (hT 1 (by decide)) (HLW.out wq hb) (hK _ _ (Below.refl _ _) rfl)
              · have ho' := Option.some.inj (ho : some _ = some o)
                subst ho'
                have h11 := hd ⟨11, .data⟩ (by simp) rfl
                exact no_lit 99 1 rfl ((hU 11 (by decide)).trans h11) (fun w2 hb2 => hK _ _ hb2 (Tr.leaf _ 1 1 (by decide) (by decide) (by decide)))
              · have ho' := Option.some.inj (ho : some _ = some o)
                subst ho'
                exact no_load 1 w.heap.size rfl (hT 1 (by decide)) (HLW.out wq hb) (hK _ _ (Below.refl _ _) rfl)
              · have ho' := Option.some.inj (ho : some _ = some o)
                subst ho'
                have h13 := hd ⟨13, .data⟩ (by simp) rfl
                exact no_lit 101 2 rfl ((hU 13 (by decide)).trans h13) (fun w2 hb2 => hK _ _ hb2 (Tr.leaf _ 1 2 (by decide) (by decide) (by decide)))
              · have ho' := Option.some.inj (ho : some _ = some o)
                subst ho'
                have h12 := hd ⟨12, .data⟩ (by simp) rfl
                have h14 := hd ⟨14, .data⟩ (by simp) rfl
                obtain ⟨p1, p2, p3, p4, p5, hv⟩ := Tr.agg h12
                obtain ⟨q1, q2, q3, q4, q5, hv2⟩ := Tr.agg h14
                rw [hv] at h12
                rw [hv2] at h14
                exact no_sl2 100 102 rfl ((hU 12 (by decide)).trans hv) ((hU 14 (by decide)).trans hv2) (hK _ _ (b_alloc _ _) (Sl.two h12 h14))
              · have ho' := Option.some.inj (ho : some _ = some o)
                subst ho'
                have h15 := hd ⟨15, .data⟩ (by simp) rfl
                obtain ⟨p1, p2, p3, hv, ht⟩ := Tr.of_sl (op := 4) (n := 1) h15 (by decide) (by decide) (by decide) (by decide)
                exact no_op3 103 4 1 rfl ((hU 15 (by decide)).trans hv) (hK _ _ (Below.refl _ _) ht)
              · have ho' := Option.some.inj (ho : some _ = some o)
                subst ho'
                exact no_load 1 w.heap.size rfl (hT 1 (by decide)) (HLW.out wq hb) (hK _ _ (Below.refl _ _) rfl)
              · have ho' := Option.some.inj (ho : some _ = some o)
                subst ho'
                have h17 := hd ⟨17, .data⟩ (by simp) rfl
                exact no_lit 105 1 rfl ((hU 17 (by decide)).trans h17) (fun w2 hb2 => hK _ _ hb2 (Tr.leaf _ 1 1 (by decide) (by decide) (by decide)))
              · have ho' := Option.some.inj (ho : some _ = some o)
                subst ho'
                have h18 := hd ⟨18, .data⟩ (by simp) rfl
                obtain ⟨p1, p2, p3, p4, p5, hv⟩ := Tr.agg h18
                rw [hv] at h18
                exact no_sl1 106 rfl ((hU 18 (by decide)).trans hv) (hK _ _ (b_alloc _ _) (Sl.one h18))
              · have ho' := Option.some.inj (ho : some _ = some o)
                subst ho'
                have h19 := hd ⟨19, .data⟩ (by simp) rfl
                obtain ⟨p1, p2, p3, hv, ht⟩ := Tr.of_sl (op := 7) (n := 0) h19 (by decide) (by decide) (by decide) (by decide)
                exact no_op2 107 7 rfl ((hU 19 (by decide)).trans hv) (hK _ _ (Below.refl _ _) ht)
              · have ho' := Option.some.inj (ho : some _ = some o)
                subst ho'
                exact no_load 1 w.heap.size rfl (hT 1 (by decide)) (HLW.out wq hb) (hK _ _ (Below.refl _ _) rfl)
              · have ho' := Option.some.inj (ho : some _ = some o)
                subst ho'
                have h21 := hd ⟨21, .data⟩ (by simp) rfl
                exact no_lit 109 1 rfl ((hU 21 (by decide)).trans h21) (fun w2 hb2 => hK _ _ hb2 (Tr.leaf _ 1 1 (by decide) (by decide) (by decide)))
              · have ho' := Option.some.inj (ho : some _ = some o)
                subst ho'
                exact no_c0 rfl (hK _ _ (Below.refl _ _) (Tr.leaf _ 0 0 (by decide) (by decide) (by decide)))
              · have ho' := Option.some.inj (ho : some _ = some o)
                subst ho'
                have h22 := hd ⟨22, .data⟩ (by simp) rfl
                have h23 := hd ⟨23, .data⟩ (by simp) rfl
                obtain ⟨p1, p2, p3, p4, p5, hv⟩ := Tr.agg h22
                obtain ⟨q1, q2, q3, q4, q5, hv2⟩ := Tr.agg h23
                rw [hv] at h22
                rw [hv2] at h23
                exact no_sl2 110 111 rfl ((hU 22 (by decide)).trans hv) ((hU 23 (by decide)).trans hv2) (hK _ _ (b_alloc _ _) (Sl.two h22 h23))
              · have ho' := Option.some.inj (ho : some _ = some o)
                subst ho'
                have h24 := hd ⟨24, .data⟩ (by simp) rfl
                obtain ⟨p1, p2, p3, hv, ht⟩ := Tr.of_sl (op := 7) (n := 0) h24 (by decide) (by decide) (by decide) (by decide)
                exact no_op2 112 7 rfl ((hU 24 (by decide)).trans hv) (hK _ _ (Below.refl _ _) ht)
              · have ho' := Option.some.inj (ho : some _ = some o)
                subst ho'
                have hx := HDX.out wq hb
                exact no_loadE 9 g9 rfl (hT 9 (by decide)) hx.1 hx.2.1 hx.2.2.1 (hK _ _ (Below.refl _ _) hx.2.2.2)
              · have ho' := Option.some.inj (ho : some _ = some o)
                subst ho'
                have h0 := hd ⟨0, .data⟩ (by simp) rfl
                have h1 := hd ⟨1, .data⟩ (by simp) rfl
                have h5 := hd ⟨5, .data⟩ (by simp) rfl
                have h6 := hd ⟨6, .data⟩ (by simp) rfl
                have h7 := hd ⟨7, .data⟩ (by simp) rfl
                have h8 := hd ⟨8, .data⟩ (by simp) rfl
                have h9 := hd ⟨9, .data⟩ (by simp) rfl
                have h10 := hd ⟨10, .data⟩ (by simp) rfl
                have h16 := hd ⟨16, .data⟩ (by simp) rfl
                have h20 := hd ⟨20, .data⟩ (by simp) rfl
                have h25 := hd ⟨25, .data⟩ (by simp) rfl
                have h26 := hd ⟨26, .data⟩ (by simp) rfl
                obtain ⟨a01, a02, a03, a04, a05, v0⟩ := Tr.agg h0
                rw [v0] at h0
                obtain ⟨a11, a12, a13, a14, a15, v1⟩ := Tr.agg h1
                rw [v1] at h1
                obtain ⟨a51, a52, a53, a54, a55, v5⟩ := Tr.agg h5
                rw [v5] at h5
                obtain ⟨a61, a62, a63, a64, a65, v6⟩ := Tr.agg h6
                rw [v6] at h6
                obtain ⟨a71, a72, a73, a74, a75, v7⟩ := Tr.agg h7
                rw [v7] at h7
                obtain ⟨a81, a82, a83, a84, a85, v8⟩ := Tr.agg h8
                rw [v8] at h8
                obtain ⟨a91, a92, a93, a94, a95, v9⟩ := Tr.agg h9
                rw [v9] at h9
                obtain ⟨a101, a102, a103, a104, a105, v10⟩ := Tr.agg h10
                rw [v10] at h10
                obtain ⟨a161, a162, a163, a164, a165, v16⟩ := Tr.agg h16
                rw [v16] at h16
                obtain ⟨a201, a202, a203, a204, a205, v20⟩ := Tr.agg h20
                rw [v20] at h20
                obtain ⟨a251, a252, a253, a254, a255, v25⟩ := Tr.agg h25
                rw [v25] at h25
                obtain ⟨a261, a262, a263, a264, a265, v26⟩ := Tr.agg h26
                rw [v26] at h26
                exact no_sl12 88 89 93 94 95 96 97 98 104 108 113 114 rfl ((hU 0 (by decide)).trans v0) ((hU 1 (by decide)).trans v1) ((hU 5 (by decide)).trans v5) ((hU 6 (by decide)).trans v6) ((hU 7 (by decide)).trans v7) ((hU 8 (by decide)).trans v8) ((hU 9 (by decide)).trans v9) ((hU 10 (by decide)).trans v10) ((hU 16 (by decide)).trans v16) ((hU 20 (by decide)).trans v20) ((hU 25 (by decide)).trans v25) ((hU 26 (by decide)).trans v26) (hK _ _ (b_alloc _ _) (Bad12.new h0 h1 h5 h6 h7 h8 h9 h10 h16 h20 h25 h26))
              · have ho' := Option.some.inj (ho : some _ = some o)
                subst ho'
                have h27 := hd ⟨27, .data⟩ (by simp) rfl
                obtain ⟨p1, hv, _, _⟩ := h27
                exact no_len 115 rfl ((hU 27 (by decide)).trans hv) (hK _ _ (Below.refl _ _) rfl)
              · have ho' := Option.some.inj (ho : some _ = some o)
                subst ho'
                exact no_move 0 rfl (hK _ _ (Below.refl _ _) rfl)
            · intro us wq hu hb hS
              obtain ⟨x0, x1, x2, x3, x4, x5, x6, x7, x8, x9, x10, x11, x12, x13, x14, x15, x16, x17, x18, x19, x20, x21, x22, x23, x24, x25, x26, x27, x28, x29, rfl⟩ := thirty us hu
              have h27 : Bad12 x27 wq := hS 27 (by decide)
              have h28 : x28 = .int .i64 12 := hS 28 (by decide)
              have h29 : x29 = .int .i64 0 := hS 29 (by decide)
              subst h28
              subst h29
              obtain ⟨gb, rfl, hgb, hrows⟩ := h27
              have HB := Lib.hid hb
              have HGB := Lib.hid hgb
              have HROWS := Lib.hid hrows
              clear hS hu hb hgb hrows HDX HLW
              simp only [fr, List.take_succ_cons, List.take_zero, List.drop_succ_cons, List.drop_zero, List.cons_append, List.nil_append, List.size_toArray, List.length_cons, List.length_nil]
              have hmk8 : ∀ W : World, (Instr.makeSlice 25 (.int .i64 8) (.int .i64 8)).run Try.prog W = .ok (.slice (some ⟨W.heap.size, 0, none⟩) 8 8) (W.alloc (.cells #[.int .i64 0, .int .i64 0, .int .i64 0, .int .i64 0, .int .i64 0, .int .i64 0, .int .i64 0, .int .i64 0] 2)) := fun W => by kernel_rfl
              have hmk6 : ∀ W : World, (Instr.makeSlice 25 (.int .i64 6) (.int .i64 6)).run Try.prog W = .ok (.slice (some ⟨W.heap.size, 0, none⟩) 6 6) (W.alloc (.cells #[.int .i64 0, .int .i64 0, .int .i64 0, .int .i64 0, .int .i64 0, .int .i64 0] 2)) := fun W => by kernel_rfl
              go_wp2_with fail
              go_loopw [117] (fun i wr => ∃ k : Nat, k ≤ 12 ∧ i = .int .i64 k ∧ Below wq.heap.size wq wr) (fun i _ => 12 - (intOf i).toNat)
              case atStart => exact ⟨0, by omega, rfl, Below.refl _ _⟩
              case round =>
                obtain ⟨k, hk, rfl, hb⟩ := hrel
                by_cases hlt : k < 12
                · obtain ⟨o, n, A, l, c, e, q0, q1, q2, hA, hv⟩ := HROWS.out k hlt
                  have g0 := (hb.cell (p := ⟨gb, k * 3, none⟩) HGB.out).trans q0
                  have g1 := (hb.cell (p := ⟨gb, k * 3 + 1, none⟩) HGB.out).trans q1
                  have g2 := (hb.cell (p := ⟨gb, k * 3 + 2, none⟩) HGB.out).trans q2
                  have bx := b_alloc wr (.cells #[.int .u8 o, .int .i64 n, .slice A l c] 24)
                  have tx := Boxed.new wr (.int .u8 o) (.int .i64 n) (.slice A l c)
                  have hbx := hb.trans (bx.mono hb.size)
                  have hAx := (hA.below hbx (Nat.le_refl _)).wide (Nat.le_refl _) hbx.size 7
                  have hzx : wr.heap.size < (wr.alloc (.cells #[.int .u8 o, .int .i64 n, .slice A l c] 24)).heap.size := by simp
                  obtain ⟨Wx, hWx⟩ : ∃ Wx, Wx = wr.alloc (.cells #[.int .u8 o, .int .i64 n, .slice A l c] 24) := ⟨_, rfl⟩
                  rw [← hWx] at tx hbx hAx hzx
                  have i1 : (0 : Int) ≤ (k : Int) := by omega
                  have i2 : (k : Int) < 12 := by omega
                  clear bx q0 q1 q2 hA
                  go_upto_region 19 with fail
                  rw [← hWx]
                  clear hWx g0 g1 g2
                  have HEV : Hid (∀ (sx sy : Value) (W' : World), Below Wx.heap.size Wx W' → Calls Try.prog 12 #[.agg #[.int .u8 o, .int .i64 n, .slice A l c], sx, sy] W' fun r w' => r = .returned (.tuple #[.int .i64 0, .int .i64 4]) ∧ Below W'.heap.size W' w') := fun sx sy W' h' =>
                    eval_no sx sy 7 e _ 0 Wx.heap.size W' (hAx.below h' (Nat.le_refl _)) h'.size hv
                  have HWH : Hid (∀ (W' : World), Below Wx.heap.size Wx W' → Calls Try.prog 15 #[.agg #[.int .u8 o, .int .i64 n, .slice A l c]] W' fun r w' => r = .returned (.bool false) ∧ Below W'.heap.size W' w') := fun W' h' => by
                    have := Whole_any 7 e _ 0 Wx.heap.size W' (hAx.below h' (Nat.le_refl _)) h'.size
                    rw [hv] at this
                    exact this
                  have HMY : Hid (∀ (W' : World), Below Wx.heap.size Wx W' → Calls Try.prog 17 #[.agg #[.int .u8 o, .int .i64 n, .slice A l c], .int .i64 9] W' fun r w' => r = .returned (.bool false) ∧ Below W'.heap.size W' w') := fun W' h' => by
                    have := may_any 7 e _ 0 Wx.heap.size 9 (by decide) (by decide) W' (hAx.below h' (Nat.le_refl _)) h'.size
                    rw [hv] at this
                    exact this
                  have f0 := tx.c0
                  have f1 := tx.c1
                  have f2 := tx.c2
                  have HTX := Lib.hid tx
                  have HBX := Lib.hid hbx
                  clear tx hbx hAx hv
                  refine region_cut (fun a a' w' => (∃ v8 v6 : Value, a' = ((((((((a.put (some 122) (.agg #[.int .u8 o, .int .i64 n, .slice A l c])).put (some 123) v8).put (some 124) v6).put (some 125) (.tuple #[.int .i64 0, .int .i64 4])).put (some 121) (.tuple #[.int .i64 0, .int .i64 4])).put (some 126) (.int .i64 0)).put (some 127) (.int .i64 4)).put (some 12) (.int .i64 0)).put (some 13) (.int .i64 4)) ∧ Below Wx.heap.size Wx w') ?_ ?_
                  · go_region_held3 (fun w' => w'.cell? ⟨wr.heap.size, 0, none⟩ = some (.int .u8 o) ∧ w'.cell? ⟨wr.heap.size, 1, none⟩ = some (.int .i64 n) ∧ w'.cell? ⟨wr.heap.size, 2, none⟩ = some (.slice A l c) ∧ Below Wx.heap.size Wx w')
                      (first | exact sB hzx (by assumption) b13 | exact sB hzx (by assumption) (b_alloc _ _) | exact sB hzx ⟨f0, f1, f2, Below.refl _ _⟩ (b_drew _) | exact sB hzx ⟨f0, f1, f2, Below.refl _ _⟩ ((b_al (Nat.le_refl _)).trans ((b_drew _).mono (by simp))) | exact sB hzx ⟨f0, f1, f2, Below.refl _ _⟩ ((b_aa (Nat.le_refl _)).trans ((b_drew _).mono (by simp; omega))) | fail)
                      (first | (go_at_call 12; have hS := sBb (by assumption); refine (HEV.out _ _ _ hS).mono ?_; rintro r w13 ⟨rfl, b13⟩) | fail)
                    all_goals exact ⟨rfl, ⟨_, _, rfl⟩, hS.trans (b13.mono hS.size)⟩
                  · rintro a' w13 ⟨⟨v8, v6, rfl⟩, b13⟩
                    simp only [Act.put, List.setIfInBounds_toArray, List.set_cons_zero, List.set_cons_succ]
                    have tx := HTX.out.below b13 hzx
                    clear f0 f1 f2
                    have f0 := tx.c0
                    have f1 := tx.c1
                    have f2 := tx.c2
                    clear tx
                    go_wp2_with fail
                    refine (HWH.out w13 b13).mono ?_
                    rintro r w14 ⟨rfl, b14⟩
                    have b15 := b13.trans (b14.mono b13.size)
                    have tx := HTX.out.below b15 hzx
                    clear f0 f1 f2 b13 b14
                    have f0 := tx.c0
                    have f1 := tx.c1
                    have f2 := tx.c2
                    clear tx
                    go_wp2_with fail
                    refine (HMY.out w14 b15).mono ?_
                    rintro r w15 ⟨rfl, b16⟩
                    have b17 := b15.trans (b16.mono b15.size)
                    clear f0 f1 f2 b15 b16
                    go_wp2_with fail
                    go_roundw
                    case rel =>
                      refine ⟨_, _, _, _, _, _, _, _, _, _, _, _, _, _, _, _, _, _, _, _, _, _, _, _, _, _, ⟨k + 1, by omega, ?_, HBX.out.trans (b17.mono HBX.out.size)⟩, rfl⟩
                      go_num
                    case measure => simp [intOf]; omega
                · have c0 : Below w'.heap.size w' wr := HB.out.trans (hb.mono HB.out.size)
                  have hmk7 : ∀ W : World, (Instr.makeSlice 25 (.int .i64 7) (.int .i64 7)).run Try.prog W = .ok (.slice (some ⟨W.heap.size, 0, none⟩) 7 7) (W.alloc (.cells #[.int .i64 0, .int .i64 0, .int .i64 0, .int .i64 0, .int .i64 0, .int .i64 0, .int .i64 0] 2)) := fun W => by kernel_rfl
                  have hmk5 : ∀ W : World, (Instr.makeSlice 25 (.int .i64 5) (.int .i64 5)).run Try.prog W = .ok (.slice (some ⟨W.heap.size, 0, none⟩) 5 5) (W.alloc (.cells #[.int .i64 0, .int .i64 0, .int .i64 0, .int .i64 0, .int .i64 0] 2)) := fun W => by kernel_rfl
                  have HE7 : Hid (Calls Try.prog 12 #[.agg #[.int .u8 2, .int .i64 7, .slice none 0 0], .slice (some ⟨wr.heap.size, 0, none⟩) 7 7, .slice none 0 0] (wr.alloc (.cells #[.int .i64 0, .int .i64 0, .int .i64 0, .int .i64 0, .int .i64 0, .int .i64 0, .int .i64 0] 2)) fun r w' => r = .returned (.tuple #[.int .i64 0, .int .i64 5]) ∧ Below (wr.alloc (.cells #[.int .i64 0, .int .i64 0, .int .i64 0, .int .i64 0, .int .i64 0, .int .i64 0, .int .i64 0] 2)).heap.size (wr.alloc (.cells #[.int .i64 0, .int .i64 0, .int .i64 0, .int .i64 0, .int .i64 0, .int .i64 0, .int .i64 0] 2)) w') :=
                    eval_any (some ⟨wr.heap.size, 0, none⟩) none 7 0 (wr.heap.size + 1) 0 [0, 0, 0, 0, 0, 0, 0] [] 1 (.node 2 7 []) _ 0 0 _ (At.leaf _ 0 0 2 7 (by decide) (by decide) (by decide)) (Nat.zero_le _) (ints_row (xs := [0, 0, 0, 0, 0, 0, 0]) (heap_alloc_new wr _) (by omega) (by decide)) (by simp) (Ints.none_ _ _) (Nat.zero_le _)
                  have HE5 : Hid (∀ wr : World, Calls Try.prog 12 #[.agg #[.int .u8 3, .int .i64 5, .slice none 0 0], .slice none 0 0, .slice (some ⟨wr.heap.size, 0, none⟩) 5 5] (wr.alloc (.cells #[.int .i64 0, .int .i64 0, .int .i64 0, .int .i64 0, .int .i64 0] 2)) fun r w' => r = .returned (.tuple #[.int .i64 0, .int .i64 5]) ∧ Below (wr.alloc (.cells #[.int .i64 0, .int .i64 0, .int .i64 0, .int .i64 0, .int .i64 0] 2)).heap.size (wr.alloc (.cells #[.int .i64 0, .int .i64 0, .int .i64 0, .int .i64 0, .int .i64 0] 2)) w') := fun wr =>
                    eval_any none (some ⟨wr.heap.size, 0, none⟩) 0 5 0 (wr.heap.size + 1) [] [0, 0, 0, 0, 0] 1 (.node 3 5 []) _ 0 0 _ (At.leaf _ 0 0 3 5 (by decide) (by decide) (by decide)) (Nat.zero_le _) (Ints.none_ _ _) (Nat.zero_le _) (ints_row (xs := [0, 0, 0, 0, 0]) (heap_alloc_new wr _) (by omega) (by decide)) (by simp)
                  have HE6 : Hid (∀ wb : World, Below w'.heap.size w' wb → Calls Try.prog 12 #[.agg #[.int .u8 o', .int .i64 n', .slice A' l' c'], .slice none 0 0, .slice none 0 0] wb fun r w' => r = .returned (.tuple #[.int .i64 6, .int .i64 0]) ∧ Below wb.heap.size wb w') := fun wb hwb => by
                    have := eval_any none none 0 0 0 0 [] [] 6 (deepT 6) _ (w10.heap.size + 1) w'.heap.size wb (HDEEP.out.below hwb (Nat.le_refl _)) hwb.size (Ints.none_ _ _) (Nat.zero_le _) (Ints.none_ _ _) (Nat.zero_le _)
                    rw [show evalF (deepT 6) [] [] = (6, 0) by kernel_rfl] at this
                    exact this
                  have HV1 : Hid (∀ w : World, Calls Try.prog 24 #[.int .i64 5, .int .i64 0] w fun r w' => r = .returned (.tuple #[.int .i64 0, .int .i64 1]) ∧ w = w') := fun w => variable_any 5 0 (by decide) (by decide) (by decide) (by decide) w
                  have HV2 : Hid (∀ w : World, Calls Try.prog 24 #[.int .i64 5, .int .i64 (-1)] w fun r w' => r = .returned (.tuple #[.int .i64 0, .int .i64 1]) ∧ w = w') := fun w => variable_any 5 (-1) (by decide) (by decide) (by decide) (by decide) w
                  have HV3 : Hid (∀ w : World, Calls Try.prog 24 #[.int .i64 (-9223372036854775808), .int .i64 32] w fun r w' => r = .returned (.tuple #[.int .i64 0, .int .i64 0]) ∧ w = w') := fun w => variable_any (-9223372036854775808) 32 (by decide) (by decide) (by decide) (by decide) w
                  have HY1 : Hid (∀ w : World, Calls Try.prog 17 #[.agg #[.int .u8 3, .int .i64 5, .slice none 0 0], .int .i64 6] w fun r w' => r = .returned (.bool true) ∧ Below w.heap.size w w') := fun w => may_any 1 (.node 3 5 []) _ 0 0 6 (by decide) (by decide) w (At.leaf w 0 0 3 5 (by decide) (by decide) (by decide)) (Nat.zero_le _)
                  have HY2 : Hid (∀ w : World, Calls Try.prog 17 #[.agg #[.int .u8 3, .int .i64 5, .slice none 0 0], .int .i64 5] w fun r w' => r = .returned (.bool false) ∧ Below w.heap.size w w') := fun w => may_any 1 (.node 3 5 []) _ 0 0 5 (by decide) (by decide) w (At.leaf w 0 0 3 5 (by decide) (by decide) (by decide)) (Nat.zero_le _)
                  have HY3 : Hid (∀ w : World, Calls Try.prog 17 #[.agg #[.int .u8 3, .int .i64 0, .slice none 0 0], .int .i64 (-1)] w fun r w' => r = .returned (.bool false) ∧ Below w.heap.size w w') := fun w => may_any 1 (.node 3 0 []) _ 0 0 (-1) (by decide) (by decide) w (At.leaf w 0 0 3 0 (by decide) (by decide) (by decide)) (Nat.zero_le _)
                  have hz10 : w10.heap.size < w'.heap.size := lt_of_block HRD.out
                  clear hmk8 hmk6 hb
                  go_wp2_with fail
                  refine HE7.out.mono ?_
                  rintro r wa ⟨rfl, ba⟩
                  have c1 : Below w'.heap.size w' wa := c0.trans (((b_alloc wr _).trans (ba.mono (b_alloc wr _).size)).mono c0.size)
                  go_wp2_with fail
                  refine (HE5.out wa).mono ?_
                  rintro r wb ⟨rfl, bb⟩
                  have c2 : Below w'.heap.size w' wb := c1.trans (((b_alloc wa _).trans (bb.mono (b_alloc wa _).size)).mono c1.size)
                  have hrd := (c2.block _ hz10).trans HRD.out
                  have f0 : wb.cell? ⟨w10.heap.size, 0, none⟩ = some (.int .u8 o') := cell_of_row wb _ 0 _ _ (0, 0) hrd
                  have f1 : wb.cell? ⟨w10.heap.size, 1, none⟩ = some (.int .i64 n') := cell_of_row wb _ 1 _ _ (0, 0) hrd
                  have f2 : wb.cell? ⟨w10.heap.size, 2, none⟩ = some (.slice A' l' c') := cell_of_row wb _ 2 _ _ (0, 0) hrd
                  clear hrd
                  go_wp2_with fail
                  refine (HE6.out wb c2).mono ?_
                  rintro r wc ⟨rfl, bc⟩
                  have c3 := c2.trans (bc.mono c2.size)
                  clear f0 f1 f2
                  go_wp2_with fail
                  refine (HV1.out wc).mono ?_
                  rintro r wd ⟨rfl, rfl⟩
                  go_wp2_with fail
                  refine (HV2.out wc).mono ?_
                  rintro r wd ⟨rfl, rfl⟩
                  go_wp2_with fail
                  refine (HV3.out wc).mono ?_
                  rintro r wd ⟨rfl, rfl⟩
                  go_wp2_with fail
                  refine (HY1.out wc).mono ?_
                  rintro r wd ⟨rfl, bd⟩
                  have c4 := c3.trans (bd.mono c3.size)
                  go_wp2_with fail
                  refine (HY2.out wd).mono ?_
                  rintro r we ⟨rfl, be⟩
                  have c5 := c4.trans (be.mono c4.size)
                  go_wp2_with fail
                  refine (HY3.out we).mono ?_
                  rintro r wf ⟨rfl, bf⟩
                  have c6 := c5.trans (bf.mono c5.size)
                  go_wp2_with fail
                  refine (awake_any wf).mono ?_
                  rintro r wg ⟨rfl, bg⟩
                  have c7 := c6.trans (bg.mono c6.size)
                  go_wp2_with fail
                  go_ret
                  exact ⟨rfl, HBL.out.trans ((HD6.out.trans (c7.mono HD6.out.size)).mono HBL.out.size)⟩

set_option maxRecDepth 100000 in
theorem ExprNames_lifted (os : Os) (started : os.Started) (H : Type) (enc : TypeId × Value → H) :
    ReturnsInHanded {} Try.checked os 5 .any (Rows.exprNamesSpec.pre6 enc Try.prog Try.f5 Rows.exprNamesRow.domain false) (Rows.exprNamesSpec.post enc Try.prog Try.f5 false true false false) := by
  refine returnsInHanded_of_change (C := Try.checked) lift_own started (by kernel_rfl) Try.func5
    (ChangeSpec.witness6 (enc := enc) (C := Try.checked) false ⟨#[], #[], []⟩ 8 (by kernel_rfl) (by kernel_rfl) (by kernel_rfl) (by kernel_rfl)) ?_
  intro W base args ds gs before hval0 hW hcnd _
  have hval : ∀ (j : Nat) t v, Try.f5.params[j]? = some t → args[j]? = some v → Value.okWide Try.prog W .any base t v := hval0
  have hW' := hW
  obtain ⟨p, q, hA0, hV, rfl, hfz, hnd⟩ := hW
  have hA : DataW.TrodAll enc Try.prog W 0 (fun _ => true) true Try.f5.params.toList args.toList ds p := hA0
  rw [Try.params5] at hA hval
  obtain ⟨hargs, rfl, rfl⟩ := trodAll_nil hA
  obtain rfl : args = #[] := by cases args; simp_all
  obtain ⟨rfl, rfl⟩ := trodVars_none hV
  clear hA0 hval0
  simp only [List.append_nil] at hW'
  refine (ExprNames_walk  W).mono fun e W' ⟨he, hg⟩ => ?_
  subst he
  exact ⟨_, rfl, lift_post (pa := []) (pv := []) hW' (fun _ _ _ => (trodAll_cons_mk (shut_bool Try.underlying4 _) trodAll_mk0)) (fun sp _ => trodAll_mk0) (fun _ _ => rfl) rfl
    hg (ok_one (by kernel_rfl) rfl (okWide_bool_mk Try.underlying4 _))⟩

/-- THE STATEMENT of ExprNames: for every input the call returns true, and each argument reads behind it as before. -/
theorem ExprNames_holds : Rows.ExprNamesSaid :=
  OpenClaim.holds_of_wide 5 Try.f5 rfl rfl rfl rfl rfl rfl rfl ⟨rfl, rfl, rfl, rfl, rfl⟩ rfl rfl rfl rfl rfl (by kernel_rfl) Try.func5 (by kernel_rfl)
    (of_decide_eq_true (by kernel_rfl)) (by unfold Func.isWrapper; first | (rw [if_pos (by decide +kernel)]; kernel_rfl) | (rw [if_neg (by decide +kernel)]; exact ⟨rfl, rfl⟩))
    (fun os started H enc _ => ExprNames_lifted os started H enc)
end Go.Proofs.Ytlalknapmnadpaa
