/-
  CONTRACTS OF ExprNames' OWN FUNCTIONS: lit and two (trees of one part, and of an operator over two numbers). Conditions: as they stand.
-/
import Derived.Test.YtlalknapmnadpaaEk
import Derived.Test.YtlalknapmnadpaaDp
import Derived.Deep.RegionHeld3
namespace Go.Proofs.Ytlalknapmnadpaa
open Go.RowKit
set_option linter.unusedVariables false
theorem b_alloc (w : World) (o : Obj) : Below w.heap.size w (w.alloc o) := (Below.refl _ _).alloc (Nat.le_refl _) _
theorem b_drew (w : World) : Below w.heap.size w w.drew := (Below.refl _ _).drew
set_option maxRecDepth 100000 in
theorem lit_any (n : Int) (w : World) : Calls Try.prog 26 #[.int .i64 n] w fun r w' => r = .returned (.agg #[.int .u8 1, .int .i64 n, .slice none 0 0]) ∧ Below w.heap.size w w' := by
  go_enter Try.func26, Try.ntmps26
  go_wp2_with fail
  exact bodyPost_ret (v := .agg #[.int .u8 1, .int .i64 n, .slice none 0 0]) (by simp [results, Try.results26, go_sem]) rfl ⟨rfl, by go_grown⟩
/-- The value of lit. -/
def litV : Value := .func (.func 26) #[] #[]
theorem sL {B : Nat} {W wp w' : World} {g : Nat} {x : Value} (hg : g < B) (h : wp.cell? ⟨g, 0, none⟩ = some x ∧ Below B W wp) (b : Below B wp w') : w'.cell? ⟨g, 0, none⟩ = some x ∧ Below B W w' :=
  ⟨(b.cell (p := ⟨g, 0, none⟩) (by show g < _; omega)).trans h.1, h.2.trans b⟩
/-- A struct's block, cell by cell, as it is written anew. -/
theorem st3 {w : World} {g : Nat} {x y z : Value} {T : TypeId} (h : w.heap[g]? = some (.cells #[x, y, z] T (0, 0))) :
    w.cell? ⟨g, 0, none⟩ = some x ∧ (∀ u, (w.setCell ⟨g, 0, none⟩ u).cell? ⟨g, 1, none⟩ = some y) ∧ (∀ u v, ((w.setCell ⟨g, 0, none⟩ u).setCell ⟨g, 1, none⟩ v).cell? ⟨g, 2, none⟩ = some z) ∧
    w.frozen? ⟨g, 0, none⟩ = false ∧ (∀ u, (w.setCell ⟨g, 0, none⟩ u).frozen? ⟨g, 1, none⟩ = false) ∧ (∀ u v, ((w.setCell ⟨g, 0, none⟩ u).setCell ⟨g, 1, none⟩ v).frozen? ⟨g, 2, none⟩ = false) := by
  have r1 := fun u => heap_set_same w g 0 u _ _ h
  have r2 := fun u v => heap_set_same _ g 1 v _ _ (r1 u)
  refine ⟨cell_of_row w _ 0 _ _ (0, 0) h, fun u => cell_of_row _ _ 1 _ _ (0, 0) (r1 u), fun u v => cell_of_row _ _ 2 _ _ (0, 0) (r2 u v), by simp [World.frozen?, h], fun u => by simp [World.frozen?, r1], fun u v => by simp [World.frozen?, r2]⟩
theorem b_st3a {B g : Nat} {w2 : World} {x y z : Value} {o : Obj} (hB : B ≤ g) (hs : B ≤ w2.heap.size) : Below B w2 ((((w2.setCell ⟨g, 0, none⟩ x).setCell ⟨g, 1, none⟩ y).setCell ⟨g, 2, none⟩ z).alloc o) :=
  ((((Below.refl _ _).setCell hB _).setCell hB _).setCell hB _).alloc (by simpa using hs) _
/-- What two makes. -/
def Made2 (w : World) (op : Nat) (a b : Int) (r : Ending) (w' : World) : Prop := ∃ v, r = .returned v ∧ At w' w.heap.size w'.heap.size 2 v (.node op 0 [.node 1 a [], .node 1 b []]) ∧ Below w.heap.size w w'
set_option maxRecDepth 100000 in
theorem two_any (op : Nat) (a b : Int) (gl : Nat) (w : World) (hop : op < 256) (ha0 : -9223372036854775808 ≤ a) (ha1 : a < 9223372036854775808) (hb0 : -9223372036854775808 ≤ b) (hb1 : b < 9223372036854775808) (hl : w.cell? ⟨gl, 0, none⟩ = some (.func (.func 26) #[] #[])) (hgl : gl < w.heap.size) :
    Calls Try.prog 27 #[.int .u8 op, .int .i64 a, .int .i64 b, .pointer (some ⟨gl, 0, none⟩)] w (Made2 w op a b) := by
  have bw := b_alloc w (.cells #[.int .u8 0, .int .i64 0, .slice none 0 0] 24)
  have hr := heap_alloc_new w (.cells #[.int .u8 0, .int .i64 0, .slice none 0 0] 24)
  have hz : (w.alloc (.cells #[.int .u8 0, .int .i64 0, .slice none 0 0] 24)).heap.size = w.heap.size + 1 := by simp
  go_enter Try.func27, Try.ntmps27
  go_wp2_with fail
  obtain ⟨W, hW⟩ : ∃ W, W = w.alloc (.cells #[.int .u8 0, .int .i64 0, .slice none 0 0] 24) := ⟨_, rfl⟩
  rw [← hW] at bw hr hz ⊢
  clear hW
  have f0 := (bw.cell (p := ⟨gl, 0, none⟩) hgl).trans hl
  have hrr : W.heap[w.heap.size]? = some (.cells #[.int .u8 0, .int .i64 0, .slice none 0 0] 24 (0, 0)) := hr
  go_region_held3 (fun w' => w'.cell? ⟨gl, 0, none⟩ = some (.func (.func 26) #[] #[]) ∧ Below w.heap.size w w')
    (first | exact sL hgl hS2 (b_st3a (Nat.le_refl _) e2s) | exact sL hgl (by assumption) ((b_alloc w2 _).mono e2s) | exact sL hgl (by assumption) (b2.mono e1s) | exact sL hgl ⟨f0, bw⟩ ((b_drew W).mono bw.size |>.trans (b1.mono bw.size)) | exact sL hgl ⟨f0, bw⟩ ((b_drew _).mono bw.size) | fail)
    (first
      | (go_at_call 26; have e1s : w.heap.size ≤ w1.heap.size := (by have := b1.size; have := bw.size; simp at *; omega); refine (lit_any b _).mono ?_; rintro r w2 ⟨rfl, b2⟩; have e2 : Below W.heap.size W w2 := (((b_drew W).trans b1).trans (b2.mono b1.size)); have e2s : w.heap.size ≤ w2.heap.size := Nat.le_trans bw.size e2.size; have hS2 := sL hgl ⟨f0, bw⟩ (e2.mono bw.size); have hb := (e2.block w.heap.size (by omega)).trans hrr; have c0 : w2.cell? ⟨w.heap.size, 0, none⟩ = some (.int .u8 0) := cell_of_row w2 _ 0 _ _ (0, 0) hb; have c1 : w2.cell? ⟨w.heap.size, 1, none⟩ = some (.int .i64 0) := cell_of_row w2 _ 1 _ _ (0, 0) hb; have c2 : w2.cell? ⟨w.heap.size, 2, none⟩ = some (.slice none 0 0) := cell_of_row w2 _ 2 _ _ (0, 0) hb; have hl2 : w.heap.size < w2.heap.size := lt_of_block hb; have q0 : w2.frozen? ⟨w.heap.size, 0, none⟩ = false := row_free hb; have q1 : w2.frozen? ⟨w.heap.size, 1, none⟩ = false := row_free hb; have q2 : w2.frozen? ⟨w.heap.size, 2, none⟩ = false := row_free hb)
      | (go_at_call 26; refine (lit_any a _).mono ?_; rintro r w1 ⟨rfl, b1⟩)
      | fail)
  have h12 : w.heap.size < w2.heap.size := lt_of_block hb
  have hT : Below w.heap.size w ((((w2.setCell ⟨w.heap.size, 0, none⟩ (.int .u8 op)).setCell ⟨w.heap.size, 1, none⟩ (.int .i64 0)).setCell ⟨w.heap.size, 2, none⟩ (.slice (some ⟨w2.heap.size, 0, none⟩) 2 2)).alloc (.cells #[.int .u8 1, .int .i64 a, .slice none 0 0, .int .u8 1, .int .i64 b, .slice none 0 0] 24)) :=
    hS2.2.trans (b_st3a (Nat.le_refl _) e2s)
  have hrow : ((((w2.setCell ⟨w.heap.size, 0, none⟩ (.int .u8 op)).setCell ⟨w.heap.size, 1, none⟩ (.int .i64 0)).setCell ⟨w.heap.size, 2, none⟩ (.slice (some ⟨w2.heap.size, 0, none⟩) 2 2)).alloc (.cells #[.int .u8 1, .int .i64 a, .slice none 0 0, .int .u8 1, .int .i64 b, .slice none 0 0] 24)).heap[w2.heap.size]? = some (.cells #[.int .u8 1, .int .i64 a, .slice none 0 0, .int .u8 1, .int .i64 b, .slice none 0 0] 24 (0, 0)) := by
    have := heap_alloc_new (((w2.setCell ⟨w.heap.size, 0, none⟩ (.int .u8 op)).setCell ⟨w.heap.size, 1, none⟩ (.int .i64 0)).setCell ⟨w.heap.size, 2, none⟩ (.slice (some ⟨w2.heap.size, 0, none⟩) 2 2)) (.cells #[.int .u8 1, .int .i64 a, .slice none 0 0, .int .u8 1, .int .i64 b, .slice none 0 0] 24)
    simpa using this
  have hA := At.pair (lo := w.heap.size) (hi := w2.heap.size + 1) (op := op) (c := 2) hrow (by omega) (by omega) hop (At.leaf _ w.heap.size (w2.heap.size + 1) 1 a (by decide) ha0 ha1) (At.leaf _ w.heap.size (w2.heap.size + 1) 1 b (by decide) hb0 hb1)
  have HA := Lib.hid hA
  have HT := Lib.hid hT
  clear hA hT hrow hb hr hrr f0 hl hS2
  go_wp2_with fail
  exact bodyPost_ret (v := .agg #[.int .u8 op, .int .i64 0, .slice (some ⟨w2.heap.size, 0, none⟩) 2 2]) (by simp [results, Try.results27, go_sem, c0, c1, c2, h12]) rfl ⟨_, rfl, by simpa using HA.out, HT.out⟩
end Go.Proofs.Ytlalknapmnadpaa
