/-
  ExprTells (P4.1): whether any expression is whole, may be, its Count, what it comes to, whether two are the same, and a copy, are the document's, or it is refused; it stays; in new memory: the statement holds for every input. Conditions: none beyond the statement's own.
-/
import Derived.Test.YtlalknapmnadpaaEo
import Derived.Test.YtlalknapmnadpaaEl
import Derived.Test.YtlalknapmnadpaaEc
import Derived.Test.YtlalknapmnadpaaEp
import Derived.Test.YtlalknapmnadpaaEk
import Derived.Test.YtlalknapmnadpaaDs
import Derived.Test.YtlalknapmnadpaaDp
import Derived.Test.YtlalknapmnadpaaLift
import Derived.Carry
namespace Go.Proofs.Ytlalknapmnadpaa
open Go.ChangeShapes Go.WideShapes Go.ChangeAt Go.RowKit Go.ChangeMaps
set_option linter.unusedVariables false
theorem i64_of {n : Int} (h : (Lit.int .i64 n).wf = true) : -9223372036854775808 ≤ n ∧ n < 9223372036854775808 := by
  have : -9223372036854775808 ≤ n ∧ n ≤ 9223372036854775807 := by simpa [Lit.wf, IntKind.min, IntKind.max, IntKind.signed, IntKind.bits] using h
  omega
theorem b_alloc (w : World) (o : Obj) : Below w.heap.size w (w.alloc o) := (Below.refl _ _).alloc (Nat.le_refl _) _
/-- What the region of all calls keeps: the cells of three structs, and all that was there. -/
theorem sB9 {W wp w' : World} {g h k : Nat} {x y z x1 y1 z1 x2 y2 z2 : Value} (hg : g < W.heap.size) (hh : h < W.heap.size) (hk : k < W.heap.size)
    (s : wp.cell? ⟨g, 0, none⟩ = some x ∧ wp.cell? ⟨g, 1, none⟩ = some y ∧ wp.cell? ⟨g, 2, none⟩ = some z ∧ wp.cell? ⟨h, 0, none⟩ = some x1 ∧ wp.cell? ⟨h, 1, none⟩ = some y1 ∧ wp.cell? ⟨h, 2, none⟩ = some z1 ∧ wp.cell? ⟨k, 0, none⟩ = some x2 ∧ wp.cell? ⟨k, 1, none⟩ = some y2 ∧ wp.cell? ⟨k, 2, none⟩ = some z2 ∧ Below W.heap.size W wp) (b : Below wp.heap.size wp w') :
    w'.cell? ⟨g, 0, none⟩ = some x ∧ w'.cell? ⟨g, 1, none⟩ = some y ∧ w'.cell? ⟨g, 2, none⟩ = some z ∧ w'.cell? ⟨h, 0, none⟩ = some x1 ∧ w'.cell? ⟨h, 1, none⟩ = some y1 ∧ w'.cell? ⟨h, 2, none⟩ = some z1 ∧ w'.cell? ⟨k, 0, none⟩ = some x2 ∧ w'.cell? ⟨k, 1, none⟩ = some y2 ∧ w'.cell? ⟨k, 2, none⟩ = some z2 ∧ Below W.heap.size W w' := by
  obtain ⟨s0, s1, s2, s3, s4, s5, s6, s7, s8, hb⟩ := s
  have hz := hb.size
  exact ⟨(b.cell (p := ⟨g, 0, none⟩) (by show g < _; omega)).trans s0, (b.cell (p := ⟨g, 1, none⟩) (by show g < _; omega)).trans s1, (b.cell (p := ⟨g, 2, none⟩) (by show g < _; omega)).trans s2,
    (b.cell (p := ⟨h, 0, none⟩) (by show h < _; omega)).trans s3, (b.cell (p := ⟨h, 1, none⟩) (by show h < _; omega)).trans s4, (b.cell (p := ⟨h, 2, none⟩) (by show h < _; omega)).trans s5,
    (b.cell (p := ⟨k, 0, none⟩) (by show k < _; omega)).trans s6, (b.cell (p := ⟨k, 1, none⟩) (by show k < _; omega)).trans s7, (b.cell (p := ⟨k, 2, none⟩) (by show k < _; omega)).trans s8, hb.trans (b.mono hz)⟩
theorem sB9b {q0 q1 q2 q3 q4 q5 q6 q7 q8 : Prop} {W w' : World} (h : q0 ∧ q1 ∧ q2 ∧ q3 ∧ q4 ∧ q5 ∧ q6 ∧ q7 ∧ q8 ∧ Below W.heap.size W w') : Below W.heap.size W w' := h.2.2.2.2.2.2.2.2.2
theorem b_drew (w : World) : Below w.heap.size w w.drew := (Below.refl _ _).drew
/-- How things are when parts of the copy have been written to. -/
structure LI (B : Nat) (Wk : World) (g l : Nat) (A : Option Addr) (wr : World) : Prop where
  size : wr.heap.size = Wk.heap.size
  other : ∀ b, b ≠ g → wr.heap[b]? = Wk.heap[b]?
  low : Below B Wk wr
  row : l = 0 ∨ A = some ⟨g, 0, none⟩ ∧ ∃ xs, wr.heap[g]? = some (.cells xs 24 (0, 0)) ∧ xs.size = l * 3
theorem LI.cell {B : Nat} {Wk wr : World} {g l : Nat} {A : Option Addr} (h : LI B Wk g l A wr) (p : Addr) (hp : p.block ≠ g) : wr.cell? p = Wk.cell? p := World.cell?_of_block (h.other _ hp)
theorem LI.set {B : Nat} {Wk wr : World} {g l k : Nat} {A : Option Addr} (h : LI B Wk g l A wr) (hB : B ≤ g) (u : Value) : LI B Wk g l A (wr.setCell ⟨g, k, none⟩ u) := by
  refine ⟨by simp [h.size], fun b hb => by rw [heap_set_other _ _ _ _ _ hb]; exact h.other b hb, h.low.setCell (by show B ≤ g; exact hB) _, ?_⟩
  rcases h.row with h0 | ⟨h1, xs, h2, h3⟩
  · exact .inl h0
  · exact .inr ⟨h1, _, heap_set_same _ _ _ _ _ _ h2, by simp [h3]⟩
theorem Boxed.other {B : Nat} {Wk wr : World} {g l b : Nat} {A : Option Addr} {x y z : Value} (h : LI B Wk g l A wr) (hb : b ≠ g) (t : Boxed Wk b x y z) : Boxed wr b x y z :=
  ⟨(h.cell ⟨b, 0, none⟩ hb).trans t.c0, (h.cell ⟨b, 1, none⟩ hb).trans t.c1, (h.cell ⟨b, 2, none⟩ hb).trans t.c2⟩
/-- The world with both arguments' structs. -/
theorem two_boxes (w : World) (o n a o2 n2 a2 : Value) :
    Below w.heap.size w ((w.alloc (.cells #[o, n, a] 24)).alloc (.cells #[o2, n2, a2] 24)) ∧ ((w.alloc (.cells #[o, n, a] 24)).alloc (.cells #[o2, n2, a2] 24)).heap.size = w.heap.size + 2 ∧
    Boxed ((w.alloc (.cells #[o, n, a] 24)).alloc (.cells #[o2, n2, a2] 24)) w.heap.size o n a ∧ Boxed ((w.alloc (.cells #[o, n, a] 24)).alloc (.cells #[o2, n2, a2] 24)) (w.heap.size + 1) o2 n2 a2 := by
  refine ⟨by go_grown, by simp, (Boxed.new w _ _ _).below (B := w.heap.size + 1) ((Below.refl _ _).alloc (by simp) _) (by omega), ?_⟩
  have := Boxed.new (w.alloc (.cells #[o, n, a] 24)) o2 n2 a2
  rw [show (w.alloc (.cells #[o, n, a] 24)).heap.size = w.heap.size + 1 by simp] at this
  exact this

set_option maxRecDepth 100000 in
theorem tells_large (d1 d2 : Nat) (e1 e2 : Ex) (v1 v2 : Value) (n : Int) (A B : Option Addr) (c c' : Nat) (L M : List Int) (w : World) (h1 : At w 0 w.heap.size d1 v1 e1) (h2 : At w 0 w.heap.size d2 v2 e2) (hL : L.length ≤ 9223372036854775807) (hM : M.length ≤ 9223372036854775807)
    (hl : (muchF d1 e1 0).isNone = true ∨ (muchF d2 e2 0).isNone = true ∨ 100 < L.length ∨ 100 < M.length) :
    Calls Try.prog 3 #[v1, v2, .int .i64 n, .slice A L.length c, .slice B M.length c'] w fun e w' => e = .returned (.bool true) ∧ Below w.heap.size w w' := by
  obtain ⟨x, y, z, rfl⟩ := h1.boxed
  obtain ⟨x', y', z', rfl⟩ := h2.boxed
  obtain ⟨o1, n1, A1, l1, c1, rfl, rfl, rfl⟩ := h1.form
  obtain ⟨o2, n2, A2, l2, c2, rfl, rfl, rfl⟩ := h2.form
  obtain ⟨b0, z0, t1, t2⟩ := two_boxes w (.int .u8 o1) (.int .i64 n1) (.slice A1 l1 c1) (.int .u8 o2) (.int .i64 n2) (.slice A2 l2 c2)
  have HL1 := Lib.hid (large_any d1 e1 _ 0 w.heap.size _ (h1.below b0 (Nat.le_refl _)) b0.size)
  have hA2 := h2.below b0 (Nat.le_refl _)
  obtain ⟨W, hW⟩ : ∃ W, W = (w.alloc (.cells #[.int .u8 o1, .int .i64 n1, .slice A1 l1 c1] 24)).alloc (.cells #[.int .u8 o2, .int .i64 n2, .slice A2 l2 c2] 24) := ⟨_, rfl⟩
  rw [← hW] at b0 z0 t1 t2 HL1 hA2
  have HL2 : Hid (∀ W', Below W.heap.size W W' → Calls Try.prog 10 #[.agg #[.int .u8 o2, .int .i64 n2, .slice A2 l2 c2]] W' fun r w' => r = .returned (.bool (muchF d2 e2 0).isNone) ∧ Below W'.heap.size W' w') := fun W' hW' =>
    large_any d2 e2 _ 0 w.heap.size W' (hA2.below hW' (by omega)) (by have := hW'.size; omega)
  have HB0 := Lib.hid b0
  have HZ0 := Lib.hid z0
  have HT2 := Lib.hid t2
  obtain ⟨p1, hp1⟩ : ∃ p, p = (muchF d1 e1 0).isNone := ⟨_, rfl⟩
  obtain ⟨p2, hp2⟩ : ∃ p, p = (muchF d2 e2 0).isNone := ⟨_, rfl⟩
  rw [← hp1] at HL1 hl
  rw [← hp2] at HL2 hl
  have f0 := t1.c0
  have f1 := t1.c1
  have f2 := t1.c2
  clear hp1 hp2 h1 h2 hA2 b0 z0 t1 t2
  go_enter Try.func3, Try.ntmps3
  go_upto_region 1 with fail
  rw [← hW]
  clear hW
  go_wp2_with fail
  refine HL1.out.mono ?_
  rintro r w1 ⟨rfl, b1⟩
  clear f0 f1 f2
  cases p1 with
  | true =>
    go_wp2_with fail
    refine (awake_any _).mono ?_
    rintro r w2 ⟨rfl, b2⟩
    go_wp2_with fail
    go_ret
    exact ⟨rfl, HB0.out.trans ((b1.trans (b2.mono b1.size)).mono HB0.out.size)⟩
  | false =>
    have t2 := HT2.out.below b1 (by have := HZ0.out; omega)
    have f0 := t2.c0
    have f1 := t2.c1
    have f2 := t2.c2
    clear t2
    go_wp2_with fail
    refine (HL2.out w1 b1).mono ?_
    rintro r w3 ⟨rfl, b3⟩
    have b4 := b1.trans (b3.mono b1.size)
    clear f0 f1 f2 b1 b3
    cases p2 with
    | true =>
      go_wp2_with fail
      refine (awake_any _).mono ?_
      rintro r w2 ⟨rfl, b2⟩
      go_wp2_with fail
      go_ret
      exact ⟨rfl, HB0.out.trans ((b4.trans (b2.mono b4.size)).mono HB0.out.size)⟩
    | false =>
      by_cases hn : 100 < L.length
      · clear hl
        go_wp2_with fail
        refine (awake_any _).mono ?_
        rintro r w2 ⟨rfl, b2⟩
        go_wp2_with fail
        go_ret
        exact ⟨rfl, HB0.out.trans ((b4.trans (b2.mono b4.size)).mono HB0.out.size)⟩
      · have hm : 100 < M.length := by simpa [hn] using hl
        clear hl
        go_wp2_with fail
        refine (awake_any _).mono ?_
        rintro r w2 ⟨rfl, b2⟩
        go_wp2_with fail
        go_ret
        exact ⟨rfl, HB0.out.trans ((b4.trans (b2.mono b4.size)).mono HB0.out.size)⟩

set_option maxRecDepth 100000 in
set_option maxHeartbeats 8000000 in
theorem tells_small (dd : Nat) (e1 e2 : Ex) (v1 v2 : Value) (n : Int) (hn0 : -9223372036854775808 ≤ n) (hn1 : n < 9223372036854775808) (A B : Option Addr) (c c' : Nat) (L M : List Int) (w : World) (h1 : At w 0 w.heap.size dd v1 e1) (h2 : At w 0 w.heap.size dd v2 e2) (hI : Ints w w.heap.size A L) (hJ : Ints w w.heap.size B M)
    (k1 d1 d2 : Nat) (hd1 : At w 0 w.heap.size d1 v1 e1) (hd2 : At w 0 w.heap.size d2 v2 e2) (hc1 : muchF d1 e1 0 = some k1) (hc2 : (muchF d2 e2 0).isNone = false) (hL : L.length ≤ 100) (hM : M.length ≤ 100) :
    Calls Try.prog 3 #[v1, v2, .int .i64 n, .slice A L.length c, .slice B M.length c'] w fun e w' => e = .returned (.bool true) ∧ Below w.heap.size w w' := by
  obtain ⟨hcnt, h400⟩ := muchF_cnt _ _ _ _ hc1
  obtain ⟨x, y, z, rfl⟩ := h1.boxed
  obtain ⟨x', y', z', rfl⟩ := h2.boxed
  obtain ⟨o1, n1, A1, l1, c1, rfl, rfl, rfl⟩ := h1.form
  obtain ⟨o2, n2, A2, l2, c2, rfl, rfl, rfl⟩ := h2.form
  obtain ⟨b0, z0, t1, t2⟩ := two_boxes w (.int .u8 o1) (.int .i64 n1) (.slice A1 l1 c1) (.int .u8 o2) (.int .i64 n2) (.slice A2 l2 c2)
  have HL1 := Lib.hid (large_any d1 e1 _ 0 w.heap.size _ (hd1.below b0 (Nat.le_refl _)) b0.size)
  have hA1 := hd1.below b0 (Nat.le_refl _)
  have hA2 := hd2.below b0 (Nat.le_refl _)
  have hB1 := h1.below b0 (Nat.le_refl _)
  have hB2 := h2.below b0 (Nat.le_refl _)
  have hI2 := hI.below b0 (Nat.le_refl _)
  have hJ2 := hJ.below b0 (Nat.le_refl _)
  obtain ⟨W, hW⟩ : ∃ W, W = (w.alloc (.cells #[.int .u8 o1, .int .i64 n1, .slice A1 l1 c1] 24)).alloc (.cells #[.int .u8 o2, .int .i64 n2, .slice A2 l2 c2] 24) := ⟨_, rfl⟩
  rw [← hW] at b0 z0 t1 t2 HL1 hA1 hA2 hB1 hB2 hI2 hJ2
  rw [hc1] at HL1
  have HL2 : Hid (∀ W', Below W.heap.size W W' → Calls Try.prog 10 #[.agg #[.int .u8 o2, .int .i64 n2, .slice A2 l2 c2]] W' fun r w' => r = .returned (.bool false) ∧ Below W'.heap.size W' w') := fun W' hW' => by
    have := large_any d2 e2 _ 0 w.heap.size W' (hA2.below hW' (by omega)) (by have := hW'.size; omega)
    rw [hc2] at this
    exact this
  obtain ⟨⟨p, q⟩, hp⟩ : ∃ p, p = evalF e1 L M := ⟨_, rfl⟩
  have HE1 : Hid (∀ W', Below W.heap.size W W' → Calls Try.prog 12 #[.agg #[.int .u8 o1, .int .i64 n1, .slice A1 l1 c1], .slice A L.length c, .slice B M.length c'] W' fun r w' => r = .returned (.tuple #[.int .i64 p, .int .i64 q]) ∧ Below W'.heap.size W' w') := fun W' hW' => by
    have := eval_any A B c c' w.heap.size w.heap.size L M d1 e1 _ 0 w.heap.size W' (hA1.below hW' (by omega)) (by have := hW'.size; omega) (hI2.below hW' (by omega)) (by have := hW'.size; omega) (hJ2.below hW' (by omega)) (by have := hW'.size; omega)
    rw [← hp] at this
    exact this
  have HE2 : Hid (∀ W', Below W.heap.size W W' → Calls Try.prog 13 #[.agg #[.int .u8 o1, .int .i64 n1, .slice A1 l1 c1], .slice A L.length c, .slice B M.length c'] W' fun r w' => r = .returned (.tuple #[.int .i64 p, .int .i64 q]) ∧ Below W'.heap.size W' w') := fun W' hW' => by
    have := rEval_any A B c c' w.heap.size w.heap.size L M d1 e1 _ 0 w.heap.size W' (hA1.below hW' (by omega)) (by have := hW'.size; omega) (hI2.below hW' (by omega)) (by have := hW'.size; omega) (hJ2.below hW' (by omega)) (by have := hW'.size; omega)
    rw [← hp] at this
    exact this
  have HCP : Hid (∀ W', Below W.heap.size W W' → Calls Try.prog 14 #[.agg #[.int .u8 o1, .int .i64 n1, .slice A1 l1 c1]] W' (Copied2 W' d1 e1)) := fun W' hW' =>
    copy_full d1 e1 _ 0 w.heap.size W' (hA1.below hW' (by omega)) (by have := hW'.size; omega) (by rw [hcnt]; omega)
  have HRC : Hid (∀ W', Below W.heap.size W W' → Calls Try.prog 23 #[.agg #[.int .u8 o1, .int .i64 n1, .slice A1 l1 c1]] W' (Copied W' d1 e1)) := fun W' hW' =>
    rcopy_any d1 e1 _ 0 w.heap.size W' (hA1.below hW' (by omega)) (by have := hW'.size; omega) (by rw [hcnt]; omega)
  have HW1 : Hid (∀ W', Below W.heap.size W W' → Calls Try.prog 15 #[.agg #[.int .u8 o1, .int .i64 n1, .slice A1 l1 c1]] W' fun r w' => r = .returned (.bool (wholeF 6 e1)) ∧ Below W'.heap.size W' w') := fun W' hW' => by
    exact Whole_any d1 e1 _ 0 w.heap.size W' (hA1.below hW' (by omega)) (by have := hW'.size; omega)
  have HW2 : Hid (∀ W', Below W.heap.size W W' → Calls Try.prog 16 #[.agg #[.int .u8 o1, .int .i64 n1, .slice A1 l1 c1]] W' fun r w' => r = .returned (.bool (wholeF 6 e1)) ∧ Below W'.heap.size W' w') := fun W' hW' => by
    exact rWhole_any d1 e1 _ 0 w.heap.size W' (hA1.below hW' (by omega)) (by have := hW'.size; omega)
  have HM1 : Hid (∀ W', Below W.heap.size W W' → Calls Try.prog 17 #[.agg #[.int .u8 o1, .int .i64 n1, .slice A1 l1 c1], .int .i64 n] W' fun r w' => r = .returned (.bool (wholeF 6 e1 && belowF d1 e1 n)) ∧ Below W'.heap.size W' w') := fun W' hW' => by
    exact may_any d1 e1 _ 0 w.heap.size n hn0 hn1 W' (hA1.below hW' (by omega)) (by have := hW'.size; omega)
  have HM2 : Hid (∀ W', Below W.heap.size W W' → Calls Try.prog 18 #[.agg #[.int .u8 o1, .int .i64 n1, .slice A1 l1 c1], .int .i64 n] W' fun r w' => r = .returned (.bool (wholeF 6 e1 && belowF d1 e1 n)) ∧ Below W'.heap.size W' w') := fun W' hW' => by
    exact rMay_any d1 e1 _ 0 w.heap.size n hn0 hn1 W' (hA1.below hW' (by omega)) (by have := hW'.size; omega)
  have HC1 : Hid (∀ W', Below W.heap.size W W' → Calls Try.prog 19 #[.agg #[.int .u8 o1, .int .i64 n1, .slice A1 l1 c1]] W' fun r w' => r = .returned (.int .i64 (k1 : Nat)) ∧ Below W'.heap.size W' w') := fun W' hW' => by
    have := count_any d1 e1 _ 0 w.heap.size W' (hA1.below hW' (by omega)) (by have := hW'.size; omega) (by rw [hcnt]; omega)
    rw [hcnt] at this
    exact this
  have HC2 : Hid (∀ W', Below W.heap.size W W' → Calls Try.prog 20 #[.agg #[.int .u8 o1, .int .i64 n1, .slice A1 l1 c1]] W' fun r w' => r = .returned (.int .i64 (k1 : Nat)) ∧ Below W'.heap.size W' w') := fun W' hW' => by
    have := rcount_any d1 e1 _ 0 w.heap.size W' (hA1.below hW' (by omega)) (by have := hW'.size; omega) (by rw [hcnt]; omega)
    rw [hcnt] at this
    exact this
  have HS1 : Hid (∀ W', Below W.heap.size W W' → Calls Try.prog 21 #[.agg #[.int .u8 o1, .int .i64 n1, .slice A1 l1 c1], .agg #[.int .u8 o2, .int .i64 n2, .slice A2 l2 c2]] W' fun r w' => r = .returned (.bool (sameF dd e1 e2)) ∧ Below W'.heap.size W' w') := fun W' hW' => by
    exact same_any dd e1 e2 _ _ 0 w.heap.size 0 w.heap.size W' (hB1.below hW' (by omega)) (hB2.below hW' (by omega)) (by have := hW'.size; omega) (by have := hW'.size; omega)
  have HS2 : Hid (∀ W', Below W.heap.size W W' → Calls Try.prog 22 #[.agg #[.int .u8 o1, .int .i64 n1, .slice A1 l1 c1], .agg #[.int .u8 o2, .int .i64 n2, .slice A2 l2 c2]] W' fun r w' => r = .returned (.bool (sameF dd e1 e2)) ∧ Below W'.heap.size W' w') := fun W' hW' => by
    exact rsame_any dd e1 e2 _ _ 0 w.heap.size 0 w.heap.size W' (hB1.below hW' (by omega)) (hB2.below hW' (by omega)) (by have := hW'.size; omega) (by have := hW'.size; omega)
  obtain ⟨bw, hbw⟩ : ∃ bw, bw = wholeF 6 e1 := ⟨_, rfl⟩
  obtain ⟨bm, hbm⟩ : ∃ bm, bm = (wholeF 6 e1 && belowF d1 e1 n) := ⟨_, rfl⟩
  obtain ⟨bs, hbs⟩ : ∃ bs, bs = sameF dd e1 e2 := ⟨_, rfl⟩
  rw [← hbm] at HM1 HM2
  rw [← hbw] at HW1 HW2
  rw [← hbs] at HS1 HS2
  have HA1 := Lib.hid hA1
  have HB0 := Lib.hid b0
  have HT1 := Lib.hid t1
  have HT2 := Lib.hid t2
  have f0 := t1.c0
  have f1 := t1.c1
  have f2 := t1.c2
  clear hp hbw hbm hbs h1 h2 hA1 hA2 hB1 hB2 hI hJ hI2 hJ2 hd1 hd2 b0 t1 t2 hc2
  go_enter Try.func3, Try.ntmps3
  go_upto_region 1 with fail
  rw [← hW]
  clear hW
  go_wp2_with fail
  refine HL1.out.mono ?_
  rintro r w1 ⟨rfl, b1⟩
  simp only [Option.isNone_some]
  have t2 := HT2.out.below b1 (by omega)
  clear f0 f1 f2
  have f0 := t2.c0
  have f1 := t2.c1
  have f2 := t2.c2
  clear t2
  go_wp2_with fail
  refine (HL2.out w1 b1).mono ?_
  rintro r w2 ⟨rfl, b2⟩
  have c2 := b1.trans (b2.mono b1.size)
  have t1 := HT1.out.below c2 (by omega)
  clear f0 f1 f2 b1 b2
  have f0 := t1.c0
  have f1 := t1.c1
  have f2 := t1.c2
  clear t1
  go_wp2_with fail
  refine (HE1.out w2 c2).mono ?_
  rintro r w3 ⟨rfl, b3⟩
  have c3 := c2.trans (b3.mono c2.size)
  have t1 := HT1.out.below c3 (by omega)
  clear f0 f1 f2 c2 b3
  have f0 := t1.c0
  have f1 := t1.c1
  have f2 := t1.c2
  clear t1
  go_wp2_with fail
  refine (HE2.out w3 c3).mono ?_
  rintro r w4 ⟨rfl, b4⟩
  have c4 := c3.trans (b4.mono c3.size)
  have t1 := HT1.out.below c4 (by omega)
  clear f0 f1 f2 c3 b4
  have f0 := t1.c0
  have f1 := t1.c1
  have f2 := t1.c2
  clear t1
  go_wp2_with fail
  refine (HCP.out w4 c4).mono ?_
  rintro r w5 ⟨⟨v5, rfl, hA5, b5⟩, hsoft⟩
  obtain ⟨x5, y5, z5, rfl⟩ := boxed_at hA5
  obtain ⟨o5, n5, A5, l5, k5, rfl, rfl, rfl⟩ := hA5.form
  have c5 := c4.trans (b5.mono c4.size)
  obtain ⟨Wc, hWc⟩ : ∃ Wc, Wc = w5.alloc (.cells #[.int .u8 o5, .int .i64 n5, .slice A5 l5 k5] 24) := ⟨_, rfl⟩
  have bc : Below w5.heap.size w5 Wc := by rw [hWc]; exact b_alloc _ _
  have zc : Wc.heap.size = w5.heap.size + 1 := by rw [hWc]; simp
  have tc : Boxed Wc w5.heap.size (.int .u8 o5) (.int .i64 n5) (.slice A5 l5 k5) := by rw [hWc]; exact Boxed.new w5 _ _ _
  have cc := c5.trans (bc.mono c5.size)
  have hAc := hA5.below bc (Nat.le_refl _)
  have h45 := b5.size
  have hW4 := c4.size
  clear f0 f1 f2
  go_upto_region 6 with fail
  rw [← hWc]
  clear hWc
  have HW1' : Hid (∀ W', Below Wc.heap.size Wc W' → Calls Try.prog 15 #[.agg #[.int .u8 o1, .int .i64 n1, .slice A1 l1 c1]] W' fun r w' => r = .returned (.bool bw) ∧ Below W'.heap.size W' w') := fun W' hW' => HW1.out W' (cc.trans (hW'.mono cc.size))
  have HW2' : Hid (∀ W', Below Wc.heap.size Wc W' → Calls Try.prog 16 #[.agg #[.int .u8 o1, .int .i64 n1, .slice A1 l1 c1]] W' fun r w' => r = .returned (.bool bw) ∧ Below W'.heap.size W' w') := fun W' hW' => HW2.out W' (cc.trans (hW'.mono cc.size))
  have HM1' : Hid (∀ W', Below Wc.heap.size Wc W' → Calls Try.prog 17 #[.agg #[.int .u8 o1, .int .i64 n1, .slice A1 l1 c1], .int .i64 n] W' fun r w' => r = .returned (.bool bm) ∧ Below W'.heap.size W' w') := fun W' hW' => HM1.out W' (cc.trans (hW'.mono cc.size))
  have HM2' : Hid (∀ W', Below Wc.heap.size Wc W' → Calls Try.prog 18 #[.agg #[.int .u8 o1, .int .i64 n1, .slice A1 l1 c1], .int .i64 n] W' fun r w' => r = .returned (.bool bm) ∧ Below W'.heap.size W' w') := fun W' hW' => HM2.out W' (cc.trans (hW'.mono cc.size))
  have HC1' : Hid (∀ W', Below Wc.heap.size Wc W' → Calls Try.prog 19 #[.agg #[.int .u8 o1, .int .i64 n1, .slice A1 l1 c1]] W' fun r w' => r = .returned (.int .i64 (k1 : Nat)) ∧ Below W'.heap.size W' w') := fun W' hW' => HC1.out W' (cc.trans (hW'.mono cc.size))
  have HC2' : Hid (∀ W', Below Wc.heap.size Wc W' → Calls Try.prog 20 #[.agg #[.int .u8 o1, .int .i64 n1, .slice A1 l1 c1]] W' fun r w' => r = .returned (.int .i64 (k1 : Nat)) ∧ Below W'.heap.size W' w') := fun W' hW' => HC2.out W' (cc.trans (hW'.mono cc.size))
  have HS1' : Hid (∀ W', Below Wc.heap.size Wc W' → Calls Try.prog 21 #[.agg #[.int .u8 o1, .int .i64 n1, .slice A1 l1 c1], .agg #[.int .u8 o2, .int .i64 n2, .slice A2 l2 c2]] W' fun r w' => r = .returned (.bool bs) ∧ Below W'.heap.size W' w') := fun W' hW' => HS1.out W' (cc.trans (hW'.mono cc.size))
  have HS2' : Hid (∀ W', Below Wc.heap.size Wc W' → Calls Try.prog 22 #[.agg #[.int .u8 o1, .int .i64 n1, .slice A1 l1 c1], .agg #[.int .u8 o2, .int .i64 n2, .slice A2 l2 c2]] W' fun r w' => r = .returned (.bool bs) ∧ Below W'.heap.size W' w') := fun W' hW' => HS2.out W' (cc.trans (hW'.mono cc.size))
  have HS3 : Hid (∀ W', Below Wc.heap.size Wc W' → Calls Try.prog 22 #[.agg #[.int .u8 o5, .int .i64 n5, .slice A5 l5 k5], .agg #[.int .u8 o1, .int .i64 n1, .slice A1 l1 c1]] W' fun r w' => r = .returned (.bool true) ∧ Below W'.heap.size W' w') := fun W' hW' => by
    have := rsame_any d1 e1 e1 _ _ w4.heap.size w5.heap.size 0 w.heap.size W' (hAc.below hW' (by omega)) (HA1.out.below (cc.trans (hW'.mono cc.size)) (by omega)) (by have := hW'.size; omega) (by have := hW'.size; omega)
    rw [sameF_refl d1 HA1.out] at this
    exact this
  have g1 : w.heap.size < Wc.heap.size := by omega
  have g2 : w.heap.size + 1 < Wc.heap.size := by omega
  have g3 : w5.heap.size < Wc.heap.size := by omega
  have s1 := HT1.out.below cc (by omega)
  have s2 := HT2.out.below cc (by omega)
  have f0 := s1.c0
  have f1 := s1.c1
  have f2 := s1.c2
  have f3 := s2.c0
  have f4 := s2.c1
  have f5 := s2.c2
  have f6 := tc.c0
  have f7 := tc.c1
  have f8 := tc.c2
  have pp : (p != p) = false := by simp
  have qq : ((q : Int) != (q : Int)) = false := by simp
  have kk : ((k1 : Int) != (k1 : Int)) = false := by simp
  have HSF := Lib.hid hsoft
  have HAC := Lib.hid hAc
  have HBC := Lib.hid bc
  have HCC := Lib.hid cc
  have HTC := Lib.hid tc
  have HZ := Lib.hid (And.intro zc (And.intro h45 hW4))
  clear s1 s2 tc hsoft hAc bc cc HW1 HW2 HM1 HM2 HC1 HC2 HS1 HS2 HE1 HE2 HL1 HL2 HCP hA5 b5 c4 c5 h45 hW4
  go_region_held3 (fun w' => w'.cell? ⟨w.heap.size, 0, none⟩ = some (.int .u8 o1) ∧ w'.cell? ⟨w.heap.size, 1, none⟩ = some (.int .i64 n1) ∧ w'.cell? ⟨w.heap.size, 2, none⟩ = some (.slice A1 l1 c1) ∧
      w'.cell? ⟨w.heap.size + 1, 0, none⟩ = some (.int .u8 o2) ∧ w'.cell? ⟨w.heap.size + 1, 1, none⟩ = some (.int .i64 n2) ∧ w'.cell? ⟨w.heap.size + 1, 2, none⟩ = some (.slice A2 l2 c2) ∧
      w'.cell? ⟨w5.heap.size, 0, none⟩ = some (.int .u8 o5) ∧ w'.cell? ⟨w5.heap.size, 1, none⟩ = some (.int .i64 n5) ∧ w'.cell? ⟨w5.heap.size, 2, none⟩ = some (.slice A5 l5 k5) ∧ Below Wc.heap.size Wc w')
    (first | exact sB9 g1 g2 g3 (by assumption) ba9 | exact sB9 g1 g2 g3 (by assumption) ba8 | exact sB9 g1 g2 g3 (by assumption) ba7 | exact sB9 g1 g2 g3 (by assumption) ba6 | exact sB9 g1 g2 g3 (by assumption) ba5 | exact sB9 g1 g2 g3 (by assumption) ba4 | exact sB9 g1 g2 g3 (by assumption) ba3 | exact sB9 g1 g2 g3 (by assumption) ba2 | exact sB9 g1 g2 g3 (by assumption) ba1 | exact sB9 g1 g2 g3 ⟨f0, f1, f2, f3, f4, f5, f6, f7, f8, Below.refl _ _⟩ (b_drew _) | fail)
    (first
      | (go_at_call 15; refine (HW1'.out _ (sB9b (by assumption))).mono ?_; rintro r wa1 ⟨rfl, ba1⟩)
      | (go_at_call 16; refine (HW2'.out _ (sB9b (by assumption))).mono ?_; rintro r wa2 ⟨rfl, ba2⟩)
      | (go_at_call 17; refine (HM1'.out _ (sB9b (by assumption))).mono ?_; rintro r wa3 ⟨rfl, ba3⟩)
      | (go_at_call 18; refine (HM2'.out _ (sB9b (by assumption))).mono ?_; rintro r wa4 ⟨rfl, ba4⟩)
      | (go_at_call 19; refine (HC1'.out _ (sB9b (by assumption))).mono ?_; rintro r wa5 ⟨rfl, ba5⟩)
      | (go_at_call 20; refine (HC2'.out _ (sB9b (by assumption))).mono ?_; rintro r wa6 ⟨rfl, ba6⟩)
      | (go_at_call 21; refine (HS1'.out _ (sB9b (by assumption))).mono ?_; rintro r wa7 ⟨rfl, ba7⟩)
      | (go_at_call 22; have hS8 : Below Wc.heap.size Wc wa8 := sB9b (by assumption); refine (HS3.out _ hS8).mono ?_; rintro r wa9 ⟨rfl, ba9⟩)
      | (go_at_call 22; refine (HS2'.out _ (sB9b (by assumption))).mono ?_; rintro r wa8 ⟨rfl, ba8⟩)
      | fail)
  have c9 : Below Wc.heap.size Wc wa9 := hS8.trans (ba9.mono hS8.size)
  have cW9 : Below W.heap.size W wa9 := HCC.out.trans (c9.mono HCC.out.size)
  clear HW1' HW2' HM1' HM2' HC1' HC2' HS1' HS2' HS3 f0 f1 f2 f3 f4 f5 f6 f7 f8 hS8 ba9 ba8 ba7 ba6 ba5 ba4 ba3 ba2 ba1 pp qq kk
  have s1 := HT1.out.below cW9 (by omega)
  have f0 := s1.c0
  have f1 := s1.c1
  have f2 := s1.c2
  clear s1
  go_wp2_with fail
  refine (HRC.out wa9 cW9).mono ?_
  rintro r w10 ⟨v10, rfl, hA10, b10⟩
  obtain ⟨x6, y6, z6, rfl⟩ := boxed_at hA10
  obtain ⟨o6, n6, A6, l6, k6, rfl, rfl, rfl⟩ := hA10.form
  clear f0 f1 f2
  have bk := b_alloc w10 (.cells #[.int .u8 o6, .int .i64 n6, .slice A6 l6 k6] 24)
  have tk := Boxed.new w10 (.int .u8 o6) (.int .i64 n6) (.slice A6 l6 k6)
  have zk : (w10.alloc (.cells #[.int .u8 o6, .int .i64 n6, .slice A6 l6 k6] 24)).heap.size = w10.heap.size + 1 := by simp
  obtain ⟨Wk, hWk⟩ : ∃ Wk, Wk = w10.alloc (.cells #[.int .u8 o6, .int .i64 n6, .slice A6 l6 k6] 24) := ⟨_, rfl⟩
  rw [← hWk] at bk tk zk
  obtain ⟨zc, h45, hW4⟩ := HZ.out
  have hz9 := c9.size
  have hz10 := b10.size
  have b9k : Below wa9.heap.size wa9 Wk := b10.trans (bk.mono b10.size)
  have bWk : Below W.heap.size W Wk := cW9.trans (b9k.mono cW9.size)
  have b5k : Below w5.heap.size w5 Wk := HBC.out.trans ((c9.trans (b9k.mono c9.size)).mono HBC.out.size)
  have tck := HTC.out.below (c9.trans (b9k.mono c9.size)) (by omega)
  have te := HT1.out.below bWk (by omega)
  have hAk := HA1.out.below bWk (by omega)
  have hA10k := hA10.below bk (Nat.le_refl _)
  have hl5 : l5 = e1.args.length := by
    cases d1 with
    | zero => exact HAC.out.elim
    | succ d1 =>
      obtain ⟨op, m, as1⟩ := e1
      obtain ⟨q1, q2, q3, q4, A', c', hv, hk⟩ := HAC.out.open_
      simp only [Value.agg.injEq, Array.mk.injEq, List.cons.injEq, and_true, Value.slice.injEq] at hv
      exact hv.2.2.2.1
  obtain ⟨g, hg1, hg2, hrow⟩ : ∃ g, w4.heap.size ≤ g ∧ (g < w5.heap.size ∨ Wk.heap.size < g) ∧ (l5 = 0 ∨ A5 = some ⟨g, 0, none⟩ ∧ ∃ xs, Wk.heap[g]? = some (.cells xs 24 (0, 0)) ∧ xs.size = l5 * 3) := by
    rcases HSF.out with h0 | ⟨o, m, cc5, hr, hlt, xs, hx1, hx2⟩
    · exact ⟨Wk.heap.size + 1, by omega, .inr (by omega), .inl (by rw [hl5, h0]; rfl)⟩
    · refine ⟨w4.heap.size + 2, by omega, .inl hlt, .inr ⟨?_, xs, (b5k.block _ hlt).trans hx1, by rw [hx2, hl5]⟩⟩
      simp only [Ending.returned.injEq, Value.agg.injEq, Array.mk.injEq, List.cons.injEq, and_true, Value.slice.injEq] at hr
      exact hr.2.2.1
  have HLI0 : Hid (LI W.heap.size Wk g l5 A5 Wk) := ⟨rfl, fun _ _ => rfl, Below.refl _ _, hrow⟩
  have HTE := Lib.hid te
  have HTK := Lib.hid tk
  have HTCK := Lib.hid tck
  have HAK := Lib.hid hAk
  have HA10K := Lib.hid hA10k
  have HBWK := Lib.hid bWk
  have hlen5 : l5 ≤ 400 := by
    rw [hl5]
    cases d1 with
    | zero => exact HAC.out.elim
    | succ d1 =>
      obtain ⟨op, m, as1⟩ := e1
      obtain ⟨q1, q2, q3, q4, A', c', hv, hk⟩ := HAC.out.open_
      have h1 : cnt (d1 + 1) (.node op m as1) = 1 + (as1.map (cnt d1)).sum := rfl
      have h2 := len_sum as1 hk.pos
      show as1.length ≤ 400
      omega
  clear te tk tck hAk hA10k bWk b5k b9k bk hrow hl5 hA10 b10 c9 cW9 HSF HAC HBC HCC HTC HZ HRC HT1 HT2
  go_wp2_with fail
  rw [← hWk]
  clear hWk
  go_loopw [17] (fun i wr => ∃ k : Nat, k ≤ l5 ∧ i = .int .i64 k ∧ Hid (LI W.heap.size Wk g l5 A5 wr)) (fun i _ => l5 - (intOf i).toNat)
  case atStart => exact ⟨0, by omega, rfl, HLI0⟩
  case round =>
    obtain ⟨k, hk, rfl, INV⟩ := hrel
    have tc := HTCK.out.other INV.out (by omega)
    have f2 := tc.c2
    clear tc
    by_cases hlt : k < l5
    · rcases INV.out.row with h0 | ⟨h1, xs, h2, h3⟩
      · omega
      · subst h1
        obtain ⟨u0, c0⟩ := row_cell (i := k * 3) h2 (by omega)
        have q0 := row_free (i := k * 3) h2
        have i1 : (0 : Int) ≤ (k : Int) := by omega
        have i2 : (k : Int) < (l5 : Int) := by omega
        have HN := Lib.hid (INV.out.set (k := k * 3) (by omega) (.int .u8 99))
        clear h2 h3
        go_wp2_with fail
        go_roundw
        case rel => exact ⟨k + 1, by omega, by go_num, HN⟩
        case measure => simp [intOf]; omega
    · have te := HTE.out.other INV.out (by omega)
      have tk := HTK.out.other INV.out (by omega)
      have f3 := te.c0
      have f4 := te.c1
      have f5 := te.c2
      have f6 := tk.c0
      have f7 := tk.c1
      have f8 := tk.c2
      have hsz := INV.out.size
      have hA := HAK.out.keep (w' := wr) (fun p _ hp => INV.out.cell p (by omega)) d1
      have hA' := HA10K.out.keep (w' := wr) (fun p hp hp2 => INV.out.cell p (by omega)) d1
      have hs := rsame_any d1 e1 e1 _ _ 0 w.heap.size wa9.heap.size w10.heap.size wr hA hA' (by omega) (by omega)
      rw [sameF_refl d1 HA1.out] at hs
      have HS := Lib.hid hs
      have hT := HBWK.out.trans (INV.out.low)
      clear te tk hA hA' hs
      go_wp2_with fail
      refine HS.out.mono ?_
      rintro r w11 ⟨rfl, b11⟩
      have hT2 := hT.trans (b11.mono hT.size)
      clear f2 f3 f4 f5 f6 f7 f8
      go_wp2_with fail
      refine (awake_any _).mono ?_
      rintro r w12 ⟨rfl, b12⟩
      have hT3 := hT2.trans (b12.mono hT2.size)
      go_wp2_with fail
      go_ret
      exact ⟨rfl, HB0.out.trans (hT3.mono HB0.out.size)⟩

theorem ExprTells_walk (v0 : Value) (m0 : Nat) (e0 : Ex) (v1 : Value) (m1 : Nat) (e1 : Ex) (n : Int) (A3 : Option Addr) (c3 : Nat) (L3 : List Int) (A4 : Option Addr) (c4 : Nat) (L4 : List Int) (w : World) (hE0 : At w 0 w.heap.size m0 v0 e0) (hE1 : At w 0 w.heap.size m1 v1 e1) (wn : (Lit.int .i64 n).wf = true) (hI3 : Ints w w.heap.size A3 L3) (hI4 : Ints w w.heap.size A4 L4) :
    Calls Try.prog 3 #[v0, v1, .int .i64 n, .slice A3 L3.length c3, .slice A4 L4.length c4] w fun e w' => e = .returned (.bool true) ∧ Below w.heap.size w w' := by
  obtain ⟨hn0, hn1⟩ := i64_of wn
  by_cases hl : (muchF m0 e0 0).isNone = true ∨ (muchF m1 e1 0).isNone = true ∨ 100 < L3.length ∨ 100 < L4.length
  · exact tells_large m0 m1 e0 e1 v0 v1 n A3 A4 c3 c4 L3 L4 w hE0 hE1 hI3.len hI4.len hl
  · have h1 : (muchF m0 e0 0).isNone = false := by
      cases h : (muchF m0 e0 0).isNone with
      | false => rfl
      | true => exact absurd (.inl h) hl
    have h2 : (muchF m1 e1 0).isNone = false := by
      cases h : (muchF m1 e1 0).isNone with
      | false => rfl
      | true => exact absurd (.inr (.inl h)) hl
    obtain ⟨k1, hk1⟩ : ∃ k, muchF m0 e0 0 = some k := by
      cases h : muchF m0 e0 0 with
      | none => rw [h] at h1; cases h1
      | some k => exact ⟨k, rfl⟩
    exact tells_small (max m0 m1) e0 e1 v0 v1 n hn0 hn1 A3 A4 c3 c4 L3 L4 w (hE0.more _ _ (Nat.le_max_left _ _)) (hE1.more _ _ (Nat.le_max_right _ _)) hI3 hI4 k1 m0 m1 hE0 hE1 hk1 h2 (by omega) (by omega)

theorem ExprTells_laid : laidOutB Try.prog = true := by kernel_rfl
set_option maxRecDepth 100000 in
theorem ExprTells_lifted (os : Os) (started : os.Started) (H : Type) (enc : TypeId × Value → H) :
    ReturnsInHanded {} Try.checked os 3 .any (Rows.exprTellsSpec.pre6 enc Try.prog Try.f3 Rows.exprTellsRow.domain false) (Rows.exprTellsSpec.post enc Try.prog Try.f3 false true false false) := by
  refine returnsInHanded_of_change (C := Try.checked) lift_own started (by kernel_rfl) Try.func3
    (ChangeSpec.witness6 (enc := enc) (C := Try.checked) false ⟨#[], #[.agg #[.int .u8 0, .int .i64 0, .slice none 0 0], .agg #[.int .u8 0, .int .i64 0, .slice none 0 0], .int .i64 0, .slice none 0 0, .slice none 0 0], []⟩ 8 (by kernel_rfl) (by kernel_rfl) (by kernel_rfl) (by kernel_rfl)) ?_
  intro W base args ds gs before hval0 hW hcnd _
  have hval : ∀ (j : Nat) t v, Try.f3.params[j]? = some t → args[j]? = some v → Value.okWide Try.prog W .any base t v := hval0
  have hW' := hW
  obtain ⟨p, q, hA0, hV, rfl, hfz, hnd⟩ := hW
  have hA : DataW.TrodAll enc Try.prog W 0 (fun _ => true) true Try.f3.params.toList args.toList ds p := hA0
  rw [Try.params3] at hA hval
  obtain ⟨v0, vs0, d0, ds0, p0, q0, hargs, rfl, rfl, h0, r0⟩ := trodAll_cons hA
  obtain ⟨v1, vs1, d1, ds1, p1, q1, rfl, rfl, rfl, h1, r1⟩ := trodAll_cons r0
  obtain ⟨v2, vs2, d2, ds2, p2, q2, rfl, rfl, rfl, h2, r2⟩ := trodAll_cons r1
  obtain ⟨v3, vs3, d3, ds3, p3, q3, rfl, rfl, rfl, h3, r3⟩ := trodAll_cons r2
  obtain ⟨v4, vs4, d4, ds4, p4, q4, rfl, rfl, rfl, h4, r4⟩ := trodAll_cons r3
  obtain ⟨rfl, rfl, rfl⟩ := trodAll_nil r4
  obtain rfl : args = #[v0, v1, v2, v3, v4] := by cases args; simp_all
  obtain ⟨rfl, rfl⟩ := trodVars_none hV
  obtain ⟨n0, e0, hE0⟩ := open_expr (hval 0 24 v0 rfl rfl) h0
  obtain ⟨n1, e1, hE1⟩ := open_expr (hval 1 24 v1 rfl rfl) h1
  obtain ⟨a2, rfl, rfl, rfl, w2⟩ := open_int Try.underlying3 (hval 2 3 v2 rfl rfl) h2
  obtain ⟨A3, c3, L3, rfl, hI3⟩ := open_nums (hval 3 25 v3 rfl rfl) h3
  obtain ⟨A4, c4, L4, rfl, hI4⟩ := open_nums (hval 4 25 v4 rfl rfl) h4
  clear hA0 hval0
  simp only [List.append_nil, List.nil_append] at hW'
  refine (ExprTells_walk v0 n0 e0 v1 n1 e1 a2 A3 c3 L3 A4 c4 L4 W hE0 hE1 w2 hI3 hI4).mono fun e W' ⟨he, hg⟩ => ?_
  subst he
  exact ⟨_, rfl, lift_post (pv := []) hW' (fun _ _ _ => (trodAll_cons_mk (shut_bool Try.underlying4 _) trodAll_mk0)) (fun sp hsp => (trodAll_cons_mk (WideElems.Trod_stays ExprTells_laid (by kernel_rfl) (of_decide_eq_true (by kernel_rfl)) h0 (fun x hx => hg.same (hW'.lt x (by simp [hx]))) (fun x hx => hsp x (by simp [hx]))) (trodAll_cons_mk (WideElems.Trod_stays ExprTells_laid (by kernel_rfl) (of_decide_eq_true (by kernel_rfl)) h1 (fun x hx => hg.same (hW'.lt x (by simp [hx]))) (fun x hx => hsp x (by simp [hx]))) (trodAll_cons_mk (shut_int Try.underlying3 w2) (trodAll_cons_mk (WideElems.Trod_stays ExprTells_laid (by kernel_rfl) (of_decide_eq_true (by kernel_rfl)) h3 (fun x hx => hg.same (hW'.lt x (by simp [hx]))) (fun x hx => hsp x (by simp [hx]))) (trodAll_cons_mk (WideElems.Trod_stays ExprTells_laid (by kernel_rfl) (of_decide_eq_true (by kernel_rfl)) h4 (fun x hx => hg.same (hW'.lt x (by simp [hx]))) (fun x hx => hsp x (by simp [hx]))) trodAll_mk0)))))) (fun _ _ => rfl) (by simp)
    hg (ok_one (by kernel_rfl) rfl (okWide_bool_mk Try.underlying4 _))⟩

/-- THE STATEMENT of ExprTells: for every input the call returns true, and each argument reads behind it as before. -/
theorem ExprTells_holds : Rows.ExprTellsSaid :=
  OpenClaim.holds_of_wide 3 Try.f3 rfl rfl rfl rfl rfl rfl rfl ⟨rfl, rfl, rfl, rfl, rfl⟩ rfl rfl rfl rfl rfl (by kernel_rfl) Try.func3 (by kernel_rfl)
    (of_decide_eq_true (by kernel_rfl)) (by unfold Func.isWrapper; first | (rw [if_pos (by decide +kernel)]; kernel_rfl) | (rw [if_neg (by decide +kernel)]; exact ⟨rfl, rfl⟩))
    (fun os started H enc _ => ExprTells_lifted os started H enc)
end Go.Proofs.Ytlalknapmnadpaa
