/-
  CONTRACTS OF THE STATEMENTS' OWN closure (Loops, one in the other) and works (layer 5): the chapter's examples hold; the memory that was there stays as it was. Condition (works): the table of what each Kind asks lies as its initialiser lays it.
-/
import Derived.Test.YtfnbffkiddofnaaDoorCz
import Derived.Test.YtfnbffkiddofnaaDoorCq
namespace Go.Proofs.YtfnbffkiddofnaaDoor
open Go.RowKit Go.Deep
set_option linter.unusedVariables false
theorem SK.build {w : World} {D : Nat} (Q : Nat → Raw) (l : List St) (hs : ∀ j (h : j < l.length), SA w D (Q j) l[j]) (cur : Array Value) (hcur : cur = (rowOf Q l.length).toArray) : SK (w.alloc (.cells cur 28)) D (some ⟨w.heap.size, 0, none⟩) l := by
  intro j hj
  have hr := heap_alloc_new w (.cells cur 28)
  refine ⟨⟨w.heap.size, 0, none⟩, Q j, rfl, Nat.zero_le _, by simp, ?_, (hs j hj).below ((Below.refl _ _).alloc (Nat.le_refl _) _)⟩
  rw [row_add]
  exact ten_row hr fun i hi => by rw [hcur, List.getElem?_toArray]; exact rowOf_get Q l.length j i hj hi
/-- Loops, one in the other, of so many writes. -/
def deepT (n : Nat) : Nat → List St
  | 0 => List.replicate n sWrite
  | k + 1 => [.node 5 0 (eLit 1) eNo (deepT n k) []]
def Deep3 (w : World) (n : Nat) (e : Ending) (w' : World) : Prop := ∃ A cap, e = .returned (.slice A (deepT n 3).length cap) ∧ SK w' 5 A (deepT n 3) ∧ Below w.heap.size w w'
set_option maxRecDepth 100000 in
theorem deep_any (n : Nat) (hn : n ≤ 1000) (w : World) : Calls Tryd.prog 11 #[.int .i64 n] w (Deep3 w n) := by
  have hlit := Lib.hid (clit_any 1)
  have hw := Lib.hid cwrite_any
  have hm := Lib.hid (fun (w' : World) => many_any n hn 2 rWrite sWrite w' (sa_write w' 0))
  go_enter Tryd.func11, Tryd.ntmps11
  go_wp2_with fail
  refine (hw.out w).mono ?_
  rintro z w2 ⟨rfl, b2⟩
  go_wp2_with fail
  refine (hm.out w2).mono ?_
  rintro z w3 ⟨A3, c3, rfl, hK3, b3⟩
  have HK := Lib.hid hK3
  have HB := Lib.hid (b2.trans (b3.mono b2.size))
  clear b2 b3 hK3
  go_wp2_with fail
  go_loopw [3, 4] (fun t i wr => ∃ (k : Nat) (A : Option Addr) (c : Nat), k ≤ 3 ∧ i = .int .i64 k ∧ t = .slice A (deepT n k).length c ∧ Hid (SK wr (2 + k) A (deepT n k)) ∧ Hid (Below w.heap.size w wr)) (fun _ i _ => 3 - (intOf i).toNat)
  case atStart => exact ⟨0, A3, c3, by omega, rfl, by simp [deepT], HK.out, HB.out⟩
  case round =>
    obtain ⟨k, A, c, hk, rfl, rfl, hK, hB⟩ := hrel
    by_cases hlt : k < 3
    · have i1 : (k : Int) < 3 := by omega
      have hdl : (deepT n k).length ≤ 1000 := by
        cases k with
        | zero => simpa [deepT] using hn
        | succ k => simp [deepT]
      obtain ⟨L, hL⟩ : ∃ L, L = (deepT n k).length := ⟨_, rfl⟩
      have hL2 := Lib.hid hL
      rw [← hL]
      rw [← hL] at hdl
      clear hL
      go_wp2_with fail
      refine (hlit.out wr).mono ?_
      rintro z w5 ⟨rfl, b5⟩
      have h5 := SK.one (r := ⟨5, 0, 1, 1, none, 0, 0, 0, 0, none, 0, 0, A, L, c, none, 0, 0⟩) (SA.mk (D := 2 + k) (k := 5) (t := 0) (a := eLit 1) (b := eNo) (y := deepT n k) (e := []) ⟨rfl, rfl, hL2.out, rfl⟩ ⟨by decide, by decide, by decide, by rw [← hL2.out]; omega, by simp⟩ ((at_leaf w5 0 w5.heap.size (1 + k) 1 1 none 0 (by decide) (by decide) (by decide)).more _ _ (by omega)) ((at_leaf w5 0 w5.heap.size (1 + k) 0 0 none 0 (by decide) (by decide) (by decide)).more _ _ (by omega)) (hK.out.below b5) (SK.nil _ _ _))
      have b6 := (hB.out.trans (b5.mono hB.out.size))
      have b7 := b6.trans ((ten_below w5 ⟨5, 0, 1, 1, none, 0, 0, 0, 0, none, 0, 0, A, L, c, none, 0, 0⟩).mono b6.size)
      have H5 := Lib.hid h5
      have H7 := Lib.hid b7
      clear h5 b6 b7 b5
      go_wp2_with fail
      go_roundw
      case rel => exact ⟨k + 1, some ⟨w5.heap.size, 0, none⟩, 1, by omega, by go_num, rfl, H5.out, H7.out⟩
      case measure => simp [intOf]; omega
    · have i1 : ¬ ((k : Int) < 3) := by omega
      obtain rfl : k = 3 := by omega
      go_wp2_with fail
      go_ret
      exact ⟨A, c, rfl, hK.out, hB.out⟩
/-- The chapter's first example: a Read, and behind it an If with a Retry as Body; a Loop of a Write; a Return with To 1. -/
def sRetry : St := .node 6 0 eNo eNo [] []
def exTx : List St := [sRead, .node 4 0 (eLit 1) eNo [sRetry] []]
def exLoop : List St := [.node 5 0 (eLit 3) eNo [sWrite] []]
def exBad : List St := [.node 8 1 (eLit 0) eNo [] []]
theorem ex_flat : (flat 8 exTx).length = 3 ∧ nodesL 8 (flat 8 exTx) = 2 ∧ deepL (flat 8 exTx) = 2 ∧ costL (costF 8) exTx 0 = 3 ∧ mayF 8 exTx 0 = true ∧ costL (costF 8) exLoop 0 = 9 ∧ mayF 8 exLoop 0 = true ∧ mayF 8 exBad 0 = false := by decide
theorem ex_few : ∀ y ∈ flat 8 exTx, Few 8 y.2 := by
  intro y hy
  have h : (flat 8 exTx).all (fun y => (decide (y.2.a.op = 0) || decide (cnt 8 y.2.a ≤ 100000)) && (decide (y.2.b.op = 0) || decide (cnt 8 y.2.b ≤ 100000))) = true := by decide
  have := List.all_eq_true.1 h y hy
  simpa [Few] using this
def rRetry : Raw := ⟨6, 0, 0, 0, none, 0, 0, 0, 0, none, 0, 0, none, 0, 0, none, 0, 0⟩
theorem sa_retry (w : World) (D : Nat) : SA w (D + 2) rRetry sRetry := SA.mk ⟨rfl, rfl, rfl, rfl⟩ (by decide) (at_leaf _ _ _ _ _ _ _ _ (by decide) (by decide) (by decide)) (at_leaf _ _ _ _ _ _ _ _ (by decide) (by decide) (by decide)) (SK.nil _ _ _) (SK.nil _ _ _)
set_option maxRecDepth 100000 in
set_option maxHeartbeats 4000000 in
theorem works_any (w : World) (hkd : Kd w) : Calls Tryd.prog 4 #[] w fun z w' => z = .returned (.bool true) ∧ Below w.heap.size w w' := by
  have hlit := Lib.hid clit_any
  have hrd := Lib.hid cread_any
  have hwr := Lib.hid cwrite_any
  have hbk := Lib.hid cback_any
  have HKD := Lib.hid hkd
  clear hkd
  go_enter Tryd.func4, Tryd.ntmps4
  go_wp2_with fail
  refine (hrd.out w).mono ?_
  rintro z w1 ⟨rfl, b1⟩
  go_wp2_with fail
  refine (hlit.out 1 w1).mono ?_
  rintro z w2 ⟨rfl, b2⟩
  have b2 := b1.trans (b2.mono b1.size)
  clear b1
  go_upto_region 2 with fail
  obtain ⟨W3, hW3⟩ : ∃ W3, W3 = (w2.alloc (.cells #[.int .u8 6, .int .i64 0, .int .u8 0, .int .i64 0, .slice none 0 0, .int .u8 0, .int .i64 0, .slice none 0 0, .slice none 0 0, .slice none 0 0] 28)).alloc (.cells #[.int .u8 2, .int .i64 0, .int .u8 1, .int .i64 0, .slice none 0 0, .int .u8 0, .int .i64 0, .slice none 0 0, .slice none 0 0, .slice none 0 0, .int .u8 4, .int .i64 0, .int .u8 1, .int .i64 1, .slice none 0 0, .int .u8 0, .int .i64 0, .slice none 0 0, .slice (some ⟨w2.heap.size, 0, none⟩) 1 1, .slice none 0 0] 28) := ⟨_, rfl⟩
  have hz2 : (w2.alloc (.cells #[.int .u8 6, .int .i64 0, .int .u8 0, .int .i64 0, .slice none 0 0, .int .u8 0, .int .i64 0, .slice none 0 0, .slice none 0 0, .slice none 0 0] 28)).heap.size = w2.heap.size + 1 := by simp
  have kr := SK.one (sa_retry w2 5)
  have kt : SK W3 8 (some ⟨w2.heap.size + 1, 0, none⟩) exTx := by
    rw [hW3, ← hz2]
    refine SK.build (fun j => if j = 0 then rRead else ⟨4, 0, 1, 1, none, 0, 0, 0, 0, none, 0, 0, some ⟨w2.heap.size, 0, none⟩, 1, 1, none, 0, 0⟩) exTx (fun j h => ?_) _ rfl
    match j, h with
    | 0, _ => exact sa_read _ 6
    | 1, _ => exact SA.mk ⟨rfl, rfl, rfl, rfl⟩ (by decide) (at_lit _ _ _ _ 1 (by decide) (by decide)) (at_no _ _ _ _) kr (SK.nil _ _ _)
  have b3 : Below w.heap.size w W3 := by
    rw [hW3]
    exact (b2.alloc b2.size _).alloc (by have := b2.size; rw [hz2]; omega) _
  rw [← hW3]
  clear hW3 kr hz2 b2
  obtain ⟨x1, x2, x3, x4, x5, x6, x7, x8⟩ := ex_flat
  have hco := count_of 8 (some ⟨w2.heap.size + 1, 0, none⟩) 2 exTx 0 W3.heap.size W3 kt (Nat.le_refl _) (by decide) (by omega) (by rw [x1]; omega) ex_few
  rw [x1, x2] at hco
  have HCO := Lib.hid hco
  have HKT := Lib.hid kt
  have HB3 := Lib.hid b3
  have HX := Lib.hid (And.intro x3 (And.intro x4 (And.intro x5 (And.intro x6 (And.intro x7 x8)))))
  clear hco kt b3 x1 x2 x3 x4 x5 x6 x7 x8
  go_wp2_with fail
  refine HCO.out.mono ?_
  rintro z w4 ⟨rfl, b4⟩
  have k4 := HKT.out.below b4
  have b4 := HB3.out.trans (b4.mono HB3.out.size)
  have HK4 := Lib.hid k4
  have HB4 := Lib.hid b4
  clear k4 b4 HKT HB3
  go_wp2_with fail
  refine (hlit.out 3 w4).mono ?_
  rintro z w5 ⟨rfl, b5⟩
  go_wp2_with fail
  refine (hwr.out w5).mono ?_
  rintro z w6 ⟨rfl, b6⟩
  have b46 := b5.trans (b6.mono b5.size)
  have k6 := HK4.out.below b46
  have b6 := HB4.out.trans (b46.mono HB4.out.size)
  clear b5 HK4 HB4 b46
  go_upto_region 4 with fail
  obtain ⟨W7, hW7⟩ : ∃ W7, W7 = (w6.alloc (.cells #[.int .u8 3, .int .i64 0, .int .u8 1, .int .i64 0, .slice none 0 0, .int .u8 1, .int .i64 1, .slice none 0 0, .slice none 0 0, .slice none 0 0] 28)).alloc (.cells #[.int .u8 5, .int .i64 0, .int .u8 1, .int .i64 3, .slice none 0 0, .int .u8 0, .int .i64 0, .slice none 0 0, .slice (some ⟨w6.heap.size, 0, none⟩) 1 1, .slice none 0 0] 28) := ⟨_, rfl⟩
  have hz6 : (w6.alloc (.cells #[.int .u8 3, .int .i64 0, .int .u8 1, .int .i64 0, .slice none 0 0, .int .u8 1, .int .i64 1, .slice none 0 0, .slice none 0 0, .slice none 0 0] 28)).heap.size = w6.heap.size + 1 := by simp
  have kw := SK.one (sa_write w6 5)
  have kl : SK W7 8 (some ⟨w6.heap.size + 1, 0, none⟩) exLoop := by
    rw [hW7, ← hz6]
    exact SK.one (r := ⟨5, 0, 1, 3, none, 0, 0, 0, 0, none, 0, 0, some ⟨w6.heap.size, 0, none⟩, 1, 1, none, 0, 0⟩) (SA.mk ⟨rfl, rfl, rfl, rfl⟩ (by decide) (at_lit _ _ _ _ 3 (by decide) (by decide)) (at_no _ _ _ _) kw (SK.nil _ _ _))
  have b67 : Below w6.heap.size w6 W7 := by
    rw [hW7]
    exact ((Below.refl _ _).alloc (Nat.le_refl _) _).alloc (by rw [hz6]; omega) _
  rw [← hW7]
  clear hW7 kw hz6
  have k7 := k6.below b67
  have b7 := b6.trans (b67.mono b6.size)
  have HK7 := Lib.hid (And.intro k7 (And.intro kl b7))
  clear k6 b6 b67 k7 kl b7
  go_wp2_with fail
  refine (hbk.out W7).mono ?_
  rintro z w8 ⟨rfl, b8⟩
  obtain ⟨k7, kl, b7⟩ := HK7.out
  have k8 := k7.below b8
  have l8 := kl.below b8
  have b8 := b7.trans (b8.mono b7.size)
  clear HK7 k7 kl b7
  go_upto_region 6 with fail
  obtain ⟨W9, hW9⟩ : ∃ W9, W9 = w8.alloc (.cells #[.int .u8 8, .int .i64 1, .int .u8 1, .int .i64 0, .slice none 0 0, .int .u8 0, .int .i64 0, .slice none 0 0, .slice none 0 0, .slice none 0 0] 28) := ⟨_, rfl⟩
  have b89 : Below w8.heap.size w8 W9 := by rw [hW9]; exact (Below.refl _ _).alloc (Nat.le_refl _) _
  have tb : Ten W9 ⟨w8.heap.size, 0, none⟩ ⟨8, 1, 1, 0, none, 0, 0, 0, 0, none, 0, 0, none, 0, 0, none, 0, 0⟩ := by rw [hW9]; exact Ten.new w8 ⟨8, 1, 1, 0, none, 0, 0, 0, 0, none, 0, 0, none, 0, 0, none, 0, 0⟩
  have hz9 : w8.heap.size < W9.heap.size := by rw [hW9]; simp
  rw [← hW9]
  clear hW9
  have k9 := k8.below b89
  have l9 := l8.below b89
  have b9 := b8.trans (b89.mono b8.size)
  have hkd9 := HKD.out.below b9 (Nat.le_refl _)
  clear k8 l8 b8 b89
  obtain ⟨x3, x4, x5, x6, x7, x8⟩ := HX.out
  have C1 := Lib.hid (cost_of 8 (some ⟨w2.heap.size + 1, 0, none⟩) 2 exTx 0 W9.heap.size W9 k9 (Nat.le_refl _) (by decide))
  have C2 := Lib.hid (fun (W' : World) (h' : Below W9.heap.size W9 W') => depth_of 8 (some ⟨w2.heap.size + 1, 0, none⟩) 2 exTx 0 W'.heap.size W' (k9.below h') (Nat.le_refl _) (by decide) (by omega))
  have C3 := Lib.hid (fun (W' : World) (h' : Below W9.heap.size W9 W') => codemay_of 8 (some ⟨w2.heap.size + 1, 0, none⟩) 2 exTx 0 (by omega) (by omega) 0 W'.heap.size W' (hkd9.below h' (Nat.le_refl _)) (k9.below h') (Nat.le_refl _) (by decide) (by omega))
  have C4 := Lib.hid (fun (W' : World) (h' : Below W9.heap.size W9 W') => cost_of 8 (some ⟨w6.heap.size + 1, 0, none⟩) 1 exLoop 0 W'.heap.size W' (l9.below h') (Nat.le_refl _) (by decide))
  have C5 := Lib.hid (fun (W' : World) (h' : Below W9.heap.size W9 W') => codemay_of 8 (some ⟨w6.heap.size + 1, 0, none⟩) 1 exLoop 0 (by omega) (by omega) 0 W'.heap.size W' (hkd9.below h' (Nat.le_refl _)) (l9.below h') (Nat.le_refl _) (by decide) (by omega))
  rw [x4] at C1
  rw [x3] at C2
  rw [x5] at C3
  rw [x6] at C4
  rw [x7] at C5
  have C6 := Lib.hid (fun (W' : World) (h' : Below W9.heap.size W9 W') => by
    have hs : SA W' 8 ⟨8, 1, 1, 0, none, 0, 0, 0, 0, none, 0, 0, none, 0, 0, none, 0, 0⟩ (.node 8 1 (eLit 0) eNo [] []) := SA.mk ⟨rfl, rfl, rfl, rfl⟩ (by decide) (at_lit _ _ _ _ 0 (by decide) (by decide)) (at_no _ _ _ _) (SK.nil _ _ _) (SK.nil _ _ _)
    have hb := ten_below W' ⟨8, 1, 1, 0, none, 0, 0, 0, 0, none, 0, 0, none, 0, 0, none, 0, 0⟩
    exact codemay_of 8 (some ⟨W'.heap.size, 0, none⟩) 1 exBad 0 (by omega) (by omega) 0 _ _ (hkd9.below (h'.trans (hb.mono h'.size)) (Nat.le_refl _)) (SK.one hs) (Nat.le_refl _) (by decide) (by omega))
  rw [x8] at C6
  have HTB := Lib.hid (fun (W' : World) (h' : Below W9.heap.size W9 W') => tb.below h' hz9)
  have HB9 := Lib.hid b9
  clear k9 l9 hkd9 x3 x4 x5 x6 x7 x8 HX HCO tb hz9 b9
  go_wp2_with fail
  refine C1.out.mono ?_
  rintro z y1 ⟨rfl, b1⟩
  go_wp2_with fail
  refine (C2.out y1 b1).mono ?_
  rintro z y2 ⟨rfl, b2⟩
  have b2 := b1.trans (b2.mono b1.size)
  clear b1
  go_wp2_with fail
  refine (C3.out y2 b2).mono ?_
  rintro z y3 ⟨rfl, b3⟩
  have b3 := b2.trans (b3.mono b2.size)
  clear b2
  go_wp2_with fail
  refine (C4.out y3 b3).mono ?_
  rintro z y4 ⟨rfl, b4⟩
  have b4 := b3.trans (b4.mono b3.size)
  clear b3
  go_wp2_with fail
  refine (C5.out y4 b4).mono ?_
  rintro z y5 ⟨rfl, b5⟩
  have b5 := b4.trans (b5.mono b4.size)
  clear b4
  have tb := HTB.out y5 b5
  have c0 := tb.c0
  have c1 := tb.c1
  have c2 := tb.c2
  have c3 := tb.c3
  have c4 := tb.c4
  have c5 := tb.c5
  have c6 := tb.c6
  have c7 := tb.c7
  have c8 := tb.c8
  have c9 := tb.c9
  dsimp only at c0 c1 c2 c3 c4 c5 c6 c7 c8 c9
  rw [Nat.zero_add] at c1 c2 c3 c4 c5 c6 c7 c8 c9
  clear tb
  go_wp2_with fail
  refine (C6.out y5 b5).mono ?_
  rintro z y6 ⟨rfl, b6⟩
  go_wp2_with fail
  go_ret
  have b7 := b5.trans ((ten_below y5 ⟨8, 1, 1, 0, none, 0, 0, 0, 0, none, 0, 0, none, 0, 0, none, 0, 0⟩).mono b5.size)
  exact ⟨rfl, HB9.out.trans ((b7.trans (b6.mono b7.size)).mono HB9.out.size)⟩
end Go.Proofs.YtfnbffkiddofnaaDoor
