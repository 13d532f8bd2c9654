/-
  PACKAGE event's parts: the iterator that it hands back; the contract of its closure. Conditions: as they stand.
-/
import Derived.Test.YtkfcglgikemefaaDoorWg
namespace Go.Proofs.YtkfcglgikemefaaDoor
set_option maxRecDepth 100000
open Go.RowKit Go.Shelf
set_option linter.unusedVariables false
attribute [local go_sem] Oper.semAt_some
theorem PBox.new (w : World) (p : Part) : PBox (w.alloc (.cells #[.func (.func (fnP p.wh)) #[] #[], .int .i64 p.lo, .int .i64 p.hi] 149)) w.heap.size p :=
  ⟨World.cell?_alloc_mark w _ _ (0, 0) 0, World.cell?_alloc_mark w _ _ (0, 0) 1, World.cell?_alloc_mark w _ _ (0, 0) 2⟩
theorem PBox.al {w : World} {g : Nat} {p : Part} (h : PBox w g p) (o : Obj) : PBox (w.alloc o) g p := h.below ((Below.refl _ _).alloc (Nat.le_refl _) o)
theorem PBox.new1 (w : World) (g : Nat) (hg : w.heap.size = g) (p : Part) : PBox (w.alloc (.cells #[.func (.func (fnP p.wh)) #[] #[], .int .i64 p.lo, .int .i64 p.hi] 149)) g p := hg ▸ PBox.new w p
def bx0 (V S : Int) (W : World) : World := (W).alloc (.cells #[.func (.func 93) #[] #[], .int .i64 (0), .int .i64 (5)] 149)
def bx1 (V S : Int) (W : World) : World := (bx0 V S W).alloc (.cells #[.func (.func 94) #[] #[], .int .i64 (0), .int .i64 (1099511627776)] 149)
def bx2 (V S : Int) (W : World) : World := (bx1 V S W).alloc (.cells #[.func (.func 94) #[] #[], .int .i64 (1), .int .i64 (1099511627776)] 149)
def bx3 (V S : Int) (W : World) : World := (bx2 V S W).alloc (.cells #[.func (.func 95) #[] #[], .int .i64 (0), .int .i64 (S - 1)] 149)
def bx4 (V S : Int) (W : World) : World := (bx3 V S W).alloc (.cells #[.func (.func 95) #[] #[], .int .i64 (0), .int .i64 (V - 1)] 149)
def bx5 (V S : Int) (W : World) : World := (bx4 V S W).alloc (.cells #[.func (.func 96) #[] #[], .int .i64 (-9223372036854775808), .int .i64 (9223372036854775807)] 149)
def bx6 (V S : Int) (W : World) : World := (bx5 V S W).alloc (.cells #[.func (.func 97) #[] #[], .int .i64 (1), .int .i64 (6)] 149)
theorem bx_size0 (V S : Int) (W : World) : (bx0 V S W).heap.size = W.heap.size + 1 := by simp [bx0]
theorem bx_size1 (V S : Int) (W : World) : (bx1 V S W).heap.size = W.heap.size + 2 := by simp [bx1, bx_size0]
theorem bx_size2 (V S : Int) (W : World) : (bx2 V S W).heap.size = W.heap.size + 3 := by simp [bx2, bx_size1]
theorem bx_size3 (V S : Int) (W : World) : (bx3 V S W).heap.size = W.heap.size + 4 := by simp [bx3, bx_size2]
theorem bx_size4 (V S : Int) (W : World) : (bx4 V S W).heap.size = W.heap.size + 5 := by simp [bx4, bx_size3]
theorem bx_size5 (V S : Int) (W : World) : (bx5 V S W).heap.size = W.heap.size + 6 := by simp [bx5, bx_size4]
theorem bx_size6 (V S : Int) (W : World) : (bx6 V S W).heap.size = W.heap.size + 7 := by simp [bx6, bx_size5]
theorem bx_below0 (V S : Int) (W : World) : Below W.heap.size W (bx0 V S W) := (Below.refl _ _).alloc (Nat.le_refl _) _
theorem bx_below1 (V S : Int) (W : World) : Below W.heap.size W (bx1 V S W) := (bx_below0 V S W).alloc (by rw [bx_size0]; omega) _
theorem bx_below2 (V S : Int) (W : World) : Below W.heap.size W (bx2 V S W) := (bx_below1 V S W).alloc (by rw [bx_size1]; omega) _
theorem bx_below3 (V S : Int) (W : World) : Below W.heap.size W (bx3 V S W) := (bx_below2 V S W).alloc (by rw [bx_size2]; omega) _
theorem bx_below4 (V S : Int) (W : World) : Below W.heap.size W (bx4 V S W) := (bx_below3 V S W).alloc (by rw [bx_size3]; omega) _
theorem bx_below5 (V S : Int) (W : World) : Below W.heap.size W (bx5 V S W) := (bx_below4 V S W).alloc (by rw [bx_size4]; omega) _
theorem bx_below6 (V S : Int) (W : World) : Below W.heap.size W (bx6 V S W) := (bx_below5 V S W).alloc (by rw [bx_size5]; omega) _
theorem bx_box0 (V S : Int) (W : World) : PBox (bx6 V S W) (W.heap.size + 0) ⟨0, 0, 5⟩ := by
  have q := PBox.new1 W _ rfl ⟨0, 0, 5⟩
  have h0 : PBox (bx0 V S W) (W.heap.size + 0) ⟨0, 0, 5⟩ := q
  have h1 : PBox (bx1 V S W) (W.heap.size + 0) ⟨0, 0, 5⟩ := h0.al _
  have h2 : PBox (bx2 V S W) (W.heap.size + 0) ⟨0, 0, 5⟩ := h1.al _
  have h3 : PBox (bx3 V S W) (W.heap.size + 0) ⟨0, 0, 5⟩ := h2.al _
  have h4 : PBox (bx4 V S W) (W.heap.size + 0) ⟨0, 0, 5⟩ := h3.al _
  have h5 : PBox (bx5 V S W) (W.heap.size + 0) ⟨0, 0, 5⟩ := h4.al _
  have h6 : PBox (bx6 V S W) (W.heap.size + 0) ⟨0, 0, 5⟩ := h5.al _
  exact h6
theorem bx_box1 (V S : Int) (W : World) : PBox (bx6 V S W) (W.heap.size + 1) ⟨2, 0, 1099511627776⟩ := by
  have q := PBox.new1 (bx0 V S W) _ (bx_size0 V S W) ⟨2, 0, 1099511627776⟩
  have h1 : PBox (bx1 V S W) (W.heap.size + 1) ⟨2, 0, 1099511627776⟩ := q
  have h2 : PBox (bx2 V S W) (W.heap.size + 1) ⟨2, 0, 1099511627776⟩ := h1.al _
  have h3 : PBox (bx3 V S W) (W.heap.size + 1) ⟨2, 0, 1099511627776⟩ := h2.al _
  have h4 : PBox (bx4 V S W) (W.heap.size + 1) ⟨2, 0, 1099511627776⟩ := h3.al _
  have h5 : PBox (bx5 V S W) (W.heap.size + 1) ⟨2, 0, 1099511627776⟩ := h4.al _
  have h6 : PBox (bx6 V S W) (W.heap.size + 1) ⟨2, 0, 1099511627776⟩ := h5.al _
  exact h6
theorem bx_box2 (V S : Int) (W : World) : PBox (bx6 V S W) (W.heap.size + 2) ⟨2, 1, 1099511627776⟩ := by
  have q := PBox.new1 (bx1 V S W) _ (bx_size1 V S W) ⟨2, 1, 1099511627776⟩
  have h2 : PBox (bx2 V S W) (W.heap.size + 2) ⟨2, 1, 1099511627776⟩ := q
  have h3 : PBox (bx3 V S W) (W.heap.size + 2) ⟨2, 1, 1099511627776⟩ := h2.al _
  have h4 : PBox (bx4 V S W) (W.heap.size + 2) ⟨2, 1, 1099511627776⟩ := h3.al _
  have h5 : PBox (bx5 V S W) (W.heap.size + 2) ⟨2, 1, 1099511627776⟩ := h4.al _
  have h6 : PBox (bx6 V S W) (W.heap.size + 2) ⟨2, 1, 1099511627776⟩ := h5.al _
  exact h6
theorem bx_box3 (V S : Int) (W : World) : PBox (bx6 V S W) (W.heap.size + 3) ⟨1, 0, S - 1⟩ := by
  have q := PBox.new1 (bx2 V S W) _ (bx_size2 V S W) ⟨1, 0, S - 1⟩
  have h3 : PBox (bx3 V S W) (W.heap.size + 3) ⟨1, 0, S - 1⟩ := q
  have h4 : PBox (bx4 V S W) (W.heap.size + 3) ⟨1, 0, S - 1⟩ := h3.al _
  have h5 : PBox (bx5 V S W) (W.heap.size + 3) ⟨1, 0, S - 1⟩ := h4.al _
  have h6 : PBox (bx6 V S W) (W.heap.size + 3) ⟨1, 0, S - 1⟩ := h5.al _
  exact h6
theorem bx_box4 (V S : Int) (W : World) : PBox (bx6 V S W) (W.heap.size + 4) ⟨1, 0, V - 1⟩ := by
  have q := PBox.new1 (bx3 V S W) _ (bx_size3 V S W) ⟨1, 0, V - 1⟩
  have h4 : PBox (bx4 V S W) (W.heap.size + 4) ⟨1, 0, V - 1⟩ := q
  have h5 : PBox (bx5 V S W) (W.heap.size + 4) ⟨1, 0, V - 1⟩ := h4.al _
  have h6 : PBox (bx6 V S W) (W.heap.size + 4) ⟨1, 0, V - 1⟩ := h5.al _
  exact h6
theorem bx_box5 (V S : Int) (W : World) : PBox (bx6 V S W) (W.heap.size + 5) ⟨3, -9223372036854775808, 9223372036854775807⟩ := by
  have q := PBox.new1 (bx4 V S W) _ (bx_size4 V S W) ⟨3, -9223372036854775808, 9223372036854775807⟩
  have h5 : PBox (bx5 V S W) (W.heap.size + 5) ⟨3, -9223372036854775808, 9223372036854775807⟩ := q
  have h6 : PBox (bx6 V S W) (W.heap.size + 5) ⟨3, -9223372036854775808, 9223372036854775807⟩ := h5.al _
  exact h6
theorem bx_box6 (V S : Int) (W : World) : PBox (bx6 V S W) (W.heap.size + 6) ⟨4, 1, 6⟩ := by
  have q := PBox.new1 (bx5 V S W) _ (bx_size5 V S W) ⟨4, 1, 6⟩
  have h6 : PBox (bx6 V S W) (W.heap.size + 6) ⟨4, 1, 6⟩ := q
  exact h6
theorem cons_ofW {us : List Value} {n : Nat} (h : us.length = n + 1) : ∃ z r, us = z :: r ∧ r.length = n := by
  match us, h with
  | z :: r, h => exact ⟨z, r, rfl, by simpa using h⟩
theorem list42 {us : List Value} (h : us.length = 42) : ∃ z0 z1 z2 z3 z4 z5 z6 z7 z8 z9 z10 z11 z12 z13 z14 z15 z16 z17 z18 z19 z20 z21 z22 z23 z24 z25 z26 z27 z28 z29 z30 z31 z32 z33 z34 z35 z36 z37 z38 z39 z40 z41 : Value, us = [z0, z1, z2, z3, z4, z5, z6, z7, z8, z9, z10, z11, z12, z13, z14, z15, z16, z17, z18, z19, z20, z21, z22, z23, z24, z25, z26, z27, z28, z29, z30, z31, z32, z33, z34, z35, z36, z37, z38, z39, z40, z41] := by
  obtain ⟨z0, r0, rfl, h0⟩ := cons_ofW h
  obtain ⟨z1, r1, rfl, h1⟩ := cons_ofW h0
  obtain ⟨z2, r2, rfl, h2⟩ := cons_ofW h1
  obtain ⟨z3, r3, rfl, h3⟩ := cons_ofW h2
  obtain ⟨z4, r4, rfl, h4⟩ := cons_ofW h3
  obtain ⟨z5, r5, rfl, h5⟩ := cons_ofW h4
  obtain ⟨z6, r6, rfl, h6⟩ := cons_ofW h5
  obtain ⟨z7, r7, rfl, h7⟩ := cons_ofW h6
  obtain ⟨z8, r8, rfl, h8⟩ := cons_ofW h7
  obtain ⟨z9, r9, rfl, h9⟩ := cons_ofW h8
  obtain ⟨z10, r10, rfl, h10⟩ := cons_ofW h9
  obtain ⟨z11, r11, rfl, h11⟩ := cons_ofW h10
  obtain ⟨z12, r12, rfl, h12⟩ := cons_ofW h11
  obtain ⟨z13, r13, rfl, h13⟩ := cons_ofW h12
  obtain ⟨z14, r14, rfl, h14⟩ := cons_ofW h13
  obtain ⟨z15, r15, rfl, h15⟩ := cons_ofW h14
  obtain ⟨z16, r16, rfl, h16⟩ := cons_ofW h15
  obtain ⟨z17, r17, rfl, h17⟩ := cons_ofW h16
  obtain ⟨z18, r18, rfl, h18⟩ := cons_ofW h17
  obtain ⟨z19, r19, rfl, h19⟩ := cons_ofW h18
  obtain ⟨z20, r20, rfl, h20⟩ := cons_ofW h19
  obtain ⟨z21, r21, rfl, h21⟩ := cons_ofW h20
  obtain ⟨z22, r22, rfl, h22⟩ := cons_ofW h21
  obtain ⟨z23, r23, rfl, h23⟩ := cons_ofW h22
  obtain ⟨z24, r24, rfl, h24⟩ := cons_ofW h23
  obtain ⟨z25, r25, rfl, h25⟩ := cons_ofW h24
  obtain ⟨z26, r26, rfl, h26⟩ := cons_ofW h25
  obtain ⟨z27, r27, rfl, h27⟩ := cons_ofW h26
  obtain ⟨z28, r28, rfl, h28⟩ := cons_ofW h27
  obtain ⟨z29, r29, rfl, h29⟩ := cons_ofW h28
  obtain ⟨z30, r30, rfl, h30⟩ := cons_ofW h29
  obtain ⟨z31, r31, rfl, h31⟩ := cons_ofW h30
  obtain ⟨z32, r32, rfl, h32⟩ := cons_ofW h31
  obtain ⟨z33, r33, rfl, h33⟩ := cons_ofW h32
  obtain ⟨z34, r34, rfl, h34⟩ := cons_ofW h33
  obtain ⟨z35, r35, rfl, h35⟩ := cons_ofW h34
  obtain ⟨z36, r36, rfl, h36⟩ := cons_ofW h35
  obtain ⟨z37, r37, rfl, h37⟩ := cons_ofW h36
  obtain ⟨z38, r38, rfl, h38⟩ := cons_ofW h37
  obtain ⟨z39, r39, rfl, h39⟩ := cons_ofW h38
  obtain ⟨z40, r40, rfl, h40⟩ := cons_ofW h39
  obtain ⟨z41, r41, rfl, h41⟩ := cons_ofW h40
  obtain rfl := List.length_eq_zero_iff.1 h41
  exact ⟨z0, z1, z2, z3, z4, z5, z6, z7, z8, z9, z10, z11, z12, z13, z14, z15, z16, z17, z18, z19, z20, z21, z22, z23, z24, z25, z26, z27, z28, z29, z30, z31, z32, z33, z34, z35, z36, z37, z38, z39, z40, z41, rfl⟩
theorem parts_len (k : Nat) (V S : Int) : (partsK k V S).length ≤ 2 := by
  unfold partsK
  split <;> simp
theorem cell14 {w : World} {g k : Nat} {s : Nat → Value} {V S : Int} (h : w.heap[g]? = some (.cells #[.slice none 0 0, s 1, s 2, s 3, s 4, s 5, s 6, s 7, s 8, s 9, s 10, s 11, s 12, s 13] 166 (0, 0))) (hs : ∀ j, SlP (partsK j V S) (s j) w) (hk : k < 14) : ∃ v, w.cell? ⟨g, k, none⟩ = some v ∧ SlP (partsK k V S) v w := by
  have hc : w.cell? ⟨g, k, none⟩ = (#[.slice none 0 0, s 1, s 2, s 3, s 4, s 5, s 6, s 7, s 8, s 9, s 10, s 11, s 12, s 13] : Array Value)[k]? := cell_of_row w g k _ _ _ h
  rw [hc]
  match k, hk with
  | 0, _ => exact ⟨_, rfl, .inl ⟨rfl, rfl⟩⟩
  | 1, _ => exact ⟨_, rfl, hs 1⟩
  | 2, _ => exact ⟨_, rfl, hs 2⟩
  | 3, _ => exact ⟨_, rfl, hs 3⟩
  | 4, _ => exact ⟨_, rfl, hs 4⟩
  | 5, _ => exact ⟨_, rfl, hs 5⟩
  | 6, _ => exact ⟨_, rfl, hs 6⟩
  | 7, _ => exact ⟨_, rfl, hs 7⟩
  | 8, _ => exact ⟨_, rfl, hs 8⟩
  | 9, _ => exact ⟨_, rfl, hs 9⟩
  | 10, _ => exact ⟨_, rfl, hs 10⟩
  | 11, _ => exact ⟨_, rfl, hs 11⟩
  | 12, _ => exact ⟨_, rfl, hs 12⟩
  | 13, _ => exact ⟨_, rfl, hs 13⟩
  | k + 14, h => exact absurd h (by omega)
theorem own_belowW {β : Type} {B : Nat} {I : β → World → Prop} (h : OwnFrom B I) {s : β} {A C : World} (hb : Below A.heap.size A C) (hs : I s A) : I s C :=
  h s A C none hs ⟨hb.os, hb.tape, hb.output, hb.size, fun i hi _ => hb.block i hi⟩ (fun r e => by cases e)
theorem flat_part (L : List Part) (j i : Nat) (hj : j < L.length) (hi : i < 3) : (L.flatMap partC)[j * 3 + i]? = (partC L[j])[i]? := by
  induction L generalizing j with
  | nil => exact absurd hj (by simp)
  | cons p r ih =>
    rw [List.flatMap_cons]
    cases j with
    | zero => rw [List.getElem?_append_left (by simp [partC]; omega)]; simp
    | succ j =>
      rw [List.getElem?_append_right (by simp [partC]; omega)]
      have := ih j (by simpa using hj)
      rw [show (j + 1) * 3 + i - (partC p).length = j * 3 + i by simp [partC]; omega, this]
      simp
theorem row_part {w : World} {g j : Nat} {L : List Part} (h : w.heap[g]? = some (.cells (L.flatMap partC).toArray 149 (0, 0))) (hj : j < L.length) :
    w.cell? ⟨g, j * 3, none⟩ = some (.func (.func (fnP L[j].wh)) #[] #[]) ∧ w.cell? ⟨g, j * 3 + 1, none⟩ = some (.int .i64 L[j].lo) ∧ w.cell? ⟨g, j * 3 + 2, none⟩ = some (.int .i64 L[j].hi) := by
  have key : ∀ i, i < 3 → w.cell? ⟨g, j * 3 + i, none⟩ = (partC L[j])[i]? := fun i hi => by
    rw [cell_of_row w g _ _ _ _ h, List.getElem?_toArray]
    exact flat_part L j i hj hi
  exact ⟨key 0 (by omega), key 1 (by omega), key 2 (by omega)⟩
def encP (p : Part) : Array Value := #[partV p]
set_option maxRecDepth 100000 in
set_option maxHeartbeats 4000000 in
theorem parts_in (n : Nat) (hn : 3 ≤ n) (l B3 B4 B5 n₀ : Nat) (k : Nat) (hk : k < 14) (V S : Int) (v1 : 1 ≤ V) (v2 : V ≤ 32) (s1 : 1 ≤ S) (s2 : S ≤ 32) (J Jx : List Part → World → Prop) (W : World)
    (hY : ∀ pre x W1, J pre W1 → pre.length < 2 → YieldAt Fence.wide (n - 1) Tryd.prog l (encP x) W1 fun e W' => (e = .returned (.bool true) ∧ J (pre ++ [x]) W' ∧ KT n₀ 149 W1 W' ∧ KeepsFrom W.heap.size W1 W') ∨ (e = .returned (.bool false) ∧ Jx (pre ++ [x]) W' ∧ KeepsFrom W.heap.size W1 W'))
    (hn₀ : n₀ ≤ W.heap.size) (hJ : OwnFrom W.heap.size J) (b3 : _root_.Go.Boxed W B3 5 (.int .u8 k)) (b4 : _root_.Go.Boxed W B4 3 (.int .i64 V)) (b5 : _root_.Go.Boxed W B5 3 (.int .i64 S)) (h0 : J [] W) :
    CallsIn Fence.wide n Tryd.prog 92 #[.func (.yield l) #[] #[], .pointer (some ⟨B5, 0, none⟩), .pointer (some ⟨B4, 0, none⟩), .pointer (some ⟨B3, 0, none⟩)] W fun e W' => (∃ v, e = .returned v) ∧
      ((∃ ys, ys = partsK k V S ∧ J ys W') ∨ (∃ pre, pre <+: partsK k V S ∧ Jx pre W')) := by
  obtain ⟨L, hL⟩ : ∃ L, L = partsK k V S := ⟨_, rfl⟩
  rw [← hL]
  have HLe := Lib.hid hL
  have HL : L.length ≤ 2 := by rw [hL]; exact parts_len k V S
  clear hL
  have h1 : 1 ≤ n := by omega
  have c3 := b3.cell
  have c4 := b4.cell
  have c5 := b5.cell
  have l3 := b3.lt
  have l4 := b4.lt
  have l5 := b5.lt
  have l51 : B5 < W.heap.size + 1 := by omega
  have l52 : B5 < W.heap.size + 1 + 1 := by omega
  have l41 : B4 < W.heap.size + 1 := by omega
  have l42 : B4 < W.heap.size + 1 + 1 := by omega
  have l43 : B4 < W.heap.size + 1 + 1 + 1 := by omega
  have st := fun (k : Nat) (w : World) (a : Addr) (m : Mode) => run_store Tryd.prog w a (.func (.func k) #[] #[]) m rfl
  have HY := Lib.hid hY
  have HB3 := Lib.hid b3
  have HJ := Lib.hid hJ
  have H0 := Lib.hid h0
  clear hY hJ h0 b3 b4 b5
  refine callsIn_of_wp Tryd.func92 rfl trivial ?_ rfl
  simp only [Tryd.ntmps92, List.size_toArray, List.length_cons, List.length_nil, Nat.reduceAdd, Nat.reduceSub, Array.replicate_succ, Array.replicate_zero, List.push_toArray, List.append_toArray, List.nil_append, List.cons_append]
  gi_wp2
  change Code.wpIn _ _ _ _ _ _ (bx6 V S W)
  refine wpIn_wide.2 (regP rfl _ (by simp) _ V S (fun j => W.heap.size + (j - 5)) rfl rfl rfl rfl rfl rfl rfl (bx_box0 V S W) (bx_box1 V S W) (bx_box2 V S W) (bx_box3 V S W) (bx_box4 V S W) (bx_box5 V S W) (bx_box6 V S W) ?_)
  intro us X g s w hu hb hg1 hg2 hs h41
  have hB : Below W.heap.size W w := (bx_below6 V S W).trans (hb.mono (bx_below6 V S W).size)
  obtain ⟨v, cg, hv⟩ := cell14 hg2 hs hk
  have c3' : w.cell? ⟨B3, 0, none⟩ = some (.int .u8 k) := (hB.cell (p := ⟨B3, 0, none⟩) l3).trans c3
  have hgl := (Array.getElem?_eq_some_iff.1 hg2).1
  obtain ⟨z0, z1, z2, z3, z4, z5, z6, z7, z8, z9, z10, z11, z12, z13, z14, z15, z16, z17, z18, z19, z20, z21, z22, z23, z24, z25, z26, z27, z28, z29, z30, z31, z32, z33, z34, z35, z36, z37, z38, z39, z40, z41, rfl⟩ := list42 hu
  obtain rfl : z41 = .pointer (some ⟨g, 0, none⟩) := h41
  rw [← HLe.out] at hv
  obtain ⟨A, c, rfl, hA⟩ : ∃ A c, v = .slice A L.length c ∧ (L ≠ [] → ∃ gb, A = some ⟨gb, 0, none⟩ ∧ w.heap[gb]? = some (.cells (L.flatMap partC).toArray 149 (0, 0))) := by
    rcases hv with ⟨h, h'⟩ | ⟨gb, h, h'⟩
    · subst h
      exact ⟨none, 0, h', fun h => absurd rfl h⟩
    · exact ⟨_, _, h, fun _ => ⟨gb, rfl, h'⟩⟩
  have HA := Lib.hid hA
  have HB := Lib.hid hB
  have hJ0 : J [] w := own_belowW HJ.out hB H0.out
  have i1 : (0 : Int) ≤ (k : Int) := by omega
  have i2 : (k : Int) < 14 := by omega
  clear hv hs hg2 hb hg1 hA hB c3 c4 c5 hu
  simp only [dsP, putAll, List.setIfInBounds_toArray, List.set_cons_succ, List.set_cons_zero]
  have HJ0 := Lib.hid hJ0
  clear hJ0 l3 l4 l5 l51 l52 l41 l42 l43
  gi_wp2
  gi_loopw [71] (fun i wr => ∃ j : Nat, j ≤ L.length ∧ i = .int .i64 j ∧ Hid (J (L.take j) wr) ∧ Hid (KT n₀ 149 w wr) ∧ Hid (KeepsFrom W.heap.size w wr)) (fun i _ => L.length - (intOf i).toNat)
  case atStart => exact ⟨0, by omega, rfl, HJ0.out, KT.refl _, KeepsFrom.refl _ _⟩
  case round =>
    obtain ⟨j, hj, rfl, hJ, hK, hF⟩ := hrel
    by_cases hlt : j < L.length
    · obtain ⟨gb, rfl, hgb⟩ := HA.out (by intro h; rw [h] at hlt; exact absurd hlt (by simp))
      have hrow := hK.out.row gb _ _ hgb
      obtain ⟨p, hp⟩ : ∃ p, p = L[j] := ⟨_, rfl⟩
      have hc := row_part hrow hlt
      rw [← hp] at hc
      obtain ⟨c0, c1, c2⟩ := hc
      obtain ⟨fp, hfp⟩ : ∃ fp, fp = fnP p.wh := ⟨_, rfl⟩
      have hJ1 : J (L.take j) (wr.alloc (.cells #[.func (.func (fnP p.wh)) #[] #[], .int .i64 p.lo, .int .i64 p.hi] 149)) := own_belowW HJ.out ((Below.refl _ _).alloc (Nat.le_refl _) _) hJ.out
      obtain ⟨fn5, tmps5, assign5, body5, hy5, hR5⟩ := HY.out (L.take j) p _ hJ1 (by simp; omega)
      dsimp only [encP, partV] at hy5
      rw [← hfp] at hy5 hR5 c0
      have i3 : (j : Int) < (L.length : Int) := by omega
      have i4 : (0 : Int) ≤ (j : Int) := by omega
      have HR5 := Lib.hid hR5
      have HP := Lib.hid hp
      clear hrow hp hfp hJ1 hgb hR5
      gi_wp2
      refine HR5.out.mono ?_
      rintro e W5 (⟨rfl, hJ5, hk5, hf5⟩ | ⟨rfl, hx5, hf5⟩)
      · gi_wp2
        have HJ2 : Hid (J (L.take (j + 1)) W5) := by
          show J _ _
          rw [List.take_succ_eq_append_getElem hlt, ← HP.out]
          exact hJ5
        have HK2 : Hid (KT n₀ 149 w W5) := hK.out.trans ((KT.alloc _ (Nat.le_trans hn₀ (Nat.le_trans HB.out.size hK.out.low.size))).trans hk5)
        have HF2 : Hid (KeepsFrom W.heap.size w W5) := hF.out.trans ((KeepsFrom.of_grownBy (World.grownBy_alloc wr _ none) (fun j e => by cases e)).trans hf5)
        go_roundw
        case rel => exact ⟨j + 1, by omega, by go_num, HJ2, HK2, HF2⟩
        case measure => simp [intOf]; omega
      · gi_wp2
        refine bodyPost_ret (results_none rfl _ _ _) rfl ⟨⟨_, rfl⟩, .inr ⟨L.take j ++ [p], ?_, hx5⟩⟩
        rw [HP.out, ← List.take_succ_eq_append_getElem hlt]
        exact List.take_prefix _ _
    · obtain rfl : j = L.length := by omega
      gi_wp2
      go_end0
      refine ⟨⟨_, rfl⟩, .inl ⟨_, rfl, ?_⟩⟩
      have := hJ.out
      rwa [List.take_length] at this
/-- What parts hands back. -/
theorem parts_seq (n : Nat) (hn : 3 ≤ n) (B3 B4 B5 n₀ : Nat) (k : Nat) (hk : k < 14) (V S : Int) (v1 : 1 ≤ V) (v2 : V ≤ 32) (s1 : 1 ≤ S) (s2 : S ≤ 32) (w : World) (hn₀ : n₀ ≤ w.heap.size) (b3 : _root_.Go.Boxed w B3 5 (.int .u8 k)) (b4 : _root_.Go.Boxed w B4 3 (.int .i64 V)) (b5 : _root_.Go.Boxed w B5 3 (.int .i64 S)) :
    SeqO Fence.wide n Tryd.prog 92 #[.pointer (some ⟨B5, 0, none⟩), .pointer (some ⟨B4, 0, none⟩), .pointer (some ⟨B3, 0, none⟩)] encP (KT n₀ 149) (fun ys => ys = partsK k V S) (fun ys => ys <+: partsK k V S) 2 w := fun l J Jx W hW hJ hJx hY h0 =>
  parts_in n hn l B3 B4 B5 n₀ k hk V S v1 v2 s1 s2 J Jx W hY (Nat.le_trans hn₀ hW.size) hJ ((hW.block _ b3.lt).trans b3) ((hW.block _ b4.lt).trans b4) ((hW.block _ b5.lt).trans b5) h0
theorem parts_call (F : Fence) (n : Nat) (hf : F.fn 81) (hro : F.round = none) (k : Nat) (V S : Int) (w : World) :
    CallsIn F n Tryd.prog 81 #[.int .u8 k, .int .i64 V, .int .i64 S] w fun e w' => e = .returned (.func (.func 92) #[] #[.pointer (some ⟨w.heap.size + 1 + 1, 0, none⟩), .pointer (some ⟨w.heap.size + 1, 0, none⟩), .pointer (some ⟨w.heap.size, 0, none⟩)]) ∧ w' = ((w.alloc (.cells #[.int .u8 k] 5)).alloc (.cells #[.int .i64 V] 3)).alloc (.cells #[.int .i64 S] 3) := by
  refine callsIn_of_wp Tryd.func81 rfl hf ?_ hro
  simp only [Tryd.ntmps81, List.size_toArray, List.length_cons, List.length_nil, Nat.reduceAdd, Nat.reduceSub, Array.replicate_succ, Array.replicate_zero, List.push_toArray, List.append_toArray, List.nil_append, List.cons_append]
  gi_wp2
  go_ret
  exact ⟨rfl, rfl⟩
end Go.Proofs.YtkfcglgikemefaaDoor
