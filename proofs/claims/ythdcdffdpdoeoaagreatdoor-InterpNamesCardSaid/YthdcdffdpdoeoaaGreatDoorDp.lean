/-
  CONTRACT OF PACKAGE expr's Copy: the same tree, in new memory; the memory that was there stays as it was. Condition: trees of at most 100000 parts.
-/
import Derived.Test.YthdcdffdpdoeoaaGreatDoorDy
import Derived.Test.YthdcdffdpdoeoaaGreatDoorEv
import Derived.Laws.MakeOwn
namespace Go.Proofs.YthdcdffdpdoeoaaGreatDoor
set_option maxRecDepth 100000
open Go.RowKit
set_option linter.unusedVariables false
/-- The cells of so many expressions that are nothing. -/
def noneCells (n : Nat) : Array Value := madeCells (Value.agg #[.int .u8 0, .int .i64 0, .slice none 0 0]).cells (n * 3)
theorem none_size (n : Nat) : (noneCells n).size = n * 3 := size_madeCells _ _
theorem make_any (n : Nat) (hn : n ≤ 100000) (W : World) : (Instr.makeSlice 38 (.int .i64 (n : Int)) (.int .i64 (n : Int))).run Tryz.prog W = .ok (.slice (some ⟨W.heap.size, 0, none⟩) n n) (W.alloc (.cells (noneCells n) 40)) := by
  obtain ⟨i, hi, hz, h3, hb⟩ := info_parts expr_info
  have hr := run_make (P := Tryz.prog) W 38 40 i _ Tryz.underlying38 hi hz .i64 .i64 n n (by omega) (by omega) (by rw [hb]; omega) (by omega)
  simp only [Int.toNat_natCast, h3] at hr
  exact hr
theorem eqIn_slice (d : Nat) (b : Option Addr) (l c : Nat) (w : World) : (Op.equalIn (d + 1) 38 (.slice b l c) (.slice none 0 0)).run Tryz.prog w = .ok b.isNone w := by
  cases b <;> simp [Op.equalIn, run_underlying Tryz.underlying38]
theorem eq_slice (b : Option Addr) (l c : Nat) (w : World) : (Op.equal 38 (.slice b l c) (.slice none 0 0)).run Tryz.prog w = .ok b.isNone w := eqIn_slice 9999 b l c w
theorem eql_slice (b : Option Addr) (l c : Nat) (w : World) : (Go.binOp .eql 38 (.slice b l c) (.slice none 0 0)).run Tryz.prog w = .ok (.bool b.isNone) w := by
  simp only [Go.binOp]
  simp [eq_slice]
/-- How things are behind k parts. -/
structure CI (W1 : World) (H0 : Nat) (args : List Ex) (d k : Nat) (xs : Array Value) (wr : World) : Prop where
  row : wr.heap[H0 + 2]? = some (.cells xs 40 (0, 0))
  len : xs.size = args.length * 3
  parts : ∀ j (hj : j < k) (h : j < args.length), ∃ x y z, xs[j * 3]? = some x ∧ xs[j * 3 + 1]? = some y ∧ xs[j * 3 + 2]? = some z ∧ AtS wr (fun b => H0 + 3 ≤ b ∧ b < wr.heap.size) d (.agg #[x, y, z]) args[j]
  low : Below (H0 + 2) W1 wr
  size : H0 + 3 ≤ wr.heap.size
theorem row_cell {w : World} {g i : Nat} {xs : Array Value} {t : TypeId} (h : w.heap[g]? = some (.cells xs t (0, 0))) (hi : i < xs.size) : ∃ u, w.cell? ⟨g, i, none⟩ = some u := by
  refine ⟨xs[i], ?_⟩
  simp [World.cell?, h, Array.getElem?_eq_getElem hi]
theorem row_free {w : World} {g i : Nat} {xs : Array Value} {t : TypeId} (h : w.heap[g]? = some (.cells xs t (0, 0))) : w.frozen? ⟨g, i, none⟩ = false := by simp [World.frozen?, h]
/-- One part more. -/
theorem CI.step {W1 wr w4 w5 : World} {H0 : Nat} {args : List Ex} {d k : Nat} {xs : Array Value} {x y z : Value} (inv : CI W1 H0 args d k xs wr) (hk : k < args.length) (b4 : Below wr.heap.size wr w4) (b5 : Below w4.heap.size w4 w5) (hA : At w5 w4.heap.size w5.heap.size d (.agg #[x, y, z]) args[k]) :
    CI W1 H0 args d (k + 1) (((xs.setIfInBounds (k * 3) x).setIfInBounds (k * 3 + 1) y).setIfInBounds (k * 3 + 2) z) (((w5.setCell ⟨H0 + 2, k * 3, none⟩ x).setCell ⟨H0 + 2, k * 3 + 1, none⟩ y).setCell ⟨H0 + 2, k * 3 + 2, none⟩ z) := by
  have hs := inv.size
  have hl := inv.len
  have hb := b4.trans (b5.mono b4.size)
  have hz := hb.size
  have h4 := b4.size
  have h5 := b5.size
  have r5 := (hb.block (H0 + 2) (by omega)).trans inv.row
  have r8 := heap_set_same _ _ (k * 3 + 2) z _ _ (heap_set_same _ _ (k * 3 + 1) y _ _ (heap_set_same w5 (H0 + 2) (k * 3) x _ _ r5))
  have hold : ∀ b, b ≠ H0 + 2 → (((w5.setCell ⟨H0 + 2, k * 3, none⟩ x).setCell ⟨H0 + 2, k * 3 + 1, none⟩ y).setCell ⟨H0 + 2, k * 3 + 2, none⟩ z).heap[b]? = w5.heap[b]? := fun b hb => by
    rw [heap_set_other _ _ _ _ _ hb, heap_set_other _ _ _ _ _ hb, heap_set_other _ _ _ _ _ hb]
  have hsz : (((w5.setCell ⟨H0 + 2, k * 3, none⟩ x).setCell ⟨H0 + 2, k * 3 + 1, none⟩ y).setCell ⟨H0 + 2, k * 3 + 2, none⟩ z).heap.size = w5.heap.size := by simp
  refine ⟨r8, by simp [hl], ?_, ?_, by rw [hsz]; omega⟩
  · intro j hj h
    by_cases hjk : j < k
    · obtain ⟨x', y', z', i1, i2, i3, hA'⟩ := inv.parts j hjk h
      refine ⟨x', y', z', ?_, ?_, ?_, hA'.keep ?_ ?_ d⟩
      · rw [Array.getElem?_setIfInBounds_ne (by omega), Array.getElem?_setIfInBounds_ne (by omega), Array.getElem?_setIfInBounds_ne (by omega)]; exact i1
      · rw [Array.getElem?_setIfInBounds_ne (by omega), Array.getElem?_setIfInBounds_ne (by omega), Array.getElem?_setIfInBounds_ne (by omega)]; exact i2
      · rw [Array.getElem?_setIfInBounds_ne (by omega), Array.getElem?_setIfInBounds_ne (by omega), Array.getElem?_setIfInBounds_ne (by omega)]; exact i3
      · rintro b ⟨c1, c2⟩
        exact ⟨c1, by rw [hsz]; omega⟩
      · rintro p ⟨c1, c2⟩
        refine World.cell?_of_block ?_
        rw [hold _ (by omega)]
        exact hb.block _ c2
    · obtain rfl : j = k := by omega
      refine ⟨x, y, z, ?_, ?_, ?_, (hA.toS d).keep ?_ ?_ d⟩
      · rw [Array.getElem?_setIfInBounds_ne (by omega), Array.getElem?_setIfInBounds_ne (by omega), Array.getElem?_setIfInBounds_self_of_lt (by omega)]
      · rw [Array.getElem?_setIfInBounds_ne (by omega), Array.getElem?_setIfInBounds_self_of_lt (by simp; omega)]
      · rw [Array.getElem?_setIfInBounds_self_of_lt (by simp; omega)]
      · rintro b ⟨c1, c2⟩
        exact ⟨by omega, by rw [hsz]; exact c2⟩
      · rintro p ⟨c1, c2⟩
        refine World.cell?_of_block ?_
        rw [hold _ (by omega)]
  · exact (((inv.low.trans (hb.mono (by omega))).setCell (by show H0 + 2 ≤ H0 + 2; omega) _).setCell (by show H0 + 2 ≤ H0 + 2; omega) _).setCell (by show H0 + 2 ≤ H0 + 2; omega) _
/-- What lies there at the end. -/
theorem CI.done {W1 wr W' : World} {H0 op : Nat} {n : Int} {args : List Ex} {d c' : Nat} {xs : Array Value} (inv : CI W1 H0 args d args.length xs wr) (hs : W'.heap.size = wr.heap.size) (hb : ∀ b, H0 + 2 ≤ b → W'.heap[b]? = wr.heap[b]?)
    (q1 : op < 256) (q2 : -9223372036854775808 ≤ n) (q3 : n < 9223372036854775808) (q4 : args.length ≤ 9223372036854775807) :
    At W' H0 W'.heap.size (d + 1) (.agg #[.int .u8 op, .int .i64 n, .slice (some ⟨H0 + 1 + 1, 0, none⟩) args.length c']) (.node op n args) := by
  refine ⟨q1, q2, q3, q4, _, c', rfl, fun k hk => ?_⟩
  obtain ⟨x, y, z, i1, i2, i3, hA⟩ := inv.parts k hk hk
  have hz := inv.size
  have hc : ∀ j u, xs[j]? = some u → W'.cell? ⟨H0 + 1 + 1, j, none⟩ = some u := fun j u hu => by
    have hr := (hb (H0 + 1 + 1) (by omega)).trans inv.row
    simpa [World.cell?, hr] using hu
  refine ⟨⟨H0 + 1 + 1, 0, none⟩, x, y, z, rfl, by show H0 ≤ H0 + 1 + 1; omega, by show H0 + 1 + 1 < _; omega, ?_, ?_, ?_, (hA.keep (S' := fun b => H0 ≤ b ∧ b < W'.heap.size) (fun b hb => ⟨by omega, by omega⟩) (fun p hp => World.cell?_of_block (hb _ (by omega))) d).toAt (fun b hb => hb) d⟩
  · rw [row_add]; exact hc _ _ i1
  · rw [row_add]; exact hc _ _ i2
  · rw [row_add]; exact hc _ _ i3
/-- What Copy leaves, and where its parts lie. -/
def Copied2 (w : World) (d : Nat) (e : Ex) (r : Ending) (w' : World) : Prop := Copied w d e r w' ∧
  (e.args = [] ∨ ∃ o n c, r = .returned (.agg #[o, n, .slice (some ⟨w.heap.size + 2, 0, none⟩) e.args.length c]) ∧ w.heap.size + 2 < w'.heap.size ∧ ∃ xs, w'.heap[w.heap.size + 2]? = some (.cells xs 40 (0, 0)) ∧ xs.size = e.args.length * 3)
set_option maxRecDepth 100000 in
theorem copy_full (d : Nat) : ∀ (e : Ex) (v : Value) (lo hi : Nat) (w : World), At w lo hi d v e → hi ≤ w.heap.size → cnt d e ≤ 100000 →
    Calls Tryz.prog 61 #[v] w (Copied2 w d e) := by
  induction d with
  | zero => intro e v lo hi w h; exact h.elim
  | succ d ih =>
    intro e v lo hi w h hhi hc
    obtain ⟨op, n, args⟩ := e
    obtain ⟨q1, q2, q3, q4, A, c, rfl, hk⟩ := h.open_
    have hlen : args.length ≤ 100000 := by
      have hc' : 1 + (args.map (cnt d)).sum ≤ 100000 := hc
      have := len_sum args hk.pos
      omega
    cases A with
    | none =>
      have h0 : args.length = 0 := by
        rcases Nat.eq_zero_or_pos args.length with h | h
        · exact h
        · obtain ⟨a, x, y, z, ha, _⟩ := hk 0 h
          cases ha
      have heq := eql_slice none
      have hA : At ((w.alloc (.cells #[.int .u8 op, .int .i64 n, .slice none 0 c] 40)).alloc (.cells #[.int .u8 op, .int .i64 n, .slice none 0 c] 40)) w.heap.size ((w.alloc (.cells #[.int .u8 op, .int .i64 n, .slice none 0 c] 40)).alloc (.cells #[.int .u8 op, .int .i64 n, .slice none 0 c] 40)).heap.size (d + 1) (.agg #[.int .u8 op, .int .i64 n, .slice none 0 c]) (.node op n args) :=
        ⟨q1, q2, q3, q4, none, c, by rw [h0], fun k hk => absurd hk (by omega)⟩
      have HA := Lib.hid hA
      clear hA ih h hk
      go_enter Tryz.func61, Tryz.ntmps61
      go_wp2_with fail
      exact bodyPost_ret (v := .agg #[.int .u8 op, .int .i64 n, .slice none 0 c]) (by simp [results, Tryz.results61, go_sem]) rfl ⟨⟨_, rfl, HA.out, by go_grown⟩, .inl (List.eq_nil_of_length_eq_zero h0)⟩
    | some a =>
      have heq := eql_slice (some a)
      have hmk := make_any args.length hlen
      have b1 : Below w.heap.size w (((w.alloc (.cells #[.int .u8 op, .int .i64 n, .slice (some a) args.length c] 40)).alloc (.cells #[.int .u8 0, .int .i64 0, .slice none 0 0] 40)).alloc (.cells (noneCells args.length) 40)) := by go_grown
      have z1 : (((w.alloc (.cells #[.int .u8 op, .int .i64 n, .slice (some a) args.length c] 40)).alloc (.cells #[.int .u8 0, .int .i64 0, .slice none 0 0] 40)).alloc (.cells (noneCells args.length) 40)).heap.size = w.heap.size + 3 := by simp
      have hrow : (((w.alloc (.cells #[.int .u8 op, .int .i64 n, .slice (some a) args.length c] 40)).alloc (.cells #[.int .u8 0, .int .i64 0, .slice none 0 0] 40)).alloc (.cells (noneCells args.length) 40)).heap[w.heap.size + 2]? = some (.cells (noneCells args.length) 40 (0, 0)) := by
        have := heap_alloc_new ((w.alloc (.cells #[.int .u8 op, .int .i64 n, .slice (some a) args.length c] 40)).alloc (.cells #[.int .u8 0, .int .i64 0, .slice none 0 0] 40)) (.cells (noneCells args.length) 40)
        simpa using this
      have hbox : (((w.alloc (.cells #[.int .u8 op, .int .i64 n, .slice (some a) args.length c] 40)).alloc (.cells #[.int .u8 0, .int .i64 0, .slice none 0 0] 40)).alloc (.cells (noneCells args.length) 40)).heap[w.heap.size]? = some (.cells #[.int .u8 op, .int .i64 n, .slice (some a) args.length c] 40 (0, 0)) := by
        rw [heap_alloc_old _ _ (by simp; omega), heap_alloc_old _ _ (by simp)]
        exact heap_alloc_new w _
      have hres : (((w.alloc (.cells #[.int .u8 op, .int .i64 n, .slice (some a) args.length c] 40)).alloc (.cells #[.int .u8 0, .int .i64 0, .slice none 0 0] 40)).alloc (.cells (noneCells args.length) 40)).heap[w.heap.size + 1]? = some (.cells #[.int .u8 0, .int .i64 0, .slice none 0 0] 40 (0, 0)) := by
        rw [heap_alloc_old _ _ (by simp)]
        have := heap_alloc_new (w.alloc (.cells #[.int .u8 op, .int .i64 n, .slice (some a) args.length c] 40)) (.cells #[.int .u8 0, .int .i64 0, .slice none 0 0] 40)
        simpa using this
      have HK := Lib.hid (Kids.below hk b1 hhi)
      have HC : Hid (∀ k (h : k < args.length), cnt d args[k] ≤ 100000) := fun k h => by
        have s1 := sum_take (cnt d) args k h
        have s2 := sum_le (cnt d) args (k + 1)
        have hc' : 1 + (args.map (cnt d)).sum ≤ 100000 := hc
        omega
      have IH := Lib.hid ih
      have HB1 := Lib.hid b1
      have HZ1 := Lib.hid z1
      have HROW := Lib.hid hrow
      have HBOX := Lib.hid hbox
      have HRES := Lib.hid hres
      clear hk ih h b1 z1 hrow hbox hres hc q4
      go_enter Tryz.func61, Tryz.ntmps61
      go_wp2_with fail
      obtain ⟨W3, hW3⟩ : ∃ W3, W3 = ((w.alloc (.cells #[.int .u8 op, .int .i64 n, .slice (some a) args.length c] 40)).alloc (.cells #[.int .u8 0, .int .i64 0, .slice none 0 0] 40)).alloc (.cells (noneCells args.length) 40) := ⟨_, rfl⟩
      rw [← hW3] at HK HB1 HZ1 HROW HBOX HRES ⊢
      clear hW3 hmk heq
      go_loopw [17] (fun i wr => ∃ (k : Nat) (xs : Array Value), k ≤ args.length ∧ i = .int .i64 k ∧ Hid (CI W3 w.heap.size args d k xs wr)) (fun i _ => args.length - (intOf i).toNat)
      case atStart => exact ⟨0, noneCells args.length, by omega, rfl, ⟨HROW.out, none_size _, fun j hj => absurd hj (by omega), Below.refl _ _, by have := HZ1.out; omega⟩⟩
      case round =>
        obtain ⟨k, xs, hk, rfl, INV⟩ := hrel
        by_cases hlt : k < args.length
        · obtain ⟨a', x, y, z, ha', m1, m2, g0, g1, g2, hA⟩ := HK.out.below INV.out.low (by omega) k hlt
          cases ha'
          obtain ⟨o', n', A', l', c', rfl, rfl, rfl⟩ := hA.form
          have bx := boxed_below wr (.int .u8 o') (.int .i64 n') (.slice A' l' c')
          have hsz := INV.out.size
          have HI := Lib.hid (IH.out args[k] _ _ _ _ (hA.below bx (by omega)) (by have := bx.size; omega) (HC.out k hlt))
          have HX := Lib.hid bx
          have i1 : (0 : Int) ≤ (k : Int) := by omega
          have i2 : (k : Int) < (args.length : Int) := by omega
          clear hA bx
          go_wp2_with fail
          refine HI.out.mono ?_
          rintro r w5 ⟨⟨v5, rfl, hA5, b5⟩, _⟩
          obtain ⟨x5, y5, z5, rfl⟩ := boxed_at hA5
          obtain ⟨o5, n5, A5, l5, c5, rfl, rfl, rfl⟩ := hA5.form
          clear g0 g1 g2
          have r5 := ((HX.out.trans (b5.mono HX.out.size)).block (w.heap.size + 2) (by omega)).trans INV.out.row
          have hl := INV.out.len
          have s1 := INV.out.step hlt HX.out b5 hA5
          have r6 := heap_set_same w5 (w.heap.size + 2) (k * 3) (.int .u8 o5) _ _ r5
          have r7 := heap_set_same _ (w.heap.size + 2) (k * 3 + 1) (.int .i64 n5) _ _ r6
          obtain ⟨u0, c0⟩ := row_cell (i := k * 3) r5 (by omega)
          obtain ⟨u1, c1⟩ := row_cell (i := k * 3 + 1) r6 (by simp; omega)
          obtain ⟨u2, c2⟩ := row_cell (i := k * 3 + 2) r7 (by simp; omega)
          have f0 := row_free (i := k * 3) r5
          have f1 := row_free (i := k * 3 + 1) r6
          have f2 := row_free (i := k * 3 + 2) r7
          have HS := Lib.hid s1
          rw [show w.heap.size + 2 = w.heap.size + 1 + 1 from rfl] at c0 c1 c2 f0 f1 f2
          clear r5 r6 r7 hl s1 hA5 b5
          go_wp2_with fail
          go_roundw
          case rel => exact ⟨k + 1, _, by omega, by go_num, HS.out⟩
          case measure => simp [intOf]; omega
        · obtain rfl : k = args.length := by omega
          have hsz := INV.out.size
          have rb := (INV.out.low.block w.heap.size (by omega)).trans HBOX.out
          have rr := (INV.out.low.block (w.heap.size + 1) (by omega)).trans HRES.out
          have c0 : wr.cell? ⟨w.heap.size, 0, none⟩ = some (.int .u8 op) := cell_of_row wr _ 0 _ _ (0, 0) rb
          have c1 : wr.cell? ⟨w.heap.size, 1, none⟩ = some (.int .i64 n) := cell_of_row wr _ 1 _ _ (0, 0) rb
          have c2 : wr.cell? ⟨w.heap.size, 2, none⟩ = some (.slice (some a) args.length c) := cell_of_row wr _ 2 _ _ (0, 0) rb
          have p0 : ∀ i, wr.frozen? ⟨w.heap.size, i, none⟩ = false := fun i => row_free rb
          have r0 : wr.cell? ⟨w.heap.size + 1, 0, none⟩ = some (.int .u8 0) := cell_of_row wr _ 0 _ _ (0, 0) rr
          have r1 : wr.cell? ⟨w.heap.size + 1, 1, none⟩ = some (.int .i64 0) := cell_of_row wr _ 1 _ _ (0, 0) rr
          have r2 : wr.cell? ⟨w.heap.size + 1, 2, none⟩ = some (.slice none 0 0) := cell_of_row wr _ 2 _ _ (0, 0) rr
          have q0 : ∀ i, wr.frozen? ⟨w.heap.size + 1, i, none⟩ = false := fun i => row_free rr
          have hdone := INV.out.done (op := op) (n := n) (c' := args.length) (W' := ((((wr.setCell ⟨w.heap.size, 2, none⟩ (.slice (some ⟨w.heap.size + 1 + 1, 0, none⟩) args.length args.length)).setCell ⟨w.heap.size + 1, 0, none⟩ (.int .u8 op)).setCell ⟨w.heap.size + 1, 1, none⟩ (.int .i64 n)).setCell ⟨w.heap.size + 1, 2, none⟩ (.slice (some ⟨w.heap.size + 1 + 1, 0, none⟩) args.length args.length))) (by simp) (fun b hb => by
            rw [heap_set_other _ _ _ _ _ (by omega), heap_set_other _ _ _ _ _ (by omega), heap_set_other _ _ _ _ _ (by omega), heap_set_other _ _ _ _ _ (by omega)]) q1 q2 q3 (by omega)
          have hlow : Below w.heap.size w ((((wr.setCell ⟨w.heap.size, 2, none⟩ (.slice (some ⟨w.heap.size + 1 + 1, 0, none⟩) args.length args.length)).setCell ⟨w.heap.size + 1, 0, none⟩ (.int .u8 op)).setCell ⟨w.heap.size + 1, 1, none⟩ (.int .i64 n)).setCell ⟨w.heap.size + 1, 2, none⟩ (.slice (some ⟨w.heap.size + 1 + 1, 0, none⟩) args.length args.length)) :=
            ((((HB1.out.trans (INV.out.low.mono (by omega))).setCell (by show w.heap.size ≤ w.heap.size; omega) _).setCell (by show w.heap.size ≤ w.heap.size + 1; omega) _).setCell (by show w.heap.size ≤ w.heap.size + 1; omega) _).setCell (by show w.heap.size ≤ w.heap.size + 1; omega) _
          have HR : Hid (((((wr.setCell ⟨w.heap.size, 2, none⟩ (.slice (some ⟨w.heap.size + 1 + 1, 0, none⟩) args.length args.length)).setCell ⟨w.heap.size + 1, 0, none⟩ (.int .u8 op)).setCell ⟨w.heap.size + 1, 1, none⟩ (.int .i64 n)).setCell ⟨w.heap.size + 1, 2, none⟩ (.slice (some ⟨w.heap.size + 1 + 1, 0, none⟩) args.length args.length)).heap[w.heap.size + 2]? = some (.cells xs 40 (0, 0))) := by
            show _ = _
            rw [heap_set_other _ _ _ _ _ (by omega), heap_set_other _ _ _ _ _ (by omega), heap_set_other _ _ _ _ _ (by omega), heap_set_other _ _ _ _ _ (by omega)]
            exact INV.out.row
          have HZ9 : Hid (w.heap.size + 2 < ((((wr.setCell ⟨w.heap.size, 2, none⟩ (.slice (some ⟨w.heap.size + 1 + 1, 0, none⟩) args.length args.length)).setCell ⟨w.heap.size + 1, 0, none⟩ (.int .u8 op)).setCell ⟨w.heap.size + 1, 1, none⟩ (.int .i64 n)).setCell ⟨w.heap.size + 1, 2, none⟩ (.slice (some ⟨w.heap.size + 1 + 1, 0, none⟩) args.length args.length)).heap.size) := by show _ < _; simp; omega
          have HL9 := Lib.hid INV.out.len
          have HD := Lib.hid hdone
          have HL := Lib.hid hlow
          clear rb rr hdone hlow
          go_wp2_with fail
          exact bodyPost_ret (v := .agg #[.int .u8 op, .int .i64 n, .slice (some ⟨w.heap.size + 1 + 1, 0, none⟩) args.length args.length]) (by simp [results, Tryz.results61, go_sem, r0, r1, r2]) rfl ⟨⟨_, rfl, HD.out, HL.out⟩, .inr ⟨_, _, _, rfl, HZ9.out, xs, HR.out, HL9.out⟩⟩
theorem copy_any (d : Nat) (e : Ex) (v : Value) (lo hi : Nat) (w : World) (h : At w lo hi d v e) (hhi : hi ≤ w.heap.size) (hc : cnt d e ≤ 100000) :
    Calls Tryz.prog 61 #[v] w (Copied w d e) := (copy_full d e v lo hi w h hhi hc).mono fun _ _ h => h.1
end Go.Proofs.YthdcdffdpdoeoaaGreatDoor
