/-
  PACKAGE delta (layer 14), several texts in one: Dla, Dlb, Dlc, Dld, Dle, Dlf. Conditions: as they stand.
-/
import Derived.Test.YteigglhhnemngaaGreatDoorQ01
import Derived.Test.YteigglhhnemngaaGreatDoorQ02
import Derived.Test.YteigglhhnemngaaGreatDoorQ06
import Derived.Test.YteigglhhnemngaaGreatDoorQ08
namespace Go.Proofs.YteigglhhnemngaaGreatDoor
set_option maxRecDepth 100000
open Go.RowKit Go.Deep
set_option linter.unusedVariables false
set_option linter.unusedSimpArgs false
structure Cd where
  T : Int
  V : Int
  S : Int
  last : Int
  clk : Int
  bg : Nat → Int
  bp : Nat → Int
  xs : Nat → Int
structure CdOk (q : Cd) : Prop where
  T0 : 1 ≤ q.T
  T1 : q.T ≤ 6
  V0 : 1 ≤ q.V
  V1 : q.V ≤ 32
  S0 : 1 ≤ q.S
  S1 : q.S ≤ q.V
  l0 : 0 ≤ q.last
  l1 : q.last < q.T
  c0 : 0 ≤ q.clk
  c1 : q.clk ≤ 1099511627776
  bg : ∀ t, 0 ≤ q.bg t ∧ q.bg t ≤ q.clk
  bp : ∀ t, 0 ≤ q.bp t ∧ q.bp t ≤ q.clk
  xs : ∀ v, -9223372036854775808 ≤ q.xs v ∧ q.xs v ≤ 9223372036854775807
def cellD (q : Cd) (i : Nat) : Int := if i = 0 then q.T else if i = 1 then q.V else if i = 2 then q.S else if i = 3 then q.last else if i = 4 then q.clk else if i < 17 then (if (i - 5) % 2 = 0 then q.bg ((i - 5) / 2) else q.bp ((i - 5) / 2)) else q.xs (i - 17)
def CodAt (w : World) (g : Nat) (q : Cd) : Prop := w.heap[g]? = some (.cells (rowC 49 (cellD q)) 102 (0, 0))
def EvO (w : World) (g : Nat) (e : Ev) : Prop := w.heap[g]? = some (.cells (evC e) 50 (0, 0))
section
variable {w w' : World} {g g' : Nat} {q : Cd} {e : Ev}
theorem CodAt.lt (h : CodAt w g q) : g < w.heap.size := (Array.getElem?_eq_some_iff.1 h).1
theorem CodAt.same (h : CodAt w g q) (e : w'.heap[g]? = w.heap[g]?) : CodAt w' g q := e.trans h
theorem CodAt.below (h : CodAt w g q) (hb : Below w.heap.size w w') : CodAt w' g q := h.same (hb.block g h.lt)
theorem CodAt.cell (h : CodAt w g q) {i : Nat} (hi : i < 49) : w.cell? ⟨g, i, none⟩ = some (.int .i64 (cellD q i)) := (cell_of_row w g i _ _ _ h).trans (rowC_get 49 _ hi)
theorem CodAt.fr (h : CodAt w g q) (i : Nat) : w.frozen? ⟨g, i, none⟩ = false := by
  unfold World.frozen?
  rw [h]
  rfl
theorem CodAt.cT (h : CodAt w g q) : w.cell? ⟨g, 0, none⟩ = some (.int .i64 q.T) := h.cell (by omega)
theorem CodAt.cV (h : CodAt w g q) : w.cell? ⟨g, 1, none⟩ = some (.int .i64 q.V) := h.cell (by omega)
theorem CodAt.cS (h : CodAt w g q) : w.cell? ⟨g, 2, none⟩ = some (.int .i64 q.S) := h.cell (by omega)
theorem CodAt.cl (h : CodAt w g q) : w.cell? ⟨g, 3, none⟩ = some (.int .i64 q.last) := h.cell (by omega)
theorem CodAt.cc (h : CodAt w g q) : w.cell? ⟨g, 4, none⟩ = some (.int .i64 q.clk) := h.cell (by omega)
theorem cell_bg (q : Cd) {t : Nat} (ht : t < 6) : cellD q (5 + t * 2) = q.bg t := by
  unfold cellD
  rw [if_neg (by omega), if_neg (by omega), if_neg (by omega), if_neg (by omega), if_neg (by omega), if_pos (by omega), if_pos (by omega), show (5 + t * 2 - 5) / 2 = t by omega]
theorem cell_bp (q : Cd) {t : Nat} (ht : t < 6) : cellD q (5 + t * 2 + 1) = q.bp t := by
  unfold cellD
  rw [if_neg (by omega), if_neg (by omega), if_neg (by omega), if_neg (by omega), if_neg (by omega), if_pos (by omega), if_neg (by omega), show (5 + t * 2 + 1 - 5) / 2 = t by omega]
theorem cell_xs (q : Cd) (v : Nat) : cellD q (17 + v) = q.xs v := by
  unfold cellD
  rw [if_neg (by omega), if_neg (by omega), if_neg (by omega), if_neg (by omega), if_neg (by omega), if_neg (by omega), show 17 + v - 17 = v by omega]
theorem CodAt.cbg (h : CodAt w g q) {t : Nat} (ht : t < 6) : w.cell? ⟨g, 5 + t * 2, none⟩ = some (.int .i64 (q.bg t)) := by rw [h.cell (by omega), cell_bg q ht]
theorem CodAt.cbp (h : CodAt w g q) {t : Nat} (ht : t < 6) : w.cell? ⟨g, 5 + t * 2 + 1, none⟩ = some (.int .i64 (q.bp t)) := by rw [h.cell (by omega), cell_bp q ht]
theorem CodAt.cx (h : CodAt w g q) {v : Nat} (hv : v < 32) : w.cell? ⟨g, 17 + v, none⟩ = some (.int .i64 (q.xs v)) := by rw [h.cell (by omega), cell_xs q v]
theorem EvO.lt (h : EvO w g e) : g < w.heap.size := (Array.getElem?_eq_some_iff.1 h).1
theorem EvO.same (h : EvO w g e) (k : w'.heap[g]? = w.heap[g]?) : EvO w' g e := k.trans h
theorem EvO.below (h : EvO w g e) (hb : Below w.heap.size w w') : EvO w' g e := h.same (hb.block g h.lt)
theorem EvO.at' (h : EvO w g e) (i : Nat) : w.cell? ⟨g, i, none⟩ = (evC e)[i]? := cell_of_row w g i _ _ _ h
theorem EvO.fr (h : EvO w g e) (i : Nat) : w.frozen? ⟨g, i, none⟩ = false := by
  unfold World.frozen?
  rw [h]
  rfl
theorem EvO.c0 (h : EvO w g e) : w.cell? ⟨g, 0, none⟩ = some (.int .u8 e.kd) := h.at' 0
theorem EvO.c1 (h : EvO w g e) : w.cell? ⟨g, 1, none⟩ = some (.int .i64 e.th) := h.at' 1
theorem EvO.c2 (h : EvO w g e) : w.cell? ⟨g, 2, none⟩ = some (.int .i64 e.tx) := h.at' 2
theorem EvO.c3 (h : EvO w g e) : w.cell? ⟨g, 3, none⟩ = some (.int .i64 e.pl) := h.at' 3
theorem EvO.c4 (h : EvO w g e) : w.cell? ⟨g, 4, none⟩ = some (.int .i64 e.v) := h.at' 4
theorem EvO.c5 (h : EvO w g e) : w.cell? ⟨g, 5, none⟩ = some (.int .i64 e.x) := h.at' 5
theorem EvO.c6 (h : EvO w g e) : w.cell? ⟨g, 6, none⟩ = some (.int .u8 e.why) := h.at' 6
theorem EvO.set (h : EvO w g e) (i : Nat) (u : Value) {e' : Ev} (he : (evC e).setIfInBounds i u = evC e') : EvO (w.setCell ⟨g, i, none⟩ u) g e' := by
  have := Obj.store (w := w) (g := g) (t := 50) (cs := evC e) h i u
  rw [he] at this
  exact this
theorem CodAt.set (h : CodAt w g q) {i : Nat} (hi : i < 49) (x : Int) {q' : Cd} (hq : ∀ j, j < 49 → put (cellD q) i x j = cellD q' j) : CodAt (w.setCell ⟨g, i, none⟩ (.int .i64 x)) g q' := by
  have := Obj.store (w := w) (g := g) (t := 102) h i (.int .i64 x)
  rw [rowC_set 49 _ hi, rowC_congr hq] at this
  exact this
theorem kp_set (w : World) (g i : Nat) (u : Value) : Kp g none w (w.setCell ⟨g, i, none⟩ u) :=
  ⟨rfl, rfl, rfl, by simp [World.setCell], fun j _ hj _ => Below.heap_setCell w ⟨g, i, none⟩ u j hj⟩
end
theorem Kp.two {g h : Nat} {a b c : World} (x : Kp g (some h) a b) (y : Kp g (some h) b c) : Kp g (some h) a c :=
  ⟨y.os.trans x.os, y.tape.trans x.tape, y.output.trans x.output, Nat.le_trans x.size y.size, fun i hi hg ho => (y.block i (Nat.lt_of_lt_of_le hi x.size) hg ho).trans (x.block i hi hg ho)⟩
theorem Kp.left {g h : Nat} {a b : World} (x : Kp g none a b) : Kp g (some h) a b := ⟨x.os, x.tape, x.output, x.size, fun i hi hg ho => x.block i hi hg (by simp)⟩
theorem Kp.right {g h : Nat} {a b : World} (x : Kp h none a b) : Kp g (some h) a b := ⟨x.os, x.tape, x.output, x.size, fun i hi hg ho => x.block i hi (fun e => ho (by rw [e])) (by simp)⟩
theorem Kp.refl2 (g : Nat) (o : Option Nat) (w : World) : Kp g o w w := kp_below (Below.refl _ _)
def u64 (n : Int) : Int := n % 18446744073709551616
theorem u64_lo (n : Int) : 0 ≤ u64 n := Int.emod_nonneg _ (by decide)
theorem u64_hi (n : Int) : u64 n < 18446744073709551616 := Int.emod_lt_of_pos _ (by decide)
theorem u64_id {n : Int} (h : 0 ≤ n) (h2 : n < 18446744073709551616) : u64 n = n := Int.emod_eq_of_lt h h2
structure NumC {σ : Type} (k : Nat) (P : Addr) (gF ge gc : Nat) (I : σ → World → Prop) (num : σ → Int → Int → Int → Int × σ) (ok : σ → Int → Int → Int → Prop) : Prop where
  is : k = 56 ∨ k = 127
  fe : gF ≠ ge
  fc : gF ≠ gc
  ec : ge ≠ gc
  call : ∀ s w n l m, I s w → ok s n l m → 0 ≤ n → n < 18446744073709551616 → Calls Tryz.prog k #[.int .u64 n, .int .u64 l, .int .u64 m, .pointer (some P)] w fun r w' => r = .returned (.int .u64 (num s n l m).1) ∧ I (num s n l m).2 w' ∧ Kp gF none w w'
  le : ∀ s n l m, ok s n l m → 0 ≤ (num s n l m).1 ∧ (num s n l m).1 ≤ m
  stay : ∀ s w w', I s w → Kp ge none w w' → I s w'
section
variable {σ : Type} {k : Nat} {P : Addr} {gF ge gc : Nat} {I : σ → World → Prop} {num : σ → Int → Int → Int → Int × σ} {ok : σ → Int → Int → Int → Prop}
def PassP (gF ge : Nat) (I : σ → World → Prop) (w : World) (x : Ev × σ) (r : Ending) (w' : World) : Prop := r = .returned (.tuple #[]) ∧ EvO w' ge x.1 ∧ I x.2 w' ∧ Kp gF (some ge) w w'
theorem NumC.ev (N : NumC k P gF ge gc I num ok) {w w' : World} {e : Ev} (h : EvO w ge e) (b : Kp gF none w w') : EvO w' ge e := h.same (b.block ge h.lt (Ne.symm N.fe) (by simp))
theorem NumC.cod (N : NumC k P gF ge gc I num ok) {w w' : World} {q : Cd} (h : CodAt w gc q) (b : Kp gF (some ge) w w') : CodAt w' gc q := h.same (b.block gc h.lt (Ne.symm N.fc) (fun e => N.ec (Option.some.inj e).symm))
theorem int_any (N : NumC k P gF ge gc I num ok) (s : σ) (w : World) (n l m : Int) (hI : I s w) (hn : -9223372036854775808 ≤ n ∧ n ≤ 9223372036854775807) (hl : 0 ≤ l ∧ l ≤ 2199023255552) (hm : 0 ≤ m ∧ m ≤ 2199023255552) (ho : ok s (u64 n) l m) :
    Calls Tryz.prog 122 #[.func (.func k) #[] #[.pointer (some P)], .int .i64 n, .int .i64 l, .int .i64 m] w fun r w' => r = .returned (.int .i64 (num s (u64 n) l m).1) ∧ I (num s (u64 n) l m).2 w' ∧ Kp gF none w w' := by
  have H := Lib.hid (N.call s w (u64 n) l m hI ho (u64_lo n) (u64_hi n))
  obtain ⟨r1, r2⟩ := N.le _ _ _ _ ho
  obtain ⟨z, hz⟩ : ∃ z, z = (num s (u64 n) l m).1 := ⟨_, rfl⟩
  obtain ⟨s', hs'⟩ : ∃ z, z = (num s (u64 n) l m).2 := ⟨_, rfl⟩
  rw [← hz, ← hs'] at H ⊢
  rw [← hz] at r1 r2
  unfold u64 at H
  clear hz hs' ho
  rcases N.is with rfl | rfl
  · clear N
    go_enter Tryz.func122, Tryz.ntmps122
    go_wp2_with fail
    refine H.out.mono ?_
    rintro _ w' ⟨rfl, h1, h2⟩
    go_wp2_with fail
    go_ret
    exact ⟨rfl, h1, h2⟩
  · clear N
    go_enter Tryz.func122, Tryz.ntmps122
    go_wp2_with fail
    refine H.out.mono ?_
    rintro _ w' ⟨rfl, h1, h2⟩
    go_wp2_with fail
    go_ret
    exact ⟨rfl, h1, h2⟩
end
end Go.Proofs.YteigglhhnemngaaGreatDoor
namespace Go.Proofs.YteigglhhnemngaaGreatDoor
set_option maxRecDepth 100000
open Go.RowKit Go.Deep
set_option linter.unusedVariables false
set_option linter.unusedSimpArgs false
section
variable {a : Act} {w : World} {K : Act → World → Prop} {Q : Exit → Act → World → Prop} {o : Oper}
theorem v_move (x : Nat) {v : Value} (ho : o.op = .move (.tmp x)) (hx : a.tmps[x]?.getD undef = v) (hK : K (a.put o.dst (v)) w) : Oper.wp Tryz.prog o a w K Q := by
  obtain ⟨dst, op, type, pos, after, guard⟩ := o
  have ho' : op = _ := ho
  subst ho'
  clear ho
  go_simp
  exact hK
theorem v_assign (x : Nat) {v : Value} (ho : o.op = .assign (.tmp x)) (hx : a.tmps[x]?.getD undef = v) (hK : K (a.put o.dst (v)) w) : Oper.wp Tryz.prog o a w K Q := by
  obtain ⟨dst, op, type, pos, after, guard⟩ := o
  have ho' : op = _ := ho
  subst ho'
  clear ho
  go_simp
  exact hK
theorem u_nil (x : Nat) {p : Addr} (ho : o.op = .nilCheck (.tmp x)) (hx : a.tmps[x]?.getD undef = .pointer (some p)) (hK : K (a.put o.dst (.pointer (some p))) w) : Oper.wp Tryz.prog o a w K Q := by
  obtain ⟨dst, op, type, pos, after, guard⟩ := o
  have ho' : op = _ := ho
  subst ho'
  clear ho
  go_simp
  exact hK
theorem u_f41_1 (x : Nat) {g q : Nat} (ho : o.op = .fieldAddr 50 (.tmp x) 1) (hx : a.tmps[x]?.getD undef = .pointer (some ⟨g, q, none⟩)) (hK : K (a.put o.dst (.pointer (some ⟨g, q + 1, none⟩))) w) : Oper.wp Tryz.prog o a w K Q := by
  obtain ⟨dst, op, type, pos, after, guard⟩ := o
  have ho' : op = _ := ho
  subst ho'
  clear ho
  go_simp
  exact hK
theorem u_f41_3 (x : Nat) {g q : Nat} (ho : o.op = .fieldAddr 50 (.tmp x) 3) (hx : a.tmps[x]?.getD undef = .pointer (some ⟨g, q, none⟩)) (hK : K (a.put o.dst (.pointer (some ⟨g, q + 3, none⟩))) w) : Oper.wp Tryz.prog o a w K Q := by
  obtain ⟨dst, op, type, pos, after, guard⟩ := o
  have ho' : op = _ := ho
  subst ho'
  clear ho
  go_simp
  exact hK
theorem u_f41_4 (x : Nat) {g q : Nat} (ho : o.op = .fieldAddr 50 (.tmp x) 4) (hx : a.tmps[x]?.getD undef = .pointer (some ⟨g, q, none⟩)) (hK : K (a.put o.dst (.pointer (some ⟨g, q + 4, none⟩))) w) : Oper.wp Tryz.prog o a w K Q := by
  obtain ⟨dst, op, type, pos, after, guard⟩ := o
  have ho' : op = _ := ho
  subst ho'
  clear ho
  go_simp
  exact hK
theorem u_f41_5 (x : Nat) {g q : Nat} (ho : o.op = .fieldAddr 50 (.tmp x) 5) (hx : a.tmps[x]?.getD undef = .pointer (some ⟨g, q, none⟩)) (hK : K (a.put o.dst (.pointer (some ⟨g, q + 5, none⟩))) w) : Oper.wp Tryz.prog o a w K Q := by
  obtain ⟨dst, op, type, pos, after, guard⟩ := o
  have ho' : op = _ := ho
  subst ho'
  clear ho
  go_simp
  exact hK
theorem u_f78_0 (x : Nat) {g q : Nat} (ho : o.op = .fieldAddr 102 (.tmp x) 0) (hx : a.tmps[x]?.getD undef = .pointer (some ⟨g, q, none⟩)) (hK : K (a.put o.dst (.pointer (some ⟨g, q, none⟩))) w) : Oper.wp Tryz.prog o a w K Q := by
  obtain ⟨dst, op, type, pos, after, guard⟩ := o
  have ho' : op = _ := ho
  subst ho'
  clear ho
  go_simp
  exact hK
theorem u_f78_2 (x : Nat) {g q : Nat} (ho : o.op = .fieldAddr 102 (.tmp x) 2) (hx : a.tmps[x]?.getD undef = .pointer (some ⟨g, q, none⟩)) (hK : K (a.put o.dst (.pointer (some ⟨g, q + 4, none⟩))) w) : Oper.wp Tryz.prog o a w K Q := by
  obtain ⟨dst, op, type, pos, after, guard⟩ := o
  have ho' : op = _ := ho
  subst ho'
  clear ho
  go_simp
  exact hK
theorem u_f78_3 (x : Nat) {g q : Nat} (ho : o.op = .fieldAddr 102 (.tmp x) 3) (hx : a.tmps[x]?.getD undef = .pointer (some ⟨g, q, none⟩)) (hK : K (a.put o.dst (.pointer (some ⟨g, q + 5, none⟩))) w) : Oper.wp Tryz.prog o a w K Q := by
  obtain ⟨dst, op, type, pos, after, guard⟩ := o
  have ho' : op = _ := ho
  subst ho'
  clear ho
  go_simp
  exact hK
theorem u_f78_4 (x : Nat) {g q : Nat} (ho : o.op = .fieldAddr 102 (.tmp x) 4) (hx : a.tmps[x]?.getD undef = .pointer (some ⟨g, q, none⟩)) (hK : K (a.put o.dst (.pointer (some ⟨g, q + 17, none⟩))) w) : Oper.wp Tryz.prog o a w K Q := by
  obtain ⟨dst, op, type, pos, after, guard⟩ := o
  have ho' : op = _ := ho
  subst ho'
  clear ho
  go_simp
  exact hK
theorem u_f72_0 (x : Nat) {g q : Nat} (ho : o.op = .fieldAddr 96 (.tmp x) 0) (hx : a.tmps[x]?.getD undef = .pointer (some ⟨g, q, none⟩)) (hK : K (a.put o.dst (.pointer (some ⟨g, q, none⟩))) w) : Oper.wp Tryz.prog o a w K Q := by
  obtain ⟨dst, op, type, pos, after, guard⟩ := o
  have ho' : op = _ := ho
  subst ho'
  clear ho
  go_simp
  exact hK
theorem u_f72_1 (x : Nat) {g q : Nat} (ho : o.op = .fieldAddr 96 (.tmp x) 1) (hx : a.tmps[x]?.getD undef = .pointer (some ⟨g, q, none⟩)) (hK : K (a.put o.dst (.pointer (some ⟨g, q + 1, none⟩))) w) : Oper.wp Tryz.prog o a w K Q := by
  obtain ⟨dst, op, type, pos, after, guard⟩ := o
  have ho' : op = _ := ho
  subst ho'
  clear ho
  go_simp
  exact hK
theorem u_f72_2 (x : Nat) {g q : Nat} (ho : o.op = .fieldAddr 96 (.tmp x) 2) (hx : a.tmps[x]?.getD undef = .pointer (some ⟨g, q, none⟩)) (hK : K (a.put o.dst (.pointer (some ⟨g, q + 2, none⟩))) w) : Oper.wp Tryz.prog o a w K Q := by
  obtain ⟨dst, op, type, pos, after, guard⟩ := o
  have ho' : op = _ := ho
  subst ho'
  clear ho
  go_simp
  exact hK
theorem u_f74_0 (x : Nat) {g q : Nat} (ho : o.op = .fieldAddr 98 (.tmp x) 0) (hx : a.tmps[x]?.getD undef = .pointer (some ⟨g, q, none⟩)) (hK : K (a.put o.dst (.pointer (some ⟨g, q, none⟩))) w) : Oper.wp Tryz.prog o a w K Q := by
  obtain ⟨dst, op, type, pos, after, guard⟩ := o
  have ho' : op = _ := ho
  subst ho'
  clear ho
  go_simp
  exact hK
theorem u_f74_1 (x : Nat) {g q : Nat} (ho : o.op = .fieldAddr 98 (.tmp x) 1) (hx : a.tmps[x]?.getD undef = .pointer (some ⟨g, q, none⟩)) (hK : K (a.put o.dst (.pointer (some ⟨g, q + 1, none⟩))) w) : Oper.wp Tryz.prog o a w K Q := by
  obtain ⟨dst, op, type, pos, after, guard⟩ := o
  have ho' : op = _ := ho
  subst ho'
  clear ho
  go_simp
  exact hK
theorem u_i75 (x y : Nat) {g q k : Nat} (hk : k < 6) (ho : o.op = .indexAddr 99 (.tmp x) (.tmp y)) (hx : a.tmps[x]?.getD undef = .pointer (some ⟨g, q, none⟩)) (hy : a.tmps[y]?.getD undef = .int .i64 (k : Int)) (hK : K (a.put o.dst (.pointer (some ⟨g, q + k * 2, none⟩))) w) : Oper.wp Tryz.prog o a w K Q := by
  obtain ⟨dst, op, type, pos, after, guard⟩ := o
  have ho' : op = _ := ho
  subst ho'
  clear ho
  have i1 : (0 : Int) ≤ (k : Int) := by omega
  have i2 : (k : Int) < 6 := by omega
  go_simp
  exact hK
theorem u_i76 (x y : Nat) {g q k : Nat} (hk : k < 32) (ho : o.op = .indexAddr 100 (.tmp x) (.tmp y)) (hx : a.tmps[x]?.getD undef = .pointer (some ⟨g, q, none⟩)) (hy : a.tmps[y]?.getD undef = .int .i64 (k : Int)) (hK : K (a.put o.dst (.pointer (some ⟨g, q + k, none⟩))) w) : Oper.wp Tryz.prog o a w K Q := by
  obtain ⟨dst, op, type, pos, after, guard⟩ := o
  have ho' : op = _ := ho
  subst ho'
  clear ho
  have i1 : (0 : Int) ≤ (k : Int) := by omega
  have i2 : (k : Int) < 32 := by omega
  go_simp
  exact hK
theorem u_loadi (x : Nat) {g q : Nat} {n : Int} (ho : o.op = .load 3 (.tmp x)) (hx : a.tmps[x]?.getD undef = .pointer (some ⟨g, q, none⟩)) (hc : w.cell? ⟨g, q, none⟩ = some (.int .i64 n)) (hK : K (a.put o.dst (.int .i64 n)) w) : Oper.wp Tryz.prog o a w K Q := by
  obtain ⟨dst, op, type, pos, after, guard⟩ := o
  have ho' : op = _ := ho
  subst ho'
  clear ho
  go_simp
  exact hK
theorem u_loadl (x : Nat) {g q : Nat} {n : Int} (ho : o.op = .load 2 (.tmp x)) (hx : a.tmps[x]?.getD undef = .pointer (some ⟨g, q, none⟩)) (hc : w.cell? ⟨g, q, none⟩ = some (.int .i64 n)) (hK : K (a.put o.dst (.int .i64 n)) w) : Oper.wp Tryz.prog o a w K Q := by
  obtain ⟨dst, op, type, pos, after, guard⟩ := o
  have ho' : op = _ := ho
  subst ho'
  clear ho
  go_simp
  exact hK
theorem u_sub_i (x y : Nat) {n m : Int} (ho : o.op = .binOp .sub 3 (.tmp x) (.tmp y) 3) (hx : a.tmps[x]?.getD undef = .int .i64 n) (hy : a.tmps[y]?.getD undef = .int .i64 m) (hb : -9223372036854775808 ≤ n - m ∧ n - m ≤ 9223372036854775807) (hK : K (a.put o.dst (.int .i64 (n - m))) w) : Oper.wp Tryz.prog o a w K Q := by
  obtain ⟨dst, op, type, pos, after, guard⟩ := o
  have ho' : op = _ := ho
  subst ho'
  clear ho
  obtain ⟨b1, b2⟩ := hb
  have hw : IntKind.i64.wrap (n - m) = n - m := IntWalk.i64_in _ ⟨b1, b2⟩
  go_simp
  exact hK
theorem u_sub_ic (x : Nat) {n m : Int} (ho : o.op = .binOp .sub 3 (.tmp x) (.const (.int .i64 m)) 3) (hx : a.tmps[x]?.getD undef = .int .i64 n) (hb : -9223372036854775808 ≤ n - m ∧ n - m ≤ 9223372036854775807) (hK : K (a.put o.dst (.int .i64 (n - m))) w) : Oper.wp Tryz.prog o a w K Q := by
  obtain ⟨dst, op, type, pos, after, guard⟩ := o
  have ho' : op = _ := ho
  subst ho'
  clear ho
  obtain ⟨b1, b2⟩ := hb
  have hw : IntKind.i64.wrap (n - m) = n - m := IntWalk.i64_in _ ⟨b1, b2⟩
  go_simp
  exact hK
theorem u_sub_ik (y : Nat) {n m : Int} (ho : o.op = .binOp .sub 3 (.const (.int .i64 n)) (.tmp y) 3) (hy : a.tmps[y]?.getD undef = .int .i64 m) (hb : -9223372036854775808 ≤ n - m ∧ n - m ≤ 9223372036854775807) (hK : K (a.put o.dst (.int .i64 (n - m))) w) : Oper.wp Tryz.prog o a w K Q := by
  obtain ⟨dst, op, type, pos, after, guard⟩ := o
  have ho' : op = _ := ho
  subst ho'
  clear ho
  obtain ⟨b1, b2⟩ := hb
  have hw : IntKind.i64.wrap (n - m) = n - m := IntWalk.i64_in _ ⟨b1, b2⟩
  go_simp
  exact hK
theorem u_add_i (x y : Nat) {n m : Int} (ho : o.op = .binOp .add 3 (.tmp x) (.tmp y) 3) (hx : a.tmps[x]?.getD undef = .int .i64 n) (hy : a.tmps[y]?.getD undef = .int .i64 m) (hb : -9223372036854775808 ≤ n + m ∧ n + m ≤ 9223372036854775807) (hK : K (a.put o.dst (.int .i64 (n + m))) w) : Oper.wp Tryz.prog o a w K Q := by
  obtain ⟨dst, op, type, pos, after, guard⟩ := o
  have ho' : op = _ := ho
  subst ho'
  clear ho
  obtain ⟨b1, b2⟩ := hb
  have hw : IntKind.i64.wrap (n + m) = n + m := IntWalk.i64_in _ ⟨b1, b2⟩
  go_simp
  exact hK
theorem u_storei (x y : Nat) {g j : Nat} {n : Int} {v : Value} (ho : o.op = .store 3 (.tmp x) (.tmp y)) (hx : a.tmps[x]?.getD undef = .pointer (some ⟨g, j, none⟩)) (hy : a.tmps[y]?.getD undef = .int .i64 n) (hc : w.cell? ⟨g, j, none⟩ = some v) (hf : w.frozen? ⟨g, j, none⟩ = false) (hK : K (a.put o.dst undef) (w.setCell ⟨g, j, none⟩ (.int .i64 n))) : Oper.wp Tryz.prog o a w K Q := by
  obtain ⟨dst, op, type, pos, after, guard⟩ := o
  have ho' : op = _ := ho
  subst ho'
  clear ho
  go_simp
  exact hK
theorem u_storel (x y : Nat) {g j : Nat} {n : Int} {v : Value} (ho : o.op = .store 2 (.tmp x) (.tmp y)) (hx : a.tmps[x]?.getD undef = .pointer (some ⟨g, j, none⟩)) (hy : a.tmps[y]?.getD undef = .int .i64 n) (hc : w.cell? ⟨g, j, none⟩ = some v) (hf : w.frozen? ⟨g, j, none⟩ = false) (hK : K (a.put o.dst undef) (w.setCell ⟨g, j, none⟩ (.int .i64 n))) : Oper.wp Tryz.prog o a w K Q := by
  obtain ⟨dst, op, type, pos, after, guard⟩ := o
  have ho' : op = _ := ho
  subst ho'
  clear ho
  go_simp
  exact hK
end
section
variable {σ : Type} {k : Nat} {P : Addr} {gF ge gc : Nat} {I : σ → World → Prop} {num : σ → Int → Int → Int → Int × σ} {ok : σ → Int → Int → Int → Prop}
def MidR (gF ge gc : Nat) (I : σ → World → Prop) (q : Cd) (e e1 : Ev) (s s1 : σ) (W : World) (c st l : Nat) (don : Nat → Bool) (w : World) : Prop := (don st = true → don c = true ∧ don l = true) ∧ EvO w ge (cond (don st) e1 e) ∧ CodAt w gc q ∧ I (cond (don c) s1 s) w ∧ Kp gF (some ge) W w
theorem MidR.call (N : NumC k P gF ge gc I num ok) {q : Cd} {e e1 : Ev} {s s1 : σ} {W w w' : World} {c st l : Nat} {don : Nat → Bool} (h : MidR gF ge gc I q e e1 s s1 W c st l don w) (hst : st ≠ c) (h1 : I s1 w') (h2 : Kp gF none w w') : MidR gF ge gc I q e e1 s s1 W c st l (fun j => j == c || don j) w' := by
  obtain ⟨a1, a2, a3, a4, a5⟩ := h
  have hs : (st == c) = false := beq_eq_false_iff_ne.2 hst
  refine ⟨fun h => ?_, ?_, N.cod a3 h2.left, ?_, a5.two h2.left⟩
  · simp only [hs, Bool.false_or] at h
    simp [(a1 h).2]
  · simp only [hs, Bool.false_or]
    exact N.ev a2 h2
  · simp only [beq_self_eq_true, Bool.true_or, cond_true]
    exact h1
theorem MidR.before {q : Cd} {e e1 : Ev} {s s1 : σ} {W w : World} {c st l : Nat} {don : Nat → Bool} (h : MidR gF ge gc I q e e1 s s1 W c st l don w) (hc : don c = false) : I s w ∧ EvO w ge e := by
  obtain ⟨a1, a2, a3, a4, a5⟩ := h
  rw [hc] at a4
  have hs : don st = false := by
    cases hq : don st with
    | false => rfl
    | true => have := (a1 hq).1; rw [hc] at this; cases this
  rw [hs] at a2
  exact ⟨a4, a2⟩
theorem MidR.ahead {q : Cd} {e e1 : Ev} {s s1 : σ} {W w : World} {c st l : Nat} {don : Nat → Bool} (h : MidR gF ge gc I q e e1 s s1 W c st l don w) (hc : don l = false) : EvO w ge e := by
  obtain ⟨a1, a2, a3, a4, a5⟩ := h
  have hs : don st = false := by
    cases hq : don st with
    | false => rfl
    | true => have := (a1 hq).2; rw [hc] at this; cases this
  rw [hs] at a2
  exact a2
theorem MidR.load {q : Cd} {e e1 : Ev} {s s1 : σ} {W w : World} {c st l : Nat} {don : Nat → Bool} (h : MidR gF ge gc I q e e1 s s1 W c st l don w) (h1 : st ≠ l) (h2 : c ≠ l) : MidR gF ge gc I q e e1 s s1 W c st l (fun j => j == l || don j) w := by
  obtain ⟨a1, a2, a3, a4, a5⟩ := h
  have q1 : (st == l) = false := beq_eq_false_iff_ne.2 h1
  have q2 : (c == l) = false := beq_eq_false_iff_ne.2 h2
  refine ⟨fun h => ?_, ?_, a3, ?_, a5⟩
  · simp only [q1, Bool.false_or] at h
    simp [(a1 h).1]
  · simp only [q1, Bool.false_or]
    exact a2
  · simp only [q2, Bool.false_or]
    exact a4
theorem MidR.store (N : NumC k P gF ge gc I num ok) {q : Cd} {e e1 : Ev} {s s1 : σ} {W w : World} {c st l : Nat} {don : Nat → Bool} (h : MidR gF ge gc I q e e1 s s1 W c st l don w) (hst : don st = false) (hc : don c = true) (hl : don l = true) (h1 : c ≠ st) (i : Nat) (u : Value) (hu : (evC e).setIfInBounds i u = evC e1) : MidR gF ge gc I q e e1 s s1 W c st l (fun j => j == st || don j) (w.setCell ⟨ge, i, none⟩ u) := by
  obtain ⟨a1, a2, a3, a4, a5⟩ := h
  rw [hst] at a2
  have q1 : (c == st) = false := beq_eq_false_iff_ne.2 h1
  have hk : Kp gF (some ge) w (w.setCell ⟨ge, i, none⟩ u) := (kp_set w ge i u).right
  refine ⟨fun _ => by simp [hc, hl], ?_, N.cod a3 hk, ?_, a5.two hk⟩
  · simp only [beq_self_eq_true, Bool.true_or, cond_true]
    exact EvO.set a2 i u hu
  · simp only [q1, Bool.false_or]
    exact N.stay _ _ _ a4 (kp_set w ge i u)
noncomputable def rgStripe_ops : Array Oper := opsW Tryz.f94 0
def rgStripe_D : List (Option Nat) := [some 6, some 7, some 8, some 9, some 10, some 11, some 12, some 13, some 14, some 15, some 16, some 17, some 18, some 19, some 20, none]
set_option maxRecDepth 100000 in
set_option maxHeartbeats 4000000 in
theorem rgStripe {id : Nat} {ops : Array Oper} (hops : ops = rgStripe_ops) (T0 : Array Value) (hsz : 21 ≤ T0.size) (W : World) {σ : Type} {k : Nat} {P : Addr} {gF ge gc : Nat} {I : σ → World → Prop} {num : σ → Int → Int → Int → Int × σ} {ok : σ → Int → Int → Int → Prop} (N : NumC k P gF ge gc I num ok) (q : Cd) (hq : CdOk q) (e : Ev) (s s1 : σ) (z : Int) (ok' : EvOk e) (he : EvO W ge e) (hcd : CodAt W gc q) (hI : I s W)  (HC : ∀ w, I s w → Calls Tryz.prog 122 #[.func (.func k) #[] #[.pointer (some P)], .int .i64 e.pl, .int .i64 0, .int .i64 (q.S - 1)] w fun r w' => r = .returned (.int .i64 z) ∧ I s1 w' ∧ Kp gF none w w') (h0 : T0[0]? = some (.pointer (some ⟨gc, 0, none⟩))) (h1 : T0[1]? = some (.pointer (some ⟨ge, 0, none⟩))) (h2 : T0[2]? = some (.func (.func k) #[] #[.pointer (some P)])) {Q : Exit → Act → World → Prop}
    (hend : ∀ w : World, EvO w ge { e with pl := z } ∧ CodAt w gc q ∧ I s1 w ∧ Kp gF (some ge) W w → Q .normal ⟨putAll T0 [6, 7, 8, 9, 10, 11, 12, 13, 14, 15, 16, 17, 18, 19, 20] [.pointer (some ⟨ge, 0, none⟩), .func (.func k) #[] #[.pointer (some P)], .pointer (some ⟨ge, 0, none⟩), .pointer (some ⟨ge, 0, none⟩), .pointer (some ⟨ge, 3, none⟩), .int .i64 e.pl, .pointer (some ⟨gc, 0, none⟩), .pointer (some ⟨gc, 0, none⟩), .pointer (some ⟨gc, 0, none⟩), .pointer (some ⟨gc, 2, none⟩), .int .i64 q.S, .int .i64 (q.S - 1), .int .i64 z, .pointer (some ⟨ge, 0, none⟩), .pointer (some ⟨ge, 3, none⟩)], []⟩ w) : (Code.region id ops true).wp Tryz.prog Q ⟨T0, []⟩ W := by
  subst hops
  have hos : rgStripe_ops.size = 16 := by kernel_rfl
  have hga : (List.range 16).all (fun i => match rgStripe_ops[i]? with | some o => o.guard == ([none, none, none, none, none, none, none, none, none, none, none, none, none, none, none, none] : List (Option (Nat × Bool))).getD i none | none => false) = true := by kernel_rfl
  have hds : ((pairsS rgStripe_D ([.pointer (some ⟨ge, 0, none⟩), .func (.func k) #[] #[.pointer (some P)], .pointer (some ⟨ge, 0, none⟩), .pointer (some ⟨ge, 0, none⟩), .pointer (some ⟨ge, 3, none⟩), .int .i64 e.pl, .pointer (some ⟨gc, 0, none⟩), .pointer (some ⟨gc, 0, none⟩), .pointer (some ⟨gc, 0, none⟩), .pointer (some ⟨gc, 2, none⟩), .int .i64 q.S, .int .i64 (q.S - 1), .int .i64 z, .pointer (some ⟨ge, 0, none⟩), .pointer (some ⟨ge, 3, none⟩), undef] : List Value)).map (·.1)) = [6, 7, 8, 9, 10, 11, 12, 13, 14, 15, 16, 17, 18, 19, 20] := rfl
  refine wp_region_valsG ([.pointer (some ⟨ge, 0, none⟩), .func (.func k) #[] #[.pointer (some P)], .pointer (some ⟨ge, 0, none⟩), .pointer (some ⟨ge, 0, none⟩), .pointer (some ⟨ge, 3, none⟩), .int .i64 e.pl, .pointer (some ⟨gc, 0, none⟩), .pointer (some ⟨gc, 0, none⟩), .pointer (some ⟨gc, 0, none⟩), .pointer (some ⟨gc, 2, none⟩), .int .i64 q.S, .int .i64 (q.S - 1), .int .i64 z, .pointer (some ⟨ge, 0, none⟩), .pointer (some ⟨ge, 3, none⟩), undef] : List Value) [true, true, true, true, true, true, true, true, true, true, true, true, true, true, true, true] rgStripe_D (MidR gF ge gc I q e { e with pl := z } s s1 W 12 15 5) W T0 (by rw [hds]; decide) (fun x hx => ?_) (by kernel_rfl) (by kernel_rfl) (fun i o j want ho hg => ?_) (fun i hi hon => ?_) (fun i hi hon don w hM => ?_) ?_ ?_ ?_
  · rw [hds] at hx
    have hall : (([6, 7, 8, 9, 10, 11, 12, 13, 14, 15, 16, 17, 18, 19, 20] : List Nat).all fun d => decide (d < 21)) = true := by decide
    have := List.all_eq_true.1 hall x hx
    simp only [decide_eq_true_eq] at this
    omega
  · have hi : i < 16 := by rw [← hos]; exact (Array.getElem?_eq_some_iff.1 ho).1
    have h1 := List.all_eq_true.1 hga i (by simpa using hi)
    rw [ho] at h1
    simp only [hg, beq_iff_eq] at h1
    match i, hi with
    | 0, _ => cases h1
    | 1, _ => cases h1
    | 2, _ => cases h1
    | 3, _ => cases h1
    | 4, _ => cases h1
    | 5, _ => cases h1
    | 6, _ => cases h1
    | 7, _ => cases h1
    | 8, _ => cases h1
    | 9, _ => cases h1
    | 10, _ => cases h1
    | 11, _ => cases h1
    | 12, _ => cases h1
    | 13, _ => cases h1
    | 14, _ => cases h1
    | 15, _ => cases h1
    | i + 16, h => exact absurd (show i + 16 < 16 from h) (by omega)
  · match i, hi with
    | 0, _ => cases hon
    | 1, _ => cases hon
    | 2, _ => cases hon
    | 3, _ => cases hon
    | 4, _ => cases hon
    | 5, _ => cases hon
    | 6, _ => cases hon
    | 7, _ => cases hon
    | 8, _ => cases hon
    | 9, _ => cases hon
    | 10, _ => cases hon
    | 11, _ => cases hon
    | 12, _ => cases hon
    | 13, _ => cases hon
    | 14, _ => cases hon
    | 15, _ => cases hon
    | i + 16, h => exact absurd (show i + 16 < 16 from h) (by omega)
  · match i, hi with
    | 0, _ => cases hon
    | 1, _ => cases hon
    | 2, _ => cases hon
    | 3, _ => cases hon
    | 4, _ => cases hon
    | 5, _ => cases hon
    | 6, _ => cases hon
    | 7, _ => cases hon
    | 8, _ => cases hon
    | 9, _ => cases hon
    | 10, _ => cases hon
    | 11, _ => cases hon
    | 12, _ => cases hon
    | 13, _ => cases hon
    | 14, _ => cases hon
    | 15, _ => cases hon
    | i + 16, h => exact absurd (show i + 16 < 16 from h) (by omega)
  · exact ⟨fun h => by simp at h, he, hcd, N.stay _ _ _ hI (kp_below ((Below.refl _ _).drew)), kp_below ((Below.refl _ _).drew)⟩
  · intro i oo ho hi hon don a w hT hU hdi hM K hK
    rw [hds] at hT
    have hT0 : ∀ t v, t ∉ ([6, 7, 8, 9, 10, 11, 12, 13, 14, 15, 16, 17, 18, 19, 20] : List Nat) → T0[t]? = some v → a.tmps[t]?.getD undef = v := fun t v ht hv => by rw [hT t ht, hv]; rfl
    match i, hi with
    | 0, _ => exact v_move 1 (opAtW ho (by kernel_rfl)) (hT0 1 _ (by decide) h1) (hK w hM)
    | 1, _ => exact v_move 2 (opAtW ho (by kernel_rfl)) (hT0 2 _ (by decide) h2) (hK w hM)
    | 2, _ => exact v_move 1 (opAtW ho (by kernel_rfl)) (hT0 1 _ (by decide) h1) (hK w hM)
    | 3, _ => exact u_nil 8 (opAtW ho (by kernel_rfl)) ((hU 2 (by kernel_rfl)).2 8 rfl) (hK w hM)
    | 4, _ => exact u_f41_3 9 (opAtW ho (by kernel_rfl)) ((hU 3 (by kernel_rfl)).2 9 rfl) (hK w hM)
    | 5, _ => exact u_loadi 10 (opAtW ho (by kernel_rfl)) ((hU 4 (by kernel_rfl)).2 10 rfl) ((hM.ahead hdi).c3) (hK w (hM.load (by decide) (by decide)))
    | 6, _ => exact v_move 0 (opAtW ho (by kernel_rfl)) (hT0 0 _ (by decide) h0) (hK w hM)
    | 7, _ => exact u_nil 12 (opAtW ho (by kernel_rfl)) ((hU 6 (by kernel_rfl)).2 12 rfl) (hK w hM)
    | 8, _ => exact u_f78_0 13 (opAtW ho (by kernel_rfl)) ((hU 7 (by kernel_rfl)).2 13 rfl) (hK w hM)
    | 9, _ => exact u_f72_2 14 (opAtW ho (by kernel_rfl)) ((hU 8 (by kernel_rfl)).2 14 rfl) (hK w hM)
    | 10, _ => exact u_loadi 15 (opAtW ho (by kernel_rfl)) ((hU 9 (by kernel_rfl)).2 15 rfl) (hM.2.2.1.cS) (hK w hM)
    | 11, _ => exact u_sub_ic 16 (opAtW ho (by kernel_rfl)) ((hU 10 (by kernel_rfl)).2 16 rfl) (by have := hq.S0; have := hq.S1; have := hq.V1; omega) (hK w hM)
    | 12, _ =>
      have x7 : a.tmps[7]?.getD undef = .func (.func k) #[] #[.pointer (some P)] := ((hU 1 (by kernel_rfl)).2 7 rfl)
      have x11 : a.tmps[11]?.getD undef = .int .i64 e.pl := ((hU 5 (by kernel_rfl)).2 11 rfl)
      have x17 : a.tmps[17]?.getD undef = .int .i64 (q.S - 1) := ((hU 11 (by kernel_rfl)).2 17 rfl)
      obtain ⟨dst, op, type, pos, after, guard⟩ := oo
      have ho' : op = .call { callee := .value (.func 122), args := #[.tmp 7, .tmp 11, .const (.int .i64 0), .tmp 17], argTypes := #[165, 3, 3, 3] } := opAtW ho (by kernel_rfl)
      subst ho'
      clear ho hT hU hT0
      have hfun := Tryz.func122
      go_simp
      have hs := (hM.before hdi).1
      refine (HC w hs).mono ?_
      rintro _ w' ⟨rfl, h1, h2⟩
      exact hK w' (hM.call N (by decide) h1 h2)
    | 13, _ => exact u_nil 6 (opAtW ho (by kernel_rfl)) ((hU 0 (by kernel_rfl)).2 6 rfl) (hK w hM)
    | 14, _ => exact u_f41_3 19 (opAtW ho (by kernel_rfl)) ((hU 13 (by kernel_rfl)).2 19 rfl) (hK w hM)
    | 15, _ =>
      have x20 : a.tmps[20]?.getD undef = .pointer (some ⟨ge, 3, none⟩) := ((hU 14 (by kernel_rfl)).2 20 rfl)
      have x18 : a.tmps[18]?.getD undef = .int .i64 z := ((hU 12 (by kernel_rfl)).2 18 rfl)
      exact u_storei 20 18 (opAtW ho (by kernel_rfl)) x20 x18 ((by have h9 := hM.2.1; rw [hdi] at h9; exact h9.at' 3 : w.cell? ⟨ge, 3, none⟩ = (evC e)[3]?)) ((hM.2.1).fr 3) (hK _ (hM.store N hdi (hU 12 (by kernel_rfl)).1 (hU 5 (by kernel_rfl)).1 (by decide) 3 _ rfl))
    | i + 16, h => exact absurd (show i + 16 < 16 from h) (by omega)
  · intro w hM
    exact hend w (hM.2)
noncomputable def rgValue_ops : Array Oper := opsW Tryz.f93 0
def rgValue_D : List (Option Nat) := [some 7, some 8, some 9, some 10, some 11, some 12, some 13, some 14, some 15, some 16, some 17, some 18, some 19, some 20, some 21, none]
set_option maxRecDepth 100000 in
set_option maxHeartbeats 4000000 in
theorem rgValue {id : Nat} {ops : Array Oper} (hops : ops = rgValue_ops) (T0 : Array Value) (hsz : 22 ≤ T0.size) (W : World) {σ : Type} {k : Nat} {P : Addr} {gF ge gc : Nat} {I : σ → World → Prop} {num : σ → Int → Int → Int → Int × σ} {ok : σ → Int → Int → Int → Prop} (N : NumC k P gF ge gc I num ok) (q : Cd) (hq : CdOk q) (e : Ev) (s s1 : σ) (z : Int) (ok' : EvOk e) (he : EvO W ge e) (hcd : CodAt W gc q) (hI : I s W)  (HC : ∀ w, I s w → Calls Tryz.prog 122 #[.func (.func k) #[] #[.pointer (some P)], .int .i64 e.pl, .int .i64 0, .int .i64 (q.V - 1)] w fun r w' => r = .returned (.int .i64 z) ∧ I s1 w' ∧ Kp gF none w w') (h0 : T0[0]? = some (.pointer (some ⟨gc, 0, none⟩))) (h1 : T0[1]? = some (.pointer (some ⟨ge, 0, none⟩))) (h2 : T0[2]? = some (.func (.func k) #[] #[.pointer (some P)])) {Q : Exit → Act → World → Prop}
    (hend : ∀ w : World, EvO w ge { e with pl := z } ∧ CodAt w gc q ∧ I s1 w ∧ Kp gF (some ge) W w → Q .normal ⟨putAll T0 [7, 8, 9, 10, 11, 12, 13, 14, 15, 16, 17, 18, 19, 20, 21] [.pointer (some ⟨ge, 0, none⟩), .func (.func k) #[] #[.pointer (some P)], .pointer (some ⟨ge, 0, none⟩), .pointer (some ⟨ge, 0, none⟩), .pointer (some ⟨ge, 3, none⟩), .int .i64 e.pl, .pointer (some ⟨gc, 0, none⟩), .pointer (some ⟨gc, 0, none⟩), .pointer (some ⟨gc, 0, none⟩), .pointer (some ⟨gc, 1, none⟩), .int .i64 q.V, .int .i64 (q.V - 1), .int .i64 z, .pointer (some ⟨ge, 0, none⟩), .pointer (some ⟨ge, 3, none⟩)], []⟩ w) : (Code.region id ops true).wp Tryz.prog Q ⟨T0, []⟩ W := by
  subst hops
  have hos : rgValue_ops.size = 16 := by kernel_rfl
  have hga : (List.range 16).all (fun i => match rgValue_ops[i]? with | some o => o.guard == ([none, none, none, none, none, none, none, none, none, none, none, none, none, none, none, none] : List (Option (Nat × Bool))).getD i none | none => false) = true := by kernel_rfl
  have hds : ((pairsS rgValue_D ([.pointer (some ⟨ge, 0, none⟩), .func (.func k) #[] #[.pointer (some P)], .pointer (some ⟨ge, 0, none⟩), .pointer (some ⟨ge, 0, none⟩), .pointer (some ⟨ge, 3, none⟩), .int .i64 e.pl, .pointer (some ⟨gc, 0, none⟩), .pointer (some ⟨gc, 0, none⟩), .pointer (some ⟨gc, 0, none⟩), .pointer (some ⟨gc, 1, none⟩), .int .i64 q.V, .int .i64 (q.V - 1), .int .i64 z, .pointer (some ⟨ge, 0, none⟩), .pointer (some ⟨ge, 3, none⟩), undef] : List Value)).map (·.1)) = [7, 8, 9, 10, 11, 12, 13, 14, 15, 16, 17, 18, 19, 20, 21] := rfl
  refine wp_region_valsG ([.pointer (some ⟨ge, 0, none⟩), .func (.func k) #[] #[.pointer (some P)], .pointer (some ⟨ge, 0, none⟩), .pointer (some ⟨ge, 0, none⟩), .pointer (some ⟨ge, 3, none⟩), .int .i64 e.pl, .pointer (some ⟨gc, 0, none⟩), .pointer (some ⟨gc, 0, none⟩), .pointer (some ⟨gc, 0, none⟩), .pointer (some ⟨gc, 1, none⟩), .int .i64 q.V, .int .i64 (q.V - 1), .int .i64 z, .pointer (some ⟨ge, 0, none⟩), .pointer (some ⟨ge, 3, none⟩), undef] : List Value) [true, true, true, true, true, true, true, true, true, true, true, true, true, true, true, true] rgValue_D (MidR gF ge gc I q e { e with pl := z } s s1 W 12 15 5) W T0 (by rw [hds]; decide) (fun x hx => ?_) (by kernel_rfl) (by kernel_rfl) (fun i o j want ho hg => ?_) (fun i hi hon => ?_) (fun i hi hon don w hM => ?_) ?_ ?_ ?_
  · rw [hds] at hx
    have hall : (([7, 8, 9, 10, 11, 12, 13, 14, 15, 16, 17, 18, 19, 20, 21] : List Nat).all fun d => decide (d < 22)) = true := by decide
    have := List.all_eq_true.1 hall x hx
    simp only [decide_eq_true_eq] at this
    omega
  · have hi : i < 16 := by rw [← hos]; exact (Array.getElem?_eq_some_iff.1 ho).1
    have h1 := List.all_eq_true.1 hga i (by simpa using hi)
    rw [ho] at h1
    simp only [hg, beq_iff_eq] at h1
    match i, hi with
    | 0, _ => cases h1
    | 1, _ => cases h1
    | 2, _ => cases h1
    | 3, _ => cases h1
    | 4, _ => cases h1
    | 5, _ => cases h1
    | 6, _ => cases h1
    | 7, _ => cases h1
    | 8, _ => cases h1
    | 9, _ => cases h1
    | 10, _ => cases h1
    | 11, _ => cases h1
    | 12, _ => cases h1
    | 13, _ => cases h1
    | 14, _ => cases h1
    | 15, _ => cases h1
    | i + 16, h => exact absurd (show i + 16 < 16 from h) (by omega)
  · match i, hi with
    | 0, _ => cases hon
    | 1, _ => cases hon
    | 2, _ => cases hon
    | 3, _ => cases hon
    | 4, _ => cases hon
    | 5, _ => cases hon
    | 6, _ => cases hon
    | 7, _ => cases hon
    | 8, _ => cases hon
    | 9, _ => cases hon
    | 10, _ => cases hon
    | 11, _ => cases hon
    | 12, _ => cases hon
    | 13, _ => cases hon
    | 14, _ => cases hon
    | 15, _ => cases hon
    | i + 16, h => exact absurd (show i + 16 < 16 from h) (by omega)
  · match i, hi with
    | 0, _ => cases hon
    | 1, _ => cases hon
    | 2, _ => cases hon
    | 3, _ => cases hon
    | 4, _ => cases hon
    | 5, _ => cases hon
    | 6, _ => cases hon
    | 7, _ => cases hon
    | 8, _ => cases hon
    | 9, _ => cases hon
    | 10, _ => cases hon
    | 11, _ => cases hon
    | 12, _ => cases hon
    | 13, _ => cases hon
    | 14, _ => cases hon
    | 15, _ => cases hon
    | i + 16, h => exact absurd (show i + 16 < 16 from h) (by omega)
  · exact ⟨fun h => by simp at h, he, hcd, N.stay _ _ _ hI (kp_below ((Below.refl _ _).drew)), kp_below ((Below.refl _ _).drew)⟩
  · intro i oo ho hi hon don a w hT hU hdi hM K hK
    rw [hds] at hT
    have hT0 : ∀ t v, t ∉ ([7, 8, 9, 10, 11, 12, 13, 14, 15, 16, 17, 18, 19, 20, 21] : List Nat) → T0[t]? = some v → a.tmps[t]?.getD undef = v := fun t v ht hv => by rw [hT t ht, hv]; rfl
    match i, hi with
    | 0, _ => exact v_move 1 (opAtW ho (by kernel_rfl)) (hT0 1 _ (by decide) h1) (hK w hM)
    | 1, _ => exact v_move 2 (opAtW ho (by kernel_rfl)) (hT0 2 _ (by decide) h2) (hK w hM)
    | 2, _ => exact v_move 1 (opAtW ho (by kernel_rfl)) (hT0 1 _ (by decide) h1) (hK w hM)
    | 3, _ => exact u_nil 9 (opAtW ho (by kernel_rfl)) ((hU 2 (by kernel_rfl)).2 9 rfl) (hK w hM)
    | 4, _ => exact u_f41_3 10 (opAtW ho (by kernel_rfl)) ((hU 3 (by kernel_rfl)).2 10 rfl) (hK w hM)
    | 5, _ => exact u_loadi 11 (opAtW ho (by kernel_rfl)) ((hU 4 (by kernel_rfl)).2 11 rfl) ((hM.ahead hdi).c3) (hK w (hM.load (by decide) (by decide)))
    | 6, _ => exact v_move 0 (opAtW ho (by kernel_rfl)) (hT0 0 _ (by decide) h0) (hK w hM)
    | 7, _ => exact u_nil 13 (opAtW ho (by kernel_rfl)) ((hU 6 (by kernel_rfl)).2 13 rfl) (hK w hM)
    | 8, _ => exact u_f78_0 14 (opAtW ho (by kernel_rfl)) ((hU 7 (by kernel_rfl)).2 14 rfl) (hK w hM)
    | 9, _ => exact u_f72_1 15 (opAtW ho (by kernel_rfl)) ((hU 8 (by kernel_rfl)).2 15 rfl) (hK w hM)
    | 10, _ => exact u_loadi 16 (opAtW ho (by kernel_rfl)) ((hU 9 (by kernel_rfl)).2 16 rfl) (hM.2.2.1.cV) (hK w hM)
    | 11, _ => exact u_sub_ic 17 (opAtW ho (by kernel_rfl)) ((hU 10 (by kernel_rfl)).2 17 rfl) (by have := hq.V0; have := hq.V1; omega) (hK w hM)
    | 12, _ =>
      have x8 : a.tmps[8]?.getD undef = .func (.func k) #[] #[.pointer (some P)] := ((hU 1 (by kernel_rfl)).2 8 rfl)
      have x12 : a.tmps[12]?.getD undef = .int .i64 e.pl := ((hU 5 (by kernel_rfl)).2 12 rfl)
      have x18 : a.tmps[18]?.getD undef = .int .i64 (q.V - 1) := ((hU 11 (by kernel_rfl)).2 18 rfl)
      obtain ⟨dst, op, type, pos, after, guard⟩ := oo
      have ho' : op = .call { callee := .value (.func 122), args := #[.tmp 8, .tmp 12, .const (.int .i64 0), .tmp 18], argTypes := #[165, 3, 3, 3] } := opAtW ho (by kernel_rfl)
      subst ho'
      clear ho hT hU hT0
      have hfun := Tryz.func122
      go_simp
      have hs := (hM.before hdi).1
      refine (HC w hs).mono ?_
      rintro _ w' ⟨rfl, h1, h2⟩
      exact hK w' (hM.call N (by decide) h1 h2)
    | 13, _ => exact u_nil 7 (opAtW ho (by kernel_rfl)) ((hU 0 (by kernel_rfl)).2 7 rfl) (hK w hM)
    | 14, _ => exact u_f41_3 20 (opAtW ho (by kernel_rfl)) ((hU 13 (by kernel_rfl)).2 20 rfl) (hK w hM)
    | 15, _ =>
      have x21 : a.tmps[21]?.getD undef = .pointer (some ⟨ge, 3, none⟩) := ((hU 14 (by kernel_rfl)).2 21 rfl)
      have x19 : a.tmps[19]?.getD undef = .int .i64 z := ((hU 12 (by kernel_rfl)).2 19 rfl)
      exact u_storei 21 19 (opAtW ho (by kernel_rfl)) x21 x19 ((by have h9 := hM.2.1; rw [hdi] at h9; exact h9.at' 3 : w.cell? ⟨ge, 3, none⟩ = (evC e)[3]?)) ((hM.2.1).fr 3) (hK _ (hM.store N hdi (hU 12 (by kernel_rfl)).1 (hU 5 (by kernel_rfl)).1 (by decide) 3 _ rfl))
    | i + 16, h => exact absurd (show i + 16 < 16 from h) (by omega)
  · intro w hM
    exact hend w (hM.2)
noncomputable def rgBump_ops : Array Oper := opsW Tryz.f95 0
def rgBump_D : List (Option Nat) := [some 6, some 7, some 8, some 9, some 10, some 11, some 12, some 13, some 14, some 15, some 16, some 17, some 18, some 19, some 20, some 21, some 22, some 23, some 24, some 25, some 26, some 27, some 28, some 29, none]
set_option maxRecDepth 100000 in
set_option maxHeartbeats 4000000 in
theorem rgBump {id : Nat} {ops : Array Oper} (hops : ops = rgBump_ops) (T0 : Array Value) (hsz : 30 ≤ T0.size) (W : World) {σ : Type} {k : Nat} {P : Addr} {gF ge gc : Nat} {I : σ → World → Prop} {num : σ → Int → Int → Int → Int × σ} {ok : σ → Int → Int → Int → Prop} (N : NumC k P gF ge gc I num ok) (q : Cd) (hq : CdOk q) (e : Ev) (s s1 : σ) (z : Int) (ok' : EvOk e) (he : EvO W ge e) (hcd : CodAt W gc q) (hI : I s W) (hv : -4611686018427387904 ≤ e.v ∧ e.v ≤ 4611686018427387904) (hz : 0 ≤ z ∧ z ≤ 2199023255552) (HC : ∀ w, I s w → Calls Tryz.prog 122 #[.func (.func k) #[] #[.pointer (some P)], .int .i64 (e.v - q.clk), .int .i64 1, .int .i64 (1099511627776 - q.clk)] w fun r w' => r = .returned (.int .i64 z) ∧ I s1 w' ∧ Kp gF none w w') (h0 : T0[0]? = some (.pointer (some ⟨gc, 0, none⟩))) (h1 : T0[1]? = some (.pointer (some ⟨ge, 0, none⟩))) (h2 : T0[2]? = some (.func (.func k) #[] #[.pointer (some P)])) {Q : Exit → Act → World → Prop}
    (hend : ∀ w : World, EvO w ge { e with v := q.clk + z } ∧ CodAt w gc q ∧ I s1 w ∧ Kp gF (some ge) W w → Q .normal ⟨putAll T0 [6, 7, 8, 9, 10, 11, 12, 13, 14, 15, 16, 17, 18, 19, 20, 21, 22, 23, 24, 25, 26, 27, 28, 29] [.pointer (some ⟨ge, 0, none⟩), .pointer (some ⟨gc, 0, none⟩), .pointer (some ⟨gc, 0, none⟩), .pointer (some ⟨gc, 4, none⟩), .int .i64 q.clk, .func (.func k) #[] #[.pointer (some P)], .pointer (some ⟨ge, 0, none⟩), .pointer (some ⟨ge, 0, none⟩), .pointer (some ⟨ge, 4, none⟩), .int .i64 e.v, .pointer (some ⟨gc, 0, none⟩), .pointer (some ⟨gc, 0, none⟩), .pointer (some ⟨gc, 4, none⟩), .int .i64 q.clk, .int .i64 (e.v - q.clk), .pointer (some ⟨gc, 0, none⟩), .pointer (some ⟨gc, 0, none⟩), .pointer (some ⟨gc, 4, none⟩), .int .i64 q.clk, .int .i64 (1099511627776 - q.clk), .int .i64 z, .int .i64 (q.clk + z), .pointer (some ⟨ge, 0, none⟩), .pointer (some ⟨ge, 4, none⟩)], []⟩ w) : (Code.region id ops true).wp Tryz.prog Q ⟨T0, []⟩ W := by
  subst hops
  have hos : rgBump_ops.size = 25 := by kernel_rfl
  have hga : (List.range 25).all (fun i => match rgBump_ops[i]? with | some o => o.guard == ([none, none, none, none, none, none, none, none, none, none, none, none, none, none, none, none, none, none, none, none, none, none, none, none, none] : List (Option (Nat × Bool))).getD i none | none => false) = true := by kernel_rfl
  have hds : ((pairsS rgBump_D ([.pointer (some ⟨ge, 0, none⟩), .pointer (some ⟨gc, 0, none⟩), .pointer (some ⟨gc, 0, none⟩), .pointer (some ⟨gc, 4, none⟩), .int .i64 q.clk, .func (.func k) #[] #[.pointer (some P)], .pointer (some ⟨ge, 0, none⟩), .pointer (some ⟨ge, 0, none⟩), .pointer (some ⟨ge, 4, none⟩), .int .i64 e.v, .pointer (some ⟨gc, 0, none⟩), .pointer (some ⟨gc, 0, none⟩), .pointer (some ⟨gc, 4, none⟩), .int .i64 q.clk, .int .i64 (e.v - q.clk), .pointer (some ⟨gc, 0, none⟩), .pointer (some ⟨gc, 0, none⟩), .pointer (some ⟨gc, 4, none⟩), .int .i64 q.clk, .int .i64 (1099511627776 - q.clk), .int .i64 z, .int .i64 (q.clk + z), .pointer (some ⟨ge, 0, none⟩), .pointer (some ⟨ge, 4, none⟩), undef] : List Value)).map (·.1)) = [6, 7, 8, 9, 10, 11, 12, 13, 14, 15, 16, 17, 18, 19, 20, 21, 22, 23, 24, 25, 26, 27, 28, 29] := rfl
  refine wp_region_valsG ([.pointer (some ⟨ge, 0, none⟩), .pointer (some ⟨gc, 0, none⟩), .pointer (some ⟨gc, 0, none⟩), .pointer (some ⟨gc, 4, none⟩), .int .i64 q.clk, .func (.func k) #[] #[.pointer (some P)], .pointer (some ⟨ge, 0, none⟩), .pointer (some ⟨ge, 0, none⟩), .pointer (some ⟨ge, 4, none⟩), .int .i64 e.v, .pointer (some ⟨gc, 0, none⟩), .pointer (some ⟨gc, 0, none⟩), .pointer (some ⟨gc, 4, none⟩), .int .i64 q.clk, .int .i64 (e.v - q.clk), .pointer (some ⟨gc, 0, none⟩), .pointer (some ⟨gc, 0, none⟩), .pointer (some ⟨gc, 4, none⟩), .int .i64 q.clk, .int .i64 (1099511627776 - q.clk), .int .i64 z, .int .i64 (q.clk + z), .pointer (some ⟨ge, 0, none⟩), .pointer (some ⟨ge, 4, none⟩), undef] : List Value) [true, true, true, true, true, true, true, true, true, true, true, true, true, true, true, true, true, true, true, true, true, true, true, true, true] rgBump_D (MidR gF ge gc I q e { e with v := q.clk + z } s s1 W 20 24 9) W T0 (by rw [hds]; decide) (fun x hx => ?_) (by kernel_rfl) (by kernel_rfl) (fun i o j want ho hg => ?_) (fun i hi hon => ?_) (fun i hi hon don w hM => ?_) ?_ ?_ ?_
  · rw [hds] at hx
    have hall : (([6, 7, 8, 9, 10, 11, 12, 13, 14, 15, 16, 17, 18, 19, 20, 21, 22, 23, 24, 25, 26, 27, 28, 29] : List Nat).all fun d => decide (d < 30)) = true := by decide
    have := List.all_eq_true.1 hall x hx
    simp only [decide_eq_true_eq] at this
    omega
  · have hi : i < 25 := by rw [← hos]; exact (Array.getElem?_eq_some_iff.1 ho).1
    have h1 := List.all_eq_true.1 hga i (by simpa using hi)
    rw [ho] at h1
    simp only [hg, beq_iff_eq] at h1
    match i, hi with
    | 0, _ => cases h1
    | 1, _ => cases h1
    | 2, _ => cases h1
    | 3, _ => cases h1
    | 4, _ => cases h1
    | 5, _ => cases h1
    | 6, _ => cases h1
    | 7, _ => cases h1
    | 8, _ => cases h1
    | 9, _ => cases h1
    | 10, _ => cases h1
    | 11, _ => cases h1
    | 12, _ => cases h1
    | 13, _ => cases h1
    | 14, _ => cases h1
    | 15, _ => cases h1
    | 16, _ => cases h1
    | 17, _ => cases h1
    | 18, _ => cases h1
    | 19, _ => cases h1
    | 20, _ => cases h1
    | 21, _ => cases h1
    | 22, _ => cases h1
    | 23, _ => cases h1
    | 24, _ => cases h1
    | i + 25, h => exact absurd (show i + 25 < 25 from h) (by omega)
  · match i, hi with
    | 0, _ => cases hon
    | 1, _ => cases hon
    | 2, _ => cases hon
    | 3, _ => cases hon
    | 4, _ => cases hon
    | 5, _ => cases hon
    | 6, _ => cases hon
    | 7, _ => cases hon
    | 8, _ => cases hon
    | 9, _ => cases hon
    | 10, _ => cases hon
    | 11, _ => cases hon
    | 12, _ => cases hon
    | 13, _ => cases hon
    | 14, _ => cases hon
    | 15, _ => cases hon
    | 16, _ => cases hon
    | 17, _ => cases hon
    | 18, _ => cases hon
    | 19, _ => cases hon
    | 20, _ => cases hon
    | 21, _ => cases hon
    | 22, _ => cases hon
    | 23, _ => cases hon
    | 24, _ => cases hon
    | i + 25, h => exact absurd (show i + 25 < 25 from h) (by omega)
  · match i, hi with
    | 0, _ => cases hon
    | 1, _ => cases hon
    | 2, _ => cases hon
    | 3, _ => cases hon
    | 4, _ => cases hon
    | 5, _ => cases hon
    | 6, _ => cases hon
    | 7, _ => cases hon
    | 8, _ => cases hon
    | 9, _ => cases hon
    | 10, _ => cases hon
    | 11, _ => cases hon
    | 12, _ => cases hon
    | 13, _ => cases hon
    | 14, _ => cases hon
    | 15, _ => cases hon
    | 16, _ => cases hon
    | 17, _ => cases hon
    | 18, _ => cases hon
    | 19, _ => cases hon
    | 20, _ => cases hon
    | 21, _ => cases hon
    | 22, _ => cases hon
    | 23, _ => cases hon
    | 24, _ => cases hon
    | i + 25, h => exact absurd (show i + 25 < 25 from h) (by omega)
  · exact ⟨fun h => by simp at h, he, hcd, N.stay _ _ _ hI (kp_below ((Below.refl _ _).drew)), kp_below ((Below.refl _ _).drew)⟩
  · intro i oo ho hi hon don a w hT hU hdi hM K hK
    rw [hds] at hT
    have hT0 : ∀ t v, t ∉ ([6, 7, 8, 9, 10, 11, 12, 13, 14, 15, 16, 17, 18, 19, 20, 21, 22, 23, 24, 25, 26, 27, 28, 29] : List Nat) → T0[t]? = some v → a.tmps[t]?.getD undef = v := fun t v ht hv => by rw [hT t ht, hv]; rfl
    match i, hi with
    | 0, _ => exact v_move 1 (opAtW ho (by kernel_rfl)) (hT0 1 _ (by decide) h1) (hK w hM)
    | 1, _ => exact v_move 0 (opAtW ho (by kernel_rfl)) (hT0 0 _ (by decide) h0) (hK w hM)
    | 2, _ => exact u_nil 7 (opAtW ho (by kernel_rfl)) ((hU 1 (by kernel_rfl)).2 7 rfl) (hK w hM)
    | 3, _ => exact u_f78_2 8 (opAtW ho (by kernel_rfl)) ((hU 2 (by kernel_rfl)).2 8 rfl) (hK w hM)
    | 4, _ => exact u_loadi 9 (opAtW ho (by kernel_rfl)) ((hU 3 (by kernel_rfl)).2 9 rfl) (hM.2.2.1.cc) (hK w hM)
    | 5, _ => exact v_move 2 (opAtW ho (by kernel_rfl)) (hT0 2 _ (by decide) h2) (hK w hM)
    | 6, _ => exact v_move 1 (opAtW ho (by kernel_rfl)) (hT0 1 _ (by decide) h1) (hK w hM)
    | 7, _ => exact u_nil 12 (opAtW ho (by kernel_rfl)) ((hU 6 (by kernel_rfl)).2 12 rfl) (hK w hM)
    | 8, _ => exact u_f41_4 13 (opAtW ho (by kernel_rfl)) ((hU 7 (by kernel_rfl)).2 13 rfl) (hK w hM)
    | 9, _ => exact u_loadi 14 (opAtW ho (by kernel_rfl)) ((hU 8 (by kernel_rfl)).2 14 rfl) ((hM.ahead hdi).c4) (hK w (hM.load (by decide) (by decide)))
    | 10, _ => exact v_move 0 (opAtW ho (by kernel_rfl)) (hT0 0 _ (by decide) h0) (hK w hM)
    | 11, _ => exact u_nil 16 (opAtW ho (by kernel_rfl)) ((hU 10 (by kernel_rfl)).2 16 rfl) (hK w hM)
    | 12, _ => exact u_f78_2 17 (opAtW ho (by kernel_rfl)) ((hU 11 (by kernel_rfl)).2 17 rfl) (hK w hM)
    | 13, _ => exact u_loadi 18 (opAtW ho (by kernel_rfl)) ((hU 12 (by kernel_rfl)).2 18 rfl) (hM.2.2.1.cc) (hK w hM)
    | 14, _ => exact u_sub_i 15 19 (opAtW ho (by kernel_rfl)) ((hU 9 (by kernel_rfl)).2 15 rfl) ((hU 13 (by kernel_rfl)).2 19 rfl) (by have := hq.c0; have := hq.c1; omega) (hK w hM)
    | 15, _ => exact v_move 0 (opAtW ho (by kernel_rfl)) (hT0 0 _ (by decide) h0) (hK w hM)
    | 16, _ => exact u_nil 21 (opAtW ho (by kernel_rfl)) ((hU 15 (by kernel_rfl)).2 21 rfl) (hK w hM)
    | 17, _ => exact u_f78_2 22 (opAtW ho (by kernel_rfl)) ((hU 16 (by kernel_rfl)).2 22 rfl) (hK w hM)
    | 18, _ => exact u_loadi 23 (opAtW ho (by kernel_rfl)) ((hU 17 (by kernel_rfl)).2 23 rfl) (hM.2.2.1.cc) (hK w hM)
    | 19, _ => exact u_sub_ik 24 (opAtW ho (by kernel_rfl)) ((hU 18 (by kernel_rfl)).2 24 rfl) (by have := hq.c0; have := hq.c1; omega) (hK w hM)
    | 20, _ =>
      have x11 : a.tmps[11]?.getD undef = .func (.func k) #[] #[.pointer (some P)] := ((hU 5 (by kernel_rfl)).2 11 rfl)
      have x20 : a.tmps[20]?.getD undef = .int .i64 (e.v - q.clk) := ((hU 14 (by kernel_rfl)).2 20 rfl)
      have x25 : a.tmps[25]?.getD undef = .int .i64 (1099511627776 - q.clk) := ((hU 19 (by kernel_rfl)).2 25 rfl)
      obtain ⟨dst, op, type, pos, after, guard⟩ := oo
      have ho' : op = .call { callee := .value (.func 122), args := #[.tmp 11, .tmp 20, .const (.int .i64 1), .tmp 25], argTypes := #[165, 3, 3, 3] } := opAtW ho (by kernel_rfl)
      subst ho'
      clear ho hT hU hT0
      have hfun := Tryz.func122
      go_simp
      have hs := (hM.before hdi).1
      refine (HC w hs).mono ?_
      rintro _ w' ⟨rfl, h1, h2⟩
      exact hK w' (hM.call N (by decide) h1 h2)
    | 21, _ => exact u_add_i 10 26 (opAtW ho (by kernel_rfl)) ((hU 4 (by kernel_rfl)).2 10 rfl) ((hU 20 (by kernel_rfl)).2 26 rfl) (by have := hq.c0; have := hq.c1; omega) (hK w hM)
    | 22, _ => exact u_nil 6 (opAtW ho (by kernel_rfl)) ((hU 0 (by kernel_rfl)).2 6 rfl) (hK w hM)
    | 23, _ => exact u_f41_4 28 (opAtW ho (by kernel_rfl)) ((hU 22 (by kernel_rfl)).2 28 rfl) (hK w hM)
    | 24, _ =>
      have x29 : a.tmps[29]?.getD undef = .pointer (some ⟨ge, 4, none⟩) := ((hU 23 (by kernel_rfl)).2 29 rfl)
      have x27 : a.tmps[27]?.getD undef = .int .i64 (q.clk + z) := ((hU 21 (by kernel_rfl)).2 27 rfl)
      exact u_storei 29 27 (opAtW ho (by kernel_rfl)) x29 x27 ((by have h9 := hM.2.1; rw [hdi] at h9; exact h9.at' 4 : w.cell? ⟨ge, 4, none⟩ = (evC e)[4]?)) ((hM.2.1).fr 4) (hK _ (hM.store N hdi (hU 20 (by kernel_rfl)).1 (hU 9 (by kernel_rfl)).1 (by decide) 4 _ rfl))
    | i + 25, h => exact absurd (show i + 25 < 25 from h) (by omega)
  · intro w hM
    exact hend w (hM.2)
noncomputable def rgBegin_ops : Array Oper := opsW Tryz.f91 1
def rgBegin_D : List (Option Nat) := [some 15, some 16, some 17, some 18, some 19, some 20, some 21, some 22, some 23, some 24, some 25, some 26, some 27, some 28, some 29, some 30, some 31, some 32, some 33, some 34, some 35, some 36, some 37, some 38, none]
set_option maxRecDepth 100000 in
set_option maxHeartbeats 4000000 in
theorem rgBegin {id : Nat} {ops : Array Oper} (hops : ops = rgBegin_ops) (T0 : Array Value) (hsz : 39 ≤ T0.size) (W : World) {σ : Type} {k : Nat} {P : Addr} {gF ge gc : Nat} {I : σ → World → Prop} {num : σ → Int → Int → Int → Int × σ} {ok : σ → Int → Int → Int → Prop} (N : NumC k P gF ge gc I num ok) (q : Cd) (hq : CdOk q) (e : Ev) (s s1 : σ) (z : Int) (ok' : EvOk e) (he : EvO W ge e) (hcd : CodAt W gc q) (hI : I s W) (hv : -4611686018427387904 ≤ e.v ∧ e.v ≤ 4611686018427387904) (hz : 0 ≤ z ∧ z ≤ 2199023255552) (HC : ∀ w, I s w → Calls Tryz.prog 122 #[.func (.func k) #[] #[.pointer (some P)], .int .i64 (e.v - q.clk), .int .i64 0, .int .i64 (1099511627776 - q.clk)] w fun r w' => r = .returned (.int .i64 z) ∧ I s1 w' ∧ Kp gF none w w') (h0 : T0[0]? = some (.pointer (some ⟨gc, 0, none⟩))) (h1 : T0[1]? = some (.pointer (some ⟨ge, 0, none⟩))) (h2 : T0[2]? = some (.func (.func k) #[] #[.pointer (some P)])) {Q : Exit → Act → World → Prop}
    (hend : ∀ w : World, EvO w ge { e with v := q.clk + z } ∧ CodAt w gc q ∧ I s1 w ∧ Kp gF (some ge) W w → Q .normal ⟨putAll T0 [15, 16, 17, 18, 19, 20, 21, 22, 23, 24, 25, 26, 27, 28, 29, 30, 31, 32, 33, 34, 35, 36, 37, 38] [.pointer (some ⟨ge, 0, none⟩), .pointer (some ⟨gc, 0, none⟩), .pointer (some ⟨gc, 0, none⟩), .pointer (some ⟨gc, 4, none⟩), .int .i64 q.clk, .func (.func k) #[] #[.pointer (some P)], .pointer (some ⟨ge, 0, none⟩), .pointer (some ⟨ge, 0, none⟩), .pointer (some ⟨ge, 4, none⟩), .int .i64 e.v, .pointer (some ⟨gc, 0, none⟩), .pointer (some ⟨gc, 0, none⟩), .pointer (some ⟨gc, 4, none⟩), .int .i64 q.clk, .int .i64 (e.v - q.clk), .pointer (some ⟨gc, 0, none⟩), .pointer (some ⟨gc, 0, none⟩), .pointer (some ⟨gc, 4, none⟩), .int .i64 q.clk, .int .i64 (1099511627776 - q.clk), .int .i64 z, .int .i64 (q.clk + z), .pointer (some ⟨ge, 0, none⟩), .pointer (some ⟨ge, 4, none⟩)], []⟩ w) : (Code.region id ops true).wp Tryz.prog Q ⟨T0, []⟩ W := by
  subst hops
  have hos : rgBegin_ops.size = 25 := by kernel_rfl
  have hga : (List.range 25).all (fun i => match rgBegin_ops[i]? with | some o => o.guard == ([none, none, none, none, none, none, none, none, none, none, none, none, none, none, none, none, none, none, none, none, none, none, none, none, none] : List (Option (Nat × Bool))).getD i none | none => false) = true := by kernel_rfl
  have hds : ((pairsS rgBegin_D ([.pointer (some ⟨ge, 0, none⟩), .pointer (some ⟨gc, 0, none⟩), .pointer (some ⟨gc, 0, none⟩), .pointer (some ⟨gc, 4, none⟩), .int .i64 q.clk, .func (.func k) #[] #[.pointer (some P)], .pointer (some ⟨ge, 0, none⟩), .pointer (some ⟨ge, 0, none⟩), .pointer (some ⟨ge, 4, none⟩), .int .i64 e.v, .pointer (some ⟨gc, 0, none⟩), .pointer (some ⟨gc, 0, none⟩), .pointer (some ⟨gc, 4, none⟩), .int .i64 q.clk, .int .i64 (e.v - q.clk), .pointer (some ⟨gc, 0, none⟩), .pointer (some ⟨gc, 0, none⟩), .pointer (some ⟨gc, 4, none⟩), .int .i64 q.clk, .int .i64 (1099511627776 - q.clk), .int .i64 z, .int .i64 (q.clk + z), .pointer (some ⟨ge, 0, none⟩), .pointer (some ⟨ge, 4, none⟩), undef] : List Value)).map (·.1)) = [15, 16, 17, 18, 19, 20, 21, 22, 23, 24, 25, 26, 27, 28, 29, 30, 31, 32, 33, 34, 35, 36, 37, 38] := rfl
  refine wp_region_valsG ([.pointer (some ⟨ge, 0, none⟩), .pointer (some ⟨gc, 0, none⟩), .pointer (some ⟨gc, 0, none⟩), .pointer (some ⟨gc, 4, none⟩), .int .i64 q.clk, .func (.func k) #[] #[.pointer (some P)], .pointer (some ⟨ge, 0, none⟩), .pointer (some ⟨ge, 0, none⟩), .pointer (some ⟨ge, 4, none⟩), .int .i64 e.v, .pointer (some ⟨gc, 0, none⟩), .pointer (some ⟨gc, 0, none⟩), .pointer (some ⟨gc, 4, none⟩), .int .i64 q.clk, .int .i64 (e.v - q.clk), .pointer (some ⟨gc, 0, none⟩), .pointer (some ⟨gc, 0, none⟩), .pointer (some ⟨gc, 4, none⟩), .int .i64 q.clk, .int .i64 (1099511627776 - q.clk), .int .i64 z, .int .i64 (q.clk + z), .pointer (some ⟨ge, 0, none⟩), .pointer (some ⟨ge, 4, none⟩), undef] : List Value) [true, true, true, true, true, true, true, true, true, true, true, true, true, true, true, true, true, true, true, true, true, true, true, true, true] rgBegin_D (MidR gF ge gc I q e { e with v := q.clk + z } s s1 W 20 24 9) W T0 (by rw [hds]; decide) (fun x hx => ?_) (by kernel_rfl) (by kernel_rfl) (fun i o j want ho hg => ?_) (fun i hi hon => ?_) (fun i hi hon don w hM => ?_) ?_ ?_ ?_
  · rw [hds] at hx
    have hall : (([15, 16, 17, 18, 19, 20, 21, 22, 23, 24, 25, 26, 27, 28, 29, 30, 31, 32, 33, 34, 35, 36, 37, 38] : List Nat).all fun d => decide (d < 39)) = true := by decide
    have := List.all_eq_true.1 hall x hx
    simp only [decide_eq_true_eq] at this
    omega
  · have hi : i < 25 := by rw [← hos]; exact (Array.getElem?_eq_some_iff.1 ho).1
    have h1 := List.all_eq_true.1 hga i (by simpa using hi)
    rw [ho] at h1
    simp only [hg, beq_iff_eq] at h1
    match i, hi with
    | 0, _ => cases h1
    | 1, _ => cases h1
    | 2, _ => cases h1
    | 3, _ => cases h1
    | 4, _ => cases h1
    | 5, _ => cases h1
    | 6, _ => cases h1
    | 7, _ => cases h1
    | 8, _ => cases h1
    | 9, _ => cases h1
    | 10, _ => cases h1
    | 11, _ => cases h1
    | 12, _ => cases h1
    | 13, _ => cases h1
    | 14, _ => cases h1
    | 15, _ => cases h1
    | 16, _ => cases h1
    | 17, _ => cases h1
    | 18, _ => cases h1
    | 19, _ => cases h1
    | 20, _ => cases h1
    | 21, _ => cases h1
    | 22, _ => cases h1
    | 23, _ => cases h1
    | 24, _ => cases h1
    | i + 25, h => exact absurd (show i + 25 < 25 from h) (by omega)
  · match i, hi with
    | 0, _ => cases hon
    | 1, _ => cases hon
    | 2, _ => cases hon
    | 3, _ => cases hon
    | 4, _ => cases hon
    | 5, _ => cases hon
    | 6, _ => cases hon
    | 7, _ => cases hon
    | 8, _ => cases hon
    | 9, _ => cases hon
    | 10, _ => cases hon
    | 11, _ => cases hon
    | 12, _ => cases hon
    | 13, _ => cases hon
    | 14, _ => cases hon
    | 15, _ => cases hon
    | 16, _ => cases hon
    | 17, _ => cases hon
    | 18, _ => cases hon
    | 19, _ => cases hon
    | 20, _ => cases hon
    | 21, _ => cases hon
    | 22, _ => cases hon
    | 23, _ => cases hon
    | 24, _ => cases hon
    | i + 25, h => exact absurd (show i + 25 < 25 from h) (by omega)
  · match i, hi with
    | 0, _ => cases hon
    | 1, _ => cases hon
    | 2, _ => cases hon
    | 3, _ => cases hon
    | 4, _ => cases hon
    | 5, _ => cases hon
    | 6, _ => cases hon
    | 7, _ => cases hon
    | 8, _ => cases hon
    | 9, _ => cases hon
    | 10, _ => cases hon
    | 11, _ => cases hon
    | 12, _ => cases hon
    | 13, _ => cases hon
    | 14, _ => cases hon
    | 15, _ => cases hon
    | 16, _ => cases hon
    | 17, _ => cases hon
    | 18, _ => cases hon
    | 19, _ => cases hon
    | 20, _ => cases hon
    | 21, _ => cases hon
    | 22, _ => cases hon
    | 23, _ => cases hon
    | 24, _ => cases hon
    | i + 25, h => exact absurd (show i + 25 < 25 from h) (by omega)
  · exact ⟨fun h => by simp at h, he, hcd, N.stay _ _ _ hI (kp_below ((Below.refl _ _).drew)), kp_below ((Below.refl _ _).drew)⟩
  · intro i oo ho hi hon don a w hT hU hdi hM K hK
    rw [hds] at hT
    have hT0 : ∀ t v, t ∉ ([15, 16, 17, 18, 19, 20, 21, 22, 23, 24, 25, 26, 27, 28, 29, 30, 31, 32, 33, 34, 35, 36, 37, 38] : List Nat) → T0[t]? = some v → a.tmps[t]?.getD undef = v := fun t v ht hv => by rw [hT t ht, hv]; rfl
    match i, hi with
    | 0, _ => exact v_move 1 (opAtW ho (by kernel_rfl)) (hT0 1 _ (by decide) h1) (hK w hM)
    | 1, _ => exact v_move 0 (opAtW ho (by kernel_rfl)) (hT0 0 _ (by decide) h0) (hK w hM)
    | 2, _ => exact u_nil 16 (opAtW ho (by kernel_rfl)) ((hU 1 (by kernel_rfl)).2 16 rfl) (hK w hM)
    | 3, _ => exact u_f78_2 17 (opAtW ho (by kernel_rfl)) ((hU 2 (by kernel_rfl)).2 17 rfl) (hK w hM)
    | 4, _ => exact u_loadi 18 (opAtW ho (by kernel_rfl)) ((hU 3 (by kernel_rfl)).2 18 rfl) (hM.2.2.1.cc) (hK w hM)
    | 5, _ => exact v_move 2 (opAtW ho (by kernel_rfl)) (hT0 2 _ (by decide) h2) (hK w hM)
    | 6, _ => exact v_move 1 (opAtW ho (by kernel_rfl)) (hT0 1 _ (by decide) h1) (hK w hM)
    | 7, _ => exact u_nil 21 (opAtW ho (by kernel_rfl)) ((hU 6 (by kernel_rfl)).2 21 rfl) (hK w hM)
    | 8, _ => exact u_f41_4 22 (opAtW ho (by kernel_rfl)) ((hU 7 (by kernel_rfl)).2 22 rfl) (hK w hM)
    | 9, _ => exact u_loadi 23 (opAtW ho (by kernel_rfl)) ((hU 8 (by kernel_rfl)).2 23 rfl) ((hM.ahead hdi).c4) (hK w (hM.load (by decide) (by decide)))
    | 10, _ => exact v_move 0 (opAtW ho (by kernel_rfl)) (hT0 0 _ (by decide) h0) (hK w hM)
    | 11, _ => exact u_nil 25 (opAtW ho (by kernel_rfl)) ((hU 10 (by kernel_rfl)).2 25 rfl) (hK w hM)
    | 12, _ => exact u_f78_2 26 (opAtW ho (by kernel_rfl)) ((hU 11 (by kernel_rfl)).2 26 rfl) (hK w hM)
    | 13, _ => exact u_loadi 27 (opAtW ho (by kernel_rfl)) ((hU 12 (by kernel_rfl)).2 27 rfl) (hM.2.2.1.cc) (hK w hM)
    | 14, _ => exact u_sub_i 24 28 (opAtW ho (by kernel_rfl)) ((hU 9 (by kernel_rfl)).2 24 rfl) ((hU 13 (by kernel_rfl)).2 28 rfl) (by have := hq.c0; have := hq.c1; omega) (hK w hM)
    | 15, _ => exact v_move 0 (opAtW ho (by kernel_rfl)) (hT0 0 _ (by decide) h0) (hK w hM)
    | 16, _ => exact u_nil 30 (opAtW ho (by kernel_rfl)) ((hU 15 (by kernel_rfl)).2 30 rfl) (hK w hM)
    | 17, _ => exact u_f78_2 31 (opAtW ho (by kernel_rfl)) ((hU 16 (by kernel_rfl)).2 31 rfl) (hK w hM)
    | 18, _ => exact u_loadi 32 (opAtW ho (by kernel_rfl)) ((hU 17 (by kernel_rfl)).2 32 rfl) (hM.2.2.1.cc) (hK w hM)
    | 19, _ => exact u_sub_ik 33 (opAtW ho (by kernel_rfl)) ((hU 18 (by kernel_rfl)).2 33 rfl) (by have := hq.c0; have := hq.c1; omega) (hK w hM)
    | 20, _ =>
      have x20 : a.tmps[20]?.getD undef = .func (.func k) #[] #[.pointer (some P)] := ((hU 5 (by kernel_rfl)).2 20 rfl)
      have x29 : a.tmps[29]?.getD undef = .int .i64 (e.v - q.clk) := ((hU 14 (by kernel_rfl)).2 29 rfl)
      have x34 : a.tmps[34]?.getD undef = .int .i64 (1099511627776 - q.clk) := ((hU 19 (by kernel_rfl)).2 34 rfl)
      obtain ⟨dst, op, type, pos, after, guard⟩ := oo
      have ho' : op = .call { callee := .value (.func 122), args := #[.tmp 20, .tmp 29, .const (.int .i64 0), .tmp 34], argTypes := #[165, 3, 3, 3] } := opAtW ho (by kernel_rfl)
      subst ho'
      clear ho hT hU hT0
      have hfun := Tryz.func122
      go_simp
      have hs := (hM.before hdi).1
      refine (HC w hs).mono ?_
      rintro _ w' ⟨rfl, h1, h2⟩
      exact hK w' (hM.call N (by decide) h1 h2)
    | 21, _ => exact u_add_i 19 35 (opAtW ho (by kernel_rfl)) ((hU 4 (by kernel_rfl)).2 19 rfl) ((hU 20 (by kernel_rfl)).2 35 rfl) (by have := hq.c0; have := hq.c1; omega) (hK w hM)
    | 22, _ => exact u_nil 15 (opAtW ho (by kernel_rfl)) ((hU 0 (by kernel_rfl)).2 15 rfl) (hK w hM)
    | 23, _ => exact u_f41_4 37 (opAtW ho (by kernel_rfl)) ((hU 22 (by kernel_rfl)).2 37 rfl) (hK w hM)
    | 24, _ =>
      have x38 : a.tmps[38]?.getD undef = .pointer (some ⟨ge, 4, none⟩) := ((hU 23 (by kernel_rfl)).2 38 rfl)
      have x36 : a.tmps[36]?.getD undef = .int .i64 (q.clk + z) := ((hU 21 (by kernel_rfl)).2 36 rfl)
      exact u_storei 38 36 (opAtW ho (by kernel_rfl)) x38 x36 ((by have h9 := hM.2.1; rw [hdi] at h9; exact h9.at' 4 : w.cell? ⟨ge, 4, none⟩ = (evC e)[4]?)) ((hM.2.1).fr 4) (hK _ (hM.store N hdi (hU 20 (by kernel_rfl)).1 (hU 9 (by kernel_rfl)).1 (by decide) 4 _ rfl))
    | i + 25, h => exact absurd (show i + 25 < 25 from h) (by omega)
  · intro w hM
    exact hend w (hM.2)
end
end Go.Proofs.YteigglhhnemngaaGreatDoor
namespace Go.Proofs.YteigglhhnemngaaGreatDoor
set_option maxRecDepth 100000
open Go.RowKit Go.Deep
set_option linter.unusedVariables false
set_option linter.unusedSimpArgs false
section
variable {σ : Type}
def stripeP (q : Cd) (num : σ → Int → Int → Int → Int × σ) (e : Ev) (s : σ) : Ev × σ := ({ e with pl := (num s (u64 e.pl) 0 (q.S - 1)).1 }, (num s (u64 e.pl) 0 (q.S - 1)).2)
def varP (q : Cd) (num : σ → Int → Int → Int → Int × σ) (e : Ev) (s : σ) : Ev × σ := ({ e with pl := (num s (u64 e.pl) 0 (q.V - 1)).1 }, (num s (u64 e.pl) 0 (q.V - 1)).2)
def bumpP (q : Cd) (num : σ → Int → Int → Int → Int × σ) (e : Ev) (s : σ) : Ev × σ := ({ e with v := q.clk + (num s (u64 (e.v - q.clk)) 1 (1099511627776 - q.clk)).1 }, (num s (u64 (e.v - q.clk)) 1 (1099511627776 - q.clk)).2)
def txP (num : σ → Int → Int → Int → Int × σ) (e : Ev) (s : σ) : Ev × σ := ({ e with tx := (num s (u64 e.tx) 0 5).1 }, (num s (u64 e.tx) 0 5).2)
def clkP (q : Cd) (num : σ → Int → Int → Int → Int × σ) (e : Ev) (s : σ) : Ev × σ := ({ e with v := q.clk + (num s (u64 (e.v - q.clk)) 0 (1099511627776 - q.clk)).1 }, (num s (u64 (e.v - q.clk)) 0 (1099511627776 - q.clk)).2)
def beginP (q : Cd) (num : σ → Int → Int → Int → Int × σ) (e : Ev) (s : σ) : Ev × σ := clkP q num (txP num e s).1 (txP num e s).2
def seenP (b : Int) (num : σ → Int → Int → Int → Int × σ) (e : Ev) (s : σ) : Ev × σ := ({ e with v := b - (num s (u64 (b - e.v)) 0 b).1 }, (num s (u64 (b - e.v)) 0 b).2)
def lookP (q : Cd) (num : σ → Int → Int → Int → Int × σ) (e : Ev) (s : σ) : Ev × σ := seenP (q.bg e.th.toNat) num (stripeP q num e s).1 (stripeP q num e s).2
def i64w (n : Int) : Int := IntKind.i64.wrap n
theorem i64w_lo (n : Int) : -9223372036854775808 ≤ i64w n := by unfold i64w; rw [IntKind.wrap_i64]; omega
theorem i64w_hi (n : Int) : i64w n ≤ 9223372036854775807 := by unfold i64w; rw [IntKind.wrap_i64]; omega
def numP (last : Int) (num : σ → Int → Int → Int → Int × σ) (e : Ev) (s : σ) : Ev × σ := ({ e with x := i64w (last + zagV (num s (zigV (i64w (e.x - last))) 0 18446744073709551615).1) }, (num s (zigV (i64w (e.x - last))) 0 18446744073709551615).2)
def valueP (q : Cd) (num : σ → Int → Int → Int → Int × σ) (e : Ev) (s : σ) : Ev × σ := numP (q.xs (varP q num e s).1.pl.toNat) num (varP q num e s).1 (varP q num e s).2
def commitP (q : Cd) (num : σ → Int → Int → Int → Int × σ) (e : Ev) (s : σ) : Ev × σ := ({ e with v := q.bp e.th.toNat * (num s (u64 (min e.v 1)) 0 (min (q.bp e.th.toNat) 1)).1 }, (num s (u64 (min e.v 1)) 0 (min (q.bp e.th.toNat) 1)).2)
def whyP (num : σ → Int → Int → Int → Int × σ) (e : Ev) (s : σ) : Ev × σ := ({ e with why := (num s (u64 (e.why - 1)) 0 5).1 + 1 }, (num s (u64 (e.why - 1)) 0 5).2)
def abortP (q : Cd) (num : σ → Int → Int → Int → Int × σ) (e : Ev) (s : σ) : Ev × σ := if (whyP num e s).1.why = 6 then whyP num e s else stripeP q num (whyP num e s).1 (whyP num e s).2
end
section
variable {σ : Type} {k : Nat} {P : Addr} {gF ge gc : Nat} {I : σ → World → Prop} {num : σ → Int → Int → Int → Int × σ} {ok : σ → Int → Int → Int → Prop}
set_option maxHeartbeats 2000000 in
theorem stripe_any (N : NumC k P gF ge gc I num ok) (q : Cd) (hq : CdOk q) (e : Ev) (s : σ) (w : World) (ok' : EvOk e) (he : EvO w ge e) (hcd : CodAt w gc q) (hI : I s w)  (ho : ok s (u64 e.pl) 0 (q.S - 1)) :
    Calls Tryz.prog 94 #[.pointer (some ⟨gc, 0, none⟩), .pointer (some ⟨ge, 0, none⟩), .func (.func k) #[] #[.pointer (some P)]] w (PassP gF ge I w (stripeP q num e s)) := by
  have hs0 := hq.S0
  have hs1 := hq.S1
  have hv0 := hq.V0
  have hv1 := hq.V1
  have hc0 := hq.c0
  have hc1 := hq.c1
  have HC := fun w hI => int_any N s w e.pl 0 (q.S - 1) hI ⟨ok'.p0, ok'.p1⟩ (by omega) (by omega) ho
  unfold stripeP
  generalize (num s (u64 e.pl) 0 (q.S - 1)).1 = z at HC ⊢
  generalize (num s (u64 e.pl) 0 (q.S - 1)).2 = s1 at HC ⊢
  have HN := Lib.hid N
  have HH := Lib.hid HC
  clear HC ho
  go_enter Tryz.func94, Tryz.ntmps94
  go_wp2_with fail
  refine rgStripe rfl _ (by simp) w HN.out q hq e s s1 z ok' he hcd hI HH.out rfl rfl rfl ?_
  rintro w1 ⟨h1, h2, h3, h4⟩
  simp only [putAll, List.setIfInBounds_toArray, List.set_cons_succ, List.set_cons_zero]
  go_end0
  exact ⟨rfl, h1, h3, h4⟩
set_option maxHeartbeats 2000000 in
theorem bump_any (N : NumC k P gF ge gc I num ok) (q : Cd) (hq : CdOk q) (e : Ev) (s : σ) (w : World) (ok' : EvOk e) (he : EvO w ge e) (hcd : CodAt w gc q) (hI : I s w) (hv : -4611686018427387904 ≤ e.v ∧ e.v ≤ 4611686018427387904) (ho : ok s (u64 (e.v - q.clk)) 1 (1099511627776 - q.clk)) :
    Calls Tryz.prog 95 #[.pointer (some ⟨gc, 0, none⟩), .pointer (some ⟨ge, 0, none⟩), .func (.func k) #[] #[.pointer (some P)]] w (PassP gF ge I w (bumpP q num e s)) := by
  have hs0 := hq.S0
  have hs1 := hq.S1
  have hv0 := hq.V0
  have hv1 := hq.V1
  have hc0 := hq.c0
  have hc1 := hq.c1
  have hz := N.le _ _ _ _ ho
  have HC := fun w hI => int_any N s w (e.v - q.clk) 1 (1099511627776 - q.clk) hI (by omega) (by omega) (by omega) ho
  unfold bumpP
  generalize (num s (u64 (e.v - q.clk)) 1 (1099511627776 - q.clk)).1 = z at HC hz ⊢
  generalize (num s (u64 (e.v - q.clk)) 1 (1099511627776 - q.clk)).2 = s1 at HC ⊢
  have HN := Lib.hid N
  have HH := Lib.hid HC
  clear HC ho
  go_enter Tryz.func95, Tryz.ntmps95
  go_wp2_with fail
  refine rgBump rfl _ (by simp) w HN.out q hq e s s1 z ok' he hcd hI hv (by omega) HH.out rfl rfl rfl ?_
  rintro w1 ⟨h1, h2, h3, h4⟩
  simp only [putAll, List.setIfInBounds_toArray, List.set_cons_succ, List.set_cons_zero]
  go_end0
  exact ⟨rfl, h1, h3, h4⟩
set_option maxHeartbeats 2000000 in
theorem nothing_any (N : NumC k P gF ge gc I num ok) (q : Cd) (hq : CdOk q) (e : Ev) (s : σ) (w : World) (ok' : EvOk e) (he : EvO w ge e) (hcd : CodAt w gc q) (hI : I s w)   :
    Calls Tryz.prog 98 #[.pointer (some ⟨gc, 0, none⟩), .pointer (some ⟨ge, 0, none⟩), .func (.func k) #[] #[.pointer (some P)]] w (PassP gF ge I w (e, s)) := by
  go_enter Tryz.func98, Tryz.ntmps98
  go_wp2_with fail
  go_end0
  exact ⟨rfl, he, hI, Kp.refl2 _ _ _⟩
set_option maxHeartbeats 2000000 in
theorem begin_any (N : NumC k P gF ge gc I num ok) (q : Cd) (hq : CdOk q) (e : Ev) (s : σ) (w : World) (ok' : EvOk e) (he : EvO w ge e) (hcd : CodAt w gc q) (hI : I s w) (hv : -4611686018427387904 ≤ e.v ∧ e.v ≤ 4611686018427387904) (ho : ok s (u64 e.tx) 0 5) (ho2 : ok (txP num e s).2 (u64 (e.v - q.clk)) 0 (1099511627776 - q.clk)) :
    Calls Tryz.prog 91 #[.pointer (some ⟨gc, 0, none⟩), .pointer (some ⟨ge, 0, none⟩), .func (.func k) #[] #[.pointer (some P)]] w (PassP gF ge I w (beginP q num e s)) := by
  have hs0 := hq.S0
  have hs1 := hq.S1
  have hv0 := hq.V0
  have hv1 := hq.V1
  have hc0 := hq.c0
  have hc1 := hq.c1
  have hz := N.le _ _ _ _ ho
  have hz2 := N.le _ _ _ _ ho2
  have HC := fun w hI => int_any N s w e.tx 0 5 hI ⟨ok'.x0, ok'.x1⟩ (by omega) (by omega) ho
  have HC2 := fun w hI => int_any N (txP num e s).2 w (e.v - q.clk) 0 (1099511627776 - q.clk) hI (by omega) (by omega) (by omega) ho2
  clear ho ho2
  unfold beginP clkP
  unfold txP at HC2 hz2 ⊢
  simp only at HC2 hz2 ⊢
  generalize (num s (u64 e.tx) 0 5).1 = z at HC hz ⊢
  generalize (num s (u64 e.tx) 0 5).2 = s1 at HC HC2 hz2 ⊢
  generalize (num s1 (u64 (e.v - q.clk)) 0 (1099511627776 - q.clk)).1 = z2 at HC2 hz2 ⊢
  generalize (num s1 (u64 (e.v - q.clk)) 0 (1099511627776 - q.clk)).2 = s2 at HC2 ⊢
  have HN := Lib.hid N
  have HH := Lib.hid HC
  have HH2 := Lib.hid HC2
  have e2 := he.c2
  clear HC HC2
  go_enter Tryz.func91, Tryz.ntmps91
  go_wp2_with fail
  refine (HH.out w hI).mono ?_
  rintro _ w1 ⟨rfl, h1, h2⟩
  have he1 := HN.out.ev he h2
  have hc1' := HN.out.cod hcd h2.left
  have f2 := he1.c2
  have f3 := he1.fr 2
  have he2 : EvO (w1.setCell ⟨ge, 2, none⟩ (.int .i64 z)) ge { e with tx := z } := he1.set 2 _ rfl
  have hk2 := (kp_set w1 ge 2 (.int .i64 z))
  have hI2 := HN.out.stay _ _ _ h1 hk2
  have hc2 := HN.out.cod hc1' hk2.right
  go_wp2_with fail
  refine rgBegin rfl _ (by simp) _ HN.out q hq { e with tx := z } s1 s2 z2 ⟨ok'.k0, ok'.k1, ok'.w0, ok'.w1, ok'.t0, ok'.t1, by simp only; omega, by simp only; omega, ok'.p0, ok'.p1, ok'.v0, ok'.v1, ok'.y0, ok'.y1⟩ he2 hc2 hI2 hv (by omega) HH2.out rfl rfl rfl ?_
  rintro w2 ⟨g1, g2, g3, g4⟩
  simp only [putAll, List.setIfInBounds_toArray, List.set_cons_succ, List.set_cons_zero]
  go_end0
  exact ⟨rfl, g1, g3, (h2.left.two hk2.right).two g4⟩
set_option maxHeartbeats 2000000 in
theorem look_any (N : NumC k P gF ge gc I num ok) (q : Cd) (hq : CdOk q) (e : Ev) (s : σ) (w : World) (ok' : EvOk e) (he : EvO w ge e) (hcd : CodAt w gc q) (hI : I s w) (hv : -4611686018427387904 ≤ e.v ∧ e.v ≤ 4611686018427387904) (hth : 0 ≤ e.th ∧ e.th < 6) (ho : ok s (u64 e.pl) 0 (q.S - 1)) (ho2 : ok (stripeP q num e s).2 (u64 (q.bg e.th.toNat - e.v)) 0 (q.bg e.th.toNat)) :
    Calls Tryz.prog 92 #[.pointer (some ⟨gc, 0, none⟩), .pointer (some ⟨ge, 0, none⟩), .func (.func k) #[] #[.pointer (some P)]] w (PassP gF ge I w (lookP q num e s)) := by
  have hs0 := hq.S0
  have hs1 := hq.S1
  have hv0 := hq.V0
  have hv1 := hq.V1
  have hc0 := hq.c0
  have hc1 := hq.c1
  have hbg := hq.bg e.th.toNat
  have hz := N.le _ _ _ _ ho
  have hz2 := N.le _ _ _ _ ho2
  have HS := stripe_any N q hq e s w ok' he hcd hI ho
  have HC2 := fun w hI => int_any N (stripeP q num e s).2 w (q.bg e.th.toNat - e.v) 0 (q.bg e.th.toNat) hI (by omega) (by omega) (by omega) ho2
  clear ho ho2
  unfold lookP seenP
  unfold stripeP at HS HC2 hz2 ⊢
  simp only at HS HC2 hz2 ⊢
  obtain ⟨t, ht⟩ : ∃ t : Nat, e.th = t := ⟨e.th.toNat, by omega⟩
  have htn : e.th.toNat = t := by omega
  rw [htn] at HC2 hz2 hbg ⊢
  have ht6 : t < 6 := by omega
  generalize hbb : q.bg t = b at HC2 hz2 hbg ⊢
  generalize (num s (u64 e.pl) 0 (q.S - 1)).1 = z at HS hz ⊢
  generalize (num s (u64 e.pl) 0 (q.S - 1)).2 = s1 at HS HC2 hz2 ⊢
  generalize (num s1 (u64 (b - e.v)) 0 b).1 = z2 at HC2 hz2 ⊢
  generalize (num s1 (u64 (b - e.v)) 0 b).2 = s2 at HC2 ⊢
  have HN := Lib.hid N
  have HH := Lib.hid HS
  have HH2 := Lib.hid HC2
  have HT := Lib.hid ht
  have HB := Lib.hid hbb
  clear HS HC2 ht htn hth hbb
  go_enter Tryz.func92, Tryz.ntmps92
  go_wp2_with fail
  refine HH.out.mono ?_
  rintro _ w1 ⟨rfl, h1, h2, h3⟩
  have hc1' := HN.out.cod hcd h3
  have E1 := Lib.hid h1
  have C1 := Lib.hid hc1'
  have f1 : w1.cell? ⟨ge, 1, none⟩ = some (.int .i64 (t : Int)) := by rw [← HT.out]; exact h1.c1
  have f4 : w1.cell? ⟨ge, 4, none⟩ = some (.int .i64 e.v) := h1.c4
  have f5 : w1.cell? ⟨gc, 5 + t * 2, none⟩ = some (.int .i64 b) := by rw [← HB.out]; exact hc1'.cbg ht6
  have i1 : (0 : Int) ≤ (t : Int) := by omega
  have i2 : (t : Int) < 6 := by omega
  have I1 := Lib.hid h2
  have K1 := Lib.hid h3
  clear h1 h2 h3 hc1'
  go_wp2_with fail
  go_quiet (fail)
  generalize hw2 : w1.drewN _ = w2
  have hd : Below w1.heap.size w1 w2 := by rw [← hw2]; exact drewN_below w1 _
  have f4 := (hd.cell (p := ⟨ge, 4, none⟩) E1.out.lt).trans f4
  have I2 := HN.out.stay _ _ _ I1.out (kp_below hd)
  clear hw2 f1 f5
  go_wp2_with fail
  refine (HH2.out w2 I2).mono ?_
  rintro _ w3 ⟨rfl, g1, g2⟩
  have he3 := HN.out.ev (E1.out.below hd) g2
  have f4 := he3.c4
  have f6 := he3.fr 4
  have he4 : EvO (w3.setCell ⟨ge, 4, none⟩ (.int .i64 (b - z2))) ge { e with pl := z, v := b - z2 } := he3.set 4 _ rfl
  have hk2 := (kp_set w3 ge 4 (.int .i64 (b - z2)))
  have hI4 := HN.out.stay _ _ _ g1 hk2
  go_wp2_with fail
  go_end0
  exact ⟨rfl, he4, hI4, ((K1.out.two (kp_below hd)).two g2.left).two hk2.right⟩
end
end Go.Proofs.YteigglhhnemngaaGreatDoor
namespace Go.Proofs.YteigglhhnemngaaGreatDoor
set_option maxRecDepth 100000
open Go.RowKit Go.Deep
set_option linter.unusedVariables false
set_option linter.unusedSimpArgs false
theorem zig_lo (x : Int) (h : -9223372036854775808 ≤ x) : 0 ≤ zigV x := by unfold zigV; split <;> omega
theorem zig_hi (x : Int) (h : -9223372036854775808 ≤ x) (h2 : x ≤ 9223372036854775807) : zigV x < 18446744073709551616 := by unfold zigV; split <;> omega
theorem zag_zig (x : Int) : zagV (zigV x) = x := by unfold zagV zigV; split <;> split <;> omega
section
variable {σ : Type} {k : Nat} {P : Addr} {gF ge gc : Nat} {I : σ → World → Prop} {num : σ → Int → Int → Int → Int × σ} {ok : σ → Int → Int → Int → Prop}
set_option maxHeartbeats 2000000 in
theorem commit_any (N : NumC k P gF ge gc I num ok) (q : Cd) (hq : CdOk q) (e : Ev) (s : σ) (w : World) (ok' : EvOk e) (he : EvO w ge e) (hcd : CodAt w gc q) (hI : I s w) (hth : 0 ≤ e.th ∧ e.th < 6) (ho : ok s (u64 (min e.v 1)) 0 (min (q.bp e.th.toNat) 1)) :
    Calls Tryz.prog 96 #[.pointer (some ⟨gc, 0, none⟩), .pointer (some ⟨ge, 0, none⟩), .func (.func k) #[] #[.pointer (some P)]] w (PassP gF ge I w (commitP q num e s)) := by
  have hs0 := hq.S0
  have hs1 := hq.S1
  have hv0 := hq.V0
  have hv1 := hq.V1
  have hc0 := hq.c0
  have hc1 := hq.c1
  have hbp := hq.bp e.th.toNat
  have hz := N.le _ _ _ _ ho
  have hv0 := ok'.v0
  have hv1 := ok'.v1
  have HC2 := fun w hI => int_any N s w (min e.v 1) 0 (min (q.bp e.th.toNat) 1) hI (by omega) (by omega) (by omega) ho
  clear ho
  unfold commitP
  obtain ⟨t, ht⟩ : ∃ t : Nat, e.th = t := ⟨e.th.toNat, by omega⟩
  have htn : e.th.toNat = t := by omega
  rw [htn] at HC2 hz hbp ⊢
  have ht6 : t < 6 := by omega
  generalize hbb : q.bp t = b at HC2 hz hbp ⊢
  generalize (num s (u64 (min e.v 1)) 0 (min b 1)).1 = z at HC2 hz ⊢
  generalize (num s (u64 (min e.v 1)) 0 (min b 1)).2 = s1 at HC2 ⊢
  have hzb : 0 ≤ b * z ∧ b * z ≤ 1099511627776 := by
    have : z = 0 ∨ z = 1 := by omega
    rcases this with rfl | rfl <;> omega
  have HN := Lib.hid N
  have HH2 := Lib.hid HC2
  have f1 : w.cell? ⟨ge, 1, none⟩ = some (.int .i64 (t : Int)) := by rw [← ht]; exact he.c1
  have f4 : w.cell? ⟨ge, 4, none⟩ = some (.int .i64 e.v) := he.c4
  have f5 : w.cell? ⟨gc, 5 + t * 2 + 1, none⟩ = some (.int .i64 b) := by rw [← hbb]; exact hcd.cbp ht6
  have i1 : (0 : Int) ≤ (t : Int) := by omega
  have i2 : (t : Int) < 6 := by omega
  have E1 := Lib.hid he
  have I1 := Lib.hid hI
  clear HC2 ht htn hth hbb he hI
  go_enter Tryz.func96, Tryz.ntmps96
  go_wp2_with fail
  go_quiet (fail)
  generalize hw2 : w.drewN _ = w2
  have hd : Below w.heap.size w w2 := by rw [← hw2]; exact drewN_below w _
  have f4 := (hd.cell (p := ⟨ge, 4, none⟩) E1.out.lt).trans f4
  have I2 := HN.out.stay _ _ _ I1.out (kp_below hd)
  clear hw2 f1 f5
  go_wp2_with fail
  refine (HH2.out w2 I2).mono ?_
  rintro _ w3 ⟨rfl, g1, g2⟩
  have he3 := HN.out.ev (E1.out.below hd) g2
  have f4 := he3.c4
  have f6 := he3.fr 4
  have he4 : EvO (w3.setCell ⟨ge, 4, none⟩ (.int .i64 (b * z))) ge { e with v := b * z } := he3.set 4 _ rfl
  have hk2 := (kp_set w3 ge 4 (.int .i64 (b * z)))
  have hI4 := HN.out.stay _ _ _ g1 hk2
  have hwr : IntKind.i64.wrap (b * z) = b * z := IntWalk.i64_in _ ⟨by omega, by omega⟩
  go_wp2_with fail
  go_end0
  exact ⟨rfl, he4, hI4, ((kp_below hd).two g2.left).two hk2.right⟩
set_option maxHeartbeats 2000000 in
theorem abort_any (N : NumC k P gF ge gc I num ok) (q : Cd) (hq : CdOk q) (e : Ev) (s : σ) (w : World) (ok' : EvOk e) (he : EvO w ge e) (hcd : CodAt w gc q) (hI : I s w)  (ho : ok s (u64 (e.why - 1)) 0 5) (ho2 : (whyP num e s).1.why ≠ 6 → ok (whyP num e s).2 (u64 e.pl) 0 (q.S - 1)) :
    Calls Tryz.prog 97 #[.pointer (some ⟨gc, 0, none⟩), .pointer (some ⟨ge, 0, none⟩), .func (.func k) #[] #[.pointer (some P)]] w (PassP gF ge I w (abortP q num e s)) := by
  have hs0 := hq.S0
  have hs1 := hq.S1
  have hv0 := hq.V0
  have hv1 := hq.V1
  have hc0 := hq.c0
  have hc1 := hq.c1
  have hz := N.le _ _ _ _ ho
  have hw0 := ok'.w0
  have hw1 := ok'.w1
  have HC := fun w hI => int_any N s w (e.why - 1) 0 5 hI (by omega) (by omega) (by omega) ho
  clear ho
  unfold abortP
  unfold whyP at ho2 ⊢
  simp only at ho2 ⊢
  have HS := fun w' s' e' => stripe_any N q hq e' s' w'
  generalize (num s (u64 (e.why - 1)) 0 5).1 = z at HC hz ho2 ⊢
  generalize (num s (u64 (e.why - 1)) 0 5).2 = s1 at HC ho2 ⊢
  have HN := Lib.hid N
  have HH := Lib.hid HC
  have HHS := Lib.hid HS
  have HO := Lib.hid ho2
  generalize hR : (if z + 1 = 6 then (({ e with why := z + 1 } : Ev), s1) else stripeP q num { e with why := z + 1 } s1) = R
  have HR := Lib.hid hR
  clear hR
  have f6 : w.cell? ⟨ge, 6, none⟩ = some (.int .u8 e.why) := he.c6
  clear HC HS ho2
  go_enter Tryz.func97, Tryz.ntmps97
  go_wp2_with fail
  refine (HH.out w hI).mono ?_
  rintro _ w1 ⟨rfl, h1, h2⟩
  have he1 := HN.out.ev he h2
  have hc1' := HN.out.cod hcd h2.left
  have f2 := he1.c6
  have f3 := he1.fr 6
  have he2 : EvO (w1.setCell ⟨ge, 6, none⟩ (.int .u8 (z + 1))) ge { e with why := z + 1 } := he1.set 6 _ rfl
  have hk2 := (kp_set w1 ge 6 (.int .u8 (z + 1)))
  have hI2 := HN.out.stay _ _ _ h1 hk2
  have hc2 := HN.out.cod hc1' hk2.right
  have K2 := Lib.hid (h2.left.two hk2.right)
  have hzw : IntKind.u8.wrap z = z := by rw [IntKind.wrap_u8]; omega
  have hzw2 : IntKind.u8.wrap (z + 1) = z + 1 := by rw [IntKind.wrap_u8]; omega
  by_cases h6 : z + 1 = 6
  · have hRR : R = (({ e with why := z + 1 } : Ev), s1) := by rw [← HR.out, if_pos h6]
    subst hRR
    clear HR
    obtain rfl : z = 5 := by omega
    go_wp2_with fail
    go_end0
    exact ⟨rfl, he2, hI2, K2.out⟩
  · have hRR : R = stripeP q num { e with why := z + 1 } s1 := by rw [← HR.out, if_neg h6]
    subst hRR
    clear HR
    have q6 : (z + 1 == 6) = false := beq_eq_false_iff_ne.2 h6
    go_wp2_with fail
    refine (HHS.out _ s1 { e with why := z + 1 } ⟨ok'.k0, ok'.k1, by simp only; omega, by simp only; omega, ok'.t0, ok'.t1, ok'.x0, ok'.x1, ok'.p0, ok'.p1, ok'.v0, ok'.v1, ok'.y0, ok'.y1⟩ he2 hc2 hI2 (HO.out h6)).mono ?_
    rintro _ w2 ⟨rfl, g1, g2, g3⟩
    go_wp2_with fail
    go_end0
    exact ⟨rfl, g1, g2, K2.out.two g3⟩
end
end Go.Proofs.YteigglhhnemngaaGreatDoor
namespace Go.Proofs.YteigglhhnemngaaGreatDoor
set_option maxRecDepth 100000
open Go.RowKit Go.Deep
set_option linter.unusedVariables false
set_option linter.unusedSimpArgs false
section
variable {σ : Type} {k : Nat} {P : Addr} {gF ge gc : Nat} {I : σ → World → Prop} {num : σ → Int → Int → Int → Int × σ} {ok : σ → Int → Int → Int → Prop}
set_option maxHeartbeats 2000000 in
theorem value_any (N : NumC k P gF ge gc I num ok) (q : Cd) (hq : CdOk q) (e : Ev) (s : σ) (w : World) (ok' : EvOk e) (he : EvO w ge e) (hcd : CodAt w gc q) (hI : I s w)  (ho : ok s (u64 e.pl) 0 (q.V - 1)) (ho2 : ok (varP q num e s).2 (zigV (i64w (e.x - q.xs (varP q num e s).1.pl.toNat))) 0 18446744073709551615) :
    Calls Tryz.prog 93 #[.pointer (some ⟨gc, 0, none⟩), .pointer (some ⟨ge, 0, none⟩), .func (.func k) #[] #[.pointer (some P)]] w (PassP gF ge I w (valueP q num e s)) := by
  have hs0 := hq.S0
  have hs1 := hq.S1
  have hv0 := hq.V0
  have hv1 := hq.V1
  have hc0 := hq.c0
  have hc1 := hq.c1
  have hz := N.le _ _ _ _ ho
  have hz2 := N.le _ _ _ _ ho2
  have HC := fun w hI => int_any N s w e.pl 0 (q.V - 1) hI ⟨ok'.p0, ok'.p1⟩ (by omega) (by omega) ho
  unfold valueP numP
  unfold varP at ho2 hz2 ⊢
  simp only at ho2 hz2 ⊢
  have hxs := hq.xs (num s (u64 e.pl) 0 (q.V - 1)).1.toNat
  have HK : Hid (∀ w', I (num s (u64 e.pl) 0 (q.V - 1)).2 w' → Calls Tryz.prog k #[.int .u64 (zigV (i64w (e.x - q.xs (num s (u64 e.pl) 0 (q.V - 1)).1.toNat))), .int .u64 0, .int .u64 18446744073709551615, .pointer (some P)] w' fun r w'' => r = .returned (.int .u64 (num (num s (u64 e.pl) 0 (q.V - 1)).2 (zigV (i64w (e.x - q.xs (num s (u64 e.pl) 0 (q.V - 1)).1.toNat))) 0 18446744073709551615).1) ∧ I (num (num s (u64 e.pl) 0 (q.V - 1)).2 (zigV (i64w (e.x - q.xs (num s (u64 e.pl) 0 (q.V - 1)).1.toNat))) 0 18446744073709551615).2 w'' ∧ Kp gF none w' w'') := fun w' hI' => N.call _ w' _ _ _ hI' ho2 (zig_lo _ (i64w_lo _)) (zig_hi _ (i64w_lo _) (i64w_hi _))
  clear ho ho2
  generalize (num s (u64 e.pl) 0 (q.V - 1)).1 = z at HC hz HK hz2 hxs ⊢
  generalize (num s (u64 e.pl) 0 (q.V - 1)).2 = s1 at HC HK hz2 ⊢
  obtain ⟨t, ht⟩ : ∃ t : Nat, z = t := ⟨z.toNat, by omega⟩
  subst ht
  have htn : ((t : Int)).toNat = t := by omega
  rw [htn] at HK hz2 hxs ⊢
  have ht32 : t < 32 := by omega
  generalize hbb : q.xs t = b at HK hz2 hxs ⊢
  obtain ⟨d, hd⟩ : ∃ d, d = i64w (e.x - b) := ⟨_, rfl⟩
  rw [← hd] at HK hz2 ⊢
  have HZ := Lib.hid (fun W => zig_v d (by rw [hd]; exact i64w_lo _) (by rw [hd]; have := i64w_hi (e.x - b); omega) W)
  generalize (num s1 (zigV d) 0 18446744073709551615).1 = z2 at HK hz2 ⊢
  generalize (num s1 (zigV d) 0 18446744073709551615).2 = s2 at HK ⊢
  have HA := Lib.hid (fun W => zag_v z2 hz2.1 hz2.2 W)
  have hdd : IntKind.i64.wrap (e.x - b) = d := hd.symm
  clear hd
  have HN := Lib.hid N
  have HH := Lib.hid HC
  have HB := Lib.hid hbb
  obtain ⟨y, hy⟩ : ∃ y, y = zagV z2 := ⟨_, rfl⟩
  rw [← hy] at HA ⊢
  obtain ⟨x2, hx2⟩ : ∃ x2, x2 = i64w (b + y) := ⟨_, rfl⟩
  rw [← hx2]
  have hxw : IntKind.i64.wrap (b + y) = x2 := hx2.symm
  clear hx2
  clear HC hbb hy
  go_enter Tryz.func93, Tryz.ntmps93
  go_wp2_with fail
  refine rgValue rfl _ (by simp) w HN.out q hq e s s1 t ok' he hcd hI HH.out rfl rfl rfl ?_
  rintro w1 ⟨h1, h2, h3, h4⟩
  simp only [putAll, List.setIfInBounds_toArray, List.set_cons_succ, List.set_cons_zero]
  have E1 := Lib.hid h1
  have I1 := Lib.hid h3
  have K1 := Lib.hid h4
  have f3 : w1.cell? ⟨ge, 3, none⟩ = some (.int .i64 (t : Int)) := h1.c3
  have f5 : w1.cell? ⟨ge, 5, none⟩ = some (.int .i64 e.x) := h1.c5
  have f7 : w1.cell? ⟨gc, 17 + t, none⟩ = some (.int .i64 b) := by rw [← HB.out]; exact h2.cx ht32
  have i1 : (0 : Int) ≤ (t : Int) := by omega
  have i2 : (t : Int) < 32 := by omega
  clear h1 h2 h3 h4
  go_wp2_with fail
  go_quiet (fail)
  generalize hw2 : w1.drewN _ = w2
  have hdw : Below w1.heap.size w1 w2 := by rw [← hw2]; exact drewN_below w1 _
  have f5 := (hdw.cell (p := ⟨ge, 5, none⟩) E1.out.lt).trans f5
  have I2 := HN.out.stay _ _ _ I1.out (kp_below hdw)
  clear hw2 f3 f7
  rcases HN.out.is with rfl | rfl
  · go_wp2_with fail
    refine (HZ.out w2).mono ?_
    rintro _ w3 ⟨rfl, rfl⟩
    go_wp2_with fail
    refine (HK.out _ I2).mono ?_
    rintro _ w3 ⟨rfl, g1, g2⟩
    go_wp2_with fail
    refine (HA.out w3).mono ?_
    rintro _ w4 ⟨rfl, rfl⟩
    have he3 := HN.out.ev (E1.out.below hdw) g2
    have f5 := he3.c5
    have f6 := he3.fr 5
    have he4 : EvO (w3.setCell ⟨ge, 5, none⟩ (.int .i64 x2)) ge { e with pl := t, x := x2 } := he3.set 5 _ rfl
    have hk2 := (kp_set w3 ge 5 (.int .i64 x2))
    have hI4 := HN.out.stay _ _ _ g1 hk2
    go_wp2_with fail
    go_end0
    exact ⟨rfl, he4, hI4, ((K1.out.two (kp_below hdw)).two g2.left).two hk2.right⟩
  · go_wp2_with fail
    refine (HZ.out w2).mono ?_
    rintro _ w3 ⟨rfl, rfl⟩
    go_wp2_with fail
    refine (HK.out _ I2).mono ?_
    rintro _ w3 ⟨rfl, g1, g2⟩
    go_wp2_with fail
    refine (HA.out w3).mono ?_
    rintro _ w4 ⟨rfl, rfl⟩
    have he3 := HN.out.ev (E1.out.below hdw) g2
    have f5 := he3.c5
    have f6 := he3.fr 5
    have he4 : EvO (w3.setCell ⟨ge, 5, none⟩ (.int .i64 x2)) ge { e with pl := t, x := x2 } := he3.set 5 _ rfl
    have hk2 := (kp_set w3 ge 5 (.int .i64 x2))
    have hI4 := HN.out.stay _ _ _ g1 hk2
    go_wp2_with fail
    go_end0
    exact ⟨rfl, he4, hI4, ((K1.out.two (kp_below hdw)).two g2.left).two hk2.right⟩
end
end Go.Proofs.YteigglhhnemngaaGreatDoor
namespace Go.Proofs.YteigglhhnemngaaGreatDoor
set_option maxRecDepth 100000
open Go.RowKit Go.Deep
set_option linter.unusedVariables false
set_option linter.unusedSimpArgs false
section
variable {σ : Type}
def whoN (q : Cd) (e : Ev) : Int := (e.kd - 1) * q.T + (e.th - q.last + q.T).tmod q.T
def whoP (q : Cd) (num : σ → Int → Int → Int → Int × σ) (e : Ev) (s : σ) : Ev × σ := ({ e with kd := (num s (u64 (whoN q e)) 0 (13 * q.T - 1)).1.tdiv q.T + 1, th := (q.last + (num s (u64 (whoN q e)) 0 (13 * q.T - 1)).1).tmod q.T }, (num s (u64 (whoN q e)) 0 (13 * q.T - 1)).2)
end
section
variable {σ : Type} {k : Nat} {P : Addr} {gF ge gc : Nat} {I : σ → World → Prop} {num : σ → Int → Int → Int → Int × σ} {ok : σ → Int → Int → Int → Prop}
theorem div13 {z T : Int} (h0 : 0 ≤ z) (h1 : z ≤ 13 * T - 1) (hT : 1 ≤ T) : 0 ≤ z.tdiv T ∧ z.tdiv T ≤ 12 := by
  rw [Int.tdiv_eq_ediv_of_nonneg h0]
  refine ⟨Int.ediv_nonneg h0 (by omega), ?_⟩
  have := Int.ediv_lt_of_lt_mul (show 0 < T by omega) (show z < 13 * T by omega)
  omega
theorem modT {z T : Int} (h0 : 0 ≤ z) (hT : 1 ≤ T) : 0 ≤ z.tmod T ∧ z.tmod T < T := by
  rw [Int.tmod_eq_emod_of_nonneg h0]
  exact ⟨Int.emod_nonneg _ (by omega), Int.emod_lt_of_pos _ (by omega)⟩
theorem mulT {a T : Int} (h0 : -1 ≤ a) (h1 : a ≤ 254) (hT : 1 ≤ T) (hT2 : T ≤ 6) : -6 ≤ a * T ∧ a * T ≤ 1524 := by
  have : T = 1 ∨ T = 2 ∨ T = 3 ∨ T = 4 ∨ T = 5 ∨ T = 6 := by omega
  rcases this with rfl | rfl | rfl | rfl | rfl | rfl <;> omega
set_option maxHeartbeats 2000000 in
theorem who_any (N : NumC k P gF ge gc I num ok) (q : Cd) (hq : CdOk q) (e : Ev) (s : σ) (w : World) (ok' : EvOk e) (he : EvO w ge e) (hcd : CodAt w gc q) (hI : I s w) (hth : 0 ≤ e.th ∧ e.th < q.T) (ho : ok s (u64 (whoN q e)) 0 (13 * q.T - 1)) :
    Calls Tryz.prog 90 #[.pointer (some ⟨gc, 0, none⟩), .pointer (some ⟨ge, 0, none⟩), .func (.func k) #[] #[.pointer (some P)]] w (PassP gF ge I w (whoP q num e s)) := by
  have hz := N.le _ _ _ _ ho
  have T0 := hq.T0
  have T1 := hq.T1
  have l0 := hq.l0
  have l1 := hq.l1
  have k0 := ok'.k0
  have k1 := ok'.k1
  have hm := modT (z := e.th - q.last + q.T) (T := q.T) (by omega) T0
  have hp := mulT (a := e.kd - 1) (T := q.T) (by omega) (by omega) T0 T1
  have HC := fun w hI => int_any N s w (whoN q e) 0 (13 * q.T - 1) hI (by unfold whoN; omega) (by omega) (by omega) ho
  clear ho
  unfold whoP
  generalize (num s (u64 (whoN q e)) 0 (13 * q.T - 1)).1 = z at HC hz ⊢
  generalize (num s (u64 (whoN q e)) 0 (13 * q.T - 1)).2 = s1 at HC ⊢
  have hd := div13 hz.1 hz.2 T0
  have hm2 := modT (z := q.last + z) (T := q.T) (by omega) T0
  unfold whoN at HC
  obtain ⟨m, hm'⟩ : ∃ m, (e.th - q.last + q.T).tmod q.T = m := ⟨_, rfl⟩
  obtain ⟨p, hp'⟩ : ∃ p, (e.kd - 1) * q.T = p := ⟨_, rfl⟩
  obtain ⟨d, hd'⟩ : ∃ d, z.tdiv q.T = d := ⟨_, rfl⟩
  obtain ⟨m2, hm2'⟩ : ∃ m, (q.last + z).tmod q.T = m := ⟨_, rfl⟩
  rw [hm'] at hm
  rw [hp'] at hp
  rw [hd'] at hd ⊢
  rw [hm2'] at hm2 ⊢
  rw [hm', hp'] at HC
  have HN := Lib.hid N
  have HH := Lib.hid HC
  have HC0 := Lib.hid hcd
  have f0 : w.cell? ⟨ge, 0, none⟩ = some (.int .u8 e.kd) := he.c0
  have f1 : w.cell? ⟨ge, 1, none⟩ = some (.int .i64 e.th) := he.c1
  have g0 : w.cell? ⟨gc, 0, none⟩ = some (.int .i64 q.T) := hcd.cT
  have g3 : w.cell? ⟨gc, 3, none⟩ = some (.int .i64 q.last) := hcd.cl
  have E1 := Lib.hid he
  have I1 := Lib.hid hI
  have hTz : (q.T == 0) = false := beq_eq_false_iff_ne.2 (by omega)
  have hw1 : IntKind.i64.wrap ((e.kd - 1) * q.T) = p := by rw [hp']; exact IntWalk.i64_in _ ⟨by omega, by omega⟩
  have hw2 : IntKind.u8.wrap d = d := by rw [IntKind.wrap_u8]; omega
  have hw3 : IntKind.u8.wrap (d + 1) = d + 1 := by rw [IntKind.wrap_u8]; omega
  have hw4 : IntKind.i64.wrap m = m := IntWalk.i64_in _ ⟨by omega, by omega⟩
  have hw5 : IntKind.i64.wrap d = d := IntWalk.i64_in _ ⟨by omega, by omega⟩
  have hw6 : IntKind.i64.wrap m2 = m2 := IntWalk.i64_in _ ⟨by omega, by omega⟩
  clear HC N hcd he hI
  go_enter Tryz.func90, Tryz.ntmps90
  go_wp2_with fail
  go_quiet (fail)
  generalize hw2 : w.drewN _ = w2
  have hdw : Below w.heap.size w w2 := by rw [← hw2]; exact drewN_below w _
  have f0 := (hdw.cell (p := ⟨ge, 0, none⟩) E1.out.lt).trans f0
  have I2 := HN.out.stay _ _ _ I1.out (kp_below hdw)
  clear hw2 f1 g0 g3
  go_wp2_with fail
  refine (HH.out w2 I2).mono ?_
  rintro _ w3 ⟨rfl, x1, x2⟩
  have he3 := HN.out.ev (E1.out.below hdw) x2
  have hc3 := HN.out.cod (HC0.out.below hdw) x2.left
  have f0 := he3.c0
  have fr0 := he3.fr 0
  have K1 := Lib.hid (((kp_below hdw : Kp gF (some ge) w w2)).two x2.left)
  have I3 := HN.out.stay _ _ _ x1 (kp_set w3 ge 0 (.int .u8 (d + 1)))
  have he4 : EvO (w3.setCell ⟨ge, 0, none⟩ (.int .u8 (d + 1))) ge { e with kd := d + 1 } := he3.set 0 _ rfl
  have hc4 := HN.out.cod hc3 (kp_set w3 ge 0 (.int .u8 (d + 1))).right
  have K2 := Lib.hid (K1.out.two (kp_set w3 ge 0 (.int .u8 (d + 1))).right)
  have f1 : (w3.setCell ⟨ge, 0, none⟩ (.int .u8 (d + 1))).cell? ⟨ge, 1, none⟩ = some (.int .i64 e.th) := he4.c1
  have fr1 := he4.fr 1
  have g3 : (w3.setCell ⟨ge, 0, none⟩ (.int .u8 (d + 1))).cell? ⟨gc, 3, none⟩ = some (.int .i64 q.last) := hc4.cl
  have E4 := Lib.hid he4
  have I4 := Lib.hid I3
  clear he3 hc3 x1 x2 K1 I3 he4 hc4
  go_wp2_with fail
  have he5 : EvO ((w3.setCell ⟨ge, 0, none⟩ (.int .u8 (d + 1))).setCell ⟨ge, 1, none⟩ (.int .i64 m2)) ge { e with kd := d + 1, th := m2 } := E4.out.set 1 _ rfl
  go_end0
  exact ⟨rfl, he5, HN.out.stay _ _ _ I4.out (kp_set _ ge 1 _), K2.out.two (kp_set _ ge 1 _).right⟩
end
end Go.Proofs.YteigglhhnemngaaGreatDoor
