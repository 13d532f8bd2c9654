/-
  THE DRAWN REGIONS OF InterpNames (layer 9): six of its runs, in whatever order their parts are laid: what is left behind them. Laid by gen/gen_kh.py. Conditions: as they stand.
-/
import Derived.Test.YthdcdffdpdoeoaaGreatDoorKg
namespace Go.Proofs.YthdcdffdpdoeoaaGreatDoor
set_option maxRecDepth 100000
open Go.RowKit Go.Deep
set_option linter.unusedVariables false
/-- The operations of the region of a number, in a piece of code. -/
noncomputable def regOps9 (n : Nat) : Code → Option (Array Oper)
  | .region id ops _ => if id == n then some ops else none
  | .seq a b => match regOps9 n a with | some x => some x | none => regOps9 n b
  | .cond _ a b => match regOps9 n a with | some x => some x | none => regOps9 n b
  | .block _ b => regOps9 n b
  | .loop b => regOps9 n b
  | .scope b => regOps9 n b
  | _ => none
noncomputable def ops9 (n : Nat) : Array Oper := match Tryz.f3.body with
  | some c => (regOps9 n c).getD #[]
  | none => #[]
theorem opAt9 {ops : Array Oper} {i : Nat} {o : Oper} {x : Op} (ho : ops[i]? = some o) (h : (ops[i]?).map Oper.op = some x) : o.op = x := by
  rw [ho] at h
  exact Option.some.inj h
theorem dst9 {ops : Array Oper} {i : Nat} {o : Oper} {x : Option Tmp} (ho : ops[i]? = some o) (h : (ops[i]?).map Oper.dst = some x) : o.dst = x := by
  rw [ho] at h
  exact Option.some.inj h
theorem guard9 {ops : Array Oper} {i : Nat} {o : Oper} (ho : ops[i]? = some o) (h : (ops[i]?).map (fun o => o.guard.isNone) = some true) : o.guard = none := by
  rw [ho] at h
  have := Option.some.inj h
  simpa using this
def waits9 (ops : Array Oper) (i j : Nat) : Bool := match ops[i]? with
  | some o => o.after.any fun e => Region.binds .any e && e.on == j
  | none => false
theorem waits9_of {ops : Array Oper} {i j : Nat} {o : Oper} {P : Nat → Prop} (ho : ops[i]? = some o) (hd : ∀ e ∈ o.after.toList, Region.binds .any e = true → P e.on) (h : waits9 ops i j = true) : P j := by
  unfold waits9 at h
  rw [ho] at h
  obtain ⟨e, he, h6⟩ := Array.any_eq_true'.1 h
  simp only [Bool.and_eq_true, beq_iff_eq] at h6
  have := hd e (by simpa using he) h6.1
  rwa [h6.2] at this
theorem wpList9 {P : Program} {ops : Array Oper} {Q : Exit → Act → World → Prop} {k : Nat} {o : Oper} {a : Act} {w : World} (ho : ops[k]? = some o) (hg : o.guard = none) (h : Oper.wp P o a w (fun a' w' => wpList P ops Q (ops.toList.drop (k + 1)) a' w') Q) : wpList P ops Q (ops.toList.drop k) a w := by
  have hk : k < ops.size := (Array.getElem?_eq_some_iff.1 ho).1
  rw [wpList_at hk]
  unfold wpOp
  rw [ho]
  have hw : Region.wanted o (yielded ops a.tmps) = true := by simp [Region.wanted, hg]
  simp only [hw, if_true]
  exact .inl h
theorem getD9 {T : Array Value} {x : Nat} {v u : Value} (h : T[x]? = some v) (hv : v = u) : T[x]?.getD undef = u := by rw [h]; exact hv
theorem cell_same9 {w w' : World} {p : Addr} (h : w'.heap[p.block]? = w.heap[p.block]?) : w'.cell? p = w.cell? p := by unfold World.cell?; rw [h]
theorem pairs9_far {w w' : World} {g hi : Nat} {B : Option Addr} (hz : w.heap[g]? = some (.cells endZ 48 (0, 0))) (hp : PairsAt w hi B [(3, 3)]) (hhi : hi ≤ w.heap.size) (k2 : ∀ b, b ≠ g → w'.heap[b]? = w.heap[b]?) (k3 : w'.heap.size = w.heap.size) : PairsAt w' w'.heap.size B [(3, 3)] := fun k hk => by
  obtain rfl : k = 0 := by simp at hk; omega
  obtain ⟨p, e, m, c1, c2⟩ := hp 0 hk
  have ad9 : ∀ q : Addr, q.add (0 * 2) = q := fun q => by cases q; simp [Addr.add]
  rw [ad9] at c1 c2
  have hne : p.block ≠ g := by
    intro hb
    have h3 : ∀ i : Nat, endZ[i]? ≠ some (.int .i64 3) := fun i => by
      match i with
      | 0 | 1 | 2 | 3 | 4 | 5 | 6 | 7 | 8 | 9 | 10 | 11 | 12 | 13 | 14 => simp [endZ]
      | _ + 15 => simp [endZ]
    obtain ⟨b, off, pt⟩ := p
    dsimp only at hb
    subst hb
    have c1' : w.cell? ⟨b, off, pt⟩ = some (.int .i64 3) := c1
    simp [World.cell?, hz] at c1'
    exact h3 _ c1'.2
  refine ⟨p, e, by omega, ?_, ?_⟩
  · rw [ad9]
    refine Eq.trans ?_ c1
    exact cell_same9 (p := p) (k2 p.block hne)
  · rw [ad9]
    refine Eq.trans ?_ c2
    exact cell_same9 (p := ⟨p.block, p.off + 1, none⟩) (k2 p.block hne)
section
variable {a : Act} {w : World} {K : Act → World → Prop} {Q : Exit → Act → World → Prop} {o : Oper}
set_option maxHeartbeats 2000000 in
theorem set_end {w w' : World} {g k : Nat} {b u : Int} {B : Option Addr} {m d : Nat} {l0 l1 l2 l3 l4 l5 l6 l7 : Int} {n : Nat} {VA : Option Addr} {vn vc : Nat} (hw : w' = (((((((((((((((w.setCell ⟨g, 0, none⟩ (.int .u8 k)).setCell ⟨g, 1, none⟩ (.int .i64 b)).setCell ⟨g, 2, none⟩ (.int .i64 u)).setCell ⟨g, 3, none⟩ (.slice B m d)).setCell ⟨g, 4, none⟩ (.int .i64 l0)).setCell ⟨g, 5, none⟩ (.int .i64 l1)).setCell ⟨g, 6, none⟩ (.int .i64 l2)).setCell ⟨g, 7, none⟩ (.int .i64 l3)).setCell ⟨g, 8, none⟩ (.int .i64 l4)).setCell ⟨g, 9, none⟩ (.int .i64 l5)).setCell ⟨g, 10, none⟩ (.int .i64 l6)).setCell ⟨g, 11, none⟩ (.int .i64 l7)).setCell ⟨g, 12, none⟩ (.int .i64 n)).setCell ⟨g, 13, none⟩ (.slice VA vn vc)).setCell ⟨g, 14, none⟩ (.bool true))) (hr : w.heap[g]? = some (.cells endZ 48 (0, 0))) :
    w'.heap[g]? = some (.cells #[.int .u8 k, .int .i64 b, .int .i64 u, .slice B m d, .int .i64 l0, .int .i64 l1, .int .i64 l2, .int .i64 l3, .int .i64 l4, .int .i64 l5, .int .i64 l6, .int .i64 l7, .int .i64 n, .slice VA vn vc, .bool true] 48 (0, 0)) ∧ (∀ b, b ≠ g → w'.heap[b]? = w.heap[b]?) ∧ w'.heap.size = w.heap.size ∧ ∀ {B : Nat} (w0 : World), Below B w0 w → B ≤ g → Below B w0 w' := by
  subst hw
  refine ⟨?_, fun b hb => ?_, by simp, fun {B} w0 hb hg => ?_⟩
  · unfold endZ at hr
    have h0 : (w.setCell ⟨g, 0, none⟩ (.int .u8 k)).heap[g]? = some (.cells #[.int .u8 k, .int .i64 0, .int .i64 0, .slice none 0 0, .int .i64 0, .int .i64 0, .int .i64 0, .int .i64 0, .int .i64 0, .int .i64 0, .int .i64 0, .int .i64 0, .int .i64 0, .slice none 0 0, .bool false] 48 (0, 0)) := heap_set_same _ g 0 _ _ _ hr
    have h1 : ((w.setCell ⟨g, 0, none⟩ (.int .u8 k)).setCell ⟨g, 1, none⟩ (.int .i64 b)).heap[g]? = some (.cells #[.int .u8 k, .int .i64 b, .int .i64 0, .slice none 0 0, .int .i64 0, .int .i64 0, .int .i64 0, .int .i64 0, .int .i64 0, .int .i64 0, .int .i64 0, .int .i64 0, .int .i64 0, .slice none 0 0, .bool false] 48 (0, 0)) := heap_set_same _ g 1 _ _ _ h0
    have h2 : (((w.setCell ⟨g, 0, none⟩ (.int .u8 k)).setCell ⟨g, 1, none⟩ (.int .i64 b)).setCell ⟨g, 2, none⟩ (.int .i64 u)).heap[g]? = some (.cells #[.int .u8 k, .int .i64 b, .int .i64 u, .slice none 0 0, .int .i64 0, .int .i64 0, .int .i64 0, .int .i64 0, .int .i64 0, .int .i64 0, .int .i64 0, .int .i64 0, .int .i64 0, .slice none 0 0, .bool false] 48 (0, 0)) := heap_set_same _ g 2 _ _ _ h1
    have h3 : ((((w.setCell ⟨g, 0, none⟩ (.int .u8 k)).setCell ⟨g, 1, none⟩ (.int .i64 b)).setCell ⟨g, 2, none⟩ (.int .i64 u)).setCell ⟨g, 3, none⟩ (.slice B m d)).heap[g]? = some (.cells #[.int .u8 k, .int .i64 b, .int .i64 u, .slice B m d, .int .i64 0, .int .i64 0, .int .i64 0, .int .i64 0, .int .i64 0, .int .i64 0, .int .i64 0, .int .i64 0, .int .i64 0, .slice none 0 0, .bool false] 48 (0, 0)) := heap_set_same _ g 3 _ _ _ h2
    have h4 : (((((w.setCell ⟨g, 0, none⟩ (.int .u8 k)).setCell ⟨g, 1, none⟩ (.int .i64 b)).setCell ⟨g, 2, none⟩ (.int .i64 u)).setCell ⟨g, 3, none⟩ (.slice B m d)).setCell ⟨g, 4, none⟩ (.int .i64 l0)).heap[g]? = some (.cells #[.int .u8 k, .int .i64 b, .int .i64 u, .slice B m d, .int .i64 l0, .int .i64 0, .int .i64 0, .int .i64 0, .int .i64 0, .int .i64 0, .int .i64 0, .int .i64 0, .int .i64 0, .slice none 0 0, .bool false] 48 (0, 0)) := heap_set_same _ g 4 _ _ _ h3
    have h5 : ((((((w.setCell ⟨g, 0, none⟩ (.int .u8 k)).setCell ⟨g, 1, none⟩ (.int .i64 b)).setCell ⟨g, 2, none⟩ (.int .i64 u)).setCell ⟨g, 3, none⟩ (.slice B m d)).setCell ⟨g, 4, none⟩ (.int .i64 l0)).setCell ⟨g, 5, none⟩ (.int .i64 l1)).heap[g]? = some (.cells #[.int .u8 k, .int .i64 b, .int .i64 u, .slice B m d, .int .i64 l0, .int .i64 l1, .int .i64 0, .int .i64 0, .int .i64 0, .int .i64 0, .int .i64 0, .int .i64 0, .int .i64 0, .slice none 0 0, .bool false] 48 (0, 0)) := heap_set_same _ g 5 _ _ _ h4
    have h6 : (((((((w.setCell ⟨g, 0, none⟩ (.int .u8 k)).setCell ⟨g, 1, none⟩ (.int .i64 b)).setCell ⟨g, 2, none⟩ (.int .i64 u)).setCell ⟨g, 3, none⟩ (.slice B m d)).setCell ⟨g, 4, none⟩ (.int .i64 l0)).setCell ⟨g, 5, none⟩ (.int .i64 l1)).setCell ⟨g, 6, none⟩ (.int .i64 l2)).heap[g]? = some (.cells #[.int .u8 k, .int .i64 b, .int .i64 u, .slice B m d, .int .i64 l0, .int .i64 l1, .int .i64 l2, .int .i64 0, .int .i64 0, .int .i64 0, .int .i64 0, .int .i64 0, .int .i64 0, .slice none 0 0, .bool false] 48 (0, 0)) := heap_set_same _ g 6 _ _ _ h5
    have h7 : ((((((((w.setCell ⟨g, 0, none⟩ (.int .u8 k)).setCell ⟨g, 1, none⟩ (.int .i64 b)).setCell ⟨g, 2, none⟩ (.int .i64 u)).setCell ⟨g, 3, none⟩ (.slice B m d)).setCell ⟨g, 4, none⟩ (.int .i64 l0)).setCell ⟨g, 5, none⟩ (.int .i64 l1)).setCell ⟨g, 6, none⟩ (.int .i64 l2)).setCell ⟨g, 7, none⟩ (.int .i64 l3)).heap[g]? = some (.cells #[.int .u8 k, .int .i64 b, .int .i64 u, .slice B m d, .int .i64 l0, .int .i64 l1, .int .i64 l2, .int .i64 l3, .int .i64 0, .int .i64 0, .int .i64 0, .int .i64 0, .int .i64 0, .slice none 0 0, .bool false] 48 (0, 0)) := heap_set_same _ g 7 _ _ _ h6
    have h8 : (((((((((w.setCell ⟨g, 0, none⟩ (.int .u8 k)).setCell ⟨g, 1, none⟩ (.int .i64 b)).setCell ⟨g, 2, none⟩ (.int .i64 u)).setCell ⟨g, 3, none⟩ (.slice B m d)).setCell ⟨g, 4, none⟩ (.int .i64 l0)).setCell ⟨g, 5, none⟩ (.int .i64 l1)).setCell ⟨g, 6, none⟩ (.int .i64 l2)).setCell ⟨g, 7, none⟩ (.int .i64 l3)).setCell ⟨g, 8, none⟩ (.int .i64 l4)).heap[g]? = some (.cells #[.int .u8 k, .int .i64 b, .int .i64 u, .slice B m d, .int .i64 l0, .int .i64 l1, .int .i64 l2, .int .i64 l3, .int .i64 l4, .int .i64 0, .int .i64 0, .int .i64 0, .int .i64 0, .slice none 0 0, .bool false] 48 (0, 0)) := heap_set_same _ g 8 _ _ _ h7
    have h9 : ((((((((((w.setCell ⟨g, 0, none⟩ (.int .u8 k)).setCell ⟨g, 1, none⟩ (.int .i64 b)).setCell ⟨g, 2, none⟩ (.int .i64 u)).setCell ⟨g, 3, none⟩ (.slice B m d)).setCell ⟨g, 4, none⟩ (.int .i64 l0)).setCell ⟨g, 5, none⟩ (.int .i64 l1)).setCell ⟨g, 6, none⟩ (.int .i64 l2)).setCell ⟨g, 7, none⟩ (.int .i64 l3)).setCell ⟨g, 8, none⟩ (.int .i64 l4)).setCell ⟨g, 9, none⟩ (.int .i64 l5)).heap[g]? = some (.cells #[.int .u8 k, .int .i64 b, .int .i64 u, .slice B m d, .int .i64 l0, .int .i64 l1, .int .i64 l2, .int .i64 l3, .int .i64 l4, .int .i64 l5, .int .i64 0, .int .i64 0, .int .i64 0, .slice none 0 0, .bool false] 48 (0, 0)) := heap_set_same _ g 9 _ _ _ h8
    have h10 : (((((((((((w.setCell ⟨g, 0, none⟩ (.int .u8 k)).setCell ⟨g, 1, none⟩ (.int .i64 b)).setCell ⟨g, 2, none⟩ (.int .i64 u)).setCell ⟨g, 3, none⟩ (.slice B m d)).setCell ⟨g, 4, none⟩ (.int .i64 l0)).setCell ⟨g, 5, none⟩ (.int .i64 l1)).setCell ⟨g, 6, none⟩ (.int .i64 l2)).setCell ⟨g, 7, none⟩ (.int .i64 l3)).setCell ⟨g, 8, none⟩ (.int .i64 l4)).setCell ⟨g, 9, none⟩ (.int .i64 l5)).setCell ⟨g, 10, none⟩ (.int .i64 l6)).heap[g]? = some (.cells #[.int .u8 k, .int .i64 b, .int .i64 u, .slice B m d, .int .i64 l0, .int .i64 l1, .int .i64 l2, .int .i64 l3, .int .i64 l4, .int .i64 l5, .int .i64 l6, .int .i64 0, .int .i64 0, .slice none 0 0, .bool false] 48 (0, 0)) := heap_set_same _ g 10 _ _ _ h9
    have h11 : ((((((((((((w.setCell ⟨g, 0, none⟩ (.int .u8 k)).setCell ⟨g, 1, none⟩ (.int .i64 b)).setCell ⟨g, 2, none⟩ (.int .i64 u)).setCell ⟨g, 3, none⟩ (.slice B m d)).setCell ⟨g, 4, none⟩ (.int .i64 l0)).setCell ⟨g, 5, none⟩ (.int .i64 l1)).setCell ⟨g, 6, none⟩ (.int .i64 l2)).setCell ⟨g, 7, none⟩ (.int .i64 l3)).setCell ⟨g, 8, none⟩ (.int .i64 l4)).setCell ⟨g, 9, none⟩ (.int .i64 l5)).setCell ⟨g, 10, none⟩ (.int .i64 l6)).setCell ⟨g, 11, none⟩ (.int .i64 l7)).heap[g]? = some (.cells #[.int .u8 k, .int .i64 b, .int .i64 u, .slice B m d, .int .i64 l0, .int .i64 l1, .int .i64 l2, .int .i64 l3, .int .i64 l4, .int .i64 l5, .int .i64 l6, .int .i64 l7, .int .i64 0, .slice none 0 0, .bool false] 48 (0, 0)) := heap_set_same _ g 11 _ _ _ h10
    have h12 : (((((((((((((w.setCell ⟨g, 0, none⟩ (.int .u8 k)).setCell ⟨g, 1, none⟩ (.int .i64 b)).setCell ⟨g, 2, none⟩ (.int .i64 u)).setCell ⟨g, 3, none⟩ (.slice B m d)).setCell ⟨g, 4, none⟩ (.int .i64 l0)).setCell ⟨g, 5, none⟩ (.int .i64 l1)).setCell ⟨g, 6, none⟩ (.int .i64 l2)).setCell ⟨g, 7, none⟩ (.int .i64 l3)).setCell ⟨g, 8, none⟩ (.int .i64 l4)).setCell ⟨g, 9, none⟩ (.int .i64 l5)).setCell ⟨g, 10, none⟩ (.int .i64 l6)).setCell ⟨g, 11, none⟩ (.int .i64 l7)).setCell ⟨g, 12, none⟩ (.int .i64 n)).heap[g]? = some (.cells #[.int .u8 k, .int .i64 b, .int .i64 u, .slice B m d, .int .i64 l0, .int .i64 l1, .int .i64 l2, .int .i64 l3, .int .i64 l4, .int .i64 l5, .int .i64 l6, .int .i64 l7, .int .i64 n, .slice none 0 0, .bool false] 48 (0, 0)) := heap_set_same _ g 12 _ _ _ h11
    have h13 : ((((((((((((((w.setCell ⟨g, 0, none⟩ (.int .u8 k)).setCell ⟨g, 1, none⟩ (.int .i64 b)).setCell ⟨g, 2, none⟩ (.int .i64 u)).setCell ⟨g, 3, none⟩ (.slice B m d)).setCell ⟨g, 4, none⟩ (.int .i64 l0)).setCell ⟨g, 5, none⟩ (.int .i64 l1)).setCell ⟨g, 6, none⟩ (.int .i64 l2)).setCell ⟨g, 7, none⟩ (.int .i64 l3)).setCell ⟨g, 8, none⟩ (.int .i64 l4)).setCell ⟨g, 9, none⟩ (.int .i64 l5)).setCell ⟨g, 10, none⟩ (.int .i64 l6)).setCell ⟨g, 11, none⟩ (.int .i64 l7)).setCell ⟨g, 12, none⟩ (.int .i64 n)).setCell ⟨g, 13, none⟩ (.slice VA vn vc)).heap[g]? = some (.cells #[.int .u8 k, .int .i64 b, .int .i64 u, .slice B m d, .int .i64 l0, .int .i64 l1, .int .i64 l2, .int .i64 l3, .int .i64 l4, .int .i64 l5, .int .i64 l6, .int .i64 l7, .int .i64 n, .slice VA vn vc, .bool false] 48 (0, 0)) := heap_set_same _ g 13 _ _ _ h12
    have h14 : (((((((((((((((w.setCell ⟨g, 0, none⟩ (.int .u8 k)).setCell ⟨g, 1, none⟩ (.int .i64 b)).setCell ⟨g, 2, none⟩ (.int .i64 u)).setCell ⟨g, 3, none⟩ (.slice B m d)).setCell ⟨g, 4, none⟩ (.int .i64 l0)).setCell ⟨g, 5, none⟩ (.int .i64 l1)).setCell ⟨g, 6, none⟩ (.int .i64 l2)).setCell ⟨g, 7, none⟩ (.int .i64 l3)).setCell ⟨g, 8, none⟩ (.int .i64 l4)).setCell ⟨g, 9, none⟩ (.int .i64 l5)).setCell ⟨g, 10, none⟩ (.int .i64 l6)).setCell ⟨g, 11, none⟩ (.int .i64 l7)).setCell ⟨g, 12, none⟩ (.int .i64 n)).setCell ⟨g, 13, none⟩ (.slice VA vn vc)).setCell ⟨g, 14, none⟩ (.bool true)).heap[g]? = some (.cells #[.int .u8 k, .int .i64 b, .int .i64 u, .slice B m d, .int .i64 l0, .int .i64 l1, .int .i64 l2, .int .i64 l3, .int .i64 l4, .int .i64 l5, .int .i64 l6, .int .i64 l7, .int .i64 n, .slice VA vn vc, .bool true] 48 (0, 0)) := heap_set_same _ g 14 _ _ _ h13
    exact h14
  · rw [heap_set_other _ _ _ _ _ hb, heap_set_other _ _ _ _ _ hb, heap_set_other _ _ _ _ _ hb, heap_set_other _ _ _ _ _ hb, heap_set_other _ _ _ _ _ hb, heap_set_other _ _ _ _ _ hb, heap_set_other _ _ _ _ _ hb, heap_set_other _ _ _ _ _ hb, heap_set_other _ _ _ _ _ hb, heap_set_other _ _ _ _ _ hb, heap_set_other _ _ _ _ _ hb, heap_set_other _ _ _ _ _ hb, heap_set_other _ _ _ _ _ hb, heap_set_other _ _ _ _ _ hb, heap_set_other _ _ _ _ _ hb]
  · exact (Below.setCell (Below.setCell (Below.setCell (Below.setCell (Below.setCell (Below.setCell (Below.setCell (Below.setCell (Below.setCell (Below.setCell (Below.setCell (Below.setCell (Below.setCell (Below.setCell (Below.setCell hb (p := ⟨g, 0, none⟩) hg _) (p := ⟨g, 1, none⟩) hg _) (p := ⟨g, 2, none⟩) hg _) (p := ⟨g, 3, none⟩) hg _) (p := ⟨g, 4, none⟩) hg _) (p := ⟨g, 5, none⟩) hg _) (p := ⟨g, 6, none⟩) hg _) (p := ⟨g, 7, none⟩) hg _) (p := ⟨g, 8, none⟩) hg _) (p := ⟨g, 9, none⟩) hg _) (p := ⟨g, 10, none⟩) hg _) (p := ⟨g, 11, none⟩) hg _) (p := ⟨g, 12, none⟩) hg _) (p := ⟨g, 13, none⟩) hg _) (p := ⟨g, 14, none⟩) hg _)
set_option maxHeartbeats 4000000 in
theorem k9_store (x y g : Nat) {k : Nat} {b u : Int} {B : Option Addr} {m d : Nat} {l0 l1 l2 l3 l4 l5 l6 l7 : Int} {n : Nat} {VA : Option Addr} {vn vc : Nat} (ho : o.op = .store 48 (.tmp x) (.tmp y)) (hx : a.tmps[x]?.getD undef = .pointer (some ⟨g, 0, none⟩)) (hy : a.tmps[y]?.getD undef = .agg #[.int .u8 k, .int .i64 b, .int .i64 u, .slice B m d, .int .i64 l0, .int .i64 l1, .int .i64 l2, .int .i64 l3, .int .i64 l4, .int .i64 l5, .int .i64 l6, .int .i64 l7, .int .i64 n, .slice VA vn vc, .bool true]) (hr : w.heap[g]? = some (.cells endZ 48 (0, 0)))
    (hK : ∀ w' : World, w'.heap[g]? = some (.cells #[.int .u8 k, .int .i64 b, .int .i64 u, .slice B m d, .int .i64 l0, .int .i64 l1, .int .i64 l2, .int .i64 l3, .int .i64 l4, .int .i64 l5, .int .i64 l6, .int .i64 l7, .int .i64 n, .slice VA vn vc, .bool true] 48 (0, 0)) → (∀ b, b ≠ g → w'.heap[b]? = w.heap[b]?) → w'.heap.size = w.heap.size → (∀ {B : Nat} (w0 : World), Below B w0 w → B ≤ g → Below B w0 w') → K (a.put o.dst undef) w') : Oper.wp Tryz.prog o a w K Q := by
  have hKs : K (a.put o.dst undef) (((((((((((((((w.setCell ⟨g, 0, none⟩ (.int .u8 k)).setCell ⟨g, 1, none⟩ (.int .i64 b)).setCell ⟨g, 2, none⟩ (.int .i64 u)).setCell ⟨g, 3, none⟩ (.slice B m d)).setCell ⟨g, 4, none⟩ (.int .i64 l0)).setCell ⟨g, 5, none⟩ (.int .i64 l1)).setCell ⟨g, 6, none⟩ (.int .i64 l2)).setCell ⟨g, 7, none⟩ (.int .i64 l3)).setCell ⟨g, 8, none⟩ (.int .i64 l4)).setCell ⟨g, 9, none⟩ (.int .i64 l5)).setCell ⟨g, 10, none⟩ (.int .i64 l6)).setCell ⟨g, 11, none⟩ (.int .i64 l7)).setCell ⟨g, 12, none⟩ (.int .i64 n)).setCell ⟨g, 13, none⟩ (.slice VA vn vc)).setCell ⟨g, 14, none⟩ (.bool true)) := by
    obtain ⟨k1, k2, k3, k4⟩ := set_end rfl hr
    exact hK _ k1 k2 k3 k4
  clear hK
  unfold endZ at hr
  obtain ⟨dst, op, type, pos, after, guard⟩ := o
  have ho' : op = _ := ho
  subst ho'
  clear ho
  have hi := Tryz.isAgg48
  have hs := Tryz.sizeOf48
  have c0 : w.cell? ⟨g, 0, none⟩ = some (.int .u8 0) := cell_of_row w _ 0 _ _ (0, 0) hr
  have c1 : w.cell? ⟨g, 1, none⟩ = some (.int .i64 0) := cell_of_row w _ 1 _ _ (0, 0) hr
  have c2 : w.cell? ⟨g, 2, none⟩ = some (.int .i64 0) := cell_of_row w _ 2 _ _ (0, 0) hr
  have c3 : w.cell? ⟨g, 3, none⟩ = some (.slice none 0 0) := cell_of_row w _ 3 _ _ (0, 0) hr
  have c4 : w.cell? ⟨g, 4, none⟩ = some (.int .i64 0) := cell_of_row w _ 4 _ _ (0, 0) hr
  have c5 : w.cell? ⟨g, 5, none⟩ = some (.int .i64 0) := cell_of_row w _ 5 _ _ (0, 0) hr
  have c6 : w.cell? ⟨g, 6, none⟩ = some (.int .i64 0) := cell_of_row w _ 6 _ _ (0, 0) hr
  have c7 : w.cell? ⟨g, 7, none⟩ = some (.int .i64 0) := cell_of_row w _ 7 _ _ (0, 0) hr
  have c8 : w.cell? ⟨g, 8, none⟩ = some (.int .i64 0) := cell_of_row w _ 8 _ _ (0, 0) hr
  have c9 : w.cell? ⟨g, 9, none⟩ = some (.int .i64 0) := cell_of_row w _ 9 _ _ (0, 0) hr
  have c10 : w.cell? ⟨g, 10, none⟩ = some (.int .i64 0) := cell_of_row w _ 10 _ _ (0, 0) hr
  have c11 : w.cell? ⟨g, 11, none⟩ = some (.int .i64 0) := cell_of_row w _ 11 _ _ (0, 0) hr
  have c12 : w.cell? ⟨g, 12, none⟩ = some (.int .i64 0) := cell_of_row w _ 12 _ _ (0, 0) hr
  have c13 : w.cell? ⟨g, 13, none⟩ = some (.slice none 0 0) := cell_of_row w _ 13 _ _ (0, 0) hr
  have c14 : w.cell? ⟨g, 14, none⟩ = some (.bool false) := cell_of_row w _ 14 _ _ (0, 0) hr
  have cf : ∀ i, w.frozen? ⟨g, i, none⟩ = false := fun i => by simp [World.frozen?, hr]
  clear hr
  go_simp
  exact hKs
end
/-- What stands in each temporary of region 12. -/
def K9R12 (W : World) : Nat → Kn9
  | 0 => .orf
  | 1 => .lf 1 1
  | 2 => .st 7 (jWrite 1 (.node 1 1 []))
  | 3 => .orf
  | 4 => .lf 1 2
  | 5 => .st 6 (jWrite 2 (.node 1 2 []))
  | 6 => .st 6 jRetry
  | 7 => .sl 6 [(jWrite 2 (.node 1 2 [])), jRetry]
  | 8 => .st 6 jRetry
  | 9 => .sl 6 [jRetry]
  | 10 => .st 7 (jOr [(jWrite 2 (.node 1 2 [])), jRetry] [jRetry])
  | 11 => .sl 7 [(jWrite 1 (.node 1 1 [])), (jOr [(jWrite 2 (.node 1 2 [])), jRetry] [jRetry])]
  | 12 => .lf 1 3
  | 13 => .st 7 (jWrite 3 (.node 1 3 []))
  | 14 => .sl 7 [(jWrite 3 (.node 1 3 []))]
  | 15 => .st 8 (jOr [(jWrite 1 (.node 1 1 [])), (jOr [(jWrite 2 (.node 1 2 [])), jRetry] [jRetry])] [(jWrite 3 (.node 1 3 []))])
  | 16 => .sl 8 [(jOr [(jWrite 1 (.node 1 1 [])), (jOr [(jWrite 2 (.node 1 2 [])), jRetry] [jRetry])] [(jWrite 3 (.node 1 3 []))])]
  | 17 => .off
  | 18 => .en 3 0 0 [(3, 3)] 0 0 0 0 0 0 0 0 7
  | 19 => .bx W.heap.size
  | _ => .lf 0 0
set_option maxRecDepth 100000 in
set_option maxHeartbeats 4000000 in
theorem reg9_12 {id : Nat} {ops : Array Oper} (hops : ops = ops9 12) (T0 : Array Value) (hsz : 322 ≤ T0.size) (W : World) (hkd : Kd W) (h11 : T0[11]?.getD undef = .func (.func 13) #[] #[]) (g10 : Nat) {r10 : Raw} (h10 : T0[10]?.getD undef = .pointer (some ⟨g10, 0, none⟩)) (hg10 : g10 < W.heap.size) (ht10 : Ten W ⟨g10, 0, none⟩ r10) (hs10 : SA W 2 r10 jRetry) {Q : Exit → Act → World → Prop}
    (hend : ∀ (u0 u1 u2 u3 u4 u5 u6 u7 u8 u9 u10 u11 u12 u13 u14 u15 u16 u17 u18 : Value) (gA : Nat) (w : World) (B : Option Addr) (d : Nat) (VA : Option Addr) (vn vc : Nat), Below W.heap.size W w → W.heap.size ≤ gA → w.heap[gA]? = some (.cells #[.int .u8 3, .int .i64 0, .int .i64 0, .slice B 1 d, .int .i64 0, .int .i64 0, .int .i64 0, .int .i64 0, .int .i64 0, .int .i64 0, .int .i64 0, .int .i64 0, .int .i64 7, .slice VA vn vc, .bool true] 48 (0, 0)) → PairsAt w w.heap.size B [(3, 3)] → Q .normal ⟨putAll T0 [104, 105, 106, 107, 108, 109, 110, 111, 112, 113, 114, 115, 116, 117, 118, 119, 120, 121, 122, 12] [u0, u1, u2, u3, u4, u5, u6, u7, u8, u9, u10, u11, u12, u13, u14, u15, u16, u17, u18, .pointer (some ⟨gA, 0, none⟩)], []⟩ w) :
    (Code.region id ops true).wp Tryz.prog Q ⟨T0, []⟩ W := by
  subst hops
  have hos : (ops9 12).size = 21 := by kernel_rfl
  refine wp_region_tail (fun i _ _ v w => (K9R12 W i).at v w) [104, 105, 106, 107, 108, 109, 110, 111, 112, 113, 114, 115, 116, 117, 118, 119, 120, 121, 122, 12] W T0 (by decide) (fun x hx => ?_) (by kernel_rfl) (by kernel_rfl) (fun i x y v w w' _ _ b h => (K9R12 W i).mono b h) ?_ ?_
  · simp at hx
    omega
  · intro i o ho hi4 a w hT hdone hlow K hK0
    have hwait : ∀ j, waits9 (ops9 12) i j = true → ∃ (v : Value) (x y : Nat), a.tmps[([104, 105, 106, 107, 108, 109, 110, 111, 112, 113, 114, 115, 116, 117, 118, 119, 120, 121, 122, 12] : List Nat).getD j 0]? = some v ∧ (K9R12 W j).at v w := fun j hj => waits9_of (P := fun j => ∃ (v : Value) (x y : Nat), a.tmps[([104, 105, 106, 107, 108, 109, 110, 111, 112, 113, 114, 115, 116, 117, 118, 119, 120, 121, 122, 12] : List Nat).getD j 0]? = some v ∧ (K9R12 W j).at v w) ho hdone hj
    clear hdone
    match i, hi4 with
    | 0, _ =>
      have hK : ∀ v w', Below w.heap.size w w' → (K9R12 W 0).at v w' → K (a.put o.dst v) w' := fun v w' b h => hK0 v w' b h
      exact k9_move 11 (opAt9 ho (by kernel_rfl)) (by rw [hT 11 (by decide)]; exact h11) (fun v w' b h => hK v w' b h)
    | 1, _ =>
      have hK : ∀ v w', Below w.heap.size w w' → (K9R12 W 1).at v w' → K (a.put o.dst v) w' := fun v w' b h => hK0 v w' b h
      exact k9_lit 1 2 (opAt9 ho (by kernel_rfl)) (fun v w' b h => hK v w' b h)
    | 2, _ =>
      have hK : ∀ v w', Below w.heap.size w w' → (K9R12 W 2).at v w' → K (a.put o.dst v) w' := fun v w' b h => hK0 v w' b h
      obtain ⟨v1, x1, y1, e1, q1⟩ := hwait 1 (by kernel_rfl)
      exact k9_write 105 5 1 1 1 (by decide) (by decide) 2 40 (opAt9 ho (by kernel_rfl)) (getD9 e1 q1) (fun v w' b h => hK v w' b h)
    | 3, _ =>
      have hK : ∀ v w', Below w.heap.size w w' → (K9R12 W 3).at v w' → K (a.put o.dst v) w' := fun v w' b h => hK0 v w' b h
      exact k9_move 11 (opAt9 ho (by kernel_rfl)) (by rw [hT 11 (by decide)]; exact h11) (fun v w' b h => hK v w' b h)
    | 4, _ =>
      have hK : ∀ v w', Below w.heap.size w w' → (K9R12 W 4).at v w' → K (a.put o.dst v) w' := fun v w' b h => hK0 v w' b h
      exact k9_lit 2 2 (opAt9 ho (by kernel_rfl)) (fun v w' b h => hK v w' b h)
    | 5, _ =>
      have hK : ∀ v w', Below w.heap.size w w' → (K9R12 W 5).at v w' → K (a.put o.dst v) w' := fun v w' b h => hK0 v w' b h
      obtain ⟨v4, x4, y4, e4, q4⟩ := hwait 4 (by kernel_rfl)
      exact k9_write 108 4 1 2 2 (by decide) (by decide) 2 40 (opAt9 ho (by kernel_rfl)) (getD9 e4 q4) (fun v w' b h => hK v w' b h)
    | 6, _ =>
      have hK : ∀ v w', Below w.heap.size w w' → (K9R12 W 6).at v w' → K (a.put o.dst v) w' := fun v w' b h => hK0 v w' b h
      exact k9_load 10 g10 6 jRetry (ht10.below hlow hg10) ((hs10.below hlow).more (by decide)) (opAt9 ho (by kernel_rfl)) (by rw [hT 10 (by decide)]; exact h10) (fun v w' b h => hK v w' b h)
    | 7, _ =>
      have hK : ∀ v w', Below w.heap.size w w' → (K9R12 W 7).at v w' → K (a.put o.dst v) w' := fun v w' b h => hK0 v w' b h
      obtain ⟨v5, x5, y5, e5, r5, q5, s5⟩ := hwait 5 (by kernel_rfl)
      obtain ⟨v6, x6, y6, e6, r6, q6, s6⟩ := hwait 6 (by kernel_rfl)
      exact k9_s2 109 110 6 ((jWrite 2 (.node 1 2 []))) (jRetry) (opAt9 ho (by kernel_rfl)) (getD9 e5 q5) s5 (getD9 e6 q6) s6 (fun v w' b h => hK v w' b h)
    | 8, _ =>
      have hK : ∀ v w', Below w.heap.size w w' → (K9R12 W 8).at v w' → K (a.put o.dst v) w' := fun v w' b h => hK0 v w' b h
      exact k9_load 10 g10 6 jRetry (ht10.below hlow hg10) ((hs10.below hlow).more (by decide)) (opAt9 ho (by kernel_rfl)) (by rw [hT 10 (by decide)]; exact h10) (fun v w' b h => hK v w' b h)
    | 9, _ =>
      have hK : ∀ v w', Below w.heap.size w w' → (K9R12 W 9).at v w' → K (a.put o.dst v) w' := fun v w' b h => hK0 v w' b h
      obtain ⟨v8, x8, y8, e8, r8, q8, s8⟩ := hwait 8 (by kernel_rfl)
      exact k9_s1 112 6 (jRetry) (opAt9 ho (by kernel_rfl)) (getD9 e8 q8) s8 (fun v w' b h => hK v w' b h)
    | 10, _ =>
      have hK : ∀ v w', Below w.heap.size w w' → (K9R12 W 10).at v w' → K (a.put o.dst v) w' := fun v w' b h => hK0 v w' b h
      obtain ⟨v3, x3, y3, e3, qf⟩ := hwait 3 (by kernel_rfl)
      obtain ⟨v7, x7, y7, e7, Ay, cy, qy, sy⟩ := hwait 7 (by kernel_rfl)
      obtain ⟨v9, x9, y9, e9, Ae, ce, qe, se⟩ := hwait 9 (by kernel_rfl)
      exact k9_or 107 111 113 4 [(jWrite 2 (.node 1 2 [])), jRetry] [jRetry] rfl rfl (by decide) (by decide) sy se 41 41 (opAt9 ho (by kernel_rfl)) (getD9 e3 qf) (getD9 e7 qy) (getD9 e9 qe) (fun v w' b h => hK v w' b h)
    | 11, _ =>
      have hK : ∀ v w', Below w.heap.size w w' → (K9R12 W 11).at v w' → K (a.put o.dst v) w' := fun v w' b h => hK0 v w' b h
      obtain ⟨v2, x2, y2, e2, r2, q2, s2⟩ := hwait 2 (by kernel_rfl)
      obtain ⟨v10, x10, y10, e10, r10, q10, s10⟩ := hwait 10 (by kernel_rfl)
      exact k9_s2 106 114 7 ((jWrite 1 (.node 1 1 []))) ((jOr [(jWrite 2 (.node 1 2 [])), jRetry] [jRetry])) (opAt9 ho (by kernel_rfl)) (getD9 e2 q2) s2 (getD9 e10 q10) s10 (fun v w' b h => hK v w' b h)
    | 12, _ =>
      have hK : ∀ v w', Below w.heap.size w w' → (K9R12 W 12).at v w' → K (a.put o.dst v) w' := fun v w' b h => hK0 v w' b h
      exact k9_lit 3 2 (opAt9 ho (by kernel_rfl)) (fun v w' b h => hK v w' b h)
    | 13, _ =>
      have hK : ∀ v w', Below w.heap.size w w' → (K9R12 W 13).at v w' → K (a.put o.dst v) w' := fun v w' b h => hK0 v w' b h
      obtain ⟨v12, x12, y12, e12, q12⟩ := hwait 12 (by kernel_rfl)
      exact k9_write 116 5 1 3 3 (by decide) (by decide) 2 40 (opAt9 ho (by kernel_rfl)) (getD9 e12 q12) (fun v w' b h => hK v w' b h)
    | 14, _ =>
      have hK : ∀ v w', Below w.heap.size w w' → (K9R12 W 14).at v w' → K (a.put o.dst v) w' := fun v w' b h => hK0 v w' b h
      obtain ⟨v13, x13, y13, e13, r13, q13, s13⟩ := hwait 13 (by kernel_rfl)
      exact k9_s1 117 7 ((jWrite 3 (.node 1 3 []))) (opAt9 ho (by kernel_rfl)) (getD9 e13 q13) s13 (fun v w' b h => hK v w' b h)
    | 15, _ =>
      have hK : ∀ v w', Below w.heap.size w w' → (K9R12 W 15).at v w' → K (a.put o.dst v) w' := fun v w' b h => hK0 v w' b h
      obtain ⟨v0, x0, y0, e0, qf⟩ := hwait 0 (by kernel_rfl)
      obtain ⟨v11, x11, y11, e11, Ay, cy, qy, sy⟩ := hwait 11 (by kernel_rfl)
      obtain ⟨v14, x14, y14, e14, Ae, ce, qe, se⟩ := hwait 14 (by kernel_rfl)
      exact k9_or 104 115 118 5 [(jWrite 1 (.node 1 1 [])), (jOr [(jWrite 2 (.node 1 2 [])), jRetry] [jRetry])] [(jWrite 3 (.node 1 3 []))] rfl rfl (by decide) (by decide) sy se 41 41 (opAt9 ho (by kernel_rfl)) (getD9 e0 qf) (getD9 e11 qy) (getD9 e14 qe) (fun v w' b h => hK v w' b h)
    | 16, _ =>
      have hK : ∀ v w', Below w.heap.size w w' → (K9R12 W 16).at v w' → K (a.put o.dst v) w' := fun v w' b h => hK0 v w' b h
      obtain ⟨v15, x15, y15, e15, r15, q15, s15⟩ := hwait 15 (by kernel_rfl)
      exact k9_s1 119 8 ((jOr [(jWrite 1 (.node 1 1 [])), (jOr [(jWrite 2 (.node 1 2 [])), jRetry] [jRetry])] [(jWrite 3 (.node 1 3 []))])) (opAt9 ho (by kernel_rfl)) (getD9 e15 q15) s15 (fun v w' b h => hK v w' b h)
    | 17, _ =>
      have hK : ∀ v w', Below w.heap.size w w' → (K9R12 W 17).at v w' → K (a.put o.dst v) w' := fun v w' b h => hK0 v w' b h
      exact k9_of 44 (opAt9 ho (by kernel_rfl)) (fun v w' b h => hK v w' b h)
    | 18, _ =>
      have hK : ∀ v w', Below w.heap.size w w' → (K9R12 W 18).at v w' → K (a.put o.dst v) w' := fun v w' b h => hK0 v w' b h
      obtain ⟨v16, x16, y16, e16, A, c, q, s⟩ := hwait 16 (by kernel_rfl)
      obtain ⟨v17, x17, y17, e17, qf⟩ := hwait 17 (by kernel_rfl)
      exact k9_run 120 121 8 txA rfl s (by decide) (by decide) (hkd.below hlow (Nat.le_refl _)) (by kernel_rfl) runA (by decide) #[41, 3, 44, 52] qf (opAt9 ho (by kernel_rfl)) (getD9 e16 q) (getD9 e17 rfl) (fun v w' b h => hK v w' b h)
    | 19, _ =>
      have hK : ∀ v w', Below w.heap.size w w' → (K9R12 W 19).at v w' → K (a.put o.dst v) w' := fun v w' b h => hK0 v w' b h
      exact k9_alloc W.heap.size hlow.size (opAt9 ho (by kernel_rfl)) (fun v w' b h => hK v w' b h)
    | i + 20, h => exact absurd (show i + 20 < 20 from h) (by omega)
  · intro us lo' hi' w hu hlow hS hdj
    match us, hu with
    | [u0, u1, u2, u3, u4, u5, u6, u7, u8, u9, u10, u11, u12, u13, u14, u15, u16, u17, u18, u19], _ =>
      obtain ⟨_, _, _, hi, B, d, VA, vn, vc, hhi, ev, hp⟩ := hS 18 (by decide)
      obtain ⟨_, _, _, gA, eb, hB, hz⟩ := hS 19 (by decide)
      replace ev : u18 = _ := ev
      replace eb : u19 = _ := eb
      clear hS hdj
      have hval : (putAll T0 [104, 105, 106, 107, 108, 109, 110, 111, 112, 113, 114, 115, 116, 117, 118, 119, 120, 121, 122, 12] [u0, u1, u2, u3, u4, u5, u6, u7, u8, u9, u10, u11, u12, u13, u14, u15, u16, u17, u18, u19])[122]?.getD undef = u18 := by
        have hv : (putAll T0 [104, 105, 106, 107, 108, 109, 110, 111, 112, 113, 114, 115, 116, 117, 118, 119, 120, 121, 122, 12] [u0, u1, u2, u3, u4, u5, u6, u7, u8, u9, u10, u11, u12, u13, u14, u15, u16, u17, u18, u19])[122]? = some u18 := putAll_at T0 [104, 105, 106, 107, 108, 109, 110, 111, 112, 113, 114, 115, 116, 117, 118, 119, 120, 121, 122, 12] [u0, u1, u2, u3, u4, u5, u6, u7, u8, u9, u10, u11, u12, u13, u14, u15, u16, u17, u18, u19] 18 (by decide) rfl (by decide) (by show 122 < T0.size; omega)
        rw [hv]
        rfl
      have hbox : (putAll T0 [104, 105, 106, 107, 108, 109, 110, 111, 112, 113, 114, 115, 116, 117, 118, 119, 120, 121, 122, 12] [u0, u1, u2, u3, u4, u5, u6, u7, u8, u9, u10, u11, u12, u13, u14, u15, u16, u17, u18, u19])[12]?.getD undef = u19 := by
        have hv : (putAll T0 [104, 105, 106, 107, 108, 109, 110, 111, 112, 113, 114, 115, 116, 117, 118, 119, 120, 121, 122, 12] [u0, u1, u2, u3, u4, u5, u6, u7, u8, u9, u10, u11, u12, u13, u14, u15, u16, u17, u18, u19])[12]? = some u19 := putAll_at T0 [104, 105, 106, 107, 108, 109, 110, 111, 112, 113, 114, 115, 116, 117, 118, 119, 120, 121, 122, 12] [u0, u1, u2, u3, u4, u5, u6, u7, u8, u9, u10, u11, u12, u13, u14, u15, u16, u17, u18, u19] 19 (by decide) rfl (by decide) (by show 12 < T0.size; omega)
        rw [hv]
        rfl
      obtain ⟨o4, h4⟩ : ∃ o, (ops9 12)[20]? = some o := ⟨_, Array.getElem?_eq_getElem (by omega)⟩
      rw [show ([104, 105, 106, 107, 108, 109, 110, 111, 112, 113, 114, 115, 116, 117, 118, 119, 120, 121, 122, 12] : List Nat).length = 20 from rfl]
      refine wpList9 h4 (guard9 h4 (by kernel_rfl)) ?_
      have hb1 := hbox.trans eb
      have hv1 := hval.trans ev
      clear hval hbox
      refine k9_store 12 122 gA (k := 3) (b := 0) (u := 0) (B := B) (m := 1) (d := d) (l0 := 0) (l1 := 0) (l2 := 0) (l3 := 0) (l4 := 0) (l5 := 0) (l6 := 0) (l7 := 0) (n := 7) (VA := VA) (vn := vn) (vc := vc) (opAt9 h4 (by kernel_rfl)) ?_ ?_ hz ?_
      · dsimp only
        exact hb1
      · dsimp only
        exact hv1
      intro w' k1 k2 k3 k4
      rw [show o4.dst = none from dst9 h4 (by kernel_rfl)]
      dsimp only [Act.put]
      rw [show (ops9 12).toList.drop (20 + 1) = [] from List.drop_eq_nil_of_le (by simp [hos]), wpList]
      have hres := hend u0 u1 u2 u3 u4 u5 u6 u7 u8 u9 u10 u11 u12 u13 u14 u15 u16 u17 u18 gA w' B d VA vn vc (k4 _ hlow hB) hB k1 (pairs9_far hz hp hhi k2 k3)
      rw [← eb] at hres
      exact hres
/-- What stands in each temporary of region 15. -/
def K9R15 (W : World) : Nat → Kn9
  | 0 => .lf 1 4
  | 1 => .st 8 (jSet 1 (.node 1 4 []))
  | 2 => .orf
  | 3 => .lf 1 6
  | 4 => .st 7 (jSet 1 (.node 1 6 []))
  | 5 => .st 7 jRetry
  | 6 => .sl 7 [(jSet 1 (.node 1 6 [])), jRetry]
  | 7 => .st 8 (jOr [(jSet 1 (.node 1 6 [])), jRetry] [])
  | 8 => .lf 2 1
  | 9 => .st 8 (jBack (.node 2 1 []))
  | 10 => .sl 8 [(jSet 1 (.node 1 4 [])), (jOr [(jSet 1 (.node 1 6 [])), jRetry] []), (jBack (.node 2 1 []))]
  | 11 => .off
  | 12 => .en 3 0 4 [] 0 4 0 0 0 0 0 0 4
  | 13 => .bx W.heap.size
  | _ => .lf 0 0
set_option maxRecDepth 100000 in
set_option maxHeartbeats 4000000 in
theorem reg9_15 {id : Nat} {ops : Array Oper} (hops : ops = ops9 15) (T0 : Array Value) (hsz : 322 ≤ T0.size) (W : World) (hkd : Kd W) (h11 : T0[11]?.getD undef = .func (.func 13) #[] #[]) (g10 : Nat) {r10 : Raw} (h10 : T0[10]?.getD undef = .pointer (some ⟨g10, 0, none⟩)) (hg10 : g10 < W.heap.size) (ht10 : Ten W ⟨g10, 0, none⟩ r10) (hs10 : SA W 2 r10 jRetry) {Q : Exit → Act → World → Prop}
    (hend : ∀ (u0 u1 u2 u3 u4 u5 u6 u7 u8 u9 u10 u11 u12 : Value) (gA : Nat) (w : World) (B : Option Addr) (d : Nat) (VA : Option Addr) (vn vc : Nat), Below W.heap.size W w → W.heap.size ≤ gA → w.heap[gA]? = some (.cells #[.int .u8 3, .int .i64 0, .int .i64 4, .slice B 0 d, .int .i64 0, .int .i64 4, .int .i64 0, .int .i64 0, .int .i64 0, .int .i64 0, .int .i64 0, .int .i64 0, .int .i64 4, .slice VA vn vc, .bool true] 48 (0, 0)) → Q .normal ⟨putAll T0 [146, 147, 148, 149, 150, 151, 152, 153, 154, 155, 156, 157, 158, 15] [u0, u1, u2, u3, u4, u5, u6, u7, u8, u9, u10, u11, u12, .pointer (some ⟨gA, 0, none⟩)], []⟩ w) :
    (Code.region id ops true).wp Tryz.prog Q ⟨T0, []⟩ W := by
  subst hops
  have hos : (ops9 15).size = 15 := by kernel_rfl
  refine wp_region_tail (fun i _ _ v w => (K9R15 W i).at v w) [146, 147, 148, 149, 150, 151, 152, 153, 154, 155, 156, 157, 158, 15] W T0 (by decide) (fun x hx => ?_) (by kernel_rfl) (by kernel_rfl) (fun i x y v w w' _ _ b h => (K9R15 W i).mono b h) ?_ ?_
  · simp at hx
    omega
  · intro i o ho hi4 a w hT hdone hlow K hK0
    have hwait : ∀ j, waits9 (ops9 15) i j = true → ∃ (v : Value) (x y : Nat), a.tmps[([146, 147, 148, 149, 150, 151, 152, 153, 154, 155, 156, 157, 158, 15] : List Nat).getD j 0]? = some v ∧ (K9R15 W j).at v w := fun j hj => waits9_of (P := fun j => ∃ (v : Value) (x y : Nat), a.tmps[([146, 147, 148, 149, 150, 151, 152, 153, 154, 155, 156, 157, 158, 15] : List Nat).getD j 0]? = some v ∧ (K9R15 W j).at v w) ho hdone hj
    clear hdone
    match i, hi4 with
    | 0, _ =>
      have hK : ∀ v w', Below w.heap.size w w' → (K9R15 W 0).at v w' → K (a.put o.dst v) w' := fun v w' b h => hK0 v w' b h
      exact k9_lit 4 2 (opAt9 ho (by kernel_rfl)) (fun v w' b h => hK v w' b h)
    | 1, _ =>
      have hK : ∀ v w', Below w.heap.size w w' → (K9R15 W 1).at v w' → K (a.put o.dst v) w' := fun v w' b h => hK0 v w' b h
      obtain ⟨v0, x0, y0, e0, qx⟩ := hwait 0 (by kernel_rfl)
      exact k9_set 146 5 1 (by decide) (.node 1 4 []) (at_lf _ 6 1 4 (by decide)) (opAt9 ho (by kernel_rfl)) (getD9 e0 qx) (fun v w' b h => hK v w' b h)
    | 2, _ =>
      have hK : ∀ v w', Below w.heap.size w w' → (K9R15 W 2).at v w' → K (a.put o.dst v) w' := fun v w' b h => hK0 v w' b h
      exact k9_move 11 (opAt9 ho (by kernel_rfl)) (by rw [hT 11 (by decide)]; exact h11) (fun v w' b h => hK v w' b h)
    | 3, _ =>
      have hK : ∀ v w', Below w.heap.size w w' → (K9R15 W 3).at v w' → K (a.put o.dst v) w' := fun v w' b h => hK0 v w' b h
      exact k9_lit 6 2 (opAt9 ho (by kernel_rfl)) (fun v w' b h => hK v w' b h)
    | 4, _ =>
      have hK : ∀ v w', Below w.heap.size w w' → (K9R15 W 4).at v w' → K (a.put o.dst v) w' := fun v w' b h => hK0 v w' b h
      obtain ⟨v3, x3, y3, e3, qx⟩ := hwait 3 (by kernel_rfl)
      exact k9_set 149 4 1 (by decide) (.node 1 6 []) (at_lf _ 5 1 6 (by decide)) (opAt9 ho (by kernel_rfl)) (getD9 e3 qx) (fun v w' b h => hK v w' b h)
    | 5, _ =>
      have hK : ∀ v w', Below w.heap.size w w' → (K9R15 W 5).at v w' → K (a.put o.dst v) w' := fun v w' b h => hK0 v w' b h
      exact k9_load 10 g10 7 jRetry (ht10.below hlow hg10) ((hs10.below hlow).more (by decide)) (opAt9 ho (by kernel_rfl)) (by rw [hT 10 (by decide)]; exact h10) (fun v w' b h => hK v w' b h)
    | 6, _ =>
      have hK : ∀ v w', Below w.heap.size w w' → (K9R15 W 6).at v w' → K (a.put o.dst v) w' := fun v w' b h => hK0 v w' b h
      obtain ⟨v4, x4, y4, e4, r4, q4, s4⟩ := hwait 4 (by kernel_rfl)
      obtain ⟨v5, x5, y5, e5, r5, q5, s5⟩ := hwait 5 (by kernel_rfl)
      exact k9_s2 150 151 7 ((jSet 1 (.node 1 6 []))) (jRetry) (opAt9 ho (by kernel_rfl)) (getD9 e4 q4) s4 (getD9 e5 q5) s5 (fun v w' b h => hK v w' b h)
    | 7, _ =>
      have hK : ∀ v w', Below w.heap.size w w' → (K9R15 W 7).at v w' → K (a.put o.dst v) w' := fun v w' b h => hK0 v w' b h
      obtain ⟨v2, x2, y2, e2, qf⟩ := hwait 2 (by kernel_rfl)
      obtain ⟨v6, x6, y6, e6, Ay, cy, qy, sy⟩ := hwait 6 (by kernel_rfl)
      exact k9_orn 148 152 5 [(jSet 1 (.node 1 6 [])), jRetry] rfl (by decide) sy 41 41 (opAt9 ho (by kernel_rfl)) (getD9 e2 qf) (getD9 e6 qy) (fun v w' b h => hK v w' b h)
    | 8, _ =>
      have hK : ∀ v w', Below w.heap.size w w' → (K9R15 W 8).at v w' → K (a.put o.dst v) w' := fun v w' b h => hK0 v w' b h
      exact k9_loc 1 2 (opAt9 ho (by kernel_rfl)) (fun v w' b h => hK v w' b h)
    | 9, _ =>
      have hK : ∀ v w', Below w.heap.size w w' → (K9R15 W 9).at v w' → K (a.put o.dst v) w' := fun v w' b h => hK0 v w' b h
      obtain ⟨v8, x8, y8, e8, q8⟩ := hwait 8 (by kernel_rfl)
      exact k9_back 154 6 2 1 (by decide) 40 (opAt9 ho (by kernel_rfl)) (getD9 e8 q8) (fun v w' b h => hK v w' b h)
    | 10, _ =>
      have hK : ∀ v w', Below w.heap.size w w' → (K9R15 W 10).at v w' → K (a.put o.dst v) w' := fun v w' b h => hK0 v w' b h
      obtain ⟨v1, x1, y1, e1, r1, q1, s1⟩ := hwait 1 (by kernel_rfl)
      obtain ⟨v7, x7, y7, e7, r7, q7, s7⟩ := hwait 7 (by kernel_rfl)
      obtain ⟨v9, x9, y9, e9, r9, q9, s9⟩ := hwait 9 (by kernel_rfl)
      exact k9_s3 147 153 155 8 ((jSet 1 (.node 1 4 []))) ((jOr [(jSet 1 (.node 1 6 [])), jRetry] [])) ((jBack (.node 2 1 []))) (opAt9 ho (by kernel_rfl)) (getD9 e1 q1) s1 (getD9 e7 q7) s7 (getD9 e9 q9) s9 (fun v w' b h => hK v w' b h)
    | 11, _ =>
      have hK : ∀ v w', Below w.heap.size w w' → (K9R15 W 11).at v w' → K (a.put o.dst v) w' := fun v w' b h => hK0 v w' b h
      exact k9_of 44 (opAt9 ho (by kernel_rfl)) (fun v w' b h => hK v w' b h)
    | 12, _ =>
      have hK : ∀ v w', Below w.heap.size w w' → (K9R15 W 12).at v w' → K (a.put o.dst v) w' := fun v w' b h => hK0 v w' b h
      obtain ⟨v10, x10, y10, e10, A, c, q, s⟩ := hwait 10 (by kernel_rfl)
      obtain ⟨v11, x11, y11, e11, qf⟩ := hwait 11 (by kernel_rfl)
      exact k9_run 156 157 8 txD rfl s (by decide) (by decide) (hkd.below hlow (Nat.le_refl _)) (by kernel_rfl) runD (by decide) #[41, 3, 44, 52] qf (opAt9 ho (by kernel_rfl)) (getD9 e10 q) (getD9 e11 rfl) (fun v w' b h => hK v w' b h)
    | 13, _ =>
      have hK : ∀ v w', Below w.heap.size w w' → (K9R15 W 13).at v w' → K (a.put o.dst v) w' := fun v w' b h => hK0 v w' b h
      exact k9_alloc W.heap.size hlow.size (opAt9 ho (by kernel_rfl)) (fun v w' b h => hK v w' b h)
  · intro us lo' hi' w hu hlow hS hdj
    match us, hu with
    | [u0, u1, u2, u3, u4, u5, u6, u7, u8, u9, u10, u11, u12, u13], _ =>
      obtain ⟨_, _, _, hi, B, d, VA, vn, vc, hhi, ev, hp⟩ := hS 12 (by decide)
      obtain ⟨_, _, _, gA, eb, hB, hz⟩ := hS 13 (by decide)
      replace ev : u12 = _ := ev
      replace eb : u13 = _ := eb
      clear hS hdj
      have hval : (putAll T0 [146, 147, 148, 149, 150, 151, 152, 153, 154, 155, 156, 157, 158, 15] [u0, u1, u2, u3, u4, u5, u6, u7, u8, u9, u10, u11, u12, u13])[158]?.getD undef = u12 := by
        have hv : (putAll T0 [146, 147, 148, 149, 150, 151, 152, 153, 154, 155, 156, 157, 158, 15] [u0, u1, u2, u3, u4, u5, u6, u7, u8, u9, u10, u11, u12, u13])[158]? = some u12 := putAll_at T0 [146, 147, 148, 149, 150, 151, 152, 153, 154, 155, 156, 157, 158, 15] [u0, u1, u2, u3, u4, u5, u6, u7, u8, u9, u10, u11, u12, u13] 12 (by decide) rfl (by decide) (by show 158 < T0.size; omega)
        rw [hv]
        rfl
      have hbox : (putAll T0 [146, 147, 148, 149, 150, 151, 152, 153, 154, 155, 156, 157, 158, 15] [u0, u1, u2, u3, u4, u5, u6, u7, u8, u9, u10, u11, u12, u13])[15]?.getD undef = u13 := by
        have hv : (putAll T0 [146, 147, 148, 149, 150, 151, 152, 153, 154, 155, 156, 157, 158, 15] [u0, u1, u2, u3, u4, u5, u6, u7, u8, u9, u10, u11, u12, u13])[15]? = some u13 := putAll_at T0 [146, 147, 148, 149, 150, 151, 152, 153, 154, 155, 156, 157, 158, 15] [u0, u1, u2, u3, u4, u5, u6, u7, u8, u9, u10, u11, u12, u13] 13 (by decide) rfl (by decide) (by show 15 < T0.size; omega)
        rw [hv]
        rfl
      obtain ⟨o4, h4⟩ : ∃ o, (ops9 15)[14]? = some o := ⟨_, Array.getElem?_eq_getElem (by omega)⟩
      rw [show ([146, 147, 148, 149, 150, 151, 152, 153, 154, 155, 156, 157, 158, 15] : List Nat).length = 14 from rfl]
      refine wpList9 h4 (guard9 h4 (by kernel_rfl)) ?_
      have hb1 := hbox.trans eb
      have hv1 := hval.trans ev
      clear hval hbox
      refine k9_store 15 158 gA (k := 3) (b := 0) (u := 4) (B := B) (m := 0) (d := d) (l0 := 0) (l1 := 4) (l2 := 0) (l3 := 0) (l4 := 0) (l5 := 0) (l6 := 0) (l7 := 0) (n := 4) (VA := VA) (vn := vn) (vc := vc) (opAt9 h4 (by kernel_rfl)) ?_ ?_ hz ?_
      · dsimp only
        exact hb1
      · dsimp only
        exact hv1
      intro w' k1 k2 k3 k4
      rw [show o4.dst = none from dst9 h4 (by kernel_rfl)]
      dsimp only [Act.put]
      rw [show (ops9 15).toList.drop (14 + 1) = [] from List.drop_eq_nil_of_le (by simp [hos]), wpList]
      have hres := hend u0 u1 u2 u3 u4 u5 u6 u7 u8 u9 u10 u11 u12 gA w' B d VA vn vc (k4 _ hlow hB) hB k1
      rw [← eb] at hres
      exact hres
/-- What stands in each temporary of region 17. -/
def K9R17 (W : World) : Nat → Kn9
  | 0 => .lf 1 99
  | 1 => .st 7 sTurn
  | 2 => .sl 7 [sTurn]
  | 3 => .st 8 (.node 5 0 (.node 1 99 []) xNo [sTurn] [])
  | 4 => .lf 2 3
  | 5 => .st 8 (jBack (.node 2 3 []))
  | 6 => .sl 8 [(.node 5 0 (.node 1 99 []) xNo [sTurn] []), (jBack (.node 2 3 []))]
  | 7 => .off
  | 8 => .en 3 0 8 [] 0 0 0 8 0 0 0 0 9
  | 9 => .bx W.heap.size
  | _ => .lf 0 0
set_option maxRecDepth 100000 in
set_option maxHeartbeats 4000000 in
theorem reg9_17 {id : Nat} {ops : Array Oper} (hops : ops = ops9 17) (T0 : Array Value) (hsz : 322 ≤ T0.size) (W : World) (hkd : Kd W) (g16 : Nat) {r16 : Raw} (h16 : T0[16]?.getD undef = .pointer (some ⟨g16, 0, none⟩)) (hg16 : g16 < W.heap.size) (ht16 : Ten W ⟨g16, 0, none⟩ r16) (hs16 : SA W 5 r16 sTurn) {Q : Exit → Act → World → Prop}
    (hend : ∀ (u0 u1 u2 u3 u4 u5 u6 u7 u8 : Value) (gA : Nat) (w : World) (B : Option Addr) (d : Nat) (VA : Option Addr) (vn vc : Nat), Below W.heap.size W w → W.heap.size ≤ gA → w.heap[gA]? = some (.cells #[.int .u8 3, .int .i64 0, .int .i64 8, .slice B 0 d, .int .i64 0, .int .i64 0, .int .i64 0, .int .i64 8, .int .i64 0, .int .i64 0, .int .i64 0, .int .i64 0, .int .i64 9, .slice VA vn vc, .bool true] 48 (0, 0)) → Q .normal ⟨putAll T0 [163, 164, 165, 166, 167, 168, 169, 170, 171, 17] [u0, u1, u2, u3, u4, u5, u6, u7, u8, .pointer (some ⟨gA, 0, none⟩)], []⟩ w) :
    (Code.region id ops true).wp Tryz.prog Q ⟨T0, []⟩ W := by
  subst hops
  have hos : (ops9 17).size = 11 := by kernel_rfl
  refine wp_region_tail (fun i _ _ v w => (K9R17 W i).at v w) [163, 164, 165, 166, 167, 168, 169, 170, 171, 17] W T0 (by decide) (fun x hx => ?_) (by kernel_rfl) (by kernel_rfl) (fun i x y v w w' _ _ b h => (K9R17 W i).mono b h) ?_ ?_
  · simp at hx
    omega
  · intro i o ho hi4 a w hT hdone hlow K hK0
    have hwait : ∀ j, waits9 (ops9 17) i j = true → ∃ (v : Value) (x y : Nat), a.tmps[([163, 164, 165, 166, 167, 168, 169, 170, 171, 17] : List Nat).getD j 0]? = some v ∧ (K9R17 W j).at v w := fun j hj => waits9_of (P := fun j => ∃ (v : Value) (x y : Nat), a.tmps[([163, 164, 165, 166, 167, 168, 169, 170, 171, 17] : List Nat).getD j 0]? = some v ∧ (K9R17 W j).at v w) ho hdone hj
    clear hdone
    match i, hi4 with
    | 0, _ =>
      have hK : ∀ v w', Below w.heap.size w w' → (K9R17 W 0).at v w' → K (a.put o.dst v) w' := fun v w' b h => hK0 v w' b h
      exact k9_lit 99 2 (opAt9 ho (by kernel_rfl)) (fun v w' b h => hK v w' b h)
    | 1, _ =>
      have hK : ∀ v w', Below w.heap.size w w' → (K9R17 W 1).at v w' → K (a.put o.dst v) w' := fun v w' b h => hK0 v w' b h
      exact k9_load 16 g16 7 sTurn (ht16.below hlow hg16) ((hs16.below hlow).more (by decide)) (opAt9 ho (by kernel_rfl)) (by rw [hT 16 (by decide)]; exact h16) (fun v w' b h => hK v w' b h)
    | 2, _ =>
      have hK : ∀ v w', Below w.heap.size w w' → (K9R17 W 2).at v w' → K (a.put o.dst v) w' := fun v w' b h => hK0 v w' b h
      obtain ⟨v1, x1, y1, e1, r1, q1, s1⟩ := hwait 1 (by kernel_rfl)
      exact k9_s1 164 7 (sTurn) (opAt9 ho (by kernel_rfl)) (getD9 e1 q1) s1 (fun v w' b h => hK v w' b h)
    | 3, _ =>
      have hK : ∀ v w', Below w.heap.size w w' → (K9R17 W 3).at v w' → K (a.put o.dst v) w' := fun v w' b h => hK0 v w' b h
      obtain ⟨v0, x0, y0, e0, qx⟩ := hwait 0 (by kernel_rfl)
      obtain ⟨v2, x2, y2, e2, Ay, cy, qy, sy⟩ := hwait 2 (by kernel_rfl)
      exact k9_kay 163 165 5 5 (by decide) (.node 1 99 []) (at_lf _ 6 1 99 (by decide)) [sTurn] rfl (by decide) sy (opAt9 ho (by kernel_rfl)) (getD9 e0 qx) (getD9 e2 qy) (fun v w' b h => hK v w' b h)
    | 4, _ =>
      have hK : ∀ v w', Below w.heap.size w w' → (K9R17 W 4).at v w' → K (a.put o.dst v) w' := fun v w' b h => hK0 v w' b h
      exact k9_loc 3 2 (opAt9 ho (by kernel_rfl)) (fun v w' b h => hK v w' b h)
    | 5, _ =>
      have hK : ∀ v w', Below w.heap.size w w' → (K9R17 W 5).at v w' → K (a.put o.dst v) w' := fun v w' b h => hK0 v w' b h
      obtain ⟨v4, x4, y4, e4, q4⟩ := hwait 4 (by kernel_rfl)
      exact k9_back 167 6 2 3 (by decide) 40 (opAt9 ho (by kernel_rfl)) (getD9 e4 q4) (fun v w' b h => hK v w' b h)
    | 6, _ =>
      have hK : ∀ v w', Below w.heap.size w w' → (K9R17 W 6).at v w' → K (a.put o.dst v) w' := fun v w' b h => hK0 v w' b h
      obtain ⟨v3, x3, y3, e3, r3, q3, s3⟩ := hwait 3 (by kernel_rfl)
      obtain ⟨v5, x5, y5, e5, r5, q5, s5⟩ := hwait 5 (by kernel_rfl)
      exact k9_s2 166 168 8 ((.node 5 0 (.node 1 99 []) xNo [sTurn] [])) ((jBack (.node 2 3 []))) (opAt9 ho (by kernel_rfl)) (getD9 e3 q3) s3 (getD9 e5 q5) s5 (fun v w' b h => hK v w' b h)
    | 7, _ =>
      have hK : ∀ v w', Below w.heap.size w w' → (K9R17 W 7).at v w' → K (a.put o.dst v) w' := fun v w' b h => hK0 v w' b h
      exact k9_of 44 (opAt9 ho (by kernel_rfl)) (fun v w' b h => hK v w' b h)
    | 8, _ =>
      have hK : ∀ v w', Below w.heap.size w w' → (K9R17 W 8).at v w' → K (a.put o.dst v) w' := fun v w' b h => hK0 v w' b h
      obtain ⟨v6, x6, y6, e6, A, c, q, s⟩ := hwait 6 (by kernel_rfl)
      obtain ⟨v7, x7, y7, e7, qf⟩ := hwait 7 (by kernel_rfl)
      exact k9_run 169 170 8 txI rfl s (by decide) (by decide) (hkd.below hlow (Nat.le_refl _)) (by kernel_rfl) runTI (by decide) #[41, 3, 44, 52] qf (opAt9 ho (by kernel_rfl)) (getD9 e6 q) (getD9 e7 rfl) (fun v w' b h => hK v w' b h)
    | 9, _ =>
      have hK : ∀ v w', Below w.heap.size w w' → (K9R17 W 9).at v w' → K (a.put o.dst v) w' := fun v w' b h => hK0 v w' b h
      exact k9_alloc W.heap.size hlow.size (opAt9 ho (by kernel_rfl)) (fun v w' b h => hK v w' b h)
  · intro us lo' hi' w hu hlow hS hdj
    match us, hu with
    | [u0, u1, u2, u3, u4, u5, u6, u7, u8, u9], _ =>
      obtain ⟨_, _, _, hi, B, d, VA, vn, vc, hhi, ev, hp⟩ := hS 8 (by decide)
      obtain ⟨_, _, _, gA, eb, hB, hz⟩ := hS 9 (by decide)
      replace ev : u8 = _ := ev
      replace eb : u9 = _ := eb
      clear hS hdj
      have hval : (putAll T0 [163, 164, 165, 166, 167, 168, 169, 170, 171, 17] [u0, u1, u2, u3, u4, u5, u6, u7, u8, u9])[171]?.getD undef = u8 := by
        have hv : (putAll T0 [163, 164, 165, 166, 167, 168, 169, 170, 171, 17] [u0, u1, u2, u3, u4, u5, u6, u7, u8, u9])[171]? = some u8 := putAll_at T0 [163, 164, 165, 166, 167, 168, 169, 170, 171, 17] [u0, u1, u2, u3, u4, u5, u6, u7, u8, u9] 8 (by decide) rfl (by decide) (by show 171 < T0.size; omega)
        rw [hv]
        rfl
      have hbox : (putAll T0 [163, 164, 165, 166, 167, 168, 169, 170, 171, 17] [u0, u1, u2, u3, u4, u5, u6, u7, u8, u9])[17]?.getD undef = u9 := by
        have hv : (putAll T0 [163, 164, 165, 166, 167, 168, 169, 170, 171, 17] [u0, u1, u2, u3, u4, u5, u6, u7, u8, u9])[17]? = some u9 := putAll_at T0 [163, 164, 165, 166, 167, 168, 169, 170, 171, 17] [u0, u1, u2, u3, u4, u5, u6, u7, u8, u9] 9 (by decide) rfl (by decide) (by show 17 < T0.size; omega)
        rw [hv]
        rfl
      obtain ⟨o4, h4⟩ : ∃ o, (ops9 17)[10]? = some o := ⟨_, Array.getElem?_eq_getElem (by omega)⟩
      rw [show ([163, 164, 165, 166, 167, 168, 169, 170, 171, 17] : List Nat).length = 10 from rfl]
      refine wpList9 h4 (guard9 h4 (by kernel_rfl)) ?_
      have hb1 := hbox.trans eb
      have hv1 := hval.trans ev
      clear hval hbox
      refine k9_store 17 171 gA (k := 3) (b := 0) (u := 8) (B := B) (m := 0) (d := d) (l0 := 0) (l1 := 0) (l2 := 0) (l3 := 8) (l4 := 0) (l5 := 0) (l6 := 0) (l7 := 0) (n := 9) (VA := VA) (vn := vn) (vc := vc) (opAt9 h4 (by kernel_rfl)) ?_ ?_ hz ?_
      · dsimp only
        exact hb1
      · dsimp only
        exact hv1
      intro w' k1 k2 k3 k4
      rw [show o4.dst = none from dst9 h4 (by kernel_rfl)]
      dsimp only [Act.put]
      rw [show (ops9 17).toList.drop (10 + 1) = [] from List.drop_eq_nil_of_le (by simp [hos]), wpList]
      have hres := hend u0 u1 u2 u3 u4 u5 u6 u7 u8 gA w' B d VA vn vc (k4 _ hlow hB) hB k1
      rw [← eb] at hres
      exact hres
/-- What stands in each temporary of region 18. -/
def K9R18 (W : World) : Nat → Kn9
  | 0 => .lf 1 (-1)
  | 1 => .st 7 sTurn
  | 2 => .sl 7 [sTurn]
  | 3 => .st 8 (.node 5 0 (.node 1 (-1) []) xNo [sTurn] [])
  | 4 => .lf 2 3
  | 5 => .st 8 (jBack (.node 2 3 []))
  | 6 => .sl 8 [(.node 5 0 (.node 1 (-1) []) xNo [sTurn] []), (jBack (.node 2 3 []))]
  | 7 => .off
  | 8 => .en 3 0 0 [] 0 0 0 0 0 0 0 0 1
  | 9 => .bx W.heap.size
  | _ => .lf 0 0
set_option maxRecDepth 100000 in
set_option maxHeartbeats 4000000 in
theorem reg9_18 {id : Nat} {ops : Array Oper} (hops : ops = ops9 18) (T0 : Array Value) (hsz : 322 ≤ T0.size) (W : World) (hkd : Kd W) (g16 : Nat) {r16 : Raw} (h16 : T0[16]?.getD undef = .pointer (some ⟨g16, 0, none⟩)) (hg16 : g16 < W.heap.size) (ht16 : Ten W ⟨g16, 0, none⟩ r16) (hs16 : SA W 5 r16 sTurn) {Q : Exit → Act → World → Prop}
    (hend : ∀ (u0 u1 u2 u3 u4 u5 u6 u7 u8 : Value) (gA : Nat) (w : World) (B : Option Addr) (d : Nat) (VA : Option Addr) (vn vc : Nat), Below W.heap.size W w → W.heap.size ≤ gA → w.heap[gA]? = some (.cells #[.int .u8 3, .int .i64 0, .int .i64 0, .slice B 0 d, .int .i64 0, .int .i64 0, .int .i64 0, .int .i64 0, .int .i64 0, .int .i64 0, .int .i64 0, .int .i64 0, .int .i64 1, .slice VA vn vc, .bool true] 48 (0, 0)) → Q .normal ⟨putAll T0 [172, 173, 174, 175, 176, 177, 178, 179, 180, 18] [u0, u1, u2, u3, u4, u5, u6, u7, u8, .pointer (some ⟨gA, 0, none⟩)], []⟩ w) :
    (Code.region id ops true).wp Tryz.prog Q ⟨T0, []⟩ W := by
  subst hops
  have hos : (ops9 18).size = 11 := by kernel_rfl
  refine wp_region_tail (fun i _ _ v w => (K9R18 W i).at v w) [172, 173, 174, 175, 176, 177, 178, 179, 180, 18] W T0 (by decide) (fun x hx => ?_) (by kernel_rfl) (by kernel_rfl) (fun i x y v w w' _ _ b h => (K9R18 W i).mono b h) ?_ ?_
  · simp at hx
    omega
  · intro i o ho hi4 a w hT hdone hlow K hK0
    have hwait : ∀ j, waits9 (ops9 18) i j = true → ∃ (v : Value) (x y : Nat), a.tmps[([172, 173, 174, 175, 176, 177, 178, 179, 180, 18] : List Nat).getD j 0]? = some v ∧ (K9R18 W j).at v w := fun j hj => waits9_of (P := fun j => ∃ (v : Value) (x y : Nat), a.tmps[([172, 173, 174, 175, 176, 177, 178, 179, 180, 18] : List Nat).getD j 0]? = some v ∧ (K9R18 W j).at v w) ho hdone hj
    clear hdone
    match i, hi4 with
    | 0, _ =>
      have hK : ∀ v w', Below w.heap.size w w' → (K9R18 W 0).at v w' → K (a.put o.dst v) w' := fun v w' b h => hK0 v w' b h
      exact k9_lit (-1) 2 (opAt9 ho (by kernel_rfl)) (fun v w' b h => hK v w' b h)
    | 1, _ =>
      have hK : ∀ v w', Below w.heap.size w w' → (K9R18 W 1).at v w' → K (a.put o.dst v) w' := fun v w' b h => hK0 v w' b h
      exact k9_load 16 g16 7 sTurn (ht16.below hlow hg16) ((hs16.below hlow).more (by decide)) (opAt9 ho (by kernel_rfl)) (by rw [hT 16 (by decide)]; exact h16) (fun v w' b h => hK v w' b h)
    | 2, _ =>
      have hK : ∀ v w', Below w.heap.size w w' → (K9R18 W 2).at v w' → K (a.put o.dst v) w' := fun v w' b h => hK0 v w' b h
      obtain ⟨v1, x1, y1, e1, r1, q1, s1⟩ := hwait 1 (by kernel_rfl)
      exact k9_s1 173 7 (sTurn) (opAt9 ho (by kernel_rfl)) (getD9 e1 q1) s1 (fun v w' b h => hK v w' b h)
    | 3, _ =>
      have hK : ∀ v w', Below w.heap.size w w' → (K9R18 W 3).at v w' → K (a.put o.dst v) w' := fun v w' b h => hK0 v w' b h
      obtain ⟨v0, x0, y0, e0, qx⟩ := hwait 0 (by kernel_rfl)
      obtain ⟨v2, x2, y2, e2, Ay, cy, qy, sy⟩ := hwait 2 (by kernel_rfl)
      exact k9_kay 172 174 5 5 (by decide) (.node 1 (-1) []) (at_lf _ 6 1 (-1) (by decide)) [sTurn] rfl (by decide) sy (opAt9 ho (by kernel_rfl)) (getD9 e0 qx) (getD9 e2 qy) (fun v w' b h => hK v w' b h)
    | 4, _ =>
      have hK : ∀ v w', Below w.heap.size w w' → (K9R18 W 4).at v w' → K (a.put o.dst v) w' := fun v w' b h => hK0 v w' b h
      exact k9_loc 3 2 (opAt9 ho (by kernel_rfl)) (fun v w' b h => hK v w' b h)
    | 5, _ =>
      have hK : ∀ v w', Below w.heap.size w w' → (K9R18 W 5).at v w' → K (a.put o.dst v) w' := fun v w' b h => hK0 v w' b h
      obtain ⟨v4, x4, y4, e4, q4⟩ := hwait 4 (by kernel_rfl)
      exact k9_back 176 6 2 3 (by decide) 40 (opAt9 ho (by kernel_rfl)) (getD9 e4 q4) (fun v w' b h => hK v w' b h)
    | 6, _ =>
      have hK : ∀ v w', Below w.heap.size w w' → (K9R18 W 6).at v w' → K (a.put o.dst v) w' := fun v w' b h => hK0 v w' b h
      obtain ⟨v3, x3, y3, e3, r3, q3, s3⟩ := hwait 3 (by kernel_rfl)
      obtain ⟨v5, x5, y5, e5, r5, q5, s5⟩ := hwait 5 (by kernel_rfl)
      exact k9_s2 175 177 8 ((.node 5 0 (.node 1 (-1) []) xNo [sTurn] [])) ((jBack (.node 2 3 []))) (opAt9 ho (by kernel_rfl)) (getD9 e3 q3) s3 (getD9 e5 q5) s5 (fun v w' b h => hK v w' b h)
    | 7, _ =>
      have hK : ∀ v w', Below w.heap.size w w' → (K9R18 W 7).at v w' → K (a.put o.dst v) w' := fun v w' b h => hK0 v w' b h
      exact k9_of 44 (opAt9 ho (by kernel_rfl)) (fun v w' b h => hK v w' b h)
    | 8, _ =>
      have hK : ∀ v w', Below w.heap.size w w' → (K9R18 W 8).at v w' → K (a.put o.dst v) w' := fun v w' b h => hK0 v w' b h
      obtain ⟨v6, x6, y6, e6, A, c, q, s⟩ := hwait 6 (by kernel_rfl)
      obtain ⟨v7, x7, y7, e7, qf⟩ := hwait 7 (by kernel_rfl)
      exact k9_run 178 179 8 txJ rfl s (by decide) (by decide) (hkd.below hlow (Nat.le_refl _)) (by kernel_rfl) runTJ (by decide) #[41, 3, 44, 52] qf (opAt9 ho (by kernel_rfl)) (getD9 e6 q) (getD9 e7 rfl) (fun v w' b h => hK v w' b h)
    | 9, _ =>
      have hK : ∀ v w', Below w.heap.size w w' → (K9R18 W 9).at v w' → K (a.put o.dst v) w' := fun v w' b h => hK0 v w' b h
      exact k9_alloc W.heap.size hlow.size (opAt9 ho (by kernel_rfl)) (fun v w' b h => hK v w' b h)
  · intro us lo' hi' w hu hlow hS hdj
    match us, hu with
    | [u0, u1, u2, u3, u4, u5, u6, u7, u8, u9], _ =>
      obtain ⟨_, _, _, hi, B, d, VA, vn, vc, hhi, ev, hp⟩ := hS 8 (by decide)
      obtain ⟨_, _, _, gA, eb, hB, hz⟩ := hS 9 (by decide)
      replace ev : u8 = _ := ev
      replace eb : u9 = _ := eb
      clear hS hdj
      have hval : (putAll T0 [172, 173, 174, 175, 176, 177, 178, 179, 180, 18] [u0, u1, u2, u3, u4, u5, u6, u7, u8, u9])[180]?.getD undef = u8 := by
        have hv : (putAll T0 [172, 173, 174, 175, 176, 177, 178, 179, 180, 18] [u0, u1, u2, u3, u4, u5, u6, u7, u8, u9])[180]? = some u8 := putAll_at T0 [172, 173, 174, 175, 176, 177, 178, 179, 180, 18] [u0, u1, u2, u3, u4, u5, u6, u7, u8, u9] 8 (by decide) rfl (by decide) (by show 180 < T0.size; omega)
        rw [hv]
        rfl
      have hbox : (putAll T0 [172, 173, 174, 175, 176, 177, 178, 179, 180, 18] [u0, u1, u2, u3, u4, u5, u6, u7, u8, u9])[18]?.getD undef = u9 := by
        have hv : (putAll T0 [172, 173, 174, 175, 176, 177, 178, 179, 180, 18] [u0, u1, u2, u3, u4, u5, u6, u7, u8, u9])[18]? = some u9 := putAll_at T0 [172, 173, 174, 175, 176, 177, 178, 179, 180, 18] [u0, u1, u2, u3, u4, u5, u6, u7, u8, u9] 9 (by decide) rfl (by decide) (by show 18 < T0.size; omega)
        rw [hv]
        rfl
      obtain ⟨o4, h4⟩ : ∃ o, (ops9 18)[10]? = some o := ⟨_, Array.getElem?_eq_getElem (by omega)⟩
      rw [show ([172, 173, 174, 175, 176, 177, 178, 179, 180, 18] : List Nat).length = 10 from rfl]
      refine wpList9 h4 (guard9 h4 (by kernel_rfl)) ?_
      have hb1 := hbox.trans eb
      have hv1 := hval.trans ev
      clear hval hbox
      refine k9_store 18 180 gA (k := 3) (b := 0) (u := 0) (B := B) (m := 0) (d := d) (l0 := 0) (l1 := 0) (l2 := 0) (l3 := 0) (l4 := 0) (l5 := 0) (l6 := 0) (l7 := 0) (n := 1) (VA := VA) (vn := vn) (vc := vc) (opAt9 h4 (by kernel_rfl)) ?_ ?_ hz ?_
      · dsimp only
        exact hb1
      · dsimp only
        exact hv1
      intro w' k1 k2 k3 k4
      rw [show o4.dst = none from dst9 h4 (by kernel_rfl)]
      dsimp only [Act.put]
      rw [show (ops9 18).toList.drop (10 + 1) = [] from List.drop_eq_nil_of_le (by simp [hos]), wpList]
      have hres := hend u0 u1 u2 u3 u4 u5 u6 u7 u8 gA w' B d VA vn vc (k4 _ hlow hB) hB k1
      rw [← eb] at hres
      exact hres
/-- What stands in each temporary of region 19. -/
def K9R19 (W : World) : Nat → Kn9
  | 0 => .st 8 sTurn
  | 1 => .lf 2 3
  | 2 => .lf 1 1
  | 3 => .ex 7 (.node 4 0 [.node 2 3 [], .node 1 1 []])
  | 4 => .st 7 sTurn
  | 5 => .sl 7 [sTurn]
  | 6 => .st 8 (.node 5 0 (.node 4 0 [.node 2 3 [], .node 1 1 []]) xNo [sTurn] [])
  | 7 => .lf 2 3
  | 8 => .st 8 (jBack (.node 2 3 []))
  | 9 => .sl 8 [sTurn, (.node 5 0 (.node 4 0 [.node 2 3 [], .node 1 1 []]) xNo [sTurn] []), (jBack (.node 2 3 []))]
  | 10 => .off
  | 11 => .en 3 0 3 [] 0 0 0 3 0 0 0 0 4
  | 12 => .bx W.heap.size
  | _ => .lf 0 0
set_option maxRecDepth 100000 in
set_option maxHeartbeats 4000000 in
theorem reg9_19 {id : Nat} {ops : Array Oper} (hops : ops = ops9 19) (T0 : Array Value) (hsz : 322 ≤ T0.size) (W : World) (hkd : Kd W) (g16 : Nat) {r16 : Raw} (h16 : T0[16]?.getD undef = .pointer (some ⟨g16, 0, none⟩)) (hg16 : g16 < W.heap.size) (ht16 : Ten W ⟨g16, 0, none⟩ r16) (hs16 : SA W 5 r16 sTurn) {Q : Exit → Act → World → Prop}
    (hend : ∀ (u0 u1 u2 u3 u4 u5 u6 u7 u8 u9 u10 u11 : Value) (gA : Nat) (w : World) (B : Option Addr) (d : Nat) (VA : Option Addr) (vn vc : Nat), Below W.heap.size W w → W.heap.size ≤ gA → w.heap[gA]? = some (.cells #[.int .u8 3, .int .i64 0, .int .i64 3, .slice B 0 d, .int .i64 0, .int .i64 0, .int .i64 0, .int .i64 3, .int .i64 0, .int .i64 0, .int .i64 0, .int .i64 0, .int .i64 4, .slice VA vn vc, .bool true] 48 (0, 0)) → Q .normal ⟨putAll T0 [181, 182, 183, 184, 185, 186, 187, 188, 189, 190, 191, 192, 19] [u0, u1, u2, u3, u4, u5, u6, u7, u8, u9, u10, u11, .pointer (some ⟨gA, 0, none⟩)], []⟩ w) :
    (Code.region id ops true).wp Tryz.prog Q ⟨T0, []⟩ W := by
  subst hops
  have hos : (ops9 19).size = 14 := by kernel_rfl
  refine wp_region_tail (fun i _ _ v w => (K9R19 W i).at v w) [181, 182, 183, 184, 185, 186, 187, 188, 189, 190, 191, 192, 19] W T0 (by decide) (fun x hx => ?_) (by kernel_rfl) (by kernel_rfl) (fun i x y v w w' _ _ b h => (K9R19 W i).mono b h) ?_ ?_
  · simp at hx
    omega
  · intro i o ho hi4 a w hT hdone hlow K hK0
    have hwait : ∀ j, waits9 (ops9 19) i j = true → ∃ (v : Value) (x y : Nat), a.tmps[([181, 182, 183, 184, 185, 186, 187, 188, 189, 190, 191, 192, 19] : List Nat).getD j 0]? = some v ∧ (K9R19 W j).at v w := fun j hj => waits9_of (P := fun j => ∃ (v : Value) (x y : Nat), a.tmps[([181, 182, 183, 184, 185, 186, 187, 188, 189, 190, 191, 192, 19] : List Nat).getD j 0]? = some v ∧ (K9R19 W j).at v w) ho hdone hj
    clear hdone
    match i, hi4 with
    | 0, _ =>
      have hK : ∀ v w', Below w.heap.size w w' → (K9R19 W 0).at v w' → K (a.put o.dst v) w' := fun v w' b h => hK0 v w' b h
      exact k9_load 16 g16 8 sTurn (ht16.below hlow hg16) ((hs16.below hlow).more (by decide)) (opAt9 ho (by kernel_rfl)) (by rw [hT 16 (by decide)]; exact h16) (fun v w' b h => hK v w' b h)
    | 1, _ =>
      have hK : ∀ v w', Below w.heap.size w w' → (K9R19 W 1).at v w' → K (a.put o.dst v) w' := fun v w' b h => hK0 v w' b h
      exact k9_loc 3 2 (opAt9 ho (by kernel_rfl)) (fun v w' b h => hK v w' b h)
    | 2, _ =>
      have hK : ∀ v w', Below w.heap.size w w' → (K9R19 W 2).at v w' → K (a.put o.dst v) w' := fun v w' b h => hK0 v w' b h
      exact k9_lit 1 2 (opAt9 ho (by kernel_rfl)) (fun v w' b h => hK v w' b h)
    | 3, _ =>
      have hK : ∀ v w', Below w.heap.size w w' → (K9R19 W 3).at v w' → K (a.put o.dst v) w' := fun v w' b h => hK0 v w' b h
      obtain ⟨v1, x1, y1, e1, q1⟩ := hwait 1 (by kernel_rfl)
      obtain ⟨v2, x2, y2, e2, q2⟩ := hwait 2 (by kernel_rfl)
      exact k9_plus 182 183 5 2 1 3 1 (by decide) (by decide) 40 40 (opAt9 ho (by kernel_rfl)) (getD9 e1 q1) (getD9 e2 q2) (fun v w' b h => hK v w' b h)
    | 4, _ =>
      have hK : ∀ v w', Below w.heap.size w w' → (K9R19 W 4).at v w' → K (a.put o.dst v) w' := fun v w' b h => hK0 v w' b h
      exact k9_load 16 g16 7 sTurn (ht16.below hlow hg16) ((hs16.below hlow).more (by decide)) (opAt9 ho (by kernel_rfl)) (by rw [hT 16 (by decide)]; exact h16) (fun v w' b h => hK v w' b h)
    | 5, _ =>
      have hK : ∀ v w', Below w.heap.size w w' → (K9R19 W 5).at v w' → K (a.put o.dst v) w' := fun v w' b h => hK0 v w' b h
      obtain ⟨v4, x4, y4, e4, r4, q4, s4⟩ := hwait 4 (by kernel_rfl)
      exact k9_s1 185 7 (sTurn) (opAt9 ho (by kernel_rfl)) (getD9 e4 q4) s4 (fun v w' b h => hK v w' b h)
    | 6, _ =>
      have hK : ∀ v w', Below w.heap.size w w' → (K9R19 W 6).at v w' → K (a.put o.dst v) w' := fun v w' b h => hK0 v w' b h
      obtain ⟨v3, x3, y3, e3, o, n, A, l, c, qx, hax⟩ := hwait 3 (by kernel_rfl)
      obtain ⟨t1, t2, t3, t4, A', c', hv, t5⟩ := hax
      have hay : At w 0 w.heap.size 7 (.agg #[.int .u8 ((4 : Nat) : Int), .int .i64 0, .slice A' [Ex.node 2 3 [], Ex.node 1 1 []].length c']) (.node 4 0 [.node 2 3 [], .node 1 1 []]) := ⟨t1, t2, t3, t4, A', c', rfl, t5⟩
      obtain ⟨v5, x5, y5, e5, Ay, cy, qy, sy⟩ := hwait 5 (by kernel_rfl)
      exact k9_kay 184 186 5 5 (by decide) (.node 4 0 [.node 2 3 [], .node 1 1 []]) hay [sTurn] rfl (by decide) sy (opAt9 ho (by kernel_rfl)) (getD9 e3 hv) (getD9 e5 qy) (fun v w' b h => hK v w' b h)
    | 7, _ =>
      have hK : ∀ v w', Below w.heap.size w w' → (K9R19 W 7).at v w' → K (a.put o.dst v) w' := fun v w' b h => hK0 v w' b h
      exact k9_loc 3 2 (opAt9 ho (by kernel_rfl)) (fun v w' b h => hK v w' b h)
    | 8, _ =>
      have hK : ∀ v w', Below w.heap.size w w' → (K9R19 W 8).at v w' → K (a.put o.dst v) w' := fun v w' b h => hK0 v w' b h
      obtain ⟨v7, x7, y7, e7, q7⟩ := hwait 7 (by kernel_rfl)
      exact k9_back 188 6 2 3 (by decide) 40 (opAt9 ho (by kernel_rfl)) (getD9 e7 q7) (fun v w' b h => hK v w' b h)
    | 9, _ =>
      have hK : ∀ v w', Below w.heap.size w w' → (K9R19 W 9).at v w' → K (a.put o.dst v) w' := fun v w' b h => hK0 v w' b h
      obtain ⟨v0, x0, y0, e0, r0, q0, s0⟩ := hwait 0 (by kernel_rfl)
      obtain ⟨v6, x6, y6, e6, r6, q6, s6⟩ := hwait 6 (by kernel_rfl)
      obtain ⟨v8, x8, y8, e8, r8, q8, s8⟩ := hwait 8 (by kernel_rfl)
      exact k9_s3 181 187 189 8 (sTurn) ((.node 5 0 (.node 4 0 [.node 2 3 [], .node 1 1 []]) xNo [sTurn] [])) ((jBack (.node 2 3 []))) (opAt9 ho (by kernel_rfl)) (getD9 e0 q0) s0 (getD9 e6 q6) s6 (getD9 e8 q8) s8 (fun v w' b h => hK v w' b h)
    | 10, _ =>
      have hK : ∀ v w', Below w.heap.size w w' → (K9R19 W 10).at v w' → K (a.put o.dst v) w' := fun v w' b h => hK0 v w' b h
      exact k9_of 44 (opAt9 ho (by kernel_rfl)) (fun v w' b h => hK v w' b h)
    | 11, _ =>
      have hK : ∀ v w', Below w.heap.size w w' → (K9R19 W 11).at v w' → K (a.put o.dst v) w' := fun v w' b h => hK0 v w' b h
      obtain ⟨v9, x9, y9, e9, A, c, q, s⟩ := hwait 9 (by kernel_rfl)
      obtain ⟨v10, x10, y10, e10, qf⟩ := hwait 10 (by kernel_rfl)
      exact k9_run 190 191 8 txK rfl s (by decide) (by decide) (hkd.below hlow (Nat.le_refl _)) (by kernel_rfl) runTK (by decide) #[41, 3, 44, 52] qf (opAt9 ho (by kernel_rfl)) (getD9 e9 q) (getD9 e10 rfl) (fun v w' b h => hK v w' b h)
    | 12, _ =>
      have hK : ∀ v w', Below w.heap.size w w' → (K9R19 W 12).at v w' → K (a.put o.dst v) w' := fun v w' b h => hK0 v w' b h
      exact k9_alloc W.heap.size hlow.size (opAt9 ho (by kernel_rfl)) (fun v w' b h => hK v w' b h)
  · intro us lo' hi' w hu hlow hS hdj
    match us, hu with
    | [u0, u1, u2, u3, u4, u5, u6, u7, u8, u9, u10, u11, u12], _ =>
      obtain ⟨_, _, _, hi, B, d, VA, vn, vc, hhi, ev, hp⟩ := hS 11 (by decide)
      obtain ⟨_, _, _, gA, eb, hB, hz⟩ := hS 12 (by decide)
      replace ev : u11 = _ := ev
      replace eb : u12 = _ := eb
      clear hS hdj
      have hval : (putAll T0 [181, 182, 183, 184, 185, 186, 187, 188, 189, 190, 191, 192, 19] [u0, u1, u2, u3, u4, u5, u6, u7, u8, u9, u10, u11, u12])[192]?.getD undef = u11 := by
        have hv : (putAll T0 [181, 182, 183, 184, 185, 186, 187, 188, 189, 190, 191, 192, 19] [u0, u1, u2, u3, u4, u5, u6, u7, u8, u9, u10, u11, u12])[192]? = some u11 := putAll_at T0 [181, 182, 183, 184, 185, 186, 187, 188, 189, 190, 191, 192, 19] [u0, u1, u2, u3, u4, u5, u6, u7, u8, u9, u10, u11, u12] 11 (by decide) rfl (by decide) (by show 192 < T0.size; omega)
        rw [hv]
        rfl
      have hbox : (putAll T0 [181, 182, 183, 184, 185, 186, 187, 188, 189, 190, 191, 192, 19] [u0, u1, u2, u3, u4, u5, u6, u7, u8, u9, u10, u11, u12])[19]?.getD undef = u12 := by
        have hv : (putAll T0 [181, 182, 183, 184, 185, 186, 187, 188, 189, 190, 191, 192, 19] [u0, u1, u2, u3, u4, u5, u6, u7, u8, u9, u10, u11, u12])[19]? = some u12 := putAll_at T0 [181, 182, 183, 184, 185, 186, 187, 188, 189, 190, 191, 192, 19] [u0, u1, u2, u3, u4, u5, u6, u7, u8, u9, u10, u11, u12] 12 (by decide) rfl (by decide) (by show 19 < T0.size; omega)
        rw [hv]
        rfl
      obtain ⟨o4, h4⟩ : ∃ o, (ops9 19)[13]? = some o := ⟨_, Array.getElem?_eq_getElem (by omega)⟩
      rw [show ([181, 182, 183, 184, 185, 186, 187, 188, 189, 190, 191, 192, 19] : List Nat).length = 13 from rfl]
      refine wpList9 h4 (guard9 h4 (by kernel_rfl)) ?_
      have hb1 := hbox.trans eb
      have hv1 := hval.trans ev
      clear hval hbox
      refine k9_store 19 192 gA (k := 3) (b := 0) (u := 3) (B := B) (m := 0) (d := d) (l0 := 0) (l1 := 0) (l2 := 0) (l3 := 3) (l4 := 0) (l5 := 0) (l6 := 0) (l7 := 0) (n := 4) (VA := VA) (vn := vn) (vc := vc) (opAt9 h4 (by kernel_rfl)) ?_ ?_ hz ?_
      · dsimp only
        exact hb1
      · dsimp only
        exact hv1
      intro w' k1 k2 k3 k4
      rw [show o4.dst = none from dst9 h4 (by kernel_rfl)]
      dsimp only [Act.put]
      rw [show (ops9 19).toList.drop (13 + 1) = [] from List.drop_eq_nil_of_le (by simp [hos]), wpList]
      have hres := hend u0 u1 u2 u3 u4 u5 u6 u7 u8 u9 u10 u11 gA w' B d VA vn vc (k4 _ hlow hB) hB k1
      rw [← eb] at hres
      exact hres
/-- What stands in each temporary of region 20. -/
def K9R20 (W : World) : Nat → Kn9
  | 0 => .lf 1 3
  | 1 => .st 8 (.node 5 0 (.node 1 3 []) xNo [] [])
  | 2 => .lf 1 0
  | 3 => .st 7 jRetry
  | 4 => .sl 7 [jRetry]
  | 5 => .st 7 sTurn
  | 6 => .sl 7 [sTurn]
  | 7 => .st 8 (.node 4 0 (.node 1 0 []) xNo [jRetry] [sTurn])
  | 8 => .lf 1 7
  | 9 => .st 8 (.node 4 0 (.node 1 7 []) xNo [] [])
  | 10 => .sl 8 [(.node 5 0 (.node 1 3 []) xNo [] []), (.node 4 0 (.node 1 0 []) xNo [jRetry] [sTurn]), (.node 4 0 (.node 1 7 []) xNo [] [])]
  | 11 => .off
  | 12 => .en 3 0 0 [] 0 0 0 1 0 0 0 0 4
  | 13 => .bx W.heap.size
  | _ => .lf 0 0
set_option maxRecDepth 100000 in
set_option maxHeartbeats 4000000 in
theorem reg9_20 {id : Nat} {ops : Array Oper} (hops : ops = ops9 20) (T0 : Array Value) (hsz : 322 ≤ T0.size) (W : World) (hkd : Kd W) (g10 : Nat) {r10 : Raw} (h10 : T0[10]?.getD undef = .pointer (some ⟨g10, 0, none⟩)) (hg10 : g10 < W.heap.size) (ht10 : Ten W ⟨g10, 0, none⟩ r10) (hs10 : SA W 2 r10 jRetry) (g16 : Nat) {r16 : Raw} (h16 : T0[16]?.getD undef = .pointer (some ⟨g16, 0, none⟩)) (hg16 : g16 < W.heap.size) (ht16 : Ten W ⟨g16, 0, none⟩ r16) (hs16 : SA W 5 r16 sTurn) {Q : Exit → Act → World → Prop}
    (hend : ∀ (u0 u1 u2 u3 u4 u5 u6 u7 u8 u9 u10 u11 u12 : Value) (gA : Nat) (w : World) (B : Option Addr) (d : Nat) (VA : Option Addr) (vn vc : Nat), Below W.heap.size W w → W.heap.size ≤ gA → w.heap[gA]? = some (.cells #[.int .u8 3, .int .i64 0, .int .i64 0, .slice B 0 d, .int .i64 0, .int .i64 0, .int .i64 0, .int .i64 1, .int .i64 0, .int .i64 0, .int .i64 0, .int .i64 0, .int .i64 4, .slice VA vn vc, .bool true] 48 (0, 0)) → Q .normal ⟨putAll T0 [193, 194, 195, 196, 197, 198, 199, 200, 201, 202, 203, 204, 205, 20] [u0, u1, u2, u3, u4, u5, u6, u7, u8, u9, u10, u11, u12, .pointer (some ⟨gA, 0, none⟩)], []⟩ w) :
    (Code.region id ops true).wp Tryz.prog Q ⟨T0, []⟩ W := by
  subst hops
  have hos : (ops9 20).size = 15 := by kernel_rfl
  refine wp_region_tail (fun i _ _ v w => (K9R20 W i).at v w) [193, 194, 195, 196, 197, 198, 199, 200, 201, 202, 203, 204, 205, 20] W T0 (by decide) (fun x hx => ?_) (by kernel_rfl) (by kernel_rfl) (fun i x y v w w' _ _ b h => (K9R20 W i).mono b h) ?_ ?_
  · simp at hx
    omega
  · intro i o ho hi4 a w hT hdone hlow K hK0
    have hwait : ∀ j, waits9 (ops9 20) i j = true → ∃ (v : Value) (x y : Nat), a.tmps[([193, 194, 195, 196, 197, 198, 199, 200, 201, 202, 203, 204, 205, 20] : List Nat).getD j 0]? = some v ∧ (K9R20 W j).at v w := fun j hj => waits9_of (P := fun j => ∃ (v : Value) (x y : Nat), a.tmps[([193, 194, 195, 196, 197, 198, 199, 200, 201, 202, 203, 204, 205, 20] : List Nat).getD j 0]? = some v ∧ (K9R20 W j).at v w) ho hdone hj
    clear hdone
    match i, hi4 with
    | 0, _ =>
      have hK : ∀ v w', Below w.heap.size w w' → (K9R20 W 0).at v w' → K (a.put o.dst v) w' := fun v w' b h => hK0 v w' b h
      exact k9_lit 3 2 (opAt9 ho (by kernel_rfl)) (fun v w' b h => hK v w' b h)
    | 1, _ =>
      have hK : ∀ v w', Below w.heap.size w w' → (K9R20 W 1).at v w' → K (a.put o.dst v) w' := fun v w' b h => hK0 v w' b h
      obtain ⟨v0, x0, y0, e0, qx⟩ := hwait 0 (by kernel_rfl)
      exact k9_ka 193 5 5 (by decide) (.node 1 3 []) (at_lf _ 6 1 3 (by decide)) (opAt9 ho (by kernel_rfl)) (getD9 e0 qx) (fun v w' b h => hK v w' b h)
    | 2, _ =>
      have hK : ∀ v w', Below w.heap.size w w' → (K9R20 W 2).at v w' → K (a.put o.dst v) w' := fun v w' b h => hK0 v w' b h
      exact k9_lit 0 2 (opAt9 ho (by kernel_rfl)) (fun v w' b h => hK v w' b h)
    | 3, _ =>
      have hK : ∀ v w', Below w.heap.size w w' → (K9R20 W 3).at v w' → K (a.put o.dst v) w' := fun v w' b h => hK0 v w' b h
      exact k9_load 10 g10 7 jRetry (ht10.below hlow hg10) ((hs10.below hlow).more (by decide)) (opAt9 ho (by kernel_rfl)) (by rw [hT 10 (by decide)]; exact h10) (fun v w' b h => hK v w' b h)
    | 4, _ =>
      have hK : ∀ v w', Below w.heap.size w w' → (K9R20 W 4).at v w' → K (a.put o.dst v) w' := fun v w' b h => hK0 v w' b h
      obtain ⟨v3, x3, y3, e3, r3, q3, s3⟩ := hwait 3 (by kernel_rfl)
      exact k9_s1 196 7 (jRetry) (opAt9 ho (by kernel_rfl)) (getD9 e3 q3) s3 (fun v w' b h => hK v w' b h)
    | 5, _ =>
      have hK : ∀ v w', Below w.heap.size w w' → (K9R20 W 5).at v w' → K (a.put o.dst v) w' := fun v w' b h => hK0 v w' b h
      exact k9_load 16 g16 7 sTurn (ht16.below hlow hg16) ((hs16.below hlow).more (by decide)) (opAt9 ho (by kernel_rfl)) (by rw [hT 16 (by decide)]; exact h16) (fun v w' b h => hK v w' b h)
    | 6, _ =>
      have hK : ∀ v w', Below w.heap.size w w' → (K9R20 W 6).at v w' → K (a.put o.dst v) w' := fun v w' b h => hK0 v w' b h
      obtain ⟨v5, x5, y5, e5, r5, q5, s5⟩ := hwait 5 (by kernel_rfl)
      exact k9_s1 198 7 (sTurn) (opAt9 ho (by kernel_rfl)) (getD9 e5 q5) s5 (fun v w' b h => hK v w' b h)
    | 7, _ =>
      have hK : ∀ v w', Below w.heap.size w w' → (K9R20 W 7).at v w' → K (a.put o.dst v) w' := fun v w' b h => hK0 v w' b h
      obtain ⟨v2, x2, y2, e2, qx⟩ := hwait 2 (by kernel_rfl)
      obtain ⟨v4, x4, y4, e4, Ay, cy, qy, sy⟩ := hwait 4 (by kernel_rfl)
      obtain ⟨v6, x6, y6, e6, Ae, ce, qe, se⟩ := hwait 6 (by kernel_rfl)
      exact k9_kaye 195 197 199 5 4 (by decide) (.node 1 0 []) (at_lf _ 6 1 0 (by decide)) [jRetry] [sTurn] rfl rfl (by decide) (by decide) sy se (opAt9 ho (by kernel_rfl)) (getD9 e2 qx) (getD9 e4 qy) (getD9 e6 qe) (fun v w' b h => hK v w' b h)
    | 8, _ =>
      have hK : ∀ v w', Below w.heap.size w w' → (K9R20 W 8).at v w' → K (a.put o.dst v) w' := fun v w' b h => hK0 v w' b h
      exact k9_lit 7 2 (opAt9 ho (by kernel_rfl)) (fun v w' b h => hK v w' b h)
    | 9, _ =>
      have hK : ∀ v w', Below w.heap.size w w' → (K9R20 W 9).at v w' → K (a.put o.dst v) w' := fun v w' b h => hK0 v w' b h
      obtain ⟨v8, x8, y8, e8, qx⟩ := hwait 8 (by kernel_rfl)
      exact k9_ka 201 5 4 (by decide) (.node 1 7 []) (at_lf _ 6 1 7 (by decide)) (opAt9 ho (by kernel_rfl)) (getD9 e8 qx) (fun v w' b h => hK v w' b h)
    | 10, _ =>
      have hK : ∀ v w', Below w.heap.size w w' → (K9R20 W 10).at v w' → K (a.put o.dst v) w' := fun v w' b h => hK0 v w' b h
      obtain ⟨v1, x1, y1, e1, r1, q1, s1⟩ := hwait 1 (by kernel_rfl)
      obtain ⟨v7, x7, y7, e7, r7, q7, s7⟩ := hwait 7 (by kernel_rfl)
      obtain ⟨v9, x9, y9, e9, r9, q9, s9⟩ := hwait 9 (by kernel_rfl)
      exact k9_s3 194 200 202 8 ((.node 5 0 (.node 1 3 []) xNo [] [])) ((.node 4 0 (.node 1 0 []) xNo [jRetry] [sTurn])) ((.node 4 0 (.node 1 7 []) xNo [] [])) (opAt9 ho (by kernel_rfl)) (getD9 e1 q1) s1 (getD9 e7 q7) s7 (getD9 e9 q9) s9 (fun v w' b h => hK v w' b h)
    | 11, _ =>
      have hK : ∀ v w', Below w.heap.size w w' → (K9R20 W 11).at v w' → K (a.put o.dst v) w' := fun v w' b h => hK0 v w' b h
      exact k9_of 44 (opAt9 ho (by kernel_rfl)) (fun v w' b h => hK v w' b h)
    | 12, _ =>
      have hK : ∀ v w', Below w.heap.size w w' → (K9R20 W 12).at v w' → K (a.put o.dst v) w' := fun v w' b h => hK0 v w' b h
      obtain ⟨v10, x10, y10, e10, A, c, q, s⟩ := hwait 10 (by kernel_rfl)
      obtain ⟨v11, x11, y11, e11, qf⟩ := hwait 11 (by kernel_rfl)
      exact k9_run 203 204 8 txL rfl s (by decide) (by decide) (hkd.below hlow (Nat.le_refl _)) (by kernel_rfl) runTL (by decide) #[41, 3, 44, 52] qf (opAt9 ho (by kernel_rfl)) (getD9 e10 q) (getD9 e11 rfl) (fun v w' b h => hK v w' b h)
    | 13, _ =>
      have hK : ∀ v w', Below w.heap.size w w' → (K9R20 W 13).at v w' → K (a.put o.dst v) w' := fun v w' b h => hK0 v w' b h
      exact k9_alloc W.heap.size hlow.size (opAt9 ho (by kernel_rfl)) (fun v w' b h => hK v w' b h)
  · intro us lo' hi' w hu hlow hS hdj
    match us, hu with
    | [u0, u1, u2, u3, u4, u5, u6, u7, u8, u9, u10, u11, u12, u13], _ =>
      obtain ⟨_, _, _, hi, B, d, VA, vn, vc, hhi, ev, hp⟩ := hS 12 (by decide)
      obtain ⟨_, _, _, gA, eb, hB, hz⟩ := hS 13 (by decide)
      replace ev : u12 = _ := ev
      replace eb : u13 = _ := eb
      clear hS hdj
      have hval : (putAll T0 [193, 194, 195, 196, 197, 198, 199, 200, 201, 202, 203, 204, 205, 20] [u0, u1, u2, u3, u4, u5, u6, u7, u8, u9, u10, u11, u12, u13])[205]?.getD undef = u12 := by
        have hv : (putAll T0 [193, 194, 195, 196, 197, 198, 199, 200, 201, 202, 203, 204, 205, 20] [u0, u1, u2, u3, u4, u5, u6, u7, u8, u9, u10, u11, u12, u13])[205]? = some u12 := putAll_at T0 [193, 194, 195, 196, 197, 198, 199, 200, 201, 202, 203, 204, 205, 20] [u0, u1, u2, u3, u4, u5, u6, u7, u8, u9, u10, u11, u12, u13] 12 (by decide) rfl (by decide) (by show 205 < T0.size; omega)
        rw [hv]
        rfl
      have hbox : (putAll T0 [193, 194, 195, 196, 197, 198, 199, 200, 201, 202, 203, 204, 205, 20] [u0, u1, u2, u3, u4, u5, u6, u7, u8, u9, u10, u11, u12, u13])[20]?.getD undef = u13 := by
        have hv : (putAll T0 [193, 194, 195, 196, 197, 198, 199, 200, 201, 202, 203, 204, 205, 20] [u0, u1, u2, u3, u4, u5, u6, u7, u8, u9, u10, u11, u12, u13])[20]? = some u13 := putAll_at T0 [193, 194, 195, 196, 197, 198, 199, 200, 201, 202, 203, 204, 205, 20] [u0, u1, u2, u3, u4, u5, u6, u7, u8, u9, u10, u11, u12, u13] 13 (by decide) rfl (by decide) (by show 20 < T0.size; omega)
        rw [hv]
        rfl
      obtain ⟨o4, h4⟩ : ∃ o, (ops9 20)[14]? = some o := ⟨_, Array.getElem?_eq_getElem (by omega)⟩
      rw [show ([193, 194, 195, 196, 197, 198, 199, 200, 201, 202, 203, 204, 205, 20] : List Nat).length = 14 from rfl]
      refine wpList9 h4 (guard9 h4 (by kernel_rfl)) ?_
      have hb1 := hbox.trans eb
      have hv1 := hval.trans ev
      clear hval hbox
      refine k9_store 20 205 gA (k := 3) (b := 0) (u := 0) (B := B) (m := 0) (d := d) (l0 := 0) (l1 := 0) (l2 := 0) (l3 := 1) (l4 := 0) (l5 := 0) (l6 := 0) (l7 := 0) (n := 4) (VA := VA) (vn := vn) (vc := vc) (opAt9 h4 (by kernel_rfl)) ?_ ?_ hz ?_
      · dsimp only
        exact hb1
      · dsimp only
        exact hv1
      intro w' k1 k2 k3 k4
      rw [show o4.dst = none from dst9 h4 (by kernel_rfl)]
      dsimp only [Act.put]
      rw [show (ops9 20).toList.drop (14 + 1) = [] from List.drop_eq_nil_of_le (by simp [hos]), wpList]
      have hres := hend u0 u1 u2 u3 u4 u5 u6 u7 u8 u9 u10 u11 u12 gA w' B d VA vn vc (k4 _ hlow hB) hB k1
      rw [← eb] at hres
      exact hres
end Go.Proofs.YthdcdffdpdoeoaaGreatDoor
