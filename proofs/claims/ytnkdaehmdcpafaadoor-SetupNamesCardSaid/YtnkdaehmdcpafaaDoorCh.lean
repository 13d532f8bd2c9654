/-
  CONTRACT OF PACKAGE code's shaped: whether a statement of the transaction n is shaped; the memory that was there stays as it was. Conditions: the table of what each Kind asks lies as its initialiser lays it; as they stand.
-/
import Derived.Test.YtnkdaehmdcpafaaDoorCc
import Derived.Laws.StructEq
import Derived.Deep.RegionHeld3
import Derived.Deep.DeepCutAuto
import Derived.Deep.CutBlock
namespace Go.Proofs.YtnkdaehmdcpafaaDoor
open Go.RowKit
set_option linter.unusedVariables false
/-- The table of what each Kind asks, as it lies. -/
def Kd (w : World) : Prop := ∀ k, k < 9 → w.cell? ⟨0, k * 5, none⟩ = some (.bool (ask k).to) ∧ w.cell? ⟨0, k * 5 + 1, none⟩ = some (.bool (ask k).a) ∧ w.cell? ⟨0, k * 5 + 2, none⟩ = some (.bool (ask k).b) ∧ w.cell? ⟨0, k * 5 + 3, none⟩ = some (.bool (ask k).body) ∧ w.cell? ⟨0, k * 5 + 4, none⟩ = some (.bool (ask k).els)
theorem there_block {w : World} {p : Addr} {v : Value} (h : w.cell? p = some v) : p.block < w.heap.size := by
  unfold World.cell? at h
  rcases Nat.lt_or_ge p.block w.heap.size with hh | hh
  · exact hh
  · rw [Array.getElem?_eq_none hh] at h; simp at h
theorem Kd.pos {w : World} (h : Kd w) : 0 < w.heap.size := there_block (h 0 (by omega)).1
theorem Kd.below {w w' : World} {B : Nat} (h : Kd w) (hb : Below B w w') (hB : w.heap.size ≤ B) : Kd w' := fun k hk => by
  have hp := h.pos
  obtain ⟨a, b, c, d, e⟩ := h k hk
  exact ⟨(hb.cell (p := ⟨_, _, none⟩) (by show 0 < B; omega)).trans a, (hb.cell (p := ⟨_, _, none⟩) (by show 0 < B; omega)).trans b, (hb.cell (p := ⟨_, _, none⟩) (by show 0 < B; omega)).trans c, (hb.cell (p := ⟨_, _, none⟩) (by show 0 < B; omega)).trans d, (hb.cell (p := ⟨_, _, none⟩) (by show 0 < B; omega)).trans e⟩
set_option maxRecDepth 100000 in
theorem eql_asks (x1 x2 x3 x4 x5 y1 y2 y3 y4 y5 : Bool) (w : World) : (Go.binOp .eql 87 (.agg #[.bool x1, .bool x2, .bool x3, .bool x4, .bool x5]) (.agg #[.bool y1, .bool y2, .bool y3, .bool y4, .bool y5])).run Tryd.prog w = .ok (.bool (x1 == y1 && (x2 == y2 && (x3 == y3 && (x4 == y4 && x5 == y5))))) w := by
  have hu := Tryd.underlying87
  have hb := Tryd.underlying4
  rw [run_eql_struct, show (10000 : Nat) = 9999 + 1 from rfl, run_equalIn_agg w 9999 87 _ _ (by kernel_rfl) (by kernel_rfl)]
  simp only [Program.fieldsOf, hu]
  rw [show (9999 : Nat) = 9998 + 1 from rfl]
  have hsz := Tryd.sizeOf4
  have hia := Tryd.isAgg4
  simp [Op.eqFields, go_sem]
  by_cases h1 : x1 = y1 <;> by_cases h2 : x2 = y2 <;> by_cases h3 : x3 = y3 <;> by_cases h4 : x4 = y4 <;> by_cases h5 : x5 = y5 <;> simp [*]
/-- A box of what a Kind asks. -/
structure Five (w : World) (g : Nat) (x0 x1 x2 x3 x4 : Bool) : Prop where
  c0 : w.cell? ⟨g, 0, none⟩ = some (.bool x0)
  c1 : w.cell? ⟨g, 1, none⟩ = some (.bool x1)
  c2 : w.cell? ⟨g, 2, none⟩ = some (.bool x2)
  c3 : w.cell? ⟨g, 3, none⟩ = some (.bool x3)
  c4 : w.cell? ⟨g, 4, none⟩ = some (.bool x4)
theorem Five.below {w w' : World} {B g : Nat} {x0 x1 x2 x3 x4 : Bool} (h : Five w g x0 x1 x2 x3 x4) (hb : Below B w w') (hg : g < B) : Five w' g x0 x1 x2 x3 x4 :=
  ⟨(hb.cell (p := ⟨g, _, none⟩) hg).trans h.c0, (hb.cell (p := ⟨g, _, none⟩) hg).trans h.c1, (hb.cell (p := ⟨g, _, none⟩) hg).trans h.c2, (hb.cell (p := ⟨g, _, none⟩) hg).trans h.c3, (hb.cell (p := ⟨g, _, none⟩) hg).trans h.c4⟩
theorem Five.new (w : World) (x0 x1 x2 x3 x4 : Bool) : Five (w.alloc (.cells #[.bool x0, .bool x1, .bool x2, .bool x3, .bool x4] 87)) w.heap.size x0 x1 x2 x3 x4 :=
  ⟨World.cell?_alloc_mark w _ _ (0, 0) 0, World.cell?_alloc_mark w _ _ (0, 0) 1, World.cell?_alloc_mark w _ _ (0, 0) 2, World.cell?_alloc_mark w _ _ (0, 0) 3, World.cell?_alloc_mark w _ _ (0, 0) 4⟩
theorem ten_five {W w' : World} {g h : Nat} {r : Raw} {x0 x1 x2 x3 x4 : Bool} (t : Ten w' ⟨g, 0, none⟩ r) (q : Five w' h x0 x1 x2 x3 x4) (b : Below W.heap.size W w') :
    w'.cell? ⟨g, 1, none⟩ = some (.int .i64 r.t) ∧ w'.cell? ⟨g, 2, none⟩ = some (.int .u8 r.ao) ∧ w'.cell? ⟨g, 3, none⟩ = some (.int .i64 r.an) ∧ w'.cell? ⟨g, 4, none⟩ = some (.slice r.aA r.al r.ac) ∧ w'.cell? ⟨g, 5, none⟩ = some (.int .u8 r.bo) ∧ w'.cell? ⟨g, 6, none⟩ = some (.int .i64 r.bn) ∧ w'.cell? ⟨g, 7, none⟩ = some (.slice r.bA r.bl r.bc) ∧ w'.cell? ⟨g, 8, none⟩ = some (.slice r.yA r.yl r.yc) ∧ w'.cell? ⟨g, 9, none⟩ = some (.slice r.eA r.el r.ec) ∧
      w'.cell? ⟨h, 0, none⟩ = some (.bool x0) ∧ w'.cell? ⟨h, 1, none⟩ = some (.bool x1) ∧ w'.cell? ⟨h, 2, none⟩ = some (.bool x2) ∧ w'.cell? ⟨h, 3, none⟩ = some (.bool x3) ∧ w'.cell? ⟨h, 4, none⟩ = some (.bool x4) ∧ Below W.heap.size W w' := by
  have c1 := t.c1
  have c2 := t.c2
  have c3 := t.c3
  have c4 := t.c4
  have c5 := t.c5
  have c6 := t.c6
  have c7 := t.c7
  have c8 := t.c8
  have c9 := t.c9
  rw [Nat.zero_add] at c1 c2 c3 c4 c5 c6 c7 c8 c9
  exact ⟨c1, c2, c3, c4, c5, c6, c7, c8, c9, q.c0, q.c1, q.c2, q.c3, q.c4, b⟩
set_option maxRecDepth 100000 in
theorem shaped_out (d : Nat) (rk : Nat) (rt : Int) (rao : Nat) (ran : Int) (raA : Option Addr) (ral rac rbo : Nat) (rbn : Int) (rbA : Option Addr) (rbl rbc : Nat) (ryA : Option Addr) (ryl ryc : Nat) (reA : Option Addr) (rel r9c : Nat) (n : Int) (w : World) (h : rk < 1 ∨ 8 < rk) :
    Calls Tryd.prog 59 #[.agg #[.int .u8 rk, .int .i64 rt, .int .u8 rao, .int .i64 ran, .slice raA ral rac, .int .u8 rbo, .int .i64 rbn, .slice rbA rbl rbc, .slice ryA ryl ryc, .slice reA rel r9c], .int .i64 n] w fun e w' => e = .returned (.bool false) ∧ Below w.heap.size w w' := by
  have HB : Hid (Below w.heap.size w (w.alloc (.cells #[.int .u8 rk, .int .i64 rt, .int .u8 rao, .int .i64 ran, .slice raA ral rac, .int .u8 rbo, .int .i64 rbn, .slice rbA rbl rbc, .slice ryA ryl ryc, .slice reA rel r9c] 39))) := (Below.refl _ _).alloc (Nat.le_refl _) _
  rcases h with h | h
  · go_enter Tryd.func59, Tryd.ntmps59
    go_wp2_with fail
    go_ret
    exact ⟨rfl, HB.out⟩
  · go_enter Tryd.func59, Tryd.ntmps59
    go_wp2_with fail
    go_ret
    exact ⟨rfl, HB.out⟩
end Go.Proofs.YtnkdaehmdcpafaaDoor
