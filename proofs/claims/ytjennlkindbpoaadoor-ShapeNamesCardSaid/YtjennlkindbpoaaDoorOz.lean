/-
  FOR ShapeKept: the map of the attempts that are gone; its rows that draw their order and write (16, 23). Laid by gen/gen_oz.py. Conditions: as they stand.
-/
import Derived.Test.YtjennlkindbpoaaDoorOp
import Derived.Test.YtjennlkindbpoaaDoorOw
import Derived.WideKeyPair
import Derived.Maps.OwnOps
import Derived.Maps.Views
namespace Go.Proofs.YtjennlkindbpoaaDoor
set_option maxRecDepth 100000
open Go.RowKit Go.Deep Go.Maps
set_option linter.unusedVariables false
set_option linter.unusedSimpArgs false
theorem EvsAt.ownK {w : World} {base k c : Nat} {A : Option Addr} {L : List Ev} (h : w.ownsRow base 27 7 (.slice A k c) k (evsC L)) (hk : L.length = k) (hok : ∀ i, i < L.length → EvOk (nthE L i)) : EvsAt w w.heap.size A L ∧ k ≤ c ∧ (∀ ad, A = some ad → base ≤ ad.block) := by
  refine ⟨?_, ?_, fun ad e => by subst e; exact (h.lt _ rfl).1⟩
  · rcases h.2 with ⟨h1, h2⟩ | ⟨g, cap, cur, h1, h2, h3, h4, h5, h6, h7⟩
    · intro i hi
      omega
    · injection h1 with e1 e2 e3
      subst e1 e3
      intro i hi
      refine ⟨⟨g, 0, none⟩, rfl, (Array.getElem?_eq_some_iff.1 h3).1, ?_⟩
      have hc : ∀ j, j < 7 → w.cell? ⟨g, i * 7 + j, none⟩ = (evC (nthE L i))[j]? := fun j hj => by
        have e1 : ((⟨g, 0, none⟩ : Addr).add (i * 7 + j)) = ⟨g, i * 7 + j, none⟩ := by cases hq : i * 7 + j <;> simp [Addr.add]
        have e2 := evsC_at L i j hi hj
        obtain ⟨v, hv⟩ : ∃ v, (evC (nthE L i))[j]? = some v := by
          unfold evC
          match j, hj with
          | 0, _ | 1, _ | 2, _ | 3, _ | 4, _ | 5, _ | 6, _ => exact ⟨_, rfl⟩
        rw [hv] at e2 ⊢
        rw [← e1]
        exact h.cells (g := g) rfl _ _ e2
      have ea : ((⟨g, 0, none⟩ : Addr).add (i * 7)) = ⟨g, i * 7, none⟩ := by cases hq : i * 7 <;> simp [Addr.add]
      rw [ea]
      exact ⟨hc 0 (by decide), hc 1 (by decide), hc 2 (by decide), hc 3 (by decide), hc 4 (by decide), hc 5 (by decide), hc 6 (by decide), hok i hi⟩
  · rcases h.2 with ⟨h1, h2⟩ | ⟨g, cap, cur, h1, h2, h3, h4, h5, h6, h7⟩
    · omega
    · injection h1 with e1 e2 e3
      subst e3
      exact h4

theorem u_int13 : Tryd.prog.underlying 3 = some (.int .i64) := by kernel_rfl
theorem wf_nat {n : Nat} (h : n ≤ 9000) : (Lit.int .i64 (n : Int)).wf = true := by
  simp [Lit.wf, IntKind.min, IntKind.max, IntKind.signed, IntKind.bits]
  omega
def kl2 (t n : Nat) : Lit := .string (keyBytes [.int .i64 (t : Int), .int .i64 (n : Int)])
theorem sz13 : ∃ m, Tryd.prog.types.size = m + 1 := by
  have h : decide (0 < Tryd.prog.types.size) = true := by kernel_rfl
  have := of_decide_eq_true h
  exact ⟨Tryd.prog.types.size - 1, by omega⟩
theorem zero_int (w : World) : (zeroValue 3).run Tryd.prog w = .ok (.int .i64 0) w := by kernel_rfl
section
variable {a : Act} {w : World} {K : Act → World → Prop} {Q : Exit → Act → World → Prop} {o : Oper}
theorem z_field1 (x : Nat) {g : Nat} (ho : o.op = .fieldAddr 27 (.tmp x) 1) (hx : a.tmps[x]?.getD undef = .pointer (some ⟨g, 0, none⟩)) (hK : K (a.put o.dst (.pointer (some ⟨g, 1, none⟩))) w) : Oper.wp Tryd.prog o a w K Q := by
  obtain ⟨dst, op, type, pos, after, guard⟩ := o
  have ho' : op = _ := ho
  subst ho'
  clear ho
  go_simp
  exact hK
theorem z_fieldT (x : Nat) {g : Nat} (ho : o.op = .fieldAddr 35 (.tmp x) 3) (hx : a.tmps[x]?.getD undef = .pointer (some ⟨g, 0, none⟩)) (hK : K (a.put o.dst (.pointer (some ⟨g, 3, none⟩))) w) : Oper.wp Tryd.prog o a w K Q := by
  obtain ⟨dst, op, type, pos, after, guard⟩ := o
  have ho' : op = _ := ho
  subst ho'
  clear ho
  go_simp
  exact hK
theorem z_index (x y : Nat) {p : Addr} {i n c : Nat} (hi : i < n) (ho : o.op = .indexAddr 87 (.tmp x) (.tmp y)) (hx : a.tmps[x]?.getD undef = .slice (some p) n c) (hy : a.tmps[y]?.getD undef = .int .i64 (i : Int)) (hK : K (a.put o.dst (.pointer (some (p.add i)))) w) : Oper.wp Tryd.prog o a w K Q := by
  obtain ⟨dst, op, type, pos, after, guard⟩ := o
  have ho' : op = _ := ho
  subst ho'
  clear ho
  have i1 : (0 : Int) ≤ (i : Int) := by omega
  have i2 : (i : Int) < (n : Int) := by omega
  go_simp
  exact hK
theorem z_indexE (x y : Nat) {p : Addr} {i n c : Nat} (hi : i < n) (ho : o.op = .indexAddr 33 (.tmp x) (.tmp y)) (hx : a.tmps[x]?.getD undef = .slice (some p) n c) (hy : a.tmps[y]?.getD undef = .int .i64 (i : Int)) (hK : K (a.put o.dst (.pointer (some (p.add (i * 7))))) w) : Oper.wp Tryd.prog o a w K Q := by
  obtain ⟨dst, op, type, pos, after, guard⟩ := o
  have ho' : op = _ := ho
  subst ho'
  clear ho
  have i1 : (0 : Int) ≤ (i : Int) := by omega
  have i2 : (i : Int) < (n : Int) := by omega
  go_simp
  exact hK
theorem z_loadE (x : Nat) {p : Addr} {e : Ev} (ho : o.op = .load 27 (.tmp x)) (hx : a.tmps[x]?.getD undef = .pointer (some p)) (hc : EvAt w p e) (hK : K (a.put o.dst (evV e)) w) : Oper.wp Tryd.prog o a w K Q := by
  obtain ⟨dst, op, type, pos, after, guard⟩ := o
  have ho' : op = _ := ho
  subst ho'
  clear ho
  obtain ⟨c0, c1, c2, c3, c4, c5, c6, _⟩ := hc
  unfold evV at hK
  go_simp
  exact hK
end
def regK16_pv (gs gm ge i n t m : Nat) : Nat → Option Value
  | 0 => some (.map (some gm))
  | 1 => some (.pointer (some ⟨ge, 1, none⟩))
  | 2 => some (.int .i64 (t : Int))
  | 3 => some (.slice (some ⟨gs, 0, none⟩) n n)
  | 4 => some (.int .i64 (i : Int))
  | 5 => some (.pointer (some ((⟨gs, 0, none⟩ : Addr).add i)))
  | 6 => some (.int .i64 (m : Int))
  | 7 => some (.agg #[.int .i64 (t : Int), .int .i64 (m : Int)])
  | _ => none
def regK16_ds : List Nat := [63, 64, 65, 66, 67, 68, 69, 70]
/-- 'xs = append(xs, e)' of a row that the call owns, in a row that draws its order. -/
structure J23 (pv : Nat → Option Value) (base k : Nat) (A : Option Addr) (c : Nat) (X : List Value) (e : Ev) (W : World) (don : Nat → Bool) (u : Nat → Value) (w : World) : Prop where
  b : Below base W w
  pv : ∀ j v, pv j = some v → don j = true → u j = v
  n1 : don 7 = false → don 8 = false
  nn : don 7 = true → don 8 = false → ∃ q, u 7 = .slice (some ⟨q, 0, none⟩) 1 1 ∧ w.heap[q]? = some (.cells (evC e) 27 (0, 0))
  own0 : don 8 = false → w.ownsRow base 27 7 (.slice A k c) k X
  own1 : don 8 = true → ∃ A' c', u 8 = .slice A' (k + 1) c' ∧ w.ownsRow base 27 7 (.slice A' (k + 1) c') (k + 1) (X ++ (evC e).toList)
section
variable {pv : Nat → Option Value} {base k c : Nat} {A : Option Addr} {X : List Value} {e : Ev} {W w : World} {don : Nat → Bool} {u : Nat → Value}
theorem J23.start (u : Nat → Value) (h : W.ownsRow base 27 7 (.slice A k c) k X) : J23 pv base k A c X e W (fun _ => false) u W.drew := ⟨(Below.refl _ _).drew, fun j v _ h => by simp at h, fun _ => rfl, fun h => by simp at h, fun _ => h, fun h => by simp at h⟩
theorem J23.plain (h : J23 pv base k A c X e W don u w) {i : Nat} (h7 : i ≠ 7) (h8 : i ≠ 8) {v : Value} (hv : pv i = some v) : J23 pv base k A c X e W (fun j => j == i || don j) (fun j => if j = i then v else u j) w := by
  refine ⟨h.b, fun j v' hj hd => ?_, ?_, ?_, ?_, ?_⟩
  · (try dsimp only at hd ⊢)
    by_cases e : j = i
    · subst e
      rw [if_pos rfl]
      rw [hv] at hj
      exact Option.some.inj hj
    · rw [if_neg e]
      rw [don_far e] at hd
      exact h.pv j v' hj hd
  all_goals
    (try dsimp only)
    (try rw [don_far (Ne.symm h7)])
    (try rw [don_far (Ne.symm h8)])
    (try rw [if_neg (Ne.symm h7)])
    (try rw [if_neg (Ne.symm h8)])
  · exact h.n1
  · exact h.nn
  · exact h.own0
  · exact h.own1
theorem J23.one (h : J23 pv base k A c X e W don u w) (hd : don 7 = false) (h7 : pv 7 = none) (hb : base ≤ w.heap.size) : J23 pv base k A c X e W (fun j => j == 7 || don j) (fun j => if j = 7 then .slice (some ⟨w.heap.size, 0, none⟩) 1 1 else u j) (w.alloc (.cells (evC e) 27)) := by
  have d8 := h.n1 hd
  refine ⟨h.b.alloc hb _, fun j v' hj hdj => ?_, fun h => by simp at h, fun _ _ => ⟨w.heap.size, by simp, World.alloc_heap_new w _⟩, fun _ => (h.own0 d8).alloc _, fun h => ?_⟩
  · have hji : j ≠ 7 := by rintro rfl; rw [h7] at hj; cases hj
    (try dsimp only at hdj ⊢)
    rw [if_neg hji]
    rw [don_far hji] at hdj
    exact h.pv j v' hj hdj
  · (try dsimp only at h)
    rw [don_far (by decide), d8] at h
    cases h
end
def regK23_pv (g8 gt i n k c ct : Nat) (A : Option Addr) (a0 : Addr) (e : Ev) : Nat → Option Value
  | 0 => some (.pointer (some ⟨g8, 3, none⟩))
  | 1 => some (.slice A k c)
  | 2 => some (.pointer (some ⟨gt, 3, none⟩))
  | 3 => some (.slice (some a0) n ct)
  | 4 => some (.int .i64 (i : Int))
  | 5 => some (.pointer (some (a0.add (i * 7))))
  | 6 => some (evV e)
  | _ => none
def regK23_ds : List Nat := [94, 95, 96, 97, 98, 99, 100, 101, 102]
end Go.Proofs.YtjennlkindbpoaaDoor
