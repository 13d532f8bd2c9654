/-
  'append(append([]T{}, xs..), v)' IN A ROW THAT DRAWS ITS ORDER, for elements of any number of cells: what is so, whatever is done; what each operation makes of it. To be used with XRs.wp_region_st (the store in its tail). Conditions: as they stand.
-/
import Derived.Test.YtjennlkindbpoaaDoorOn
import Derived.Test.YtjennlkindbpoaaDoorRs
namespace Go.Proofs.YtjennlkindbpoaaDoor
set_option maxRecDepth 100000
open Go.RowKit Go.Deep
set_option linter.unusedVariables false
set_option linter.unusedSimpArgs false
/-- Where the four that make memory stand, in their own numbers; which value the others leave. -/
structure Ps where
  p0 : Nat
  p1 : Nat
  p2 : Nat
  p3 : Nat
  pv : Nat → Option Value
structure Ps.Ok (p : Ps) : Prop where
  d01 : p.p0 ≠ p.p1
  d02 : p.p0 ≠ p.p2
  d03 : p.p0 ≠ p.p3
  d12 : p.p1 ≠ p.p2
  d13 : p.p1 ≠ p.p3
  d23 : p.p2 ≠ p.p3
  v0 : p.pv p.p0 = none
  v1 : p.pv p.p1 = none
  v2 : p.pv p.p2 = none
  v3 : p.pv p.p3 = none
/-- The newest link; its cells; how many elements it has. -/
def curO (p : Ps) (don : Nat → Bool) : Nat := if don p.p3 = true then p.p3 else if don p.p1 = true then p.p1 else p.p0
def lstO (p : Ps) (X V : List Value) (j : Nat) : List Value := if j = p.p3 then X ++ V else if j = p.p1 then X else []
def cntO (p : Ps) (nx : Nat) (j : Nat) : Nat := if j = p.p3 then nx + 1 else if j = p.p1 then nx else 0
structure J2 (p : Ps) (tE : TypeId) (sz : Nat) (W : World) (X V : List Value) (nx : Nat) (don : Nat → Bool) (u : Nat → Value) (w : World) : Prop where
  b : Below W.heap.size W w
  o1 : don p.p1 = true → don p.p0 = true
  o2 : don p.p3 = true → don p.p1 = true ∧ don p.p2 = true
  pv : ∀ j v, p.pv j = some v → don j = true → u j = v
  ch : don p.p0 = true → ∃ A c, u (curO p don) = .slice A (cntO p nx (curO p don)) c ∧ w.ownsRow W.heap.size tE sz (.slice A (cntO p nx (curO p don)) c) (cntO p nx (curO p don)) (lstO p X V (curO p don))
  nn : don p.p2 = true → don p.p3 = false → ∃ q, u p.p2 = .slice (some ⟨q, 0, none⟩) 1 1 ∧ W.heap.size ≤ q ∧ w.heap[q]? = some (.cells V.toArray tE (0, 0)) ∧ (don p.p0 = true → (u (curO p don)).ownBlock ≠ some q)
theorem off_ofO {b c : Bool} (h : b = true → c = true) (hc : c = false) : b = false := by
  cases b
  · rfl
  · rw [h rfl] at hc; cases hc
section
variable {p : Ps} {tE : TypeId} {sz : Nat} {W : World} {X V : List Value} {nx : Nat} {don : Nat → Bool} {u : Nat → Value} {w : World}
theorem don_far {i j : Nat} (h : j ≠ i) : (j == i || don j) = don j := by rw [beq_eq_false_iff_ne.2 h, Bool.false_or]
theorem curO_far {i : Nat} (h1 : i ≠ p.p1) (h3 : i ≠ p.p3) : curO p (fun j => j == i || don j) = curO p don := by
  unfold curO
  simp only [don_far (don := don) (Ne.symm h1), don_far (don := don) (Ne.symm h3)]
theorem curO_in (p : Ps) (don : Nat → Bool) : curO p don = p.p3 ∨ curO p don = p.p1 ∨ curO p don = p.p0 := by
  unfold curO
  split
  · exact .inl rfl
  · split
    · exact .inr (.inl rfl)
    · exact .inr (.inr rfl)
theorem J2.start (W : World) (u : Nat → Value) : J2 p tE sz W X V nx (fun _ => false) u W.drew := ⟨(Below.refl _ _).drew, by simp, by simp, fun j v _ h => by simp at h, fun h => by simp at h, fun h => by simp at h⟩
theorem J2.plain (k : p.Ok) (h : J2 p tE sz W X V nx don u w) {i : Nat} {v : Value} (hv : p.pv i = some v) : J2 p tE sz W X V nx (fun j => j == i || don j) (fun j => if j = i then v else u j) w := by
  have n0 : p.p0 ≠ i := by rintro rfl; rw [k.v0] at hv; cases hv
  have n1 : p.p1 ≠ i := by rintro rfl; rw [k.v1] at hv; cases hv
  have n2 : p.p2 ≠ i := by rintro rfl; rw [k.v2] at hv; cases hv
  have n3 : p.p3 ≠ i := by rintro rfl; rw [k.v3] at hv; cases hv
  have hcur : curO p (fun j => j == i || don j) = curO p don := curO_far (Ne.symm n1) (Ne.symm n3)
  have hci : ¬ curO p don = i := by
    rcases curO_in p don with h | h | h <;> rw [h] <;> assumption
  refine ⟨h.b, ?_, ?_, fun j v' hj hd => ?_, ?_, ?_⟩
  · (try dsimp only); rw [don_far n1, don_far n0]; exact h.o1
  · (try dsimp only); rw [don_far n1, don_far n2, don_far n3]; exact h.o2
  · by_cases hji : j = i
    · subst hji
      rw [if_pos rfl]
      rw [hv] at hj
      exact Option.some.inj hj
    · rw [if_neg hji]
      (try dsimp only at hd)
      rw [don_far hji] at hd
      exact h.pv j v' hj hd
  · (try dsimp only); rw [don_far n0, hcur, if_neg hci]; exact h.ch
  · (try dsimp only); rw [don_far n2, don_far n3, don_far n0, hcur, if_neg hci, if_neg n2]; exact h.nn
theorem J2.first (k : p.Ok) (h : J2 p tE sz W X V nx don u w) (hd : don p.p0 = false) : J2 p tE sz W X V nx (fun j => j == p.p0 || don j) (fun j => if j = p.p0 then .slice (some ⟨w.heap.size, 0, none⟩) 0 0 else u j) (w.alloc (.cells #[] tE)) := by
  have d1 : don p.p1 = false := off_ofO h.o1 hd
  have d3 : don p.p3 = false := off_ofO (fun x => (h.o2 x).1) d1
  have hcur : curO p (fun j => j == p.p0 || don j) = p.p0 := by
    rw [curO_far k.d01 k.d03]
    unfold curO
    simp [d1, d3]
  refine ⟨h.b.alloc h.b.size _, fun _ => by simp, ?_, fun j v' hj hdj => ?_, fun _ => ?_, fun h2 h3 => ?_⟩
  · (try dsimp only); rw [don_far (Ne.symm k.d03), d3]; intro h; cases h
  · have hji : j ≠ p.p0 := by rintro rfl; rw [k.v0] at hj; cases hj
    (try dsimp only at hdj)
    rw [if_neg hji]
    rw [don_far hji] at hdj
    exact h.pv j v' hj hdj
  · rw [hcur]
    have e1 : lstO p X V p.p0 = [] := by unfold lstO; rw [if_neg k.d03, if_neg k.d01]
    have e2 : cntO p nx p.p0 = 0 := by unfold cntO; rw [if_neg k.d03, if_neg k.d01]
    rw [e1, e2, if_pos rfl]
    exact ⟨some ⟨w.heap.size, 0, none⟩, 0, rfl, by simp, .inr ⟨w.heap.size, 0, #[], rfl, h.b.size, World.alloc_heap_new w _, Nat.le_refl _, by unfold maxLen; omega, by simp, by simp⟩⟩
  · (try dsimp only at h2 h3)
    rw [don_far (Ne.symm k.d02)] at h2
    obtain ⟨q, e1, e2, e3, _⟩ := h.nn h2 d3
    have hp : q < w.heap.size := (Array.getElem?_eq_some_iff.1 e3).1
    refine ⟨q, by rw [if_neg (Ne.symm k.d02)]; exact e1, e2, (((Below.refl w.heap.size w).alloc (Nat.le_refl _) (.cells #[] tE)).block q hp).trans e3, fun _ => ?_⟩
    rw [hcur, if_pos rfl]
    show some w.heap.size ≠ some q
    simp
    omega
theorem J2.one (k : p.Ok) (h : J2 p tE sz W X V nx don u w) (hd : don p.p2 = false) : J2 p tE sz W X V nx (fun j => j == p.p2 || don j) (fun j => if j = p.p2 then .slice (some ⟨w.heap.size, 0, none⟩) 1 1 else u j) (w.alloc (.cells V.toArray tE)) := by
  have hcur : curO p (fun j => j == p.p2 || don j) = curO p don := curO_far (Ne.symm k.d12) k.d23
  have hci : ¬ curO p don = p.p2 := by
    rcases curO_in p don with h | h | h <;> rw [h]
    · exact Ne.symm k.d23
    · exact k.d12
    · exact k.d02
  have d3 : don p.p3 = false := off_ofO (fun x => (h.o2 x).2) hd
  refine ⟨h.b.alloc h.b.size _, ?_, ?_, fun j v' hj hdj => ?_, fun h0 => ?_, fun _ _ => ?_⟩
  · (try dsimp only); rw [don_far k.d12, don_far k.d02]; exact h.o1
  · (try dsimp only); rw [don_far (Ne.symm k.d23), d3]; intro h; cases h
  · have hji : j ≠ p.p2 := by rintro rfl; rw [k.v2] at hj; cases hj
    (try dsimp only at hdj)
    rw [if_neg hji]
    rw [don_far hji] at hdj
    exact h.pv j v' hj hdj
  · (try dsimp only at h0)
    rw [don_far k.d02] at h0
    rw [hcur, if_neg hci]
    obtain ⟨A', c', e, own⟩ := h.ch h0
    exact ⟨A', c', e, own.alloc _⟩
  · refine ⟨w.heap.size, by rw [if_pos rfl], h.b.size, World.alloc_heap_new w _, fun h0 => ?_⟩
    (try dsimp only at h0)
    rw [don_far k.d02] at h0
    rw [hcur, if_neg hci]
    obtain ⟨A', c', e, own⟩ := h.ch h0
    rw [e]
    intro hc
    have := (own.lt _ hc).2
    omega
/-- A link more. -/
theorem J2.link (k : p.Ok) (h : J2 p tE sz W X V nx don u w) {i : Nat} (hi : (i = p.p1 ∧ don p.p1 = false ∧ don p.p0 = true) ∨ (i = p.p3 ∧ don p.p3 = false ∧ don p.p1 = true ∧ don p.p2 = true)) {w' : World} {A' : Option Addr} {c' : Nat}
    (hl : w'.ownsRow W.heap.size tE sz (.slice A' (cntO p nx i) c') (cntO p nx i) (lstO p X V i)) (hg : w.grownBy w' (u (curO p don)).ownBlock) (ho : ∀ g, Value.ownBlock (.slice A' (cntO p nx i) c') = some g → (u (curO p don)).ownBlock = some g ∨ g = w.heap.size) :
    J2 p tE sz W X V nx (fun j => j == i || don j) (fun j => if j = i then .slice A' (cntO p nx i) c' else u j) w' := by
  have d0 : don p.p0 = true := by
    rcases hi with ⟨_, _, h1⟩ | ⟨_, _, h1, _⟩
    · exact h1
    · exact h.o1 h1
  have hcur : curO p (fun j => j == i || don j) = i := by
    unfold curO
    (try dsimp only)
    rcases hi with ⟨rfl, h1, _⟩ | ⟨rfl, _, _, _⟩
    · have d3 : don p.p3 = false := off_ofO (fun x => (h.o2 x).1) h1
      simp only [don_far (don := don) (Ne.symm k.d13), d3]
      simp
    · simp
  obtain ⟨A0, c0, e0, own0⟩ := h.ch d0
  rw [e0] at hg ho
  have hB : Below W.heap.size W w' := h.b.grown hg h.b.size (fun q hq => (own0.lt q hq).1)
  have ni0 : p.p0 ≠ i := by rcases hi with ⟨rfl, _⟩ | ⟨rfl, _⟩; exact k.d01; exact k.d03
  have ni2 : p.p2 ≠ i := by rcases hi with ⟨rfl, _⟩ | ⟨rfl, _⟩; exact Ne.symm k.d12; exact k.d23
  refine ⟨hB, fun _ => by (try dsimp only); rw [don_far ni0]; exact d0, fun h3 => ?_, fun j v' hj hdj => ?_, fun _ => ?_, fun h2 h3 => ?_⟩
  · (try dsimp only at h3 ⊢)
    rcases hi with ⟨rfl, h1, _⟩ | ⟨rfl, _, h1, h2⟩
    · rw [don_far (Ne.symm k.d13)] at h3
      have := (h.o2 h3).1
      rw [h1] at this
      cases this
    · rw [don_far k.d13, don_far k.d23]
      exact ⟨h1, h2⟩
  · have hji : j ≠ i := by
      rintro rfl
      rcases hi with ⟨rfl, _⟩ | ⟨rfl, _⟩
      · rw [k.v1] at hj; cases hj
      · rw [k.v3] at hj; cases hj
    (try dsimp only at hdj)
    rw [if_neg hji]
    rw [don_far hji] at hdj
    exact h.pv j v' hj hdj
  · rw [hcur, if_pos rfl]
    exact ⟨A', c', rfl, hl⟩
  · (try dsimp only at h2 h3)
    rcases hi with ⟨rfl, h1, _⟩ | ⟨rfl, _, _, _⟩
    · rw [don_far (Ne.symm k.d12)] at h2
      rw [don_far (Ne.symm k.d13)] at h3
      obtain ⟨q, e1, e2, e3, e4⟩ := h.nn h2 h3
      have hp : q < w.heap.size := (Array.getElem?_eq_some_iff.1 e3).1
      have e5 := e4 d0
      rw [e0] at e5
      refine ⟨q, by rw [if_neg (Ne.symm k.d12)]; exact e1, e2, (hg.block q hp (Ne.symm e5)).trans e3, fun _ => ?_⟩
      rw [hcur, if_pos rfl]
      intro hc
      rcases ho q hc with h | h
      · exact e5 h
      · omega
    · simp at h3
end
/-- An append of elements that lie somewhere, of none too: one operation. -/
theorem append_genO {P : Program} {o : Oper} {a : Act} {w : World} {K : Act → World → Prop} {Q : Exit → Act → World → Prop} {tS tE : TypeId} {i : TypeInfo} {z : Value} {sz bytes : Nat} (ht : P.underlying tS = some (.slice tE)) (hi : P.info? tE = some i) (hz : i.zero = some z) (hsize : i.size = sz) (hby : i.bytes = bytes) (hzs : z.cells.size = sz) (hsz : 0 < sz) (hb200 : bytes ≤ 200)
    {base k m : Nat} {sA : Option Addr} {scap c : Nat} {xs news : List Value} {A : Option Addr} (own : w.ownsRow base tE sz (.slice sA k scap) k xs) (hb : base ≤ w.heap.size) (hl : news.length = m * sz) (hnews : 0 < m → ∃ ad, A = some ad ∧ (∀ j u, news[j]? = some u → w.cell? (ad.add j) = some u)) (h1 : ∀ u ∈ news, u.oneCell' = true) (hk : k + m ≤ 100000)
    (s x : Operand) (ho : o.op = .call { callee := .builtin .append, args := #[s, x], argTypes := #[tS, tS] }) (hs : a.eval s = .slice sA k scap) (hx : a.eval x = .slice A m c)
    (h : ∀ A' c' w', w'.ownsRow base tE sz (.slice A' (k + m) c') (k + m) (xs ++ news) → w.grownBy w' (Value.ownBlock (.slice sA k scap)) → (∀ g, Value.ownBlock (.slice A' (k + m) c') = some g → Value.ownBlock (.slice sA k scap) = some g ∨ g = w.heap.size) → K (a.put o.dst (.slice A' (k + m) c')) w') :
    Oper.wp P o a w K Q := by
  by_cases h0 : m = 0
  · subst h0
    have hn : news = [] := List.length_eq_zero_iff.1 (by omega)
    subst hn
    have hrun : (Builtin.append_ #[tS, tS] o.type #[.slice sA k scap, .slice A 0 c]).run P w = .ok (.slice sA k scap) w := by
      rcases own.2 with ⟨hv, hk0⟩ | ⟨g, cap, cur, hv, _, _, hle, _⟩
      · injection hv with e1 e2 e3
        subst e1 e2 e3
        cases A <;> simp [Builtin.append_, run_underlying ht, sizeOf, typeInfo, hi, Builtin.lenOf, Builtin.firstCells, loadCells, loadCellsFrom]
      · injection hv with e1 e2 e3
        subst e1 e3
        cases A <;> simp [Builtin.append_, run_underlying ht, sizeOf, typeInfo, hi, Builtin.lenOf, Builtin.firstCells, storeCells, loadCells, loadCellsFrom, hle]
    have := h sA scap w (by simpa using own) ⟨rfl, rfl, rfl, Nat.le_refl _, fun _ _ _ => rfl⟩ (fun g hg => .inl hg)
    unfold Oper.wp
    simp [execOp, ho, resolve, invoke, builtin, hs, hx, hrun, Result.andThen]
    show K (a.put o.dst (.slice sA k scap)) w
    simpa using this
  · obtain ⟨ad, rfl, hc⟩ := hnews (by omega)
    refine wp_append_lies w s x tS ho base tE i z sz bytes ht hi hz hsize hby hzs hsz _ k xs hs own ad m c news hx hl hc h1 (by omega) (by unfold maxLen; omega) (by have : (k + m) * bytes ≤ 100000 * 200 := Nat.mul_le_mul hk hb200; omega) hb w.heap.size rfl ?_
    intro g cap w' a1 a2 a3 a4
    exact h _ _ w' a1 a2 (fun g' hg' => by
      have e : g = g' := Option.some.inj hg'
      subst e
      exact a3)
end Go.Proofs.YtjennlkindbpoaaDoor
