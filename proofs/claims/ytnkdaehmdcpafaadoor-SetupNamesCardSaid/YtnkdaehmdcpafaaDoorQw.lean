/-
  WORDS FOR A COPY OF A TRANSACTION THAT IS APPENDED STATEMENT BY STATEMENT: statements in whatever blocks; how things are behind k statements, and what lies there at the end. Conditions: as they stand.
-/
import Derived.Test.YtnkdaehmdcpafaaDoorCm
import Derived.Test.YtnkdaehmdcpafaaDoorCv
import Derived.Test.YtnkdaehmdcpafaaDoorEv
namespace Go.Proofs.YtnkdaehmdcpafaaDoor
open Go.RowKit
set_option linter.unusedVariables false
/-- A statement as it lies, its lists in whatever blocks. -/
def SAtS (w : World) (S : Nat → Prop) : Nat → Raw → St → Prop
  | 0, _, _ => False
  | d + 1, r, .node k t a b y e => (r.k = k ∧ r.t = t ∧ r.yl = y.length ∧ r.el = e.length) ∧ (k < 256 ∧ -9223372036854775808 ≤ t ∧ t < 9223372036854775808 ∧ y.length ≤ 9223372036854775807 ∧ e.length ≤ 9223372036854775807) ∧
      AtS w S d r.va a ∧ AtS w S d r.vb b ∧
      (∀ j (h : j < y.length), ∃ p q, r.yA = some p ∧ S p.block ∧ Ten w (p.add (j * 10)) q ∧ SAtS w S d q y[j]) ∧
      (∀ j (h : j < e.length), ∃ p q, r.eA = some p ∧ S p.block ∧ Ten w (p.add (j * 10)) q ∧ SAtS w S d q e[j])
theorem SAtS.keep {w w' : World} {S S' : Nat → Prop} (hS : ∀ b, S b → S' b) (hk : ∀ p : Addr, S p.block → w'.cell? p = w.cell? p) : ∀ (d : Nat) {r : Raw} {s : St}, SAtS w S d r s → SAtS w' S' d r s := by
  intro d
  induction d with
  | zero => intro r s h; exact h
  | succ d ih =>
    intro r s h
    obtain ⟨k, t, a, b, y, e⟩ := s
    obtain ⟨h1, h2, ha, hb, hy, he⟩ := h
    refine ⟨h1, h2, ha.keep hS hk d, hb.keep hS hk d, fun j hj => ?_, fun j hj => ?_⟩
    · obtain ⟨p, q, e1, m1, t1, s1⟩ := hy j hj
      exact ⟨p, q, e1, hS _ m1, t1.keep fun z hz => hk z (by rw [hz, ad_block]; exact m1), ih s1⟩
    · obtain ⟨p, q, e1, m1, t1, s1⟩ := he j hj
      exact ⟨p, q, e1, hS _ m1, t1.keep fun z hz => hk z (by rw [hz, ad_block]; exact m1), ih s1⟩
theorem SAt.toS {w : World} {lo hi : Nat} : ∀ (d : Nat) {r : Raw} {s : St}, SAt w lo hi d r s → SAtS w (fun b => lo ≤ b ∧ b < hi) d r s := by
  intro d
  induction d with
  | zero => intro r s h; exact h
  | succ d ih =>
    intro r s h
    obtain ⟨k, t, a, b, y, e⟩ := s
    obtain ⟨h1, h2, ha, hb, hy, he⟩ := h
    refine ⟨h1, h2, ha.toS d, hb.toS d, fun j hj => ?_, fun j hj => ?_⟩
    · obtain ⟨p, q, e1, m1, m2, t1, s1⟩ := hy j hj
      exact ⟨p, q, e1, ⟨m1, m2⟩, t1, ih s1⟩
    · obtain ⟨p, q, e1, m1, m2, t1, s1⟩ := he j hj
      exact ⟨p, q, e1, ⟨m1, m2⟩, t1, ih s1⟩
theorem SAtS.toSAt {w : World} {lo hi : Nat} {S : Nat → Prop} (hS : ∀ b, S b → lo ≤ b ∧ b < hi) : ∀ (d : Nat) {r : Raw} {s : St}, SAtS w S d r s → SAt w lo hi d r s := by
  intro d
  induction d with
  | zero => intro r s h; exact h
  | succ d ih =>
    intro r s h
    obtain ⟨k, t, a, b, y, e⟩ := s
    obtain ⟨h1, h2, ha, hb, hy, he⟩ := h
    refine ⟨h1, h2, ha.toAt hS d, hb.toAt hS d, fun j hj => ?_, fun j hj => ?_⟩
    · obtain ⟨p, q, e1, m1, t1, s1⟩ := hy j hj
      exact ⟨p, q, e1, (hS _ m1).1, (hS _ m1).2, t1, ih s1⟩
    · obtain ⟨p, q, e1, m1, t1, s1⟩ := he j hj
      exact ⟨p, q, e1, (hS _ m1).1, (hS _ m1).2, t1, ih s1⟩
/-- How things are behind k statements. -/
structure CRI (w0 : World) (tx : List St) (d k : Nat) (sv : Value) (xs : List Value) (wr : World) : Prop where
  own : wr.ownsRow w0.heap.size 39 10 sv k xs
  parts : ∀ j, j < k → ∀ (h : j < tx.length), ∃ r : Raw, (∀ i, i < 10 → xs[j * 10 + i]? = r.cells[i]?) ∧ SAtS wr (fun b => w0.heap.size ≤ b ∧ b < wr.heap.size ∧ sv.ownBlock ≠ some b) d r tx[j]
  low : Below w0.heap.size w0 wr
theorem CRI.start (w0 : World) (tx : List St) (d : Nat) : CRI w0 tx d 0 (.slice none 0 0) [] w0 := ⟨World.ownsRow_nil _ _ _ _, fun j hj => absurd hj (by omega), Below.refl _ _⟩
theorem CRI.step {w0 wr w5 w1 : World} {tx : List St} {d k : Nat} {sv : Value} {xs : List Value} (inv : CRI w0 tx d k sv xs wr) (hk : k < tx.length)
    (b5 : Below wr.heap.size wr w5) {r : Raw} (ha : SAt w5 wr.heap.size w5.heap.size d r tx[k]) {o : Obj} {g cap : Nat}
    (hown : w1.ownsRow w0.heap.size 39 10 (.slice (some ⟨g, 0, none⟩) (k + 1) cap) (k + 1) (xs ++ r.cells)) (hg : (w5.alloc o).grownBy w1 sv.ownBlock) (hat : sv.ownBlock = some g ∨ g = w5.heap.size + 1) :
    CRI w0 tx d (k + 1) (.slice (some ⟨g, 0, none⟩) (k + 1) cap) (xs ++ r.cells) w1 := by
  have hz5 := b5.size
  have hz0 := inv.low.size
  have hz1 : w5.heap.size + 1 ≤ w1.heap.size := by have := hg.size; simpa using this
  have hlow : ∀ i, i < w5.heap.size → some i ≠ sv.ownBlock → w1.heap[i]? = w5.heap[i]? := fun i hi hne =>
    (hg.block i (by simp; omega) hne).trans (heap_alloc_old w5 o hi)
  have hold : ∀ i, i < wr.heap.size → some i ≠ sv.ownBlock → w1.heap[i]? = wr.heap[i]? := fun i hi hne => (hlow i (by omega) hne).trans (b5.block i hi)
  have hl0 := inv.own.1
  refine ⟨hown, fun j hj h => ?_, inv.low.trans ⟨hg.os.trans b5.os, hg.tape.trans b5.tape, hg.output.trans b5.output, by omega, fun i hi => hold i (by omega) (own_ge inv.own hi)⟩⟩
  by_cases hjk : j < k
  · obtain ⟨q, i1, hA⟩ := inv.parts j hjk h
    refine ⟨q, fun i hi => by rw [List.getElem?_append_left (by omega)]; exact i1 i hi, hA.keep ?_ ?_ d⟩
    · rintro b ⟨c1, c2, c3⟩
      refine ⟨c1, by omega, ?_⟩
      intro hc
      have hc' : g = b := by simpa [Value.ownBlock] using hc
      subst hc'
      rcases hat with h1 | h1
      · exact c3 h1
      · omega
    · rintro p ⟨c1, c2, c3⟩
      exact World.cell?_of_block (hold _ c2 (fun hc => c3 hc.symm))
  · obtain rfl : j = k := by omega
    refine ⟨r, fun i hi => ?_, (ha.toS d).keep ?_ ?_ d⟩
    · rw [List.getElem?_append_right (by omega), show j * 10 + i - xs.length = i by omega]
    · rintro b ⟨c1, c2⟩
      refine ⟨by omega, by omega, ?_⟩
      intro hc
      have hc' : g = b := by simpa [Value.ownBlock] using hc
      subst hc'
      rcases hat with h1 | h1
      · have := (inv.own.lt g h1).2
        omega
      · omega
    · rintro p ⟨c1, c2⟩
      refine World.cell?_of_block (hlow _ c2 (fun hc => ?_))
      have := (inv.own.lt _ hc.symm).2
      omega
theorem CRI.done {w0 wr : World} {tx : List St} {d : Nat} {sv : Value} {xs : List Value} (inv : CRI w0 tx d tx.length sv xs wr) : ∃ A c, sv = .slice A tx.length c ∧ SKids wr w0.heap.size wr.heap.size d A tx ∧ RowX wr (fun b => w0.heap.size ≤ b ∧ b < wr.heap.size) A tx.length := by
  by_cases h0 : tx.length = 0
  · rcases inv.own.2 with ⟨h1, h2⟩ | ⟨g, cap, cur, h1, _⟩
    · exact ⟨none, 0, by rw [h1, h0], fun j hj => absurd hj (by omega), Or.inl h0⟩
    · exact ⟨_, _, h1, fun j hj => absurd hj (by omega), Or.inl h0⟩
  · obtain ⟨g, cap, hv, hg1, hg2⟩ := inv.own.form (by omega)
    subst hv
    refine ⟨_, _, rfl, fun j hj => ?_, ?_⟩
    rotate_left
    · rcases inv.own.2 with ⟨h1, _⟩ | ⟨g', cap', cur, h1, h2, h3, h4, h5, h6, _⟩
      · cases h1
      · have hgg : g = g' := by
          injection h1 with e1
          injection e1 with e1
          injection e1
        subst hgg
        exact Or.inr ⟨g, cur, rfl, ⟨h2, hg2⟩, h3, by rw [h6]; exact Nat.mul_le_mul_right _ h4⟩
    obtain ⟨r, i1, hA⟩ := inv.parts j hj hj
    have hc : ∀ i u, xs[i]? = some u → wr.cell? ⟨g, i, none⟩ = some u := fun i u hu => by
      have := inv.own.cells (g := g) rfl i u hu
      rwa [row_add] at this
    have hc2 : ∀ i u, i < 10 → r.cells[i]? = some u → wr.cell? ⟨g, j * 10 + i, none⟩ = some u := fun i u hi hu => hc _ _ (by rw [i1 i hi]; exact hu)
    refine ⟨⟨g, 0, none⟩, r, rfl, hg1, hg2, ?_, hA.toSAt (fun b hb => ⟨hb.1, hb.2.1⟩) d⟩
    rw [row_add]
    exact ⟨hc2 0 _ (by omega) rfl, hc2 1 _ (by omega) rfl, hc2 2 _ (by omega) rfl, hc2 3 _ (by omega) rfl, hc2 4 _ (by omega) rfl, hc2 5 _ (by omega) rfl, hc2 6 _ (by omega) rfl, hc2 7 _ (by omega) rfl, hc2 8 _ (by omega) rfl, hc2 9 _ (by omega) rfl⟩
/-- The append of one statement. -/
theorem append_stmt {w wx : World} {base : Nat} {sv : Value} {k : Nat} {xs : List Value} {r : Raw} {ops : Array Oper} {o : Oper} {a : Act} {K : Act → World → Prop} {Q : Exit → Act → World → Prop} {E : Prop}
    (own : w.ownsRow base 39 10 sv k xs) (hb : base ≤ w.heap.size) (hk : k ≤ 100000) (b5 : Below w.heap.size w wx)
    (hgd : o.guard = none) (s x : Operand) (ho : o.op = .call { callee := .builtin .append, args := #[s, x], argTypes := #[34, 34] }) (hs : a.eval s = sv) (hx : a.eval x = .slice (some ⟨wx.heap.size, 0, none⟩) 1 1)
    (h : ∀ g cap w', w'.ownsRow base 39 10 (.slice (some ⟨g, 0, none⟩) (k + 1) cap) (k + 1) (xs ++ r.cells) → (wx.alloc (.cells #[.int .u8 r.k, .int .i64 r.t, .int .u8 r.ao, .int .i64 r.an, .slice r.aA r.al r.ac, .int .u8 r.bo, .int .i64 r.bn, .slice r.bA r.bl r.bc, .slice r.yA r.yl r.yc, .slice r.eA r.el r.ec] 39)).grownBy w' sv.ownBlock → (sv.ownBlock = some g ∨ g = wx.heap.size + 1) → g < w'.heap.size → K (a.put o.dst (.slice (some ⟨g, 0, none⟩) (k + 1) cap)) w') :
    if Region.wanted o (yielded ops a.tmps) = true then Oper.wp Tryd.prog o a (wx.alloc (.cells #[.int .u8 r.k, .int .i64 r.t, .int .u8 r.ao, .int .i64 r.an, .slice r.aA r.al r.ac, .int .u8 r.bo, .int .i64 r.bn, .slice r.bA r.bl r.bc, .slice r.yA r.yl r.yc, .slice r.eA r.el r.ec] 39)) K Q else E := by
  obtain ⟨i0, hi0, hz0, hz1, hz2⟩ := info_parts stmt_info
  have zz5 : (wx.alloc (.cells #[.int .u8 r.k, .int .i64 r.t, .int .u8 r.ao, .int .i64 r.an, .slice r.aA r.al r.ac, .int .u8 r.bo, .int .i64 r.bn, .slice r.bA r.bl r.bc, .slice r.yA r.yl r.yc, .slice r.eA r.el r.ec] 39)).heap.size = wx.heap.size + 1 := by simp
  have hzz := b5.size
  have ownx : wx.ownsRow base 39 10 sv k xs := own.kept (row := none) ⟨b5.os, b5.tape, b5.output, b5.size, fun i hi _ => b5.block i hi⟩ (by cases hv : sv.ownBlock <;> simp)
  exact step_append_lies _ hgd s x _ ho base 39 i0 _ 10 144 Tryd.underlying34 hi0 hz0 hz1 hz2 rfl (by omega) sv k xs hs (ownx.alloc _) ⟨wx.heap.size, 0, none⟩ 1 1 r.cells hx rfl (World.news_of_block (cs := r.cells.toArray) (t := 39) (fr := (0, 0)) (heap_alloc_new wx (.cells r.cells.toArray 39))) (cells_one r) (by omega) (by unfold maxLen; omega) (by omega) (by rw [zz5]; omega) (wx.heap.size + 1) zz5 h
end Go.Proofs.YtnkdaehmdcpafaaDoor
