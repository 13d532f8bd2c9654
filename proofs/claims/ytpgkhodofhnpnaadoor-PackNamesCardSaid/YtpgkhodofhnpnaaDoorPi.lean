/-
  ROWS THAT A READER MAKES: a slice that is appended to, element by element, while the reader's own blocks (below the row's base) change; what lies there at the end; the appends. Conditions: as they stand.
-/
import Derived.Test.YtpgkhodofhnpnaaDoorPh
import Derived.Test.YtpgkhodofhnpnaaDoorZc
namespace Go.Proofs.YtpgkhodofhnpnaaDoor
set_option maxRecDepth 100000
open Go.RowKit
set_option linter.unusedVariables false
/-- What an element's cells are, of whatever blocks: kept, where these are. -/
def KeptR {α : Type} (P : World → (Nat → Prop) → List Value → α → Prop) : Prop := ∀ (w w' : World) (S S' : Nat → Prop) (us : List Value) (x : α), P w S us x → (∀ b, S b → S' b) → (∀ b, S b → w'.heap[b]? = w.heap[b]?) → P w' S' us x
/-- How things are behind the elements l. -/
structure RI {α : Type} (P : World → (Nat → Prop) → List Value → α → Prop) (t : TypeId) (sz base : Nat) (l : List α) (sv : Value) (xs : List Value) (wr : World) : Prop where
  own : wr.ownsRow base t sz sv l.length xs
  bs : base ≤ wr.heap.size
  parts : ∀ j (h : j < l.length), ∃ us : List Value, us.length = sz ∧ (∀ i, i < sz → xs[j * sz + i]? = us[i]?) ∧ P wr (fun b => base ≤ b ∧ b < wr.heap.size ∧ sv.ownBlock ≠ some b) us l[j]
theorem RI.start {α : Type} (P : World → (Nat → Prop) → List Value → α → Prop) (t : TypeId) (sz base : Nat) (wr : World) (hb : base ≤ wr.heap.size) : RI P t sz base [] (.slice none 0 0) [] wr :=
  ⟨World.ownsRow_nil _ _ _ _, hb, fun j hj => absurd hj (by simp)⟩
/-- The same, behind what leaves all blocks from base on. -/
theorem RI.keep {α : Type} {P : World → (Nat → Prop) → List Value → α → Prop} (hP : KeptR P) {t : TypeId} {sz base : Nat} {l : List α} {sv : Value} {xs : List Value} {wr w5 : World} (h : RI P t sz base l sv xs wr) (hk : ∀ b, base ≤ b → b < wr.heap.size → w5.heap[b]? = wr.heap[b]?) (hz : wr.heap.size ≤ w5.heap.size) : RI P t sz base l sv xs w5 := by
  refine ⟨own_below h.own fun r hr => hk r (h.own.lt r hr).1 (h.own.lt r hr).2, Nat.le_trans h.bs hz, fun j hj => ?_⟩
  obtain ⟨us, e1, e2, e3⟩ := h.parts j hj
  exact ⟨us, e1, e2, hP _ _ _ _ _ _ e3 (fun b hb => ⟨hb.1, by omega, hb.2.2⟩) fun b hb => hk b hb.1 hb.2.1⟩
/-- One element more: w5 is where it lies (in blocks from m on), o what was boxed for the append. -/
theorem RI.step {α : Type} {P : World → (Nat → Prop) → List Value → α → Prop} (hP : KeptR P) {t : TypeId} {sz base : Nat} {l : List α} {sv : Value} {xs : List Value} {w5 w1 : World} (h : RI P t sz base l sv xs w5) {m : Nat} {us : List Value} {x : α} (hu : us.length = sz) (hx : P w5 (fun b => m ≤ b ∧ b < w5.heap.size) us x) (hm : base ≤ m) (hsm : ∀ r, sv.ownBlock = some r → r < m) {o : Go.Obj} {g cap : Nat}
    (hown : w1.ownsRow base t sz (.slice (some ⟨g, 0, none⟩) (l.length + 1) cap) (l.length + 1) (xs ++ us)) (hg : (w5.alloc o).grownBy w1 sv.ownBlock) (hat : sv.ownBlock = some g ∨ g = w5.heap.size + 1) :
    RI P t sz base (l ++ [x]) (.slice (some ⟨g, 0, none⟩) (l.length + 1) cap) (xs ++ us) w1 := by
  have hz1 : w5.heap.size + 1 ≤ w1.heap.size := by have := hg.size; simpa using this
  have hlow : ∀ i, i < w5.heap.size → some i ≠ sv.ownBlock → w1.heap[i]? = w5.heap[i]? := fun i hi hne =>
    (hg.block i (by simp; omega) hne).trans (heap_alloc_old w5 o hi)
  have hl0 := h.own.1
  refine ⟨by rw [List.length_append]; exact hown, Nat.le_trans h.bs (by omega), fun j hj => ?_⟩
  by_cases hjk : j < l.length
  · obtain ⟨vs, e1, e2, e3⟩ := h.parts j hjk
    have hj1 : j * sz + sz ≤ l.length * sz := by rw [← Nat.succ_mul]; exact Nat.mul_le_mul_right _ hjk
    refine ⟨vs, e1, fun i hi => by rw [List.getElem?_append_left (by omega)]; exact e2 i hi, ?_⟩
    rw [List.getElem_append_left hjk]
    refine hP _ _ _ _ _ _ e3 ?_ ?_
    · rintro b ⟨c1, c2, c3⟩
      refine ⟨c1, by omega, ?_⟩
      intro hc
      have hc' : g = b := by simpa [Value.ownBlock] using hc
      subst hc'
      rcases hat with h1 | h1
      · exact c3 h1
      · omega
    · rintro b ⟨c1, c2, c3⟩
      exact hlow _ c2 (fun hc => c3 hc.symm)
  · obtain rfl : j = l.length := by rw [List.length_append] at hj; simp at hj; omega
    refine ⟨us, hu, fun i hi => ?_, ?_⟩
    · rw [List.getElem?_append_right (by omega), show l.length * sz + i - xs.length = i by omega]
    · have : (l ++ [x])[l.length]'hj = x := by simp
      rw [this]
      refine hP _ _ _ _ _ _ hx ?_ ?_
      · rintro b ⟨c1, c2⟩
        refine ⟨by omega, by omega, ?_⟩
        intro hc
        have hc' : g = b := by simpa [Value.ownBlock] using hc
        subst hc'
        rcases hat with h1 | h1
        · have := hsm g h1
          omega
        · omega
      · rintro b ⟨c1, c2⟩
        refine hlow _ c2 (fun hc => ?_)
        have := hsm b hc.symm
        omega
/-- The elements at the end. -/
theorem RI.done {α : Type} {P : World → (Nat → Prop) → List Value → α → Prop} {t : TypeId} {sz base : Nat} {l : List α} {sv : Value} {xs : List Value} {wr : World} (h : RI P t sz base l sv xs wr) (h0 : 0 < sz) : ∃ A c, sv = .slice A l.length c ∧ ∀ j (hj : j < l.length), ∃ g us, A = some ⟨g, 0, none⟩ ∧ base ≤ g ∧ g < wr.heap.size ∧ us.length = sz ∧ (∀ i u, i < sz → us[i]? = some u → wr.cell? ⟨g, j * sz + i, none⟩ = some u) ∧ P wr (fun b => base ≤ b ∧ b < wr.heap.size ∧ sv.ownBlock ≠ some b) us l[j] := by
  by_cases hl : l.length = 0
  · rcases h.own.2 with ⟨h1, h2⟩ | ⟨g, cap, cur, h1, _⟩
    · exact ⟨none, 0, by rw [h1, hl], fun j hj => absurd hj (by omega)⟩
    · exact ⟨_, _, h1, fun j hj => absurd hj (by omega)⟩
  · obtain ⟨g, cap, hv, hg1, hg2⟩ := h.own.form (by omega)
    refine ⟨some ⟨g, 0, none⟩, cap, hv, fun j hj => ?_⟩
    obtain ⟨us, e1, e2, e3⟩ := h.parts j hj
    refine ⟨g, us, rfl, hg1, hg2, e1, fun i u hi hu => ?_, e3⟩
    subst hv
    have := h.own.cells (g := g) rfl (j * sz + i) u (by rw [e2 i hi]; exact hu)
    rwa [row_add] at this
/-! ### Statements -/
def isSt (d : Nat) (w : World) (S : Nat → Prop) (us : List Value) (x : St) : Prop := ∃ r : Raw, us = r.cells ∧ SAtS w S d r x
theorem isSt_kept (d : Nat) : KeptR (isSt d) := fun w w' S S' us x ⟨r, h1, h2⟩ hS hk => ⟨r, h1, h2.keep hS (fun p hp => World.cell?_of_block (hk _ hp)) d⟩
theorem isSt_of {w : World} {lo hi d : Nat} {r : Raw} {x : St} (h : SAt w lo hi d r x) : isSt d w (fun b => lo ≤ b ∧ b < hi) r.cells x := ⟨r, rfl, h.toS d⟩
theorem RI.kids {d base : Nat} {l : List St} {sv : Value} {xs : List Value} {wr : World} (h : RI (isSt d) 33 10 base l sv xs wr) : ∃ A c, sv = .slice A l.length c ∧ SKids wr base wr.heap.size d A l := by
  obtain ⟨A, c, rfl, hp⟩ := h.done (by omega)
  refine ⟨A, c, rfl, fun j hj => ?_⟩
  obtain ⟨g, us, rfl, g1, g2, _, hc, r, rfl, hs⟩ := hp j hj
  refine ⟨⟨g, 0, none⟩, r, rfl, g1, g2, ?_, hs.toSAt (fun b hb => ⟨hb.1, hb.2.1⟩) d⟩
  rw [row_add]
  exact ⟨hc 0 _ (by omega) rfl, hc 1 _ (by omega) rfl, hc 2 _ (by omega) rfl, hc 3 _ (by omega) rfl, hc 4 _ (by omega) rfl, hc 5 _ (by omega) rfl, hc 6 _ (by omega) rfl, hc 7 _ (by omega) rfl, hc 8 _ (by omega) rfl, hc 9 _ (by omega) rfl⟩
/-- The append of one statement, in a plain region. -/
theorem append_st {ops : Array Oper} {rest : List Oper} {o : Oper} {a : Act} {Q : Exit → Act → World → Prop} {wx : World} {base k : Nat} {sv : Value} {xs : List Value} {r : Raw}
    (own : wx.ownsRow base 33 10 sv k xs) (hb : base ≤ wx.heap.size) (hk : k ≤ 100000) (hgd : o.guard = none) (s x : Operand) (ho : o.op = .call { callee := .builtin .append, args := #[s, x], argTypes := #[31, 31] }) (hs : a.eval s = sv) {z : Nat} (hx : a.eval x = .slice (some ⟨z, 0, none⟩) 1 1) (hz : z = wx.heap.size)
    (h : ∀ g cap w', w'.ownsRow base 33 10 (.slice (some ⟨g, 0, none⟩) (k + 1) cap) (k + 1) (xs ++ r.cells) → (wx.alloc (.cells #[.int .u8 r.k, .int .i64 r.t, .int .u8 r.ao, .int .i64 r.an, .slice r.aA r.al r.ac, .int .u8 r.bo, .int .i64 r.bn, .slice r.bA r.bl r.bc, .slice r.yA r.yl r.yc, .slice r.eA r.el r.ec] 33)).grownBy w' sv.ownBlock → (sv.ownBlock = some g ∨ g = wx.heap.size + 1) → g < w'.heap.size → wpList Tryd.prog ops Q rest (a.put o.dst (.slice (some ⟨g, 0, none⟩) (k + 1) cap)) w') :
    wpList Tryd.prog ops Q (o :: rest) a (wx.alloc (.cells #[.int .u8 r.k, .int .i64 r.t, .int .u8 r.ao, .int .i64 r.an, .slice r.aA r.al r.ac, .int .u8 r.bo, .int .i64 r.bn, .slice r.bA r.bl r.bc, .slice r.yA r.yl r.yc, .slice r.eA r.el r.ec] 33)) := by
  subst hz
  obtain ⟨i0, hi0, hz0, hz1, hz2⟩ := info_parts stmt_info
  exact wpList_append_lies _ hgd s x _ ho base 33 i0 _ 10 144 Tryd.underlying31 hi0 hz0 hz1 hz2 rfl (by omega) sv k xs hs (own.alloc _) ⟨wx.heap.size, 0, none⟩ 1 1 r.cells hx rfl (World.news_of_block (cs := r.cells.toArray) (t := 33) (fr := (0, 0)) (heap_alloc_new wx (.cells r.cells.toArray 33))) (cells_one r) (by omega) (by unfold maxLen; omega) (by omega) (by simp; omega) (wx.heap.size + 1) (by simp) h
end Go.Proofs.YtpgkhodofhnpnaaDoor
