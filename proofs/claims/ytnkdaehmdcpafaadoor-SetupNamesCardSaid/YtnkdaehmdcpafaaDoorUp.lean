/-
  WORDS FOR COPIES OF SETUPS: transactions and threads in whatever blocks; a slice of one-cell values that is appended to, element by element, each of whose parts lies in blocks of its own. Conditions: as they stand.
-/
import Derived.Test.YtnkdaehmdcpafaaDoorUm
import Derived.Test.YtnkdaehmdcpafaaDoorQw
import Derived.Test.YtnkdaehmdcpafaaDoorCv
import Derived.Test.YtnkdaehmdcpafaaDoorZb
namespace Go.Proofs.YtnkdaehmdcpafaaDoor
open Go.RowKit
set_option linter.unusedVariables false
/-- A row of one-cell values that may be written. -/
def RowS (w : World) (S : Nat → Prop) (B : Option Addr) (n : Nat) (t : TypeId) : Prop := n = 0 ∨ ∃ g xs, B = some ⟨g, 0, none⟩ ∧ S g ∧ w.heap[g]? = some (.cells xs t (0, 0)) ∧ n ≤ xs.size
def SKidsS (w : World) (S : Nat → Prop) (d : Nat) (B : Option Addr) (tx : List St) : Prop := ∀ j (h : j < tx.length), ∃ p q, B = some p ∧ S p.block ∧ Ten w (p.add (j * 10)) q ∧ SAtS w S d q tx[j]
/-- Not the block of this slice. -/
def off (S : Nat → Prop) (B : Option Addr) : Nat → Prop := fun b => S b ∧ ∀ p, B = some p → b ≠ p.block
def TxsS (w : World) (S : Nat → Prop) (d : Nat) (B : Option Addr) (l : List (List St)) : Prop := ∀ k (h : k < l.length), ∃ p C c, B = some p ∧ S p.block ∧ w.cell? (p.add k) = some (.slice C l[k].length c) ∧ l[k].length ≤ 9223372036854775807 ∧ SKidsS w (off S B) d C l[k] ∧ RowX w (off S B) C l[k].length
theorem SKidsS.keep {w w' : World} {S S' : Nat → Prop} {d : Nat} {B : Option Addr} {tx : List St} (h : SKidsS w S d B tx) (hS : ∀ b, S b → S' b) (hk : ∀ b, S b → w'.heap[b]? = w.heap[b]?) : SKidsS w' S' d B tx := fun j hj => by
  obtain ⟨p, q, e1, m1, t1, s1⟩ := h j hj
  exact ⟨p, q, e1, hS _ m1, t1.keep (fun z hz => World.cell?_of_block (hk _ (by rw [hz, ad_block]; exact m1))), s1.keep hS (fun p hp => World.cell?_of_block (hk _ hp)) d⟩
theorem TxsS.keep {w w' : World} {S S' : Nat → Prop} {d : Nat} {B : Option Addr} {l : List (List St)} (h : TxsS w S d B l) (hS : ∀ b, S b → S' b) (hk : ∀ b, S b → w'.heap[b]? = w.heap[b]?) : TxsS w' S' d B l := fun j hj => by
  obtain ⟨p, C, c, e1, m1, t1, l1, s1, r1⟩ := h j hj
  exact ⟨p, C, c, e1, hS _ m1, (World.cell?_of_block (hk _ (by rw [ad_block]; exact m1))).trans t1, l1, s1.keep (fun b hb => ⟨hS _ hb.1, hb.2⟩) (fun b hb => hk b hb.1), r1.keep (fun b hb => ⟨hS _ hb.1, hb.2⟩) (fun b hb => hk b hb.1)⟩
theorem RowS.keep {w w' : World} {S S' : Nat → Prop} {B : Option Addr} {n : Nat} {t : TypeId} (h : RowS w S B n t) (hS : ∀ b, S b → S' b) (hk : ∀ b, S b → w'.heap[b]? = w.heap[b]?) : RowS w' S' B n t := by
  rcases h with h | ⟨g, xs, h1, h2, h3, h4⟩
  · exact Or.inl h
  · exact Or.inr ⟨g, xs, h1, hS _ h2, (hk _ h2).trans h3, h4⟩
theorem SKids.toS {w : World} {lo hi d : Nat} {B : Option Addr} {tx : List St} (h : SKids w lo hi d B tx) : SKidsS w (fun b => lo ≤ b ∧ b < hi) d B tx := fun j hj => by
  obtain ⟨p, q, e1, m1, m2, t1, s1⟩ := h j hj
  exact ⟨p, q, e1, ⟨m1, m2⟩, t1, s1.toS d⟩
theorem SKidsS.to {w : World} {lo hi d : Nat} {S : Nat → Prop} {B : Option Addr} {tx : List St} (h : SKidsS w S d B tx) (hS : ∀ b, S b → lo ≤ b ∧ b < hi) : SKids w lo hi d B tx := fun j hj => by
  obtain ⟨p, q, e1, m1, t1, s1⟩ := h j hj
  exact ⟨p, q, e1, (hS _ m1).1, (hS _ m1).2, t1, s1.toSAt hS d⟩
theorem TxsS.to {w : World} {lo hi d : Nat} {S : Nat → Prop} {B : Option Addr} {l : List (List St)} (h : TxsS w S d B l) (hS : ∀ b, S b → lo ≤ b ∧ b < hi) : Txs w lo hi d B l := fun j hj => by
  obtain ⟨p, C, c, e1, m1, t1, l1, s1, _⟩ := h j hj
  exact ⟨p, C, c, e1, (hS _ m1).1, (hS _ m1).2, t1, l1, s1.to fun b hb => hS b hb.1⟩
/-- What an element is, of whatever blocks: kept, where these are. -/
structure Kept6 {α : Type} (P : World → (Nat → Prop) → Value → α → Prop) : Prop where
  keep : ∀ (w w' : World) (S S' : Nat → Prop) (u : Value) (x : α), P w S u x → (∀ b, S b → S' b) → (∀ b, S b → w'.heap[b]? = w.heap[b]?) → P w' S' u x
def isTx (d : Nat) (w : World) (S : Nat → Prop) (u : Value) (tx : List St) : Prop := ∃ C c, u = .slice C tx.length c ∧ tx.length ≤ 9223372036854775807 ∧ SKidsS w S d C tx ∧ RowX w S C tx.length
def isThread (d : Nat) (w : World) (S : Nat → Prop) (u : Value) (l : List (List St)) : Prop := ∃ B c, u = .slice B l.length c ∧ l.length ≤ 9223372036854775807 ∧ TxsS w S d B l ∧ RowS w S B l.length 34 ∧ l.length ≤ c
theorem isTx_kept (d : Nat) : Kept6 (isTx d) := ⟨fun w w' S S' u x ⟨C, c, h1, h2, h3, h4⟩ hS hk => ⟨C, c, h1, h2, h3.keep hS hk, h4.keep hS hk⟩⟩
theorem isThread_kept (d : Nat) : Kept6 (isThread d) := ⟨fun w w' S S' u x ⟨B, c, h1, h2, h3, h4, h5⟩ hS hk => ⟨B, c, h1, h2, h3.keep hS hk, h4.keep hS hk, h5⟩⟩
/-- How things are behind k elements: the window of each is from a j to a (j + 1), without the row itself. -/
structure ARI {α : Type} (P : World → (Nat → Prop) → Value → α → Prop) (t : TypeId) (base B0 : Nat) (w0 : World) (l : List α) (k : Nat) (sv : Value) (xs : List Value) (a : Nat → Nat) (wr : World) : Prop where
  own : wr.ownsRow base t 1 sv k xs
  bs : base ≤ wr.heap.size
  bb : B0 ≤ base
  mono : ∀ i j, i ≤ j → a i ≤ a j
  lo : base ≤ a 0
  hi : ∀ j, a j ≤ wr.heap.size
  parts : ∀ j, j < k → ∀ (h : j < l.length), ∃ u, xs[j]? = some u ∧ P wr (fun b => (a j ≤ b ∧ b < a (j + 1)) ∧ sv.ownBlock ≠ some b) u l[j]
  low : Below B0 w0 wr
theorem ARI.start {α : Type} {P : World → (Nat → Prop) → Value → α → Prop} (t : TypeId) (base B0 : Nat) (w0 wr : World) (l : List α) (hb : base ≤ wr.heap.size) (hB : B0 ≤ base) (low : Below B0 w0 wr) : ARI P t base B0 w0 l 0 (.slice none 0 0) [] (fun _ => base) wr :=
  ⟨World.ownsRow_nil _ _ _ _, hb, hB, fun _ _ _ => Nat.le_refl _, Nat.le_refl _, fun _ => hb, fun j hj => absurd hj (by omega), low⟩
/-- The same, behind what leaves all that was there. -/
theorem ARI.below {α : Type} {P : World → (Nat → Prop) → Value → α → Prop} (hP : Kept6 P) {t : TypeId} {base B0 : Nat} {w0 : World} {l : List α} {k : Nat} {sv : Value} {xs : List Value} {a : Nat → Nat} {wr w5 : World} (inv : ARI P t base B0 w0 l k sv xs a wr) (b5 : Below wr.heap.size wr w5) : ARI P t base B0 w0 l k sv xs a w5 :=
  ⟨inv.own.kept (row := none) ⟨b5.os, b5.tape, b5.output, b5.size, fun i hi _ => b5.block i hi⟩ (by cases hv : sv.ownBlock <;> simp), Nat.le_trans inv.bs b5.size, inv.bb, inv.mono, inv.lo, fun j => Nat.le_trans (inv.hi j) b5.size, fun j hj h => by
    obtain ⟨u, h1, h2⟩ := inv.parts j hj h
    exact ⟨u, h1, hP.keep _ _ _ _ _ _ h2 (fun b hb => hb) fun b hb => b5.block b (by have := inv.hi (j + 1); omega)⟩, inv.low.trans (b5.mono (Nat.le_trans inv.bb inv.bs))⟩
/-- The same, behind a store below. -/
theorem ARI.set {α : Type} {P : World → (Nat → Prop) → Value → α → Prop} (hP : Kept6 P) {t : TypeId} {base B0 : Nat} {w0 : World} {l : List α} {k : Nat} {sv : Value} {xs : List Value} {a : Nat → Nat} {wr : World} (inv : ARI P t base B0 w0 l k sv xs a wr) {g i : Nat} (h1 : B0 ≤ g) (h2 : g < base) (u : Value) : ARI P t base B0 w0 l k sv xs a (wr.setCell ⟨g, i, none⟩ u) := by
  have hk : ∀ b, base ≤ b → (wr.setCell ⟨g, i, none⟩ u).heap[b]? = wr.heap[b]? := fun b hb => Below.heap_setCell wr ⟨g, i, none⟩ u b (by show b ≠ g; omega)
  refine ⟨⟨inv.own.1, inv.own.2.imp id ?_⟩, by simpa using inv.bs, inv.bb, inv.mono, inv.lo, fun j => by simpa using inv.hi j, fun j hj h => ?_, inv.low.setCell (p := ⟨g, i, none⟩) h1 _⟩
  · rintro ⟨g', cap, cur, e1, e2, e3, r⟩
    exact ⟨g', cap, cur, e1, e2, (hk _ e2).trans e3, r⟩
  · obtain ⟨v, i1, hv⟩ := inv.parts j hj h
    have := inv.mono 0 j (by omega)
    have := inv.lo
    exact ⟨v, i1, hP.keep _ _ _ _ _ _ hv (fun b hb => hb) fun b hb => hk b (by omega)⟩
theorem ARI.step {α : Type} {P : World → (Nat → Prop) → Value → α → Prop} (hP : Kept6 P) {t : TypeId} {base B0 : Nat} {w0 wr w5 w1 : World} {l : List α} {k : Nat} {sv : Value} {xs : List Value} {a : Nat → Nat} (inv : ARI P t base B0 w0 l k sv xs a wr) (hk : k < l.length)
    (b5 : Below wr.heap.size wr w5) {u : Value} (hu : P w5 (fun b => wr.heap.size ≤ b ∧ b < w5.heap.size) u l[k]) {o : Obj} {g cap : Nat}
    (hown : w1.ownsRow base t 1 (.slice (some ⟨g, 0, none⟩) (k + 1) cap) (k + 1) (xs ++ [u])) (hg : (w5.alloc o).grownBy w1 sv.ownBlock) (hat : sv.ownBlock = some g ∨ g = w5.heap.size + 1) :
    ARI P t base B0 w0 l (k + 1) (.slice (some ⟨g, 0, none⟩) (k + 1) cap) (xs ++ [u]) (fun j => if j < k then a j else if j = k then wr.heap.size else w5.heap.size) w1 := by
  have hz5 := b5.size
  have hz0 := inv.low.size
  have hbs := inv.bs
  have hbb := inv.bb
  have hz1 : w5.heap.size + 1 ≤ w1.heap.size := by have := hg.size; simpa using this
  have hlow : ∀ i, i < w5.heap.size → some i ≠ sv.ownBlock → w1.heap[i]? = w5.heap[i]? := fun i hi hne =>
    (hg.block i (by simp; omega) hne).trans (heap_alloc_old w5 o hi)
  have hold : ∀ i, i < wr.heap.size → some i ≠ sv.ownBlock → w1.heap[i]? = wr.heap[i]? := fun i hi hne => (hlow i (by omega) hne).trans (b5.block i hi)
  have hl0 := inv.own.1
  refine ⟨hown, by omega, hbb, fun i j hij => ?_, ?_, fun j => ?_, fun j hj h => ?_, inv.low.trans ⟨hg.os.trans b5.os, hg.tape.trans b5.tape, hg.output.trans b5.output, by omega, fun i hi => hold i (by omega) (own_ge inv.own (Nat.lt_of_lt_of_le hi hbb))⟩⟩
  · have h1 := inv.mono i j hij
    have h2 := inv.hi i
    have h3 := inv.hi j
    split <;> split <;> first | omega | (split <;> first | omega | (split <;> omega))
  · have h1 := inv.lo
    split
    · exact h1
    · split <;> omega
  · have h1 := inv.hi j
    split
    · omega
    · split <;> omega
  · by_cases hjk : j < k
    · obtain ⟨q, i1, hA⟩ := inv.parts j hjk h
      have h1 := inv.hi (j + 1)
      have h2 : (if j + 1 < k then a (j + 1) else if j + 1 = k then wr.heap.size else w5.heap.size) ≥ a (j + 1) ∧ (if j + 1 < k then a (j + 1) else if j + 1 = k then wr.heap.size else w5.heap.size) ≤ wr.heap.size := by
        split
        · omega
        · split <;> omega
      refine ⟨q, by rw [List.getElem?_append_left (by omega)]; exact i1, hP.keep _ _ _ _ _ _ hA ?_ ?_⟩
      · rintro b ⟨⟨c1, c2⟩, c3⟩
        rw [if_pos hjk]
        refine ⟨⟨c1, by omega⟩, ?_⟩
        intro hc
        have hc' : g = b := by simpa [Value.ownBlock] using hc
        subst hc'
        rcases hat with h3 | h3
        · exact c3 h3
        · omega
      · rintro b ⟨⟨c1, c2⟩, c3⟩
        exact hold _ (by omega) (fun hc => c3 hc.symm)
    · obtain rfl : j = k := by omega
      refine ⟨u, by rw [List.getElem?_append_right (by omega), show j - xs.length = 0 by omega]; rfl, hP.keep _ _ _ _ _ _ hu ?_ ?_⟩
      · rintro b ⟨c1, c2⟩
        rw [if_neg (by omega), if_pos rfl, if_neg (by omega), if_neg (by omega)]
        refine ⟨⟨c1, c2⟩, ?_⟩
        intro hc
        have hc' : g = b := by simpa [Value.ownBlock] using hc
        subst hc'
        rcases hat with h1 | h1
        · have := (inv.own.lt g h1).2
          omega
        · omega
      · rintro b ⟨c1, c2⟩
        refine hlow _ c2 (fun hc => ?_)
        have := (inv.own.lt _ hc.symm).2
        omega
/-- The row at the end. -/
theorem ARI.row {α : Type} {P : World → (Nat → Prop) → Value → α → Prop} {t : TypeId} {base B0 : Nat} {w0 wr : World} {l : List α} {sv : Value} {xs : List Value} {a : Nat → Nat} (inv : ARI P t base B0 w0 l l.length sv xs a wr) : ∃ A c, sv = .slice A l.length c ∧ l.length ≤ c ∧ RowS wr (fun b => base ≤ b ∧ b < wr.heap.size) A l.length t ∧
    ∀ j (h : j < l.length), ∃ p u, A = some p ∧ base ≤ p.block ∧ p.block < wr.heap.size ∧ wr.cell? (p.add j) = some u ∧ P wr (fun b => (a j ≤ b ∧ b < a (j + 1)) ∧ ∀ p, A = some p → b ≠ p.block) u l[j] := by
  have hl := inv.own.1
  by_cases h0 : l.length = 0
  · rcases inv.own.2 with ⟨h1, h2⟩ | ⟨g, cap, cur, h1, _⟩
    · exact ⟨none, 0, by rw [h1, h0], by omega, Or.inl h0, fun j hj => absurd hj (by omega)⟩
    · exact ⟨_, _, h1, by omega, Or.inl h0, fun j hj => absurd hj (by omega)⟩
  · rcases inv.own.2 with ⟨h1, h2⟩ | ⟨g, cap, cur, h1, h2, h3, h4, h5, h6, h7⟩
    · omega
    · have hg := (Array.getElem?_eq_some_iff.1 h3).1
      refine ⟨_, _, h1, h4, Or.inr ⟨g, cur, rfl, ⟨h2, hg⟩, h3, by omega⟩, fun j hj => ?_⟩
      obtain ⟨u, i1, hu⟩ := inv.parts j hj hj
      subst h1
      have hc := inv.own.cells (g := g) rfl j u i1
      refine ⟨⟨g, 0, none⟩, u, rfl, h2, hg, hc, ?_⟩
      have he : (fun b => (a j ≤ b ∧ b < a (j + 1)) ∧ (Value.slice (some ⟨g, 0, none⟩) l.length cap).ownBlock ≠ some b) = (fun b => (a j ≤ b ∧ b < a (j + 1)) ∧ ∀ p, some (⟨g, 0, none⟩ : Addr) = some p → b ≠ p.block) := by
        funext b
        apply propext
        constructor
        · rintro ⟨c1, c2⟩
          refine ⟨c1, fun p hp hb => c2 ?_⟩
          cases hp
          simp [Value.ownBlock, hb]
        · rintro ⟨c1, c2⟩
          refine ⟨c1, fun hc => c2 _ rfl ?_⟩
          have : g = b := by simpa [Value.ownBlock] using hc
          exact this.symm
      rw [← he]
      exact hu
/-- One slice more, in a plain region. -/
theorem append_one {tS tE : TypeId} (hu : Tryd.prog.underlying tS = some (.slice tE)) (hinf : (Tryd.prog.info? tE).map (fun i => (i.zero, i.size, i.bytes)) = some (some (.slice none 0 0), 1, 24)) {ops : Array Oper} {rest : List Oper} {o : Oper} {a : Act} {Q : Exit → Act → World → Prop} {wx : World} {base k : Nat} {sv v : Value} {xs : List Value}
    (own : wx.ownsRow base tE 1 sv k xs) (hb : base ≤ wx.heap.size) (hk : k ≤ 100000) (hgd : o.guard = none) (s x : Operand) (ho : o.op = .call { callee := .builtin .append, args := #[s, x], argTypes := #[tS, tS] }) (hs : a.eval s = sv) (hx : a.eval x = .slice (some ⟨wx.heap.size, 0, none⟩) 1 1) (hv : v.oneCell' = true)
    (h : ∀ g cap w', w'.ownsRow base tE 1 (.slice (some ⟨g, 0, none⟩) (k + 1) cap) (k + 1) (xs ++ [v]) → (wx.alloc (.cells #[v] tE)).grownBy w' sv.ownBlock → (sv.ownBlock = some g ∨ g = wx.heap.size + 1) → g < w'.heap.size → wpList Tryd.prog ops Q rest (a.put o.dst (.slice (some ⟨g, 0, none⟩) (k + 1) cap)) w') :
    wpList Tryd.prog ops Q (o :: rest) a (wx.alloc (.cells #[v] tE)) := by
  obtain ⟨i0, hi0, hz0, hz1, hz2⟩ := info_parts2 hinf
  exact wpList_append_lies _ hgd s x _ ho base tE i0 _ 1 24 hu hi0 hz0 hz1 hz2 rfl (by omega) sv k xs hs (own.alloc _) ⟨wx.heap.size, 0, none⟩ 1 1 [v] hx rfl (World.news_of_block (cs := #[v]) (t := tE) (fr := (0, 0)) (heap_alloc_new wx _)) (by intro u hu; simp at hu; rw [hu]; exact hv) (by omega) (by unfold maxLen; omega) (by omega) (by simp; omega) (wx.heap.size + 1) (by simp) fun g cap w' a1 a2 a3 a4 => h g cap w' a1 a2 a3 a4
theorem stmts_info : (Tryd.prog.info? 34).map (fun i => (i.zero, i.size, i.bytes)) = some (some (.slice none 0 0), 1, 24) := by kernel_rfl
theorem txs_info : (Tryd.prog.info? 33).map (fun i => (i.zero, i.size, i.bytes)) = some (some (.slice none 0 0), 1, 24) := by kernel_rfl
/-- A setup that a call has made: its values below mid, its threads' row from mid on, each thread in blocks of its own. -/
structure SuW (w : World) (lo mid d : Nat) (I T : Option Addr) (s : Su) (a : Nat → Nat) : Prop where
  ini : Ints w mid I s.init
  inl : ∀ p, I = some p → lo ≤ p.block
  lm : lo ≤ mid
  ms : mid ≤ w.heap.size
  row : RowS w (fun b => mid ≤ b ∧ b < w.heap.size) T s.thr.length 33
  mono : ∀ i j, i ≤ j → a i ≤ a j
  alo : mid ≤ a 0
  ahi : ∀ j, a j ≤ w.heap.size
  parts : ∀ j (h : j < s.thr.length), ∃ p u, T = some p ∧ mid ≤ p.block ∧ p.block < w.heap.size ∧ w.cell? (p.add j) = some u ∧ isThread d w (fun b => (a j ≤ b ∧ b < a (j + 1)) ∧ ∀ p, T = some p → b ≠ p.block) u s.thr[j]
theorem SuW.keep {w w' : World} {lo mid d : Nat} {I T : Option Addr} {s : Su} {a : Nat → Nat} (h : SuW w lo mid d I T s a) (hs : w.heap.size ≤ w'.heap.size) (hk : ∀ b, lo ≤ b → b < w.heap.size → w'.heap[b]? = w.heap[b]?) : SuW w' lo mid d I T s a := by
  have hlm := h.lm
  have hms := h.ms
  have halo := h.alo
  refine ⟨⟨h.ini.len, fun k hk' => ?_⟩, h.inl, h.lm, by omega, h.row.keep (fun b hb => ⟨hb.1, by omega⟩) (fun b hb => hk b (by omega) hb.2), h.mono, h.alo, fun j => by have := h.ahi j; omega, fun j hj => ?_⟩
  · obtain ⟨p, rfl, b1, c⟩ := h.ini.cell k hk'
    have := h.inl p rfl
    exact ⟨p, rfl, b1, (World.cell?_of_block (hk _ (by rw [ad_block]; exact this) (by rw [ad_block]; omega))).trans c⟩
  · obtain ⟨p, u, e1, m1, m2, c1, hu⟩ := h.parts j hj
    refine ⟨p, u, e1, m1, by omega, (World.cell?_of_block (hk _ (by rw [ad_block]; omega) (by rw [ad_block]; omega))).trans c1, (isThread_kept d).keep _ _ _ _ _ _ hu (fun b hb => hb) fun b hb => hk b ?_ ?_⟩
    · have := h.mono 0 j (by omega)
      omega
    · have := h.ahi (j + 1)
      omega
theorem SuW.at {w : World} {lo mid d : Nat} {I T : Option Addr} {s : Su} {a : Nat → Nat} (h : SuW w lo mid d I T s a) : Thr w lo w.heap.size d T s.thr := fun j hj => by
  obtain ⟨p, u, e1, m1, m2, c1, B, c, rfl, l1, h1, h2, _⟩ := h.parts j hj
  have hlm := h.lm
  have halo := h.alo
  have := h.mono 0 j (by omega)
  have := h.ahi (j + 1)
  exact ⟨p, B, c, e1, by omega, m2, c1, l1, h1.to fun b hb => ⟨by omega, by omega⟩⟩
theorem ARI.thread {d : Nat} {base B0 : Nat} {w0 wr : World} {l : List (List St)} {sv : Value} {xs : List Value} {a : Nat → Nat} (inv : ARI (isTx d) 34 base B0 w0 l l.length sv xs a wr) (hl : l.length ≤ 9223372036854775807) : isThread d wr (fun b => base ≤ b ∧ b < wr.heap.size) sv l := by
  obtain ⟨A, c, rfl, hcap, hr, hp⟩ := inv.row
  refine ⟨A, c, rfl, hl, fun j hj => ?_, hr, hcap⟩
  obtain ⟨p, u, e1, m1, m2, c1, C, c2, rfl, l1, h1, r1⟩ := hp j hj
  have h2 := inv.mono 0 j (by omega)
  have h3 := inv.lo
  have h4 := inv.hi (j + 1)
  exact ⟨p, C, c2, e1, ⟨m1, m2⟩, c1, l1, h1.keep (fun b hb => ⟨⟨by omega, by omega⟩, hb.2⟩) (fun _ _ => rfl), r1.keep (fun b hb => ⟨⟨by omega, by omega⟩, hb.2⟩) fun _ _ => rfl⟩
theorem TxsS.take {w : World} {S : Nat → Prop} {d : Nat} {B : Option Addr} {l : List (List St)} (h : TxsS w S d B l) (m : Nat) : TxsS w S d B (l.take m) := fun j hj => by
  have hj' : j < l.length := by simp at hj; omega
  have := h j hj'
  rw [List.getElem_take]
  exact this
/-- A thread made shorter, in the row of the threads. -/
theorem SuW.cut {w : World} {lo mid d : Nat} {I T : Option Addr} {s : Su} {a : Nat → Nat} (h : SuW w lo mid d I T s a) {k m : Nat} (hk : k < s.thr.length) (hm : m ≤ s.thr[k].length) {g : Nat} (hT : T = some ⟨g, 0, none⟩) {B : Option Addr} {c : Nat} (hc : w.cell? ⟨g, k, none⟩ = some (.slice B s.thr[k].length c)) :
    Thr (w.setCell ⟨g, k, none⟩ (.slice B m c)) lo w.heap.size d T (s.thr.set k (s.thr[k].take m)) ∧ Ints (w.setCell ⟨g, k, none⟩ (.slice B m c)) mid I s.init := by
  have hlm := h.lm
  have hms := h.ms
  have halo := h.alo
  have hko : ∀ b, b ≠ g → (w.setCell ⟨g, k, none⟩ (.slice B m c)).heap[b]? = w.heap[b]? := fun b hb => heap_set_other w g k _ b hb
  obtain ⟨g', xs, hg', ⟨g1, g2⟩, hrow, hxs⟩ : ∃ g' xs, T = some ⟨g', 0, none⟩ ∧ (mid ≤ g' ∧ g' < w.heap.size) ∧ w.heap[g']? = some (.cells xs 33 (0, 0)) ∧ s.thr.length ≤ xs.size := by
    rcases h.row with h0 | h0
    · omega
    · exact h0
  subst hT
  have hgg : g = g' := by injection hg' with e; injection e
  subst hgg
  refine ⟨fun j hj => ?_, ⟨h.ini.len, fun i hi => ?_⟩⟩
  · have hj' : j < s.thr.length := by simpa using hj
    obtain ⟨p, u, e1, m1, m2, c1, B', c', rfl, l1, h1, h2, h3⟩ := h.parts j hj'
    cases e1
    have hmo := h.mono 0 j (by omega)
    have hhi := h.ahi (j + 1)
    have hsub : TxsS (w.setCell ⟨g, k, none⟩ (.slice B m c)) (fun b => lo ≤ b ∧ b < w.heap.size) d B' s.thr[j] := h1.keep (fun b hb => ⟨by omega, by omega⟩) fun b hb => hko b (hb.2 _ rfl)
    have hrow2 := heap_set_same w g k (.slice B m c) _ _ hrow
    rw [row_add] at c1
    by_cases hjk : j = k
    · subst hjk
      rw [hc] at c1
      have hbb : B = B' ∧ c = c' := by
        injection c1 with e
        injection e with e1 e2 e3
        exact ⟨e1, e3⟩
      obtain ⟨rfl, rfl⟩ := hbb
      have hl : ((s.thr.set j (s.thr[j].take m))[j]'hj).length = m := by simp; omega
      have he : (s.thr.set j (s.thr[j].take m))[j]'hj = s.thr[j].take m := by simp
      refine ⟨⟨g, 0, none⟩, B, c, rfl, by show lo ≤ g; omega, g2, ?_, by rw [hl]; omega, ?_⟩
      · rw [hl, row_add]
        have : (w.setCell ⟨g, j, none⟩ (.slice B m c)).cell? ⟨g, j, none⟩ = (xs.setIfInBounds j (.slice B m c))[j]? := cell_of_row _ g j _ _ (0, 0) hrow2
        rw [this, Array.getElem?_setIfInBounds_self_of_lt (by omega)]
      · rw [he]
        exact (hsub.take m).to fun b hb => hb
    · have he : (s.thr.set k (s.thr[k].take m))[j]'hj = s.thr[j] := by rw [List.getElem_set_ne (by omega)]
      refine ⟨⟨g, 0, none⟩, B', c', rfl, by show lo ≤ g; omega, g2, ?_, by rw [he]; exact l1, ?_⟩
      · rw [he, row_add]
        have h4 : (w.setCell ⟨g, k, none⟩ (.slice B m c)).cell? ⟨g, j, none⟩ = (xs.setIfInBounds k (.slice B m c))[j]? := cell_of_row _ g j _ _ (0, 0) hrow2
        have h5 : w.cell? ⟨g, j, none⟩ = xs[j]? := cell_of_row _ g j _ _ (0, 0) hrow
        rw [h4, Array.getElem?_setIfInBounds_ne (by omega), ← h5, c1]
      · rw [he]
        exact hsub.to fun b hb => hb
  · obtain ⟨p, rfl, b1, c1⟩ := h.ini.cell i hi
    exact ⟨p, rfl, b1, (World.cell?_of_block (hko _ (by rw [ad_block]; omega))).trans c1⟩
end Go.Proofs.YtnkdaehmdcpafaaDoor
