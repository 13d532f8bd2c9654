/-
  WORDS FOR SetupNames: the setup with the most of all, where it lies, and what is put into a copy of it. Conditions: as they stand.
-/
import Derived.Test.YtnkdaehmdcpafaaDoorUab
import Derived.Test.YtnkdaehmdcpafaaDoorUq
import Derived.Test.YtnkdaehmdcpafaaDoorUr
import Derived.Test.YtnkdaehmdcpafaaDoorUf
namespace Go.Proofs.YtnkdaehmdcpafaaDoor
open Go.RowKit Go.Deep
set_option linter.unusedVariables false
def nil6 : List (List St) := List.replicate 6 []
def thr0 : List (List (List St)) := List.replicate 6 nil6
def su0 : Su := ⟨32, 1099511627776, 1000, List.replicate 32 0, thr0⟩
def stGot : St := .node 8 0 (.node 3 0 []) (.node 0 0 []) [] []
/-- Where one thread lies. -/
def TC (w : World) (lo hi d : Nat) (T : Option Addr) (k : Nat) (l : List (List St)) : Prop := ∃ p B c, T = some p ∧ lo ≤ p.block ∧ p.block < hi ∧ w.cell? (p.add k) = some (.slice B l.length c) ∧ l.length ≤ 9223372036854775807 ∧ Txs w lo hi d B l
theorem thr_put {w : World} {lo hi d j : Nat} {T : Option Addr} {l : List (List (List St))} {x : List (List St)} (h : ∀ k (hk : k < l.length), k ≠ j → TC w lo hi d T k l[k]) (hj : TC w lo hi d T j x) : Thr w lo hi d T (l.set j x) := fun k hk => by
  rw [List.length_set] at hk
  by_cases hkj : k = j
  · subst hkj
    rw [List.getElem_set_self]
    exact hj
  · rw [List.getElem_set_ne (by omega)]
    exact h k hk hkj
theorem txs_nil {w : World} {lo hi d h n : Nat} {t : TypeId} (hr : w.heap[h]? = some (.cells (List.replicate n (Value.slice none 0 0)).toArray t (0, 0))) (h1 : lo ≤ h) (h2 : h < hi) : Txs w lo hi d (some ⟨h, 0, none⟩) (List.replicate n []) := fun k hk => by
  have hk' : k < n := by simpa using hk
  refine ⟨⟨h, 0, none⟩, none, 0, rfl, h1, h2, ?_, by simp, fun j hj => ?_⟩
  · rw [row_add, cell_of_row w h k _ _ (0, 0) hr]
    simp [hk']
  · simp at hj
theorem ints_rep {w : World} {hi g n : Nat} {t : TypeId} (hr : w.heap[g]? = some (.cells (List.replicate n (Value.int .i64 0)).toArray t (0, 0))) (h2 : g < hi) (hn : n ≤ 1000) : Ints w hi (some ⟨g, 0, none⟩) (List.replicate n 0) :=
  ⟨by simp; omega, fun k hk => by
    have hk' : k < n := by simpa using hk
    refine ⟨⟨g, 0, none⟩, rfl, h2, ?_⟩
    rw [row_add, cell_of_row w g k _ _ (0, 0) hr]
    simp [hk']⟩
/-- One thread of what a call has made, as long as its blocks stay. -/
theorem SuW.tc {w w' : World} {lo mid d hi : Nat} {I T : Option Addr} {s : Su} {a : Nat → Nat} (h : SuW w lo mid d I T s a) {k : Nat} (hk : k < s.thr.length) (hw : w.heap.size ≤ hi) (hc : ∀ p, T = some p → w'.cell? (p.add k) = w.cell? (p.add k)) (hb : ∀ b, a k ≤ b → b < a (k + 1) → (∀ p, T = some p → b ≠ p.block) → w'.heap[b]? = w.heap[b]?) : TC w' lo hi d T k s.thr[k] := by
  obtain ⟨p, u, e, m1, m2, c1, B, c2, rfl, l1, t1, t2, t3⟩ := h.parts k hk
  have q0 := h.lm
  have q1 := h.mono 0 k (by omega)
  have q2 := h.alo
  have q3 := h.ahi (k + 1)
  refine ⟨p, B, c2, e, by omega, by omega, (hc p e).trans c1, l1, ?_⟩
  exact (t1.keep (S' := fun b => (a k ≤ b ∧ b < a (k + 1)) ∧ ∀ p, T = some p → b ≠ p.block) (fun _ hb => hb) fun b hs => hb b hs.1.1 hs.1.2 hs.2).to fun b hs => by omega
/-- A loop that makes the threads of 'most': how things are behind k of them. -/
structure LoopN (W : World) (g1 gT gA k : Nat) (wr : World) : Prop where
  low : Below W.heap.size W wr
  l1 : W.heap.size ≤ g1
  lT : W.heap.size ≤ gT
  lA : W.heap.size ≤ gA
  r1 : wr.heap[g1]? = some (.cells (List.replicate 32 (Value.int .i64 0)).toArray 2 (0, 0))
  rA : wr.heap[gA]? = some (.cells #[.int .i64 32, .int .i64 1099511627776, .int .i64 1000, .slice (some ⟨g1, 0, none⟩) 32 32, .slice (some ⟨gT, 0, none⟩) 6 6] 25 (0, 0))
  rT : ∃ cur, wr.heap[gT]? = some (.cells cur 33 (0, 0)) ∧ cur.size = 6 ∧ ∀ j, j < k → j < 6 → ∃ h, cur[j]? = some (.slice (some ⟨h, 0, none⟩) 6 6) ∧ W.heap.size ≤ h ∧ wr.heap[h]? = some (.cells (List.replicate 6 (Value.slice none 0 0)).toArray 34 (0, 0))
theorem LoopN.step {W : World} {g1 gT gA k : Nat} {wr w : World} (h : LoopN W g1 gT gA k wr) (hk : k < 6) (b : Below wr.heap.size wr w) {g : Nat} (hg : W.heap.size ≤ g) (hr : w.heap[g]? = some (.cells (List.replicate 6 (Value.slice none 0 0)).toArray 34 (0, 0))) : LoopN W g1 gT gA (k + 1) (w.setCell ⟨gT, k, none⟩ (.slice (some ⟨g, 0, none⟩) 6 6)) := by
  obtain ⟨cur, c1, c2, c3⟩ := h.rT
  have cT := (b.block gT (lt_of_block c1)).trans c1
  have c1' := (b.block g1 (lt_of_block h.r1)).trans h.r1
  have cA := (b.block gA (lt_of_block h.rA)).trans h.rA
  have hs := h.low.size
  refine ⟨(h.low.trans (b.mono hs)).setCell (p := ⟨gT, k, none⟩) h.lT _, h.l1, h.lT, h.lA, ?_, ?_, ?_⟩
  · rw [heap_set_other w gT k _ g1 (ty_ne7 c1' cT (by decide))]
    exact c1'
  · rw [heap_set_other w gT k _ gA (ty_ne7 cA cT (by decide))]
    exact cA
  · refine ⟨_, heap_set_same w gT k _ _ _ cT, by simp [c2], fun j hj h6 => ?_⟩
    by_cases hjk : j = k
    · subst hjk
      refine ⟨g, by rw [Array.getElem?_setIfInBounds_self_of_lt (by omega)], hg, ?_⟩
      rw [heap_set_other w gT j _ g (ty_ne7 hr cT (by decide))]
      exact hr
    · obtain ⟨h', q1, q2, q3⟩ := c3 j (by omega) h6
      have q3' := (b.block h' (lt_of_block q3)).trans q3
      refine ⟨h', by rw [Array.getElem?_setIfInBounds_ne (by omega)]; exact q1, q2, ?_⟩
      rw [heap_set_other w gT k _ h' (ty_ne7 q3' cT (by decide))]
      exact q3'
theorem LoopN.most {W : World} {g1 gT gA : Nat} {wr : World} (h : LoopN W g1 gT gA 6 wr) : SuAt wr 0 wr.heap.size 42 (some ⟨g1, 0, none⟩) (some ⟨gT, 0, none⟩) su0 := by
  obtain ⟨cur, c1, c2, c3⟩ := h.rT
  refine ⟨ints_rep h.r1 (lt_of_block h.r1) (by decide), fun k hk => ?_, by decide, by decide, by decide, by decide, by decide, by decide, by decide⟩
  have hk6 : k < 6 := by simpa [su0, thr0] using hk
  obtain ⟨h', q1, q2, q3⟩ := c3 k hk6 hk6
  have e : su0.thr[k] = nil6 := List.getElem_replicate ..
  suffices hall : ∀ l, l = nil6 → TC wr 0 wr.heap.size 42 (some ⟨gT, 0, none⟩) k l from hall _ e
  rintro l rfl
  refine ⟨⟨gT, 0, none⟩, some ⟨h', 0, none⟩, 6, rfl, Nat.zero_le _, lt_of_block c1, ?_, by decide, txs_nil q3 (Nat.zero_le _) (lt_of_block q3)⟩
  rw [row_add, cell_of_row wr gT k _ _ (0, 0) c1]
  exact q1
theorem few0 : FewS su0 := by
  refine ⟨by decide, by decide, fun l hl => ?_, fun l hl x hx => ?_⟩
  · obtain rfl := List.eq_of_mem_replicate hl
    decide
  · obtain rfl := List.eq_of_mem_replicate hl
    obtain rfl := List.eq_of_mem_replicate hx
    exact ⟨by simp, by simp, by simp⟩
theorem ok0 : okF 42 su0 = true := by kernel_rfl
/-- A statement that returns what was returned first. -/
theorem got_lies {w : World} {lo hi g : Nat} (hr : w.heap[g]? = some (.cells #[.int .u8 8, .int .i64 0, .int .u8 3, .int .i64 0, .slice none 0 0, .int .u8 0, .int .i64 0, .slice none 0 0, .slice none 0 0, .slice none 0 0] 39 (0, 0))) (h1 : lo ≤ g) (h2 : g < hi) : SKids w lo hi 42 (some ⟨g, 0, none⟩) [stGot] := fun j hj => by
  obtain rfl : j = 0 := by simpa using hj
  refine ⟨⟨g, 0, none⟩, ⟨8, 0, 3, 0, none, 0, 0, 0, 0, none, 0, 0, none, 0, 0, none, 0, 0⟩, rfl, h1, h2, ?_, ?_⟩
  · rw [row_add]
    exact ⟨cell_of_row w g 0 _ _ (0, 0) hr, cell_of_row w g 1 _ _ (0, 0) hr, cell_of_row w g 2 _ _ (0, 0) hr, cell_of_row w g 3 _ _ (0, 0) hr, cell_of_row w g 4 _ _ (0, 0) hr, cell_of_row w g 5 _ _ (0, 0) hr, cell_of_row w g 6 _ _ (0, 0) hr, cell_of_row w g 7 _ _ (0, 0) hr, cell_of_row w g 8 _ _ (0, 0) hr, cell_of_row w g 9 _ _ (0, 0) hr⟩
  · refine ⟨⟨rfl, rfl, rfl, rfl⟩, ⟨by decide, by decide, by decide, by decide, by decide⟩, ?_, ?_, fun j h => absurd h (by simp), fun j h => absurd h (by simp)⟩
    · exact ⟨by decide, by decide, by decide, by decide, none, 0, rfl, fun k h => absurd h (by simp)⟩
    · exact ⟨by decide, by decide, by decide, by decide, none, 0, rfl, fun k h => absurd h (by simp)⟩
/-- A thread of nothing, with one transaction put in. -/
theorem txs_one {w w' : World} {lo hi d gB m : Nat} {S : Nat → Prop} {xs : Array Value} {t : TypeId} {A : Option Addr} {c : Nat} {x : List St} (h : TxsS w S d (some ⟨gB, 0, none⟩) nil6) (hr : w.heap[gB]? = some (.cells xs t (0, 0))) (h6 : 6 ≤ xs.size) (h1 : lo ≤ gB) (h2 : gB < hi) (hm : m < 6)
    (hr' : w'.heap[gB]? = some (.cells (xs.setIfInBounds m (.slice A x.length c)) t (0, 0))) (hx : SKids w' lo hi d A x) (hl : x.length ≤ 9223372036854775807) : Txs w' lo hi d (some ⟨gB, 0, none⟩) (nil6.set m x) := fun k hk => by
  have hk6 : k < 6 := by simpa [nil6] using hk
  by_cases hkm : k = m
  · subst hkm
    rw [List.getElem_set_self]
    refine ⟨⟨gB, 0, none⟩, A, c, rfl, h1, h2, ?_, hl, hx⟩
    rw [row_add, cell_of_row w' gB k _ _ (0, 0) hr', Array.getElem?_setIfInBounds_self_of_lt (by omega)]
  · rw [List.getElem_set_ne (by omega)]
    obtain ⟨p, C, c3, e, _, c1, _, _, _⟩ := h k (by simpa [nil6] using hk6)
    cases e
    have e0 : nil6[k]'(by simpa [nil6] using hk6) = [] := List.getElem_replicate ..
    rw [e0] at c1 ⊢
    rw [row_add, cell_of_row w gB k _ _ (0, 0) hr] at c1
    refine ⟨⟨gB, 0, none⟩, C, c3, rfl, h1, h2, ?_, by simp, fun j h => absurd h (by simp)⟩
    rw [row_add, cell_of_row w' gB k _ _ (0, 0) hr', Array.getElem?_setIfInBounds_ne (by omega)]
    exact c1
def su_more : Su := ⟨32, 1099511627776, 1000, List.replicate 32 0, thr0.set 2 (List.replicate 7 [])⟩
def su_one (m : Nat) : Su := ⟨32, 1099511627776, 1000, List.replicate 32 0, thr0.set 1 (nil6.set m [stGot])⟩
theorem ok_more : okF 42 su_more = false := by kernel_rfl
theorem ok_wrong : okF 42 (su_one 0) = false := by kernel_rfl
theorem ok_later : okF 42 (su_one 1) = true := by kernel_rfl
theorem cost_later : costA 42 (su_one 1).thr = 1 := by kernel_rfl
theorem SuW.rowT {w : World} {lo mid : Nat} {I T : Option Addr} {a : Nat → Nat} (h : SuW w lo mid 42 I T su0 a) : ∃ gT ys, T = some ⟨gT, 0, none⟩ ∧ mid ≤ gT ∧ gT < w.heap.size ∧ w.heap[gT]? = some (.cells ys 33 (0, 0)) ∧ 6 ≤ ys.size := by
  rcases h.row with h0 | ⟨g, xs, e, ⟨h1, h2⟩, h3, h4⟩
  · cases h0
  · exact ⟨g, xs, e, h1, h2, h3, h4⟩
theorem SuW.get1 {w : World} {lo mid gT : Nat} {I : Option Addr} {a : Nat → Nat} (h : SuW w lo mid 42 I (some ⟨gT, 0, none⟩) su0 a) : ∃ gB cB xs, w.cell? ⟨gT, 1, none⟩ = some (.slice (some ⟨gB, 0, none⟩) 6 cB) ∧ 6 ≤ cB ∧ w.heap[gB]? = some (.cells xs 34 (0, 0)) ∧ 6 ≤ xs.size ∧ a 1 ≤ gB ∧ gB < a 2 ∧ ∃ S, TxsS w S 42 (some ⟨gB, 0, none⟩) nil6 := by
  obtain ⟨p, u, e, m1, m2, c1, B, c2, rfl, l1, t1, t2, t3⟩ := h.parts 1 (by decide)
  cases e
  rcases t2 with h0 | ⟨gB, xs, rfl, hS, hr, h6⟩
  · cases h0
  · rw [row_add] at c1
    exact ⟨gB, c2, xs, c1, t3, hr, h6, hS.1.1, hS.1.2, _, t1⟩
theorem SuW.ints {w w' : World} {lo mid d hi : Nat} {I T : Option Addr} {s : Su} {a : Nat → Nat} (h : SuW w lo mid d I T s a) (hw : w.heap.size ≤ hi) (hk : ∀ b, b < mid → w'.heap[b]? = w.heap[b]?) : Ints w' hi I s.init :=
  ⟨h.ini.len, fun k hk' => by
    obtain ⟨p, e, b, c1⟩ := h.ini.cell k hk'
    exact ⟨p, e, by have := h.ms; omega, (World.cell?_of_block (a := p.add k) (by rw [ad_block]; exact hk p.block b)).trans c1⟩⟩
theorem su_more_lies {w w1 : World} {lo mid gT g : Nat} {I : Option Addr} {a : Nat → Nat} (h : SuW w lo mid 42 I (some ⟨gT, 0, none⟩) su0 a) (hb : Below w.heap.size w w1) (hg : w.heap.size ≤ g) (hr : w1.heap[g]? = some (.cells (List.replicate 7 (Value.slice none 0 0)).toArray 34 (0, 0))) :
    SuAt (w1.setCell ⟨gT, 2, none⟩ (.slice (some ⟨g, 0, none⟩) 7 7)) lo w1.heap.size 42 I (some ⟨gT, 0, none⟩) su_more := by
  obtain ⟨gT', ys, e, m1, m2, r1, h6⟩ := h.rowT
  cases e
  have hlm := h.lm
  have r2 := (hb.block gT m2).trans r1
  have r3 := heap_set_same w1 gT 2 (.slice (some ⟨g, 0, none⟩) 7 7) _ _ r2
  have hr' : (w1.setCell ⟨gT, 2, none⟩ (.slice (some ⟨g, 0, none⟩) 7 7)).heap[g]? = some (.cells (List.replicate 7 (Value.slice none 0 0)).toArray 34 (0, 0)) := (heap_set_other w1 gT 2 _ g (by omega)).trans hr
  have hgl := lt_of_block hr
  have hz := hb.size
  refine ⟨h.ints hz fun b hbm => (heap_set_other w1 gT 2 _ b (by omega)).trans (hb.block b (by have := h.ms; omega)), thr_put (fun k hk hne => ?_) ?_, by decide, by decide, by decide, by decide, by decide, by decide, by decide⟩
  · refine h.tc hk hz (fun p e => ?_) fun b h1 h2 h3 => ?_
    · cases e
      rw [row_add, cell_of_row _ gT k _ _ (0, 0) r3, cell_of_row _ gT k _ _ (0, 0) r1, Array.getElem?_setIfInBounds_ne (by omega)]
    · have := h3 _ rfl
      have h4 : b ≠ gT := this
      exact (heap_set_other w1 gT 2 _ b h4).trans (hb.block b (by have := h.ahi (k + 1); omega))
  · refine ⟨⟨gT, 0, none⟩, some ⟨g, 0, none⟩, 7, rfl, by show lo ≤ gT; omega, by show gT < _; omega, ?_, by decide, txs_nil hr' (by omega) hgl⟩
    rw [row_add, cell_of_row _ gT 2 _ _ (0, 0) r3, Array.getElem?_setIfInBounds_self_of_lt (by omega)]
    rfl
theorem su_one_lies {w w1 : World} {lo mid gT gB cB gS m : Nat} {I : Option Addr} {a : Nat → Nat} {xs : Array Value} {S : Nat → Prop} (h : SuW w lo mid 42 I (some ⟨gT, 0, none⟩) su0 a) (hc : w.cell? ⟨gT, 1, none⟩ = some (.slice (some ⟨gB, 0, none⟩) 6 cB)) (hx : w.heap[gB]? = some (.cells xs 34 (0, 0))) (h6 : 6 ≤ xs.size) (a1 : a 1 ≤ gB) (a2 : gB < a 2) (hS : TxsS w S 42 (some ⟨gB, 0, none⟩) nil6) (hm : m < 6)
    (hb : Below w.heap.size w w1) (hg : w.heap.size ≤ gS) (hr : w1.heap[gS]? = some (.cells #[.int .u8 8, .int .i64 0, .int .u8 3, .int .i64 0, .slice none 0 0, .int .u8 0, .int .i64 0, .slice none 0 0, .slice none 0 0, .slice none 0 0] 39 (0, 0))) :
    SuAt (w1.setCell ⟨gB, m, none⟩ (.slice (some ⟨gS, 0, none⟩) 1 1)) lo w1.heap.size 42 I (some ⟨gT, 0, none⟩) (su_one m) := by
  obtain ⟨gT', ys, e, m1, m2, r1, h6'⟩ := h.rowT
  cases e
  have hlm := h.lm
  have hgB := lt_of_block hx
  have hne := ty_ne7 hx r1 (by decide)
  have x2 := (hb.block gB hgB).trans hx
  have x3 := heap_set_same w1 gB m (.slice (some ⟨gS, 0, none⟩) 1 1) _ _ x2
  have hr' := (heap_set_other w1 gB m (.slice (some ⟨gS, 0, none⟩) 1 1) gS (by omega)).trans hr
  have hgl := lt_of_block hr
  have hz := hb.size
  have q2 := h.alo
  have q3 := h.mono 0 1 (by omega)
  have kT := (heap_set_other w1 gB m (.slice (some ⟨gS, 0, none⟩) 1 1) gT (by omega)).trans (hb.block gT m2)
  refine ⟨h.ints hz fun b hbm => (heap_set_other w1 gB m _ b (by omega)).trans (hb.block b (by have := h.ms; omega)), thr_put (fun k hk hk1 => ?_) ?_, by show (thr0.set 1 _).length ≤ _; rw [List.length_set]; decide, by show (-9223372036854775808 : Int) ≤ 32; decide, by show (32 : Int) < 9223372036854775808; decide, by show (-9223372036854775808 : Int) ≤ 1099511627776; decide, by show (1099511627776 : Int) < 9223372036854775808; decide, by show (-9223372036854775808 : Int) ≤ 1000; decide, by show (1000 : Int) < 9223372036854775808; decide⟩
  · refine h.tc hk hz (fun p e => ?_) fun b h1 h2 h3 => ?_
    · cases e
      rw [row_add]
      exact World.cell?_of_block (a := ⟨gT, k, none⟩) kT
    · have hbB : b ≠ gB := by
        rcases Nat.lt_or_ge k 1 with hk0 | hk0
        · obtain rfl : k = 0 := by omega
          have h2' : b < a 1 := h2
          omega
        · have := h.mono 2 k (by omega)
          omega
      exact (heap_set_other w1 gB m _ b hbB).trans (hb.block b (by have := h.ahi (k + 1); omega))
  · refine ⟨⟨gT, 0, none⟩, some ⟨gB, 0, none⟩, cB, rfl, by show lo ≤ gT; omega, by show gT < _; omega, ?_, by rw [List.length_set]; decide, ?_⟩
    · rw [row_add, List.length_set]
      exact (World.cell?_of_block (a := ⟨gT, 1, none⟩) kT).trans hc
    · exact txs_one (x := [stGot]) (c := 1) hS hx h6 (by omega) (by omega) hm x3 (got_lies hr' (by omega) hgl) (by decide)
theorem wpList_mk {tS tE : TypeId} {z : Value} {bytes : Nat} {ops : Array Oper} {rest : List Oper} {o : Oper} {a : Act} {Q : Exit → Act → World → Prop} {w : World} (hu : Tryd.prog.underlying tS = some (.slice tE)) (hinf : (Tryd.prog.info? tE).map (fun i => (i.zero, i.size, i.bytes)) = some (some z, 1, bytes)) (n : Nat) (hb : bytes * n ≤ 281474976710656) (hn : n ≤ 1000) (c : Int) (hc : c = (n : Int)) (hz : (madeCells z.cells (n * 1)).toList = List.replicate n z) (hg : o.guard = none) (ho : o.op = .makeSlice tS (.const (.int .i64 c)) (.const (.int .i64 c)))
    (h : ∀ w', w'.heap[w.heap.size]? = some (.cells (List.replicate n z).toArray tE (0, 0)) → Below w.heap.size w w' → w.heap.size < w'.heap.size → wpList Tryd.prog ops Q rest (a.put o.dst (.slice (some ⟨w.heap.size, 0, none⟩) n n)) w') : wpList Tryd.prog ops Q (o :: rest) a w :=
  wpList_plain hg fun K hK' => nm_make hu hinf n hb hn c hc hz ho fun w' h1 h2 h3 => hK' _ _ (h w' h1 h2 h3)
end Go.Proofs.YtnkdaehmdcpafaaDoor
