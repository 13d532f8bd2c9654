/-
  CONTRACT OF PACKAGE code's Copy, with capacities: what is left has room for its length, in each block (a slice cut ahead, s[1:], asks for it). Conditions: as they stand.
-/
import Derived.Test.YthdcdffdpdoeoaaGreatDoorZv
namespace Go.Proofs.YthdcdffdpdoeoaaGreatDoor
set_option maxRecDepth 100000
open Go.RowKit Go.Deep
set_option linter.unusedVariables false
/-- The data r are the statement s, whose lists lie in blocks from lo on, below hi; no more than d stand in a row. -/
def SAc (w : World) (lo hi : Nat) : Nat → Raw → St → Prop
  | 0, _, _ => False
  | d + 1, r, .node k t a b y e => (r.k = k ∧ r.t = t ∧ r.yl = y.length ∧ r.el = e.length) ∧ (k < 256 ∧ -9223372036854775808 ≤ t ∧ t < 9223372036854775808 ∧ y.length ≤ 9223372036854775807 ∧ e.length ≤ 9223372036854775807 ∧ y.length ≤ r.yc ∧ e.length ≤ r.ec) ∧
      At w lo hi d r.va a ∧ At w lo hi d r.vb b ∧
      (∀ j (h : j < y.length), ∃ p q, r.yA = some p ∧ lo ≤ p.block ∧ p.block < hi ∧ Ten w (p.add (j * 10)) q ∧ SAc w lo hi d q y[j]) ∧
      (∀ j (h : j < e.length), ∃ p q, r.eA = some p ∧ lo ≤ p.block ∧ p.block < hi ∧ Ten w (p.add (j * 10)) q ∧ SAc w lo hi d q e[j])
/-- Where a block's statements lie. -/
def SKc (w : World) (lo hi d : Nat) (A : Option Addr) (l : List St) : Prop := ∀ j (h : j < l.length), ∃ p q, A = some p ∧ lo ≤ p.block ∧ p.block < hi ∧ Ten w (p.add (j * 10)) q ∧ SAc w lo hi d q l[j]
theorem SAc.open_ {w : World} {lo hi d : Nat} {r : Raw} {k : Nat} {t : Int} {a b : Ex} {y e : List St} (h : SAc w lo hi (d + 1) r (.node k t a b y e)) :
    (r.k = k ∧ r.t = t ∧ r.yl = y.length ∧ r.el = e.length) ∧ (k < 256 ∧ -9223372036854775808 ≤ t ∧ t < 9223372036854775808 ∧ y.length ≤ 9223372036854775807 ∧ e.length ≤ 9223372036854775807 ∧ y.length ≤ r.yc ∧ e.length ≤ r.ec) ∧
      At w lo hi d r.va a ∧ At w lo hi d r.vb b ∧ SKc w lo hi d r.yA y ∧ SKc w lo hi d r.eA e := h
theorem SAc.keep {w w' : World} {lo hi : Nat} (hk : ∀ p : Addr, lo ≤ p.block → p.block < hi → w'.cell? p = w.cell? p) : ∀ (d : Nat) {r : Raw} {s : St}, SAc w lo hi d r s → SAc w' lo hi d r s := by
  intro d
  induction d with
  | zero => intro r s h; exact h
  | succ d ih =>
    intro r s h
    obtain ⟨k, t, a, b, y, e⟩ := s
    obtain ⟨h1, h2, ha, hb, hy, he⟩ := h
    refine ⟨h1, h2, ha.keep hk d, hb.keep hk d, fun j hj => ?_, fun j hj => ?_⟩
    · obtain ⟨p, q, e1, m1, m2, t1, s1⟩ := hy j hj
      exact ⟨p, q, e1, m1, m2, t1.keep fun z hz => hk z (by rw [hz, ad_block]; exact m1) (by rw [hz, ad_block]; exact m2), ih s1⟩
    · obtain ⟨p, q, e1, m1, m2, t1, s1⟩ := he j hj
      exact ⟨p, q, e1, m1, m2, t1.keep fun z hz => hk z (by rw [hz, ad_block]; exact m1) (by rw [hz, ad_block]; exact m2), ih s1⟩
theorem SAc.below {w w' : World} {lo hi B d : Nat} {r : Raw} {s : St} (h : SAc w lo hi d r s) (hb : Below B w w') (hB : hi ≤ B) : SAc w' lo hi d r s :=
  h.keep (fun p _ hp => hb.cell (by omega)) d
theorem SKc.below {w w' : World} {lo hi B d : Nat} {A : Option Addr} {l : List St} (h : SKc w lo hi d A l) (hb : Below B w w') (hB : hi ≤ B) : SKc w' lo hi d A l := fun j hj => by
  obtain ⟨p, q, e1, m1, m2, t1, s1⟩ := h j hj
  exact ⟨p, q, e1, m1, m2, t1.below hb (by rw [ad_block]; omega), s1.below hb hB⟩
theorem SAc.wide {w : World} {lo hi lo' hi' : Nat} (hl : lo' ≤ lo) (hh : hi ≤ hi') : ∀ (d : Nat) {r : Raw} {s : St}, SAc w lo hi d r s → SAc w lo' hi' d r s := by
  intro d
  induction d with
  | zero => intro r s h; exact h
  | succ d ih =>
    intro r s h
    obtain ⟨k, t, a, b, y, e⟩ := s
    obtain ⟨h1, h2, ha, hb, hy, he⟩ := h
    refine ⟨h1, h2, ha.wide hl hh d, hb.wide hl hh d, fun j hj => ?_, fun j hj => ?_⟩
    · obtain ⟨p, q, e1, m1, m2, t1, s1⟩ := hy j hj
      exact ⟨p, q, e1, by omega, by omega, t1, ih s1⟩
    · obtain ⟨p, q, e1, m1, m2, t1, s1⟩ := he j hj
      exact ⟨p, q, e1, by omega, by omega, t1, ih s1⟩
theorem SKc.wide {w : World} {lo hi lo' hi' d : Nat} {A : Option Addr} {l : List St} (h : SKc w lo hi d A l) (hl : lo' ≤ lo) (hh : hi ≤ hi') : SKc w lo' hi' d A l := fun j hj => by
  obtain ⟨p, q, e1, m1, m2, t1, s1⟩ := h j hj
  exact ⟨p, q, e1, by omega, by omega, t1, s1.wide hl hh d⟩
theorem SKc.nil (w : World) (lo hi d : Nat) (A : Option Addr) : SKc w lo hi d A [] := fun j hj => absurd hj (by simp)
theorem SAc.plain {w : World} {lo hi : Nat} : ∀ (d : Nat) {r : Raw} {s : St}, SAc w lo hi d r s → SAt w lo hi d r s := by
  intro d
  induction d with
  | zero => intro r s h; exact h
  | succ d ih =>
    intro r s h
    obtain ⟨k, t, a, b, y, e⟩ := s
    obtain ⟨h1, ⟨h2, h3, h4, h5, h6, _, _⟩, ha, hb, hy, he⟩ := h
    refine ⟨h1, ⟨h2, h3, h4, h5, h6⟩, ha, hb, fun j hj => ?_, fun j hj => ?_⟩
    · obtain ⟨p, q, e1, m1, m2, t1, s1⟩ := hy j hj
      exact ⟨p, q, e1, m1, m2, t1, ih s1⟩
    · obtain ⟨p, q, e1, m1, m2, t1, s1⟩ := he j hj
      exact ⟨p, q, e1, m1, m2, t1, ih s1⟩
theorem SKc.plain {w : World} {lo hi d : Nat} {A : Option Addr} {l : List St} (h : SKc w lo hi d A l) : SKids w lo hi d A l := fun j hj => by
  obtain ⟨p, q, e1, m1, m2, t1, s1⟩ := h j hj
  exact ⟨p, q, e1, m1, m2, t1, s1.plain d⟩
/-- What Clone leaves: nothing, or a row of its own with the same cells. -/
def Cloned9 (Q : Nat → Raw) (n : Nat) (w : World) (e : Ending) (w' : World) : Prop := ∃ A cap, e = .returned (.slice A n cap) ∧ n ≤ cap ∧ Below w.heap.size w w' ∧
  (n = 0 ∨ ∃ g cur, A = some ⟨g, 0, none⟩ ∧ w.heap.size ≤ g ∧ w'.heap[g]? = some (.cells cur 43 (0, 0)) ∧ n * 10 ≤ cur.size ∧ ∀ j, j < n * 10 → cur[j]? = (rowOf Q n)[j]?)
theorem cloned9_of {Q : Nat → Raw} {n : Nat} {w w1 w' : World} {v : Value} (h : w'.ownsRow w.heap.size 43 10 v n (rowOf Q n)) (hb : Below w.heap.size w w') : Cloned9 Q n w (.returned v) w' := by
  obtain ⟨_, ⟨rfl, rfl⟩ | ⟨g, cap, cur, rfl, hg, hr, hc, hm, hs, ht⟩⟩ := h
  · exact ⟨none, 0, rfl, Nat.le_refl _, hb, .inl rfl⟩
  · refine ⟨some ⟨g, 0, none⟩, cap, rfl, hc, hb, .inr ⟨g, cur, rfl, hg, hr, by rw [hs]; exact Nat.mul_le_mul_right _ hc, fun j hj => ?_⟩⟩
    rw [← ht, List.getElem?_take_of_lt hj]
    simp
set_option maxRecDepth 100000 in
theorem clone9_any (Q : Nat → Raw) (n : Nat) (hn : n ≤ 100000) (A : Option Addr) (c : Nat) (w : World) (h : ∀ k, k < n → ∃ p, A = some p ∧ Ten w (p.add (k * 10)) (Q k)) :
    Calls Tryz.prog 60 #[.slice A n c] w (Cloned9 Q n w) := by
  cases A with
  | none =>
    obtain rfl : n = 0 := by
      rcases Nat.eq_zero_or_pos n with h0 | h0
      · exact h0
      · obtain ⟨p, hp, _⟩ := h 0 h0
        cases hp
    have heq := eql_sl none
    clear h
    go_enter Tryz.func60, Tryz.ntmps60
    go_wp2_with fail
    go_ret
    exact ⟨none, 0, rfl, Nat.le_refl _, Below.refl _ _, .inl rfl⟩
  | some p =>
    have heq := eql_sl (some p)
    have hb0 : Below w.heap.size w (w.alloc (.cells #[] 43)) := (Below.refl _ _).alloc (Nat.le_refl _) _
    have hT : ∀ k, k < n → Ten (w.alloc (.cells #[] 43)) (p.add (k * 10)) (Q k) := fun k hk => by
      obtain ⟨p', hp, ht⟩ := h k hk
      cases hp
      exact ht.below hb0 (there_blk ht.c0)
    have hown := World.ownsRow_made (e := 43) (base := w.heap.size) (size := 10) w #[] 0 (Nat.le_refl _) (by unfold maxLen; omega) rfl
    have HN := Lib.hid (row_news hT)
    have HOWN := Lib.hid hown
    have HB := Lib.hid hb0
    obtain ⟨i0, hi0, hz0, hz1, hz2⟩ := info_parts stmt_info
    clear h hT hb0 hown
    go_enter Tryz.func60, Tryz.ntmps60
    go_wp2_with (first
      | (at_builtin; refine wpList_append_own _ rfl _ _ 41 rfl w.heap.size 43 i0 _ 10 144 Tryz.underlying41 hi0 hz0 hz1 hz2 rfl (by decide) _ 0 [] rfl HOWN.out p n c (rowOf Q n) rfl (rowOf_len Q n) HN.out (rowOf_one Q n) (by unfold maxLen; omega) (by omega) (by simp) ?_; intro v' w' hown' hgrow hnil)
      | fail)
    rw [Nat.zero_add, List.nil_append] at hown'
    have hbl : Below w.heap.size w w' := HB.out.grown hgrow (by simp) (fun k e => by
      have h9 : some k = some w.heap.size := e.symm
      cases h9
      exact Nat.le_refl _)
    go_ret
    exact cloned9_of (w1 := w) hown' hbl
theorem Kg.sac {g lo hi d : Nat} {X Y : World} {r : Raw} {s : St} (k : Kg g X Y) (h : SAc X lo hi d r s) (hl : g < lo) (hh : hi ≤ X.heap.size) : SAc Y lo hi d r s :=
  h.keep (fun p p1 p2 => World.cell?_of_block (k.block p.block (by omega) (by omega))) d
theorem Kg.kic {g lo hi d : Nat} {X Y : World} {A : Option Addr} {l : List St} (k : Kg g X Y) (h : SKc X lo hi d A l) (hl : g < lo) (hh : hi ≤ X.heap.size) : SKc Y lo hi d A l := fun j hj => by
  obtain ⟨p, q, e1, m1, m2, t1, s1⟩ := h j hj
  exact ⟨p, q, e1, m1, m2, t1.keep (fun z hz => World.cell?_of_block (k.block z.block (by rw [hz, ad_block]; omega) (by rw [hz, ad_block]; omega))), k.sac s1 hl hh⟩
/-- How things are behind k statements. -/
structure CIS9 (w : World) (g : Nat) (tx : List St) (d : Nat) (Q : Nat → Raw) (k : Nat) (xs : Array Value) (wr : World) : Prop where
  row : wr.heap[g]? = some (.cells xs 43 (0, 0))
  len : tx.length * 10 ≤ xs.size
  old : ∀ j, k ≤ j → j < tx.length → ∀ i, i < 10 → xs[j * 10 + i]? = (Q j).cells[i]?
  parts : ∀ j, j < k → ∀ (h : j < tx.length), ∃ r, (∀ i, i < 10 → xs[j * 10 + i]? = r.cells[i]?) ∧ SAc wr (g + 1) wr.heap.size (d + 1) r tx[j]
  low : Below w.heap.size w wr
  ge : w.heap.size ≤ g
theorem CIS9.lt {w : World} {g : Nat} {tx : List St} {d : Nat} {Q : Nat → Raw} {k : Nat} {xs : Array Value} {wr : World} (h : CIS9 w g tx d Q k xs wr) : g < wr.heap.size := (Array.getElem?_eq_some_iff.1 h.row).1
theorem CIS9.step {w : World} {g : Nat} {tx : List St} {d : Nat} {Q : Nat → Raw} {k : Nat} {xs xs' : Array Value} {wr W9 : World} {r : Raw} (inv : CIS9 w g tx d Q k xs wr) (hk : k < tx.length) (kp : Kg g wr W9) (low : Below w.heap.size w W9)
    (row : W9.heap[g]? = some (.cells xs' 43 (0, 0))) (hs : xs'.size = xs.size) (hfar : ∀ i, (i < k * 10 ∨ k * 10 + 10 ≤ i) → xs'[i]? = xs[i]?) (hnew : ∀ i, i < 10 → xs'[k * 10 + i]? = r.cells[i]?) (hr : SAc W9 (g + 1) W9.heap.size (d + 1) r tx[k]) :
    CIS9 w g tx d Q (k + 1) xs' W9 := by
  refine ⟨row, by rw [hs]; exact inv.len, fun j hj hjl i hi => ?_, fun j hj h => ?_, low, inv.ge⟩
  · rw [hfar _ (by omega)]
    exact inv.old j (by omega) hjl i hi
  · by_cases hjk : j < k
    · obtain ⟨r', h1, h2⟩ := inv.parts j hjk h
      exact ⟨r', fun i hi => by rw [hfar _ (by omega)]; exact h1 i hi, (kp.sac h2 (by omega) (Nat.le_refl _)).wide (Nat.le_refl _) kp.size _⟩
    · obtain rfl : j = k := by omega
      exact ⟨r, hnew, hr⟩
theorem CIS9.done {w : World} {g : Nat} {tx : List St} {d : Nat} {Q : Nat → Raw} {xs : Array Value} {wr : World} (inv : CIS9 w g tx d Q tx.length xs wr) : SKc wr w.heap.size wr.heap.size (d + 1) (some ⟨g, 0, none⟩) tx := fun j hj => by
  obtain ⟨r, h1, h2⟩ := inv.parts j hj hj
  have hg := inv.ge
  refine ⟨⟨g, 0, none⟩, r, rfl, inv.ge, inv.lt, ?_, h2.wide (by omega) (Nat.le_refl _) _⟩
  rw [row_add]
  exact ten_row inv.row h1
theorem CIS9.rowx {w : World} {g : Nat} {tx : List St} {d : Nat} {Q : Nat → Raw} {k : Nat} {xs : Array Value} {wr : World} (inv : CIS9 w g tx d Q k xs wr) : RowX wr (fun b => w.heap.size ≤ b ∧ b < wr.heap.size) (some ⟨g, 0, none⟩) tx.length :=
  Or.inr ⟨g, xs, rfl, ⟨inv.ge, inv.lt⟩, inv.row, inv.len⟩
/-- What Copy leaves. -/
def CopiedS9 (w : World) (d : Nat) (tx : List St) (e : Ending) (w' : World) : Prop := ∃ A cap, e = .returned (.slice A tx.length cap) ∧ tx.length ≤ cap ∧ SKc w' w.heap.size w'.heap.size d A tx ∧ Below w.heap.size w w' ∧ RowX w' (fun b => w.heap.size ≤ b ∧ b < w'.heap.size) A tx.length
set_option maxRecDepth 100000 in
set_option maxHeartbeats 8000000 in
theorem codecopy9_any (d : Nat) : ∀ (A : Option Addr) (c : Nat) (tx : List St) (lo hi : Nat) (w : World), SKids w lo hi d A tx → hi ≤ w.heap.size → tx.length ≤ 100000 → (∀ s ∈ tx, Sm d s) →
    Calls Tryz.prog 38 #[.slice A tx.length c] w (CopiedS9 w d tx) := by
  induction d with
  | zero =>
    intro A c tx lo hi w hk hhi hl hS
    have h0 : tx = [] := by
      cases tx with
      | nil => rfl
      | cons s r =>
        obtain ⟨p, q, _, _, _, _, hs⟩ := hk 0 (by simp)
        exact hs.elim
    subst h0
    have HC := Lib.hid (clone9_any (fun _ => default) 0 (by omega) A c w (fun k hk => absurd hk (by omega)))
    clear hk hS
    go_enter Tryz.func38, Tryz.ntmps38
    go_wp2_with fail
    refine HC.out.mono ?_
    rintro e w5 ⟨A5, cap5, rfl, hcap5, b5, _⟩
    go_wp2_with fail
    go_loopw [9] (fun i wr => i = .int .i64 0 ∧ wr = w5) (fun i _ => 0)
    case atStart => exact ⟨rfl, rfl⟩
    case round =>
      obtain ⟨rfl, rfl⟩ := hrel
      go_wp2_with fail
      go_ret
      exact ⟨A5, cap5, rfl, Nat.zero_le _, SKc.nil _ _ _ _ _, b5, Or.inl rfl⟩
  | succ d ih =>
    intro A c tx lo hi w hk hhi hl hS
    have hQ : ∃ Q : Nat → Raw, ∀ j, j < tx.length → ∃ p, A = some p ∧ lo ≤ p.block ∧ p.block < hi ∧ Ten w (p.add (j * 10)) (Q j) ∧ ∃ (h : j < tx.length), SAt w lo hi (d + 1) (Q j) tx[j] :=
      choose_lt (p := fun j q => ∃ p, A = some p ∧ lo ≤ p.block ∧ p.block < hi ∧ Ten w (p.add (j * 10)) q ∧ ∃ (h : j < tx.length), SAt w lo hi (d + 1) q tx[j]) fun j hj => by
        obtain ⟨p, q, e1, m1, m2, t1, s1⟩ := hk j hj
        exact ⟨q, p, e1, m1, m2, t1, hj, s1⟩
    obtain ⟨Q, hQ⟩ := hQ
    have HC := Lib.hid (clone9_any Q tx.length hl A c w (fun k hk => by obtain ⟨p, e1, _, _, t1, _⟩ := hQ k hk; exact ⟨p, e1, t1⟩))
    have HQ := Lib.hid (fun j hj => (hQ j hj).imp fun p h => h.2.2.2.2)
    have HS := Lib.hid hS
    have IH := Lib.hid ih
    clear hk hS hQ ih
    go_enter Tryz.func38, Tryz.ntmps38
    go_wp2_with fail
    refine HC.out.mono ?_
    rintro e w5 ⟨A5, cap5, rfl, hcap5, b5, hrow⟩
    rcases Nat.eq_zero_or_pos tx.length with hz | hz
    · obtain rfl := List.eq_nil_of_length_eq_zero hz
      clear hrow HQ HS IH HC
      go_wp2_with fail
      go_loopw [9] (fun i wr => i = .int .i64 0 ∧ wr = w5) (fun i _ => 0)
      case atStart => exact ⟨rfl, rfl⟩
      case round =>
        obtain ⟨rfl, rfl⟩ := hrel
        go_wp2_with fail
        go_ret
        exact ⟨A5, cap5, rfl, Nat.zero_le _, SKc.nil _ _ _ _ _, b5, Or.inl rfl⟩
    obtain ⟨g, cur, rfl, hg, hr, hcs, hcur⟩ := hrow.resolve_left (by omega)
    have HCAP := Lib.hid hcap5
    clear hcap5
    have hI0 : Hid (CIS9 w g tx d Q 0 cur w5) := ⟨hr, hcs, fun j _ hj i hi => by rw [hcur _ (by omega)]; exact rowOf_get Q tx.length j i hj hi, fun j hj => absurd hj (by omega), b5, hg⟩
    clear hrow hr hcs hcur HC
    go_wp2_with fail
    go_loopw [9] (fun i wr => ∃ (k : Nat) (xs : Array Value), k ≤ tx.length ∧ i = .int .i64 k ∧ Hid (CIS9 w g tx d Q k xs wr)) (fun i _ => tx.length - (intOf i).toNat)
    case atStart => exact ⟨0, cur, by omega, rfl, hI0⟩
    case round =>
      obtain ⟨k, xs, hk, rfl, INV⟩ := hrel
      by_cases hlt : k < tx.length
      · have inv := INV.out
        have tr := ten_row inv.row (fun i hi => inv.old k (Nat.le_refl _) hlt i hi)
        obtain ⟨_, hlt', hs⟩ := HQ.out k hlt
        have hSm := HS.out _ (List.getElem_mem hlt)
        have hlow := inv.low
        have hgl := inv.lt
        have hsw := hs.below hlow hhi
        obtain ⟨s, hsx⟩ : ∃ s, s = tx[k] := ⟨_, rfl⟩
        rw [← hsx] at hsw hSm
        obtain ⟨sk, st, sa, sb, sy, se⟩ := s
        obtain ⟨⟨e1, e2, e3, e4⟩, ⟨q1, q2, q3, q4, q5⟩, ha, hb, hy, he⟩ := hsw.open_
        obtain ⟨m1, m2, m3, m4, m5, m6⟩ := hSm
        obtain ⟨q, hq⟩ : ∃ q, q = Q k := ⟨_, rfl⟩
        rw [← hq] at tr e1 e2 e3 e4 ha hb hy he
        have holdk := fun i hi => inv.old k (Nat.le_refl _) hlt i hi
        rw [← hq] at holdk
        obtain ⟨rk, rt, rao, ran, raA, ral, rac, rbo, rbn, rbA, rbl, rbc, ryA, ryl, ryc, reA, rel, r9c⟩ := q
        dsimp only at e1 e2 e3 e4 hy he
        subst e1 e2 e3 e4
        have g0 := tr.c0
        have g1 := tr.c1
        have g2 := tr.c2
        have g3 := tr.c3
        have g4 := tr.c4
        have g5 := tr.c5
        have g6 := tr.c6
        have g7 := tr.c7
        have g8 := tr.c8
        have g9 := tr.c9
        dsimp only at g0 g1 g2 g3 g4 g5 g6 g7 g8 g9
        have i1 : (0 : Int) ≤ (k : Int) := by omega
        have i2 : (k : Int) < (tx.length : Int) := by omega
        have HH := Lib.hid (And.intro ha (And.intro hb (And.intro hy (And.intro he (And.intro m1 (And.intro m2 (And.intro m3 (And.intro m4 (And.intro m5 m6)))))))))
        have HX := Lib.hid hsx
        have HO := Lib.hid holdk
        have HQQ := Lib.hid (And.intro q1 (And.intro q2 q3))
        have HL := Lib.hid (And.intro hlow hgl)
        clear ha hb hy he m1 m2 m3 m4 m5 m6 hsx hsw hs hq inv tr holdk q1 q2 q3 hlow hgl
        go_upto_region 5 with fail
        clear g0 g1 g2 g3 g4 g5 g6 g7 g8 g9
        obtain ⟨W4, hW4⟩ : ∃ W4, W4 = wr.alloc (.cells #[.int .u8 rk, .int .i64 rt, .int .u8 rao, .int .i64 ran, .slice raA ral rac, .int .u8 rbo, .int .i64 rbn, .slice rbA rbl rbc, .slice ryA sy.length ryc, .slice reA se.length r9c] 43) := ⟨_, rfl⟩
        have b4 : Below wr.heap.size wr W4 := by rw [hW4]; exact ten_below wr ⟨rk, rt, rao, ran, raA, ral, rac, rbo, rbn, rbA, rbl, rbc, ryA, sy.length, ryc, reA, se.length, r9c⟩
        have z4 : W4.heap.size = wr.heap.size + 1 := by rw [hW4]; simp
        have t4 : Ten W4 ⟨wr.heap.size, 0, none⟩ ⟨rk, rt, rao, ran, raA, ral, rac, rbo, rbn, rbA, rbl, rbc, ryA, sy.length, ryc, reA, se.length, r9c⟩ := by rw [hW4]; exact Ten.new wr ⟨rk, rt, rao, ran, raA, ral, rac, rbo, rbn, rbA, rbl, rbc, ryA, sy.length, ryc, reA, se.length, r9c⟩
        rw [← hW4]
        clear hW4
        obtain ⟨hlow, hgl⟩ := HL.out
        have hz := hlow.size
        have low4 := hlow.trans (b4.mono hlow.size)
        have HA := Lib.hid (fun (W' : World) (h' : Below W4.heap.size W4 W') => (copy_any d sa _ lo hi W' (HH.out.1.below (b4.trans (h'.mono b4.size)) (by omega)) (by have := h'.size; omega) HH.out.2.2.2.2.1).mono fun z w' (hz : Copied W' d sa z w') => (show ∃ v, z = .returned v ∧ At w' (g + 1) w'.heap.size d v sa ∧ Below W4.heap.size W4 w' from by
          obtain ⟨v, h1, h2, h3⟩ := hz
          exact ⟨v, h1, h2.wide (by have := h'.size; omega) (Nat.le_refl _) d, h'.trans (h3.mono h'.size)⟩))
        have HB := Lib.hid (fun (W' : World) (h' : Below W4.heap.size W4 W') => (copy_any d sb _ lo hi W' (HH.out.2.1.below (b4.trans (h'.mono b4.size)) (by omega)) (by have := h'.size; omega) HH.out.2.2.2.2.2.1).mono fun z w' (hz : Copied W' d sb z w') => (show ∃ v, z = .returned v ∧ At w' (g + 1) w'.heap.size d v sb ∧ Below W4.heap.size W4 w' ∧ Below W'.heap.size W' w' from by
          obtain ⟨v, h1, h2, h3⟩ := hz
          exact ⟨v, h1, h2.wide (by have := h'.size; omega) (Nat.le_refl _) d, h'.trans (h3.mono h'.size), h3⟩))
        have HROW := Lib.hid (fun (W' : World) (h' : Below W4.heap.size W4 W') => (h'.block g (by omega)).trans ((b4.block g hgl).trans INV.out.row))
        have HLEN : Hid (k * 10 + 10 ≤ xs.size) := by have := INV.out.len; show _ ≤ _; omega
        have HKEEP := Lib.hid (fun (w' : World) (h' : Below W4.heap.size W4 w') => t4.below h' (by show wr.heap.size < _; omega))
        have HT4 := Lib.hid t4
        have HB4 := Lib.hid (And.intro b4 (And.intro z4 low4))
        have f2 := t4.c2
        have f3 := t4.c3
        have f4 := t4.c4
        have f5 := t4.c5
        have f6 := t4.c6
        have f7 := t4.c7
        dsimp only at f2 f3 f4 f5 f6 f7
        rw [Nat.zero_add] at f2 f3 f4 f5 f6 f7
        have hS := Lib.hid (fun (w' X : World) (h' : Below W4.heap.size W4 w') (hx : Bg g w' X) => (show X.cell? ⟨wr.heap.size, 2, none⟩ = some (.int .u8 rao) ∧ X.cell? ⟨wr.heap.size, 3, none⟩ = some (.int .i64 ran) ∧ X.cell? ⟨wr.heap.size, 4, none⟩ = some (.slice raA ral rac) ∧ X.cell? ⟨wr.heap.size, 5, none⟩ = some (.int .u8 rbo) ∧ X.cell? ⟨wr.heap.size, 6, none⟩ = some (.int .i64 rbn) ∧ X.cell? ⟨wr.heap.size, 7, none⟩ = some (.slice rbA rbl rbc) from by
          have hc : ∀ i, X.cell? ⟨wr.heap.size, i, none⟩ = W4.cell? ⟨wr.heap.size, i, none⟩ := fun i => (World.cell?_of_block (a := ⟨wr.heap.size, i, none⟩) (hx wr.heap.size (by omega))).trans (h'.cell (p := ⟨wr.heap.size, i, none⟩) (by show wr.heap.size < _; omega))
          exact ⟨(hc 2).trans f2, (hc 3).trans f3, (hc 4).trans f4, (hc 5).trans f5, (hc 6).trans f6, (hc 7).trans f7⟩))
        have E0 := Lib.hid (hS.out W4 W4 (Below.refl _ _) (Bg.refl _ _))
        have E1 := Lib.hid (hS.out W4.drew W4.drew (Below.refl _ _).drew (Bg.refl _ _))
        have hne : g ≠ wr.heap.size := by omega
        have hne' : wr.heap.size ≠ g := by omega
        clear hlow hgl hz low4 b4 z4 t4
        go_region_held3 (fun w' => w'.cell? ⟨wr.heap.size, 2, none⟩ = some (.int .u8 rao) ∧ w'.cell? ⟨wr.heap.size, 3, none⟩ = some (.int .i64 ran) ∧ w'.cell? ⟨wr.heap.size, 4, none⟩ = some (.slice raA ral rac) ∧ w'.cell? ⟨wr.heap.size, 5, none⟩ = some (.int .u8 rbo) ∧ w'.cell? ⟨wr.heap.size, 6, none⟩ = some (.int .i64 rbn) ∧ w'.cell? ⟨wr.heap.size, 7, none⟩ = some (.slice rbA rbl rbc))
          (first | exact E0.out | exact E1.out | exact hS.out _ _ b7 (Bg.refl _ _) | go_keep)
          (first
            | (go_at_call 61; refine (HB.out w7 b7).mono ?_; clear HA HB f2 f3 f4 f5 f6 f7; rintro z w8 ⟨v8, rfl, hA8, b8, b78⟩; obtain ⟨e2, e3, e4, e5, e6, e7⟩ := hS.out w8 w8 b8 (Bg.refl _ _); have hA7' := (hA7.below b78 (Nat.le_refl _)).wide (Nat.le_refl _) b78.size d; clear b7 b78 hA7 hS; obtain ⟨x8, y8, z8, rfl⟩ := boxed_at hA8; obtain ⟨o8, n8, A8, l8, c8, rfl, rfl, rfl⟩ := hA8.form; obtain ⟨fz, s0, s1, s2, s3, s4, s5, d0, d1, d2, d3, d4, d5⟩ := row_six (HROW.out w8 b8) HLEN.out (.int .u8 o7) (.int .i64 n7) (.slice A7 l7 c7) (.int .u8 o8) (.int .i64 n8))
            | (go_at_call 61; refine (HA.out W4.drew (Below.refl _ _).drew).mono ?_; rintro z w7 ⟨v7, rfl, hA7, b7⟩; clear E0 E1; obtain ⟨x7, y7, z7, rfl⟩ := boxed_at hA7; obtain ⟨o7, n7, A7, l7, c7, rfl, rfl, rfl⟩ := hA7.form)
            | fail)
        obtain ⟨hlow, hgl⟩ := HL.out
        obtain ⟨b4, z4, low4⟩ := HB4.out
        have hge := INV.out.ge
        have hz := hlow.size
        obtain ⟨W7, hW7⟩ : ∃ W7, W7 = (((((w8.setCell ⟨g, k * 10 + 2, none⟩ (.int .u8 o7)).setCell ⟨g, k * 10 + 2 + 1, none⟩ (.int .i64 n7)).setCell ⟨g, k * 10 + 2 + 2, none⟩ (.slice A7 l7 c7)).setCell ⟨g, k * 10 + 5, none⟩ (.int .u8 o8)).setCell ⟨g, k * 10 + 5 + 1, none⟩ (.int .i64 n8)).setCell ⟨g, k * 10 + 5 + 2, none⟩ (.slice A8 l8 c8) := ⟨_, rfl⟩
        have row8 := HROW.out w8 b8
        have row7 := heap_set_same _ g (k * 10 + 5 + 2) (.slice A8 l8 c8) _ _ (heap_set_same _ g (k * 10 + 5 + 1) (.int .i64 n8) _ _ (heap_set_same _ g (k * 10 + 5) (.int .u8 o8) _ _ (heap_set_same _ g (k * 10 + 2 + 2) (.slice A7 l7 c7) _ _ (heap_set_same _ g (k * 10 + 2 + 1) (.int .i64 n7) _ _ (heap_set_same w8 g (k * 10 + 2) (.int .u8 o7) _ _ row8)))))
        have k7 : Kg g w8 W7 := by rw [hW7]; exact (((((Kg.set _).trans (Kg.set _)).trans (Kg.set _)).trans (Kg.set _)).trans (Kg.set _)).trans (Kg.set _)
        have l7' : Below w.heap.size w8 W7 := by rw [hW7]; exact ((((((Below.refl _ w8).setCell (p := ⟨g, _, none⟩) hge _).setCell (p := ⟨g, _, none⟩) hge _).setCell (p := ⟨g, _, none⟩) hge _).setCell (p := ⟨g, _, none⟩) hge _).setCell (p := ⟨g, _, none⟩) hge _).setCell (p := ⟨g, _, none⟩) hge _
        have z7 : W7.heap.size = w8.heap.size := by rw [hW7]; simp
        have bg7 : Bg g w8 W7 := by rw [hW7]; exact (Bg.refl _ _).set.set.set.set.set.set
        rw [← hW7] at row7 ⊢
        clear hW7
        have lowr7 : Below w.heap.size wr W7 := ((b4.mono hz).trans (b8.mono low4.size)).trans l7'
        have kr7 : Kg g wr W7 := ((Kg.of_below b4).trans (Kg.of_below b8)).trans k7
        have hA7 := k7.at_ hA7' (by omega) (Nat.le_refl _)
        have hA9 := k7.at_ hA8 (by omega) (Nat.le_refl _)
        rw [← z7] at hA7 hA9
        have z48 := b8.size
        have t7 : Ten W7 ⟨wr.heap.size, 0, none⟩ ⟨rk, rt, rao, ran, raA, ral, rac, rbo, rbn, rbA, rbl, rbc, ryA, sy.length, ryc, reA, se.length, r9c⟩ := (HKEEP.out w8 b8).keep (fun q hq => World.cell?_of_block (bg7 q.block (by rw [hq]; exact hne')))
        have HROW7 := Lib.hid (fun (W' : World) (h' : Below W7.heap.size W7 W') => (h'.block g (by omega)).trans row7)
        have HT7 := Lib.hid (fun (w' : World) (h' : Below W7.heap.size W7 w') => t7.below h' (by show wr.heap.size < _; omega))
        have HY := Lib.hid (fun (W' : World) (h' : Below W7.heap.size W7 W') => (IH.out ryA ryc sy lo hi W' (HH.out.2.2.1.below (lowr7.trans (h'.mono (by omega))) (by omega)) (by have := h'.size; omega) HH.out.2.2.2.2.2.2.1 HH.out.2.2.2.2.2.2.2.2.1).mono fun z w' (hz : CopiedS9 W' d sy z w') => (show ∃ A' cap, z = .returned (.slice A' sy.length cap) ∧ sy.length ≤ cap ∧ SKc w' (g + 1) w'.heap.size d A' sy ∧ Below W7.heap.size W7 w' from by
          obtain ⟨A', cap, h1, h0, h2, h3, _⟩ := hz
          exact ⟨A', cap, h1, h0, h2.wide (by have := h'.size; omega) (Nat.le_refl _), h'.trans (h3.mono h'.size)⟩))
        have HE := Lib.hid (fun (W' : World) (h' : Below W7.heap.size W7 W') => (IH.out reA r9c se lo hi W' (HH.out.2.2.2.1.below (lowr7.trans (h'.mono (by omega))) (by omega)) (by have := h'.size; omega) HH.out.2.2.2.2.2.2.2.1 HH.out.2.2.2.2.2.2.2.2.2).mono fun z w' (hz : CopiedS9 W' d se z w') => (show ∃ A' cap, z = .returned (.slice A' se.length cap) ∧ se.length ≤ cap ∧ SKc w' (g + 1) w'.heap.size d A' se ∧ Below W7.heap.size W7 w' ∧ Below W'.heap.size W' w' from by
          obtain ⟨A', cap, h1, h0, h2, h3, _⟩ := hz
          exact ⟨A', cap, h1, h0, h2.wide (by have := h'.size; omega) (Nat.le_refl _), h'.trans (h3.mono h'.size), h3⟩))
        have f8 := t7.c8
        have f9 := t7.c9
        dsimp only at f8 f9
        rw [Nat.zero_add] at f8 f9
        have hS := Lib.hid (fun (w' : World) (h' : Below W7.heap.size W7 w') => (show w'.cell? ⟨wr.heap.size, 8, none⟩ = some (.slice ryA sy.length ryc) ∧ w'.cell? ⟨wr.heap.size, 9, none⟩ = some (.slice reA se.length r9c) from
          ⟨(h'.cell (p := ⟨wr.heap.size, 8, none⟩) (by show wr.heap.size < _; omega)).trans f8, (h'.cell (p := ⟨wr.heap.size, 9, none⟩) (by show wr.heap.size < _; omega)).trans f9⟩))
        have E0 := Lib.hid (hS.out W7 (Below.refl _ _))
        have E1 := Lib.hid (hS.out W7.drew (Below.refl _ _).drew)
        have HLEN7 : Hid (k * 10 + 10 ≤ ((((((xs.setIfInBounds (k * 10 + 2) (.int .u8 o7)).setIfInBounds (k * 10 + 2 + 1) (.int .i64 n7)).setIfInBounds (k * 10 + 2 + 2) (.slice A7 l7 c7)).setIfInBounds (k * 10 + 5) (.int .u8 o8)).setIfInBounds (k * 10 + 5 + 1) (.int .i64 n8)).setIfInBounds (k * 10 + 5 + 2) (.slice A8 l8 c8)).size) := by have := HLEN.out; show _ ≤ _; simpa using this
        have HZZ := Lib.hid (And.intro lowr7 (And.intro kr7 (And.intro hA7 (And.intro hA9 (And.intro z7 (And.intro hlow (And.intro hge hz)))))))
        clear hlow hgl b4 z4 low4 hge hz row8 row7 k7 l7' z7 bg7 lowr7 kr7 hA7 hA9 t7 z48 hA8 hA7' b8 fz d0 d1 d2 d3 d4 d5 e2 e3 e4 e5 e6 e7
        go_upto_region 6 with fail
        go_region_held3 (fun w' => w'.cell? ⟨wr.heap.size, 8, none⟩ = some (.slice ryA sy.length ryc) ∧ w'.cell? ⟨wr.heap.size, 9, none⟩ = some (.slice reA se.length r9c))
          (first | exact E0.out | exact E1.out | exact hS.out _ b9 | go_keep)
          (first
            | (go_at_call 38; refine (HE.out w9 b9).mono ?_; clear HY HE f8 f9; rintro z w10 ⟨A10, c10, rfl, hc10, hA10, b10, b90⟩; obtain ⟨e8, e9⟩ := hS.out w10 b10; obtain ⟨fz, s0, s1, d0, d1⟩ := row_two (HROW7.out w10 b10) HLEN7.out (.slice A9 sy.length c9); have hA9' := ((Kg.of_below (g := g) b90).kic hA9 (by omega) (Nat.le_refl _)).wide (Nat.le_refl _) b90.size; clear b9 b90 hA9 hS)
            | (go_at_call 38; refine (HY.out W7.drew (Below.refl _ _).drew).mono ?_; rintro z w9 ⟨A9, c9, rfl, hc9, hA9, b9⟩; clear E0 E1)
            | fail)
        obtain ⟨lowr7, kr7, hA7, hB7, z7, hlow, hge, hz⟩ := HZZ.out
        have row10 := HROW7.out w10 b10
        have row9 := heap_set_same _ g (k * 10 + 9) (.slice A10 se.length c10) _ _ (heap_set_same w10 g (k * 10 + 8) (.slice A9 sy.length c9) _ _ row10)
        have z10 := b10.size
        have kr9 : Kg g w10 ((w10.setCell ⟨g, k * 10 + 8, none⟩ (.slice A9 sy.length c9)).setCell ⟨g, k * 10 + 9, none⟩ (.slice A10 se.length c10)) := (Kg.set _).trans (Kg.set _)
        have zz : ((w10.setCell ⟨g, k * 10 + 8, none⟩ (.slice A9 sy.length c9)).setCell ⟨g, k * 10 + 9, none⟩ (.slice A10 se.length c10)).heap.size = w10.heap.size := by simp
        have k710 : Kg g W7 w10 := Kg.of_below b10
        have hsat : SAc ((w10.setCell ⟨g, k * 10 + 8, none⟩ (.slice A9 sy.length c9)).setCell ⟨g, k * 10 + 9, none⟩ (.slice A10 se.length c10)) (g + 1) ((w10.setCell ⟨g, k * 10 + 8, none⟩ (.slice A9 sy.length c9)).setCell ⟨g, k * 10 + 9, none⟩ (.slice A10 se.length c10)).heap.size (d + 1) ⟨rk, rt, o7, n7, A7, l7, c7, o8, n8, A8, l8, c8, A9, sy.length, c9, A10, se.length, c10⟩ tx[k] := by
          rw [← HX.out, zz]
          refine ⟨⟨rfl, rfl, rfl, rfl⟩, ⟨HQQ.out.1, HQQ.out.2.1, HQQ.out.2.2, by have := HH.out.2.2.2.2.2.2.1; omega, by have := HH.out.2.2.2.2.2.2.2.1; omega, hc9, hc10⟩, ?_, ?_, ?_, ?_⟩
          · exact ((k710.trans kr9).at_ hA7 (by omega) (Nat.le_refl _)).wide (Nat.le_refl _) z10 d
          · exact ((k710.trans kr9).at_ hB7 (by omega) (Nat.le_refl _)).wide (Nat.le_refl _) z10 d
          · exact kr9.kic hA9' (by omega) (Nat.le_refl _)
          · exact kr9.kic hA10 (by omega) (Nat.le_refl _)
        have hstep := INV.out.step (r := ⟨rk, rt, o7, n7, A7, l7, c7, o8, n8, A8, l8, c8, A9, sy.length, c9, A10, se.length, c10⟩) hlt ((kr7.trans k710).trans kr9) ((((hlow.trans lowr7).trans (b10.mono (by have := lowr7.size; omega))).setCell (p := ⟨g, _, none⟩) hge _).setCell (p := ⟨g, _, none⟩) hge _) row9 (setEight_size xs (k * 10) (.int .u8 o7) (.int .i64 n7) (.slice A7 l7 c7) (.int .u8 o8) (.int .i64 n8) (.slice A8 l8 c8) (.slice A9 sy.length c9) (.slice A10 se.length c10))
          (fun i hi => setEight_far xs (k * 10) _ _ _ _ _ _ _ _ i hi) (fun i hi => setEight_new xs (k * 10) (.int .u8 o7) (.int .i64 n7) (.slice A7 l7 c7) (.int .u8 o8) (.int .i64 n8) (.slice A8 l8 c8) (.slice A9 sy.length c9) (.slice A10 se.length c10) _ _ HLEN.out (HO.out 0 (by omega)) (HO.out 1 (by omega)) i hi) hsat
        have HST := Lib.hid hstep
        clear lowr7 kr7 hA7 hB7 z7 hlow hge hz row10 row9 z10 kr9 zz k710 hsat hstep hA9' hA10 b10 fz d0 d1 e8 e9
        go_wp2_with fail
        go_roundw
        case rel => exact ⟨k + 1, _, by omega, by go_num, HST.out⟩
        case measure => simp [intOf]; omega
      · obtain rfl : k = tx.length := by omega
        have HD := Lib.hid (And.intro INV.out.done (And.intro INV.out.low INV.out.rowx))
        go_wp2_with fail
        go_ret
        exact ⟨_, _, rfl, HCAP.out, HD.out.1, HD.out.2.1, HD.out.2.2⟩
end Go.Proofs.YthdcdffdpdoeoaaGreatDoor
