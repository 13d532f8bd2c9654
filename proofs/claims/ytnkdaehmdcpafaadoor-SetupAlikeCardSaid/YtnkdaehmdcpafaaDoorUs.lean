/-
  CONTRACTS OF LAYER 6: Same of package setup, and of slices' Equal and EqualFunc as it calls them; the memory that was there stays as it was. Conditions: as they stand.
-/
import Derived.Test.YtnkdaehmdcpafaaDoorUm
import Derived.Test.YtnkdaehmdcpafaaDoorZb
import Derived.Test.YtnkdaehmdcpafaaDoorCu
import Derived.Deep.DeepCutAuto
import Derived.Deep.CutBlock
namespace Go.Proofs.YtnkdaehmdcpafaaDoor
open Go.RowKit
set_option linter.unusedVariables false
def sameG {α : Type} (f : α → α → Bool) : List α → List α → Bool
  | [], [] => true
  | a :: r, b :: s => f a b && sameG f r s
  | _, _ => false
theorem sameG_len {α : Type} (f : α → α → Bool) : ∀ (a b : List α), a.length ≠ b.length → sameG f a b = false := by
  intro a
  induction a with
  | nil => intro b h; cases b with
    | nil => exact absurd rfl h
    | cons _ _ => rfl
  | cons x a ih => intro b h; cases b with
    | nil => rfl
    | cons y b => rw [sameG, ih b (by simpa using h), Bool.and_false]
theorem sameG_drop {α : Type} (f : α → α → Bool) (a b : List α) (k : Nat) (ha : k < a.length) (hb : k < b.length) : sameG f (a.drop k) (b.drop k) = (f a[k] b[k] && sameG f (a.drop (k + 1)) (b.drop (k + 1))) := by
  rw [List.drop_eq_getElem_cons ha, List.drop_eq_getElem_cons hb]
  rfl
def sameX (d : Nat) : List St → List St → Bool := sameSL (sameS d)
def sameT (d : Nat) : List (List St) → List (List St) → Bool := sameG (sameX d)
def sameA (d : Nat) : List (List (List St)) → List (List (List St)) → Bool := sameG (sameT d)
def sameU (d : Nat) (s t : Su) : Bool := decide (s.st = t.st) && (decide (s.cl = t.cl) && (decide (s.tr = t.tr) && (decide (s.init = t.init) && sameA d s.thr t.thr)))
set_option maxRecDepth 100000 in
theorem eq_txs (d : Nat) (l m : List (List St)) (A B : Option Addr) (c c' lo hi lo' hi' : Nat) (w : World) (hk : Txs w lo hi d A l) (hk' : Txs w lo' hi' d B m) (hhi : hi ≤ w.heap.size) (hhi' : hi' ≤ w.heap.size) (q4 : l.length ≤ 9223372036854775807) (p4 : m.length ≤ 9223372036854775807) :
    Calls Tryd.prog 55 #[.slice A l.length c, .slice B m.length c', .func (.func 56) #[] #[]] w fun r w' => r = .returned (.bool (sameT d l m)) ∧ Below w.heap.size w w' := by
  have HK := Lib.hid hk
  have HK' := Lib.hid hk'
  have HD := Lib.hid (fun k h1 h2 => sameG_drop (sameX d) l m k h1 h2)
  have HV : Hid (sameT d l m = sameG (sameX d) (l.drop 0) (m.drop 0)) := rfl
  by_cases hlen : l.length = m.length
  · have HEND : Hid (sameG (sameX d) (l.drop l.length) (m.drop l.length) = true) := by
      show _ = _
      rw [List.drop_length, List.drop_eq_nil_of_le (by omega)]
      rfl
    obtain ⟨x, hx⟩ : ∃ x, x = l.length := ⟨_, rfl⟩
    obtain ⟨y, hy⟩ : ∃ y, y = m.length := ⟨_, rfl⟩
    have HX := Lib.hid hx
    have HY := Lib.hid hy
    rw [← hx] at q4 hlen HEND ⊢
    rw [← hy] at p4 hlen ⊢
    clear hk hk' hx hy
    subst hlen
    have i0 : ((x : Int) != (x : Int)) = false := bne_eq_false_iff_eq.2 rfl
    go_enter Tryd.func55, Tryd.ntmps55
    go_wp2_with fail
    go_loopw [17] (fun i wr => ∃ k : Nat, k ≤ x ∧ i = .int .i64 k ∧ Hid (sameT d l m = sameG (sameX d) (l.drop k) (m.drop k)) ∧ Hid (Below w.heap.size w wr)) (fun i _ => x - (intOf i).toNat)
    case atStart => exact ⟨0, by omega, by go_num, HV, Below.refl _ _⟩
    case round =>
      obtain ⟨k, hk, rfl, HW, HB⟩ := hrel
      by_cases hlt : k < x
      · have hlt1 : k < l.length := by have := HX.out; omega
        have hlt2 : k < m.length := by have := HY.out; omega
        obtain ⟨p, C, c2, rfl, m1, m2, f1, l1, hS⟩ := HK.out.below HB.out hhi k hlt1
        obtain ⟨p', C', c3, rfl, m1', m2', f2, l2, hS'⟩ := HK'.out.below HB.out hhi' k hlt2
        have hD := HD.out k hlt1 hlt2
        obtain ⟨u, hu⟩ : ∃ u, u = l[k] := ⟨_, rfl⟩
        obtain ⟨v, hv⟩ : ∃ v, v = m[k] := ⟨_, rfl⟩
        rw [← hu] at f1 l1 hS hD
        rw [← hv] at f2 l2 hS' hD
        have HC := Lib.hid (codesame_of d u v C C' c2 c3 lo hi lo' hi' wr hS hS' (by have := HB.out.size; omega) (by have := HB.out.size; omega) l1 l2)
        obtain ⟨b, hb⟩ : ∃ b, b = sameX d u v := ⟨_, rfl⟩
        rw [← hb] at hD
        have HC2 : Hid (Calls Tryd.prog 56 #[.slice C u.length c2, .slice C' v.length c3] wr fun r w' => r = .returned (.bool b) ∧ Below wr.heap.size wr w') := by
          have := HC.out
          rw [hb]
          exact this
        rw [hD] at HW
        obtain ⟨q1, hq1⟩ : ∃ q, q = u.length := ⟨_, rfl⟩
        obtain ⟨q2, hq2⟩ : ∃ q, q = v.length := ⟨_, rfl⟩
        rw [← hq1] at HC2 f1
        rw [← hq2] at HC2 f2
        have k1 : (k : Int) < (x : Int) := by omega
        clear hD hu hv hS hS' hb hq1 hq2 HC m1 m2 m1' m2' l1 l2
        go_wp2_with fail
        refine HC2.out.mono ?_
        rintro _ w5 ⟨rfl, b5⟩
        have B5 : Hid (Below w.heap.size w w5) := HB.out.trans (b5.mono HB.out.size)
        clear b5
        cases b with
        | false =>
          have HF : Hid (sameT d l m = false) := HW
          go_wp2_with fail
          go_ret
          exact ⟨by rw [HF.out]; rfl, B5.out⟩
        | true =>
          have HF : Hid (sameT d l m = sameG (sameX d) (l.drop (k + 1)) (m.drop (k + 1))) := HW
          go_wp2_with fail
          go_roundw
          case rel => exact ⟨k + 1, by omega, by go_num, HF, B5⟩
          case measure => simp [intOf]; omega
      · have HF : Hid (sameT d l m = true) := by show _ = _; rw [HW.out, show k = x by omega]; exact HEND.out
        go_wp2_with fail
        go_ret
        exact ⟨by rw [HF.out]; rfl, HB.out⟩
  · have HF : Hid (sameT d l m = false) := sameG_len _ _ _ hlen
    obtain ⟨x, hx⟩ : ∃ x, x = l.length := ⟨_, rfl⟩
    obtain ⟨y, hy⟩ : ∃ y, y = m.length := ⟨_, rfl⟩
    rw [← hx] at q4 hlen ⊢
    rw [← hy] at p4 hlen ⊢
    have i0 : ((x : Int) != (y : Int)) = true := bne_iff_ne.2 (by omega)
    clear hk hk' hx hy HK HK' HD HV
    go_enter Tryd.func55, Tryd.ntmps55
    go_wp2_with fail
    go_ret
    exact ⟨by rw [HF.out]; rfl, Below.refl _ _⟩
set_option maxRecDepth 100000 in
theorem same_thread (d : Nat) (l m : List (List St)) (A B : Option Addr) (c c' lo hi lo' hi' : Nat) (w : World) (hk : Txs w lo hi d A l) (hk' : Txs w lo' hi' d B m) (hhi : hi ≤ w.heap.size) (hhi' : hi' ≤ w.heap.size) (q4 : l.length ≤ 9223372036854775807) (p4 : m.length ≤ 9223372036854775807) :
    Calls Tryd.prog 38 #[.slice A l.length c, .slice B m.length c'] w fun r w' => r = .returned (.bool (sameT d l m)) ∧ Below w.heap.size w w' := by
  have HC := Lib.hid (eq_txs d l m A B c c' lo hi lo' hi' w hk hk' hhi hhi' q4 p4)
  obtain ⟨b, hb⟩ : ∃ b, b = sameT d l m := ⟨_, rfl⟩
  rw [← hb] at HC ⊢
  clear hk hk' hb
  go_enter Tryd.func38, Tryd.ntmps38
  go_wp2_with fail
  refine HC.out.mono ?_
  rintro _ w5 ⟨rfl, b5⟩
  go_wp2_with fail
  go_ret
  exact ⟨rfl, b5⟩
set_option maxRecDepth 100000 in
theorem eq_thr (d : Nat) (l m : List (List (List St))) (A B : Option Addr) (c c' lo hi lo' hi' : Nat) (w : World) (hk : Thr w lo hi d A l) (hk' : Thr w lo' hi' d B m) (hhi : hi ≤ w.heap.size) (hhi' : hi' ≤ w.heap.size) (q4 : l.length ≤ 9223372036854775807) (p4 : m.length ≤ 9223372036854775807) :
    Calls Tryd.prog 37 #[.slice A l.length c, .slice B m.length c', .func (.func 38) #[] #[]] w fun r w' => r = .returned (.bool (sameA d l m)) ∧ Below w.heap.size w w' := by
  have HK := Lib.hid hk
  have HK' := Lib.hid hk'
  have HD := Lib.hid (fun k h1 h2 => sameG_drop (sameT d) l m k h1 h2)
  have HV : Hid (sameA d l m = sameG (sameT d) (l.drop 0) (m.drop 0)) := rfl
  by_cases hlen : l.length = m.length
  · have HEND : Hid (sameG (sameT d) (l.drop l.length) (m.drop l.length) = true) := by
      show _ = _
      rw [List.drop_length, List.drop_eq_nil_of_le (by omega)]
      rfl
    obtain ⟨x, hx⟩ : ∃ x, x = l.length := ⟨_, rfl⟩
    obtain ⟨y, hy⟩ : ∃ y, y = m.length := ⟨_, rfl⟩
    have HX := Lib.hid hx
    have HY := Lib.hid hy
    rw [← hx] at q4 hlen HEND ⊢
    rw [← hy] at p4 hlen ⊢
    clear hk hk' hx hy
    subst hlen
    have i0 : ((x : Int) != (x : Int)) = false := bne_eq_false_iff_eq.2 rfl
    go_enter Tryd.func37, Tryd.ntmps37
    go_wp2_with fail
    go_loopw [17] (fun i wr => ∃ k : Nat, k ≤ x ∧ i = .int .i64 k ∧ Hid (sameA d l m = sameG (sameT d) (l.drop k) (m.drop k)) ∧ Hid (Below w.heap.size w wr)) (fun i _ => x - (intOf i).toNat)
    case atStart => exact ⟨0, by omega, by go_num, HV, Below.refl _ _⟩
    case round =>
      obtain ⟨k, hk, rfl, HW, HB⟩ := hrel
      by_cases hlt : k < x
      · have hlt1 : k < l.length := by have := HX.out; omega
        have hlt2 : k < m.length := by have := HY.out; omega
        obtain ⟨p, C, c2, rfl, m1, m2, f1, l1, hS⟩ := HK.out.below HB.out hhi k hlt1
        obtain ⟨p', C', c3, rfl, m1', m2', f2, l2, hS'⟩ := HK'.out.below HB.out hhi' k hlt2
        have hD := HD.out k hlt1 hlt2
        obtain ⟨u, hu⟩ : ∃ u, u = l[k] := ⟨_, rfl⟩
        obtain ⟨v, hv⟩ : ∃ v, v = m[k] := ⟨_, rfl⟩
        rw [← hu] at f1 l1 hS hD
        rw [← hv] at f2 l2 hS' hD
        have HC := Lib.hid (same_thread d u v C C' c2 c3 lo hi lo' hi' wr hS hS' (by have := HB.out.size; omega) (by have := HB.out.size; omega) l1 l2)
        obtain ⟨b, hb⟩ : ∃ b, b = sameT d u v := ⟨_, rfl⟩
        rw [← hb] at hD
        have HC2 : Hid (Calls Tryd.prog 38 #[.slice C u.length c2, .slice C' v.length c3] wr fun r w' => r = .returned (.bool b) ∧ Below wr.heap.size wr w') := by
          have := HC.out
          rw [hb]
          exact this
        rw [hD] at HW
        obtain ⟨q1, hq1⟩ : ∃ q, q = u.length := ⟨_, rfl⟩
        obtain ⟨q2, hq2⟩ : ∃ q, q = v.length := ⟨_, rfl⟩
        rw [← hq1] at HC2 f1
        rw [← hq2] at HC2 f2
        have k1 : (k : Int) < (x : Int) := by omega
        clear hD hu hv hS hS' hb hq1 hq2 HC m1 m2 m1' m2' l1 l2
        go_wp2_with fail
        refine HC2.out.mono ?_
        rintro _ w5 ⟨rfl, b5⟩
        have B5 : Hid (Below w.heap.size w w5) := HB.out.trans (b5.mono HB.out.size)
        clear b5
        cases b with
        | false =>
          have HF : Hid (sameA d l m = false) := HW
          go_wp2_with fail
          go_ret
          exact ⟨by rw [HF.out]; rfl, B5.out⟩
        | true =>
          have HF : Hid (sameA d l m = sameG (sameT d) (l.drop (k + 1)) (m.drop (k + 1))) := HW
          go_wp2_with fail
          go_roundw
          case rel => exact ⟨k + 1, by omega, by go_num, HF, B5⟩
          case measure => simp [intOf]; omega
      · have HF : Hid (sameA d l m = true) := by show _ = _; rw [HW.out, show k = x by omega]; exact HEND.out
        go_wp2_with fail
        go_ret
        exact ⟨by rw [HF.out]; rfl, HB.out⟩
  · have HF : Hid (sameA d l m = false) := sameG_len _ _ _ hlen
    obtain ⟨x, hx⟩ : ∃ x, x = l.length := ⟨_, rfl⟩
    obtain ⟨y, hy⟩ : ∃ y, y = m.length := ⟨_, rfl⟩
    rw [← hx] at q4 hlen ⊢
    rw [← hy] at p4 hlen ⊢
    have i0 : ((x : Int) != (y : Int)) = true := bne_iff_ne.2 (by omega)
    clear hk hk' hx hy HK HK' HD HV
    go_enter Tryd.func37, Tryd.ntmps37
    go_wp2_with fail
    go_ret
    exact ⟨by rw [HF.out]; rfl, Below.refl _ _⟩
set_option maxRecDepth 100000 in
theorem equal_ints (L M : List Int) (A B : Option Addr) (c c' hi hi' : Nat) (w : World) (hA : Ints w hi A L) (hB : Ints w hi' B M) (hhi : hi ≤ w.heap.size) (hhi' : hi' ≤ w.heap.size) :
    Calls Tryd.prog 36 #[.slice A L.length c, .slice B M.length c'] w fun e w' => e = .returned (.bool (decide (L = M))) ∧ Below w.heap.size w w' := by
  have l1 := hA.len
  have l2 := hB.len
  by_cases hl : L.length = M.length
  · have hC := Lib.hid (fun k (h1 : k < L.length) (h2 : k < M.length) => And.intro (hA.cell k h1) (hB.cell k h2))
    have HT := Lib.hid (fun k (hk : k < L.length) => ints_drop (a := L) (b := M) (k := k) hl hk)
    obtain ⟨x, hx⟩ : ∃ x, x = L.length := ⟨_, rfl⟩
    obtain ⟨y, hy⟩ : ∃ y, y = M.length := ⟨_, rfl⟩
    have HX := Lib.hid hx
    have HY := Lib.hid hy
    rw [← hx, ← hy]
    rw [← hx] at l1 hl
    rw [← hy] at hl l2
    have i0 : ((x : Int) != (y : Int)) = false := bne_eq_false_iff_eq.2 (by omega)
    clear hx hy hA hB
    go_enter Tryd.func36, Tryd.ntmps36
    go_wp2_with fail
    go_loopw [13] (fun i wr => ∃ k : Nat, k ≤ x ∧ i = .int .i64 k ∧ Hid (L.take k = M.take k) ∧ Hid (Below w.heap.size w wr)) (fun i _ => x - (intOf i).toNat)
    case atStart => exact ⟨0, by omega, by go_num, rfl, Below.refl _ _⟩
    case round =>
      obtain ⟨k, hk, rfl, HK, hO⟩ := hrel
      by_cases hlt : k < x
      · obtain ⟨⟨p, rfl, m1, d1⟩, ⟨q, rfl, m2, d2⟩⟩ := hC.out k (by have := HX.out; omega) (by have := HY.out; omega)
        have f1 := (hO.out.cell (p := p.add k) (by rw [ad_block]; omega)).trans d1
        have f2 := (hO.out.cell (p := q.add k) (by rw [ad_block]; omega)).trans d2
        have hT := (HT.out k (by have := HX.out; omega) HK.out)
        obtain ⟨u, hu⟩ : ∃ u, u = L[k]'(by have := HX.out; omega) := ⟨_, rfl⟩
        obtain ⟨v, hv⟩ : ∃ v, v = M[k]'(by have := HY.out; omega) := ⟨_, rfl⟩
        rw [← hu] at f1
        rw [← hv] at f2
        rw [← hu, ← hv] at hT
        have HT2 := Lib.hid hT
        clear d1 d2 hu hv hC hT m1 m2
        by_cases huv : u = v
        · have i2 : (u != v) = false := bne_eq_false_iff_eq.2 huv
          have HN : Hid (L.take (k + 1) = M.take (k + 1)) := HT2.out.2 huv
          clear huv
          go_wp2_with fail
          go_quiet (fail)
          go_wp2_with fail
          go_roundw
          case rel => exact ⟨k + 1, by omega, by go_num, HN, hO.out.trans ((drewN_below2 wr _).mono hO.out.size)⟩
          case measure => simp [intOf]; omega
        · have i2 : (u != v) = true := bne_iff_ne.2 huv
          have HN : Hid (L ≠ M) := fun h => huv (HT2.out.1 (by rw [h]))
          clear huv
          go_wp2_with fail
          go_quiet (fail)
          go_wp2_with fail
          go_ret
          exact ⟨by rw [decide_eq_false HN.out]; rfl, hO.out.trans ((drewN_below2 wr _).mono hO.out.size)⟩
      · have HN : Hid (L = M) := by
          have h1 := HK.out
          have h2 := HX.out
          have h3 := HY.out
          rw [List.take_of_length_le (by omega), List.take_of_length_le (by omega)] at h1
          exact h1
        clear HK HT hC
        go_wp2_with fail
        go_ret
        exact ⟨by rw [decide_eq_true HN.out]; rfl, hO.out⟩
  · have HN : Hid (decide (L = M) = false) := decide_eq_false (fun h => hl (by rw [h]))
    obtain ⟨x, hx⟩ : ∃ x, x = L.length := ⟨_, rfl⟩
    obtain ⟨y, hy⟩ : ∃ y, y = M.length := ⟨_, rfl⟩
    rw [← hx, ← hy]
    rw [← hx] at l1 hl
    rw [← hy] at hl l2
    have i0 : ((x : Int) != (y : Int)) = true := bne_iff_ne.2 (by omega)
    clear hx hy hA hB
    go_enter Tryd.func36, Tryd.ntmps36
    go_wp2_with fail
    go_ret
    exact ⟨by rw [HN.out]; rfl, Below.refl _ _⟩
set_option maxRecDepth 100000 in
theorem same_of (st cl tr st' cl' tr' : Int) (I T I' T' : Option Addr) (N M N' M' c c' b b' : Nat) (x1 x2 : Bool) (w : World)
    (he : ∀ W', Below w.heap.size w W' → Calls Tryd.prog 36 #[.slice I N c, .slice I' N' b] W' fun e w' => e = .returned (.bool x1) ∧ Below W'.heap.size W' w')
    (ht : ∀ W', Below w.heap.size w W' → Calls Tryd.prog 37 #[.slice T M c', .slice T' M' b', .func (.func 38) #[] #[]] W' fun e w' => e = .returned (.bool x2) ∧ Below W'.heap.size W' w') :
    Calls Tryd.prog 16 #[.agg #[.int .i64 st, .int .i64 cl, .int .i64 tr, .slice I N c, .slice T M c'], .agg #[.int .i64 st', .int .i64 cl', .int .i64 tr', .slice I' N' b, .slice T' M' b']] w fun e w' => e = .returned (.bool (decide (st = st') && (decide (cl = cl') && (decide (tr = tr') && (x1 && x2))))) ∧ Below w.heap.size w w' := by
  have b0 := sfive_below w st cl tr I N c T M c'
  have n0 := SFive.new w st cl tr I N c T M c'
  have z0 : (w.alloc (.cells #[.int .i64 st, .int .i64 cl, .int .i64 tr, .slice I N c, .slice T M c'] 25)).heap.size = w.heap.size + 1 := by simp
  have b1 := sfive_below (w.alloc (.cells #[.int .i64 st, .int .i64 cl, .int .i64 tr, .slice I N c, .slice T M c'] 25)) st' cl' tr' I' N' b T' M' b'
  have n1 := SFive.new (w.alloc (.cells #[.int .i64 st, .int .i64 cl, .int .i64 tr, .slice I N c, .slice T M c'] 25)) st' cl' tr' I' N' b T' M' b'
  have n0' := n0.below b1 (by omega)
  have hb := b0.trans (b1.mono b0.size)
  obtain ⟨W2, hW2⟩ : ∃ W, W = (w.alloc (.cells #[.int .i64 st, .int .i64 cl, .int .i64 tr, .slice I N c, .slice T M c'] 25)).alloc (.cells #[.int .i64 st', .int .i64 cl', .int .i64 tr', .slice I' N' b, .slice T' M' b'] 25) := ⟨_, rfl⟩
  have z2 : W2.heap.size = w.heap.size + 2 := by rw [hW2]; simp
  rw [← hW2] at n0' n1 hb
  rw [z0] at n1
  have HN := Lib.hid (fun W' (h1 : Below W2.heap.size W2 W') => And.intro (n0'.below h1 (by omega)) (n1.below h1 (by omega)))
  have HB := Lib.hid hb
  have HW2 := Lib.hid (And.intro hW2 z2)
  have HE := Lib.hid he
  have HT := Lib.hid ht
  have c0 := n0'.c0
  have c1 := n0'.c1
  have c2 := n0'.c2
  have c3 := n0'.c3
  have d0 := n1.c0
  have d1 := n1.c1
  have d2 := n1.c2
  have d3 := n1.c3
  clear he ht n0 n1 n0' b0 b1 hb z0 z2 hW2
  go_enter Tryd.func16, Tryd.ntmps16
  go_upto_region 1 with fail
  rw [← HW2.out.1]
  by_cases e1 : st = st'
  case neg =>
    have i1 : (st == st') = false := beq_eq_false_iff_ne.2 e1
    have HF : Hid ((decide (st = st') && (decide (cl = cl') && (decide (tr = tr') && (x1 && x2)))) = false) := by show _ = _; rw [decide_eq_false e1]; rfl
    go_wp2_with fail
    go_ret
    exact ⟨by rw [HF.out]; rfl, HB.out⟩
  have i1 : (st == st') = true := beq_iff_eq.2 e1
  have E1 := Lib.hid e1
  clear e1
  by_cases e2 : cl = cl'
  case neg =>
    have i2 : (cl == cl') = false := beq_eq_false_iff_ne.2 e2
    have HF : Hid ((decide (st = st') && (decide (cl = cl') && (decide (tr = tr') && (x1 && x2)))) = false) := by show _ = _; rw [decide_eq_false e2]; simp
    go_wp2_with fail
    go_ret
    exact ⟨by rw [HF.out]; rfl, HB.out⟩
  have i2 : (cl == cl') = true := beq_iff_eq.2 e2
  have E2 := Lib.hid e2
  clear e2
  by_cases e3 : tr = tr'
  case neg =>
    have i3 : (tr == tr') = false := beq_eq_false_iff_ne.2 e3
    have HF : Hid ((decide (st = st') && (decide (cl = cl') && (decide (tr = tr') && (x1 && x2)))) = false) := by show _ = _; rw [decide_eq_false e3]; simp
    go_wp2_with fail
    go_ret
    exact ⟨by rw [HF.out]; rfl, HB.out⟩
  have i3 : (tr == tr') = true := beq_iff_eq.2 e3
  have HF : Hid ((decide (st = st') && (decide (cl = cl') && (decide (tr = tr') && (x1 && x2)))) = (x1 && x2)) := by
    show _ = _
    rw [decide_eq_true E1.out, decide_eq_true E2.out, decide_eq_true e3]
    rfl
  clear e3
  go_wp2_with fail
  refine (HE.out W2 HB.out).mono ?_
  rintro _ w5 ⟨rfl, b5⟩
  have B5 : Hid (Below w.heap.size w w5) := HB.out.trans (b5.mono HB.out.size)
  have f4 := (HN.out w5 b5).1.c4
  have g4 := (HN.out w5 b5).2.c4
  clear b5 c0 c1 c2 c3 d0 d1 d2 d3
  cases x1 with
  | false =>
    go_wp2_with fail
    go_ret
    exact ⟨by rw [HF.out]; rfl, B5.out⟩
  | true =>
    go_wp2_with fail
    refine (HT.out w5 B5.out).mono ?_
    rintro _ w6 ⟨rfl, b6⟩
    have B6 : Hid (Below w.heap.size w w6) := B5.out.trans (b6.mono B5.out.size)
    clear b6
    go_wp2_with fail
    go_ret
    exact ⟨by rw [HF.out]; rfl, B6.out⟩
theorem same_any6 (d : Nat) (s t : Su) (I T I' T' : Option Addr) (c c' b b' lo hi lo' hi' : Nat) (w : World) (h : SuAt w lo hi d I T s) (h' : SuAt w lo' hi' d I' T' t) (hhi : hi ≤ w.heap.size) (hhi' : hi' ≤ w.heap.size) :
    Calls Tryd.prog 16 #[.agg #[.int .i64 s.st, .int .i64 s.cl, .int .i64 s.tr, .slice I s.init.length c, .slice T s.thr.length c'], .agg #[.int .i64 t.st, .int .i64 t.cl, .int .i64 t.tr, .slice I' t.init.length b, .slice T' t.thr.length b']] w fun e w' => e = .returned (.bool (sameU d s t)) ∧ Below w.heap.size w w' :=
  same_of s.st s.cl s.tr t.st t.cl t.tr I T I' T' _ _ _ _ c c' b b' _ _ w
    (fun W' h1 => equal_ints s.init t.init I I' c b hi hi' W' (h.ini.below h1 hhi) (h'.ini.below h1 hhi') (Nat.le_trans hhi h1.size) (Nat.le_trans hhi' h1.size))
    (fun W' h1 => eq_thr d s.thr t.thr T T' c' b' lo hi lo' hi' W' (h.thr.below h1 hhi) (h'.thr.below h1 hhi') (Nat.le_trans hhi h1.size) (Nat.le_trans hhi' h1.size) h.len h'.len)
end Go.Proofs.YtnkdaehmdcpafaaDoor
