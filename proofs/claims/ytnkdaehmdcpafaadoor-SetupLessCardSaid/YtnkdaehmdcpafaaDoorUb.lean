/-
  CONTRACTS OF LAYER 6: the variables of a stripe, by package setup and by the document's own answer; whether two lists of numbers are the same. Conditions: at most 5000 variables, lists of at most 100000.
-/
import Derived.Test.YtnkdaehmdcpafaaDoorUa
import Derived.Deep.QuietTactic
import Derived.BigQuiet
namespace Go.Proofs.YtnkdaehmdcpafaaDoor
open Go.RowKit
set_option linter.unusedVariables false
/-- What Variables leaves. -/
def Told (w : World) (a s n : Int) (e : Ending) (w' : World) : Prop := ∃ A c, e = .returned (.tuple #[.slice A (varsF a s n).length c, .int .i64 (varsE a s n)]) ∧ Ints w' w'.heap.size A (varsF a s n) ∧ (∀ p, A = some p → w.heap.size ≤ p.block) ∧ Below w.heap.size w w'
theorem Told.no {w : World} {a s n : Int} (h : s < 1 ∨ n < 1 ∨ a < 0 ∨ s ≤ a) : Told w a s n (.returned (.tuple #[.slice none 0 0, .int .i64 1])) w := by
  have h1 : varsF a s n = [] := by unfold varsF; rw [if_pos h]
  have h2 : varsE a s n = 1 := by unfold varsE; rw [if_pos h]
  unfold Told
  rw [h1, h2]
  exact ⟨none, 0, rfl, ⟨by simp, fun k hk => absurd hk (by simp)⟩, (fun p h => nomatch h), Below.refl _ _⟩
theorem Told.yes {w w' : World} {a s n : Nat} {sv : Value} (hs : 1 ≤ s) (ha : a < s) (hn : 1 ≤ n) (hn5 : n ≤ 5000) (own : w'.ownsRow w.heap.size 3 1 sv (vcount a s n) ((vrow a s (vcount a s n)).map (Value.int .i64 ·))) (b : Below w.heap.size w w') :
    Told w a s n (.returned (.tuple #[sv, .int .i64 0])) w' := by
  have h1 : varsF a s n = vrow a s (vcount a s n) := by unfold varsF; rw [if_neg (by omega)]; simp
  have h2 : varsE a s n = 0 := by unfold varsE; rw [if_neg (by omega)]
  have hc := vcount_le (a := a) (n := n) hs
  unfold Told
  rw [h1, h2]
  obtain ⟨A, c, rfl, hI⟩ := Ints.of_own own (by rw [vrow_len]) (by rw [vrow_len]; omega)
  exact ⟨A, c, rfl, hI, fun p hp => by subst hp; exact (own.lt _ rfl).1, b⟩
set_option maxRecDepth 100000 in
theorem vars_any (a s n : Int) (a0 : -9223372036854775808 ≤ a) (a1 : a < 9223372036854775808) (s0 : -9223372036854775808 ≤ s) (s1 : s < 9223372036854775808) (hn5 : n ≤ 5000) (w : World) :
    Calls Tryd.prog 22 #[.int .i64 a, .int .i64 s, .int .i64 n] w (Told w a s n) := by
  by_cases h1 : s < 1
  · have HT := Lib.hid (Told.no (w := w) (a := a) (n := n) (Or.inl h1))
    go_enter Tryd.func22, Tryd.ntmps22
    go_wp2_with fail
    go_ret2
    exact HT.out
  by_cases h2 : n < 1
  · have HT := Lib.hid (Told.no (w := w) (a := a) (s := s) (Or.inr (Or.inl h2)))
    go_enter Tryd.func22, Tryd.ntmps22
    go_wp2_with fail
    go_ret2
    exact HT.out
  have HW := Lib.hid (within_any a 0 (s - 1))
  by_cases h3 : a < 0 ∨ s ≤ a
  · have HT := Lib.hid (Told.no (w := w) (a := a) (s := s) (n := n) (Or.inr (Or.inr h3)))
    have hv : Hid (inF a 0 (s - 1) = false) := by
      show inF a 0 (s - 1) = false
      unfold inF
      rcases h3 with h | h
      · rw [decide_eq_false (p := 0 ≤ a) (by omega)]; rfl
      · rw [decide_eq_false (p := a ≤ s - 1) (by omega)]; simp
    clear h3
    go_enter Tryd.func22, Tryd.ntmps22
    go_wp2_with fail
    refine (HW.out w).mono ?_
    rintro _ _ ⟨rfl, rfl⟩
    rw [hv.out]
    go_wp2_with fail
    go_ret2
    exact HT.out
  · have hv : Hid (inF a 0 (s - 1) = true) := by
      show inF a 0 (s - 1) = true
      unfold inF
      rw [decide_eq_true (p := 0 ≤ a) (by omega), decide_eq_true (p := a ≤ s - 1) (by omega)]; rfl
    obtain ⟨a, rfl⟩ := Int.eq_ofNat_of_zero_le (show 0 ≤ a by omega)
    obtain ⟨s, rfl⟩ := Int.eq_ofNat_of_zero_le (show 0 ≤ s by omega)
    obtain ⟨n, rfl⟩ := Int.eq_ofNat_of_zero_le (show 0 ≤ n by omega)
    have HY := Lib.hid (fun (w' : World) (sv : Value) => Told.yes (w := w) (w' := w') (a := a) (s := s) (n := n) (sv := sv) (by omega) (by omega) (by omega) (by omega))
    have hcl := vcount_le (a := a) (n := n) (s := s) (by omega)
    have HL := Lib.hid (fun k => vcount_lt (a := a) (s := s) (n := n) (k := k) (by omega))
    have h00 : w.ownsRow w.heap.size 3 1 (.slice none 0 0) 0 ((vrow a s 0).map (Value.int .i64 ·)) := World.ownsRow_nil _ _ _ _
    have HI : Hid (w.ownsRow w.heap.size 3 1 (.slice none 0 0) 0 ((vrow a s 0).map (Value.int .i64 ·)) ∧ Below w.heap.size w w) := ⟨h00, Below.refl _ _⟩
    clear h00
    go_enter Tryd.func22, Tryd.ntmps22
    go_wp2_with fail
    refine (HW.out w).mono ?_
    rintro _ _ ⟨rfl, rfl⟩
    rw [hv.out]
    clear HW hv
    go_wp2_with fail
    go_loopw [8, 9] (fun l i wr => ∃ (k : Nat) (z : Int), k ≤ vcount a s n ∧ i = .int .i64 z ∧ Hid (z = (n : Int) - (a + k * s : Nat)) ∧ Hid (wr.ownsRow w.heap.size 3 1 l k ((vrow a s k).map (Value.int .i64 ·)) ∧ Below w.heap.size w wr)) (fun _ i _ => (intOf i).toNat)
    case atStart => exact ⟨0, (n : Int) - (a : Int), by omega, by go_num, by show _ = _; omega, HI⟩
    case round =>
      obtain ⟨k, z, hk, rfl, hZ, hO⟩ := hrel
      by_cases hlt : k < vcount a s n
      · have hx := (HL.out k).1 hlt
        have hkb : k ≤ 100000 := by omega
        have hge := hO.out.2.size
        have i1 : 0 < z := by have := hZ.out; omega
        have i2 : z ≤ (n : Int) := by have := hZ.out; omega
        have hzv : Hid ((n : Int) - z = ((a + k * s : Nat) : Int)) := by have := hZ.out; show _ = _; omega
        have hlt' : Hid (k + 1 ≤ vcount a s n) := hlt
        clear hx hlt
        go_wp2_with (first
          | (at_builtin; refine append_num (v := (n : Int) - z) hO.out.1 hge hkb rfl (.tmp 31) (.tmp 35) rfl rfl rfl ?_; intro g cap w1 hown hgrow hgl)
          | fail)
        have HN := Lib.hid (And.intro hown (grown_below hO.out.1 hO.out.2 hge hgrow))
        clear hown hgrow
        go_roundw
        case rel =>
          refine ⟨k + 1, _, hlt'.out, rfl, ?_, ?_⟩
          · have := hZ.out; show _ = _; rw [Nat.add_mul]; omega
          · have := HN.out
            rw [hzv.out] at this
            rw [vrow_snoc, List.map_append]
            exact this
        case measure => simp [intOf]; omega
      · have hge : ¬ a + k * s < n := fun h => hlt ((HL.out k).2 h)
        have i1 : ¬ 0 < z := by have := hZ.out; omega
        obtain rfl : k = vcount a s n := by omega
        have HT := Lib.hid (HY.out wr _ hO.out.1 hO.out.2)
        clear hge hlt hk
        go_wp2_with fail
        go_ret2
        exact HT.out
/-- The numbers below v that are of a stripe. -/
def upto (a s v : Nat) : List Int := (((List.range v).filter fun x => x % s == a).map fun (x : Nat) => (x : Int))
theorem upto_yes {a s v : Nat} (h : v % s = a) : upto a s (v + 1) = upto a s v ++ [(v : Int)] := by simp [upto, List.range_succ, List.filter_append, h]
theorem upto_no {a s v : Nat} (h : v % s ≠ a) : upto a s (v + 1) = upto a s v := by simp [upto, List.range_succ, List.filter_append, h]
theorem upto_row {a s : Nat} (hs : 1 ≤ s) (ha : a < s) : ∀ v, upto a s v = vrow a s (vcount a s v) := by
  intro v
  induction v with
  | zero =>
    have h0 : vcount a s 0 = 0 := by have := vcount_le (a := a) (s := s) (n := 0) hs; omega
    rw [h0]
    rfl
  | succ v ih =>
    have hk : ∀ k, k < vcount a s v ↔ a + k * s < v := fun k => vcount_lt hs
    have hk' : ∀ k, k < vcount a s (v + 1) ↔ a + k * s < v + 1 := fun k => vcount_lt hs
    have hmono : vcount a s v ≤ vcount a s (v + 1) := by
      rcases Nat.lt_or_ge (vcount a s (v + 1)) (vcount a s v) with h | h
      · have := (hk (vcount a s (v + 1))).1 h
        have := (hk' (vcount a s (v + 1))).2 (by omega)
        omega
      · exact h
    by_cases h : v % s = a
    · have hv : v = a + (v / s) * s := by have := Nat.mod_add_div v s; rw [Nat.mul_comm] at this; omega
      have c1 : vcount a s v = v / s := by
        have h1 : ¬ (v / s < vcount a s v) := fun hh => by have := (hk _).1 hh; omega
        rcases Nat.lt_or_ge (vcount a s v) (v / s) with h2 | h2
        · exfalso
          have h3 : ¬ (a + vcount a s v * s < v) := fun hh => absurd ((hk _).2 hh) (by omega)
          have h4 : (vcount a s v + 1) * s ≤ (v / s) * s := Nat.mul_le_mul_right _ h2
          rw [Nat.add_mul] at h4
          omega
        · omega
      have c2 : vcount a s (v + 1) = v / s + 1 := by
        have h1 : v / s < vcount a s (v + 1) := (hk' _).2 (by omega)
        rcases Nat.lt_or_ge (v / s + 1) (vcount a s (v + 1)) with h2 | h2
        · exfalso
          have := (hk' _).1 h2
          rw [Nat.add_mul] at this
          omega
        · omega
      rw [upto_yes h, ih, c1, c2, vrow_snoc, ← hv]
    · rw [upto_no h, ih]
      have : vcount a s (v + 1) = vcount a s v := by
        rcases Nat.lt_or_ge (vcount a s v) (vcount a s (v + 1)) with h2 | h2
        · exfalso
          have h3 := (hk' _).1 h2
          have h4 : ¬ (a + vcount a s v * s < v) := fun hh => absurd ((hk _).2 hh) (by omega)
          have h5 : v = a + vcount a s v * s := by omega
          apply h
          rw [h5, Nat.add_mul_mod_self_right, Nat.mod_eq_of_lt ha]
        · omega
      rw [this]
set_option maxRecDepth 100000 in
theorem rvars_any (a s n : Int) (a0 : -9223372036854775808 ≤ a) (a1 : a < 9223372036854775808) (s0 : -9223372036854775808 ≤ s) (s1 : s < 9223372036854775808) (hn5 : n ≤ 5000) (w : World) :
    Calls Tryd.prog 23 #[.int .i64 a, .int .i64 s, .int .i64 n] w (Told w a s n) := by
  by_cases h1 : s < 1
  · have HT := Lib.hid (Told.no (w := w) (a := a) (n := n) (Or.inl h1))
    go_enter Tryd.func23, Tryd.ntmps23
    go_wp2_with fail
    go_ret2
    exact HT.out
  by_cases h2 : n < 1
  · have HT := Lib.hid (Told.no (w := w) (a := a) (s := s) (Or.inr (Or.inl h2)))
    go_enter Tryd.func23, Tryd.ntmps23
    go_wp2_with fail
    go_ret2
    exact HT.out
  by_cases h3 : a < 0
  · have HT := Lib.hid (Told.no (w := w) (a := a) (s := s) (n := n) (Or.inr (Or.inr (Or.inl h3))))
    go_enter Tryd.func23, Tryd.ntmps23
    go_wp2_with fail
    go_ret2
    exact HT.out
  by_cases h4 : s ≤ a
  · have HT := Lib.hid (Told.no (w := w) (a := a) (s := s) (n := n) (Or.inr (Or.inr (Or.inr h4))))
    go_enter Tryd.func23, Tryd.ntmps23
    go_wp2_with fail
    go_ret2
    exact HT.out
  · obtain ⟨a, rfl⟩ := Int.eq_ofNat_of_zero_le (show 0 ≤ a by omega)
    obtain ⟨s, rfl⟩ := Int.eq_ofNat_of_zero_le (show 0 ≤ s by omega)
    obtain ⟨n, rfl⟩ := Int.eq_ofNat_of_zero_le (show 0 ≤ n by omega)
    have HR := Lib.hid (fun v => upto_row (a := a) (s := s) (by omega) (by omega) v)
    have HY := Lib.hid (fun (w' : World) (sv : Value) => Told.yes (w := w) (w' := w') (a := a) (s := s) (n := n) (sv := sv) (by omega) (by omega) (by omega) (by omega))
    have HC := Lib.hid (fun v => vcount_le (a := a) (n := v) (s := s) (by omega))
    have h00 : w.ownsRow w.heap.size 3 1 (.slice none 0 0) (vcount a s 0) ((upto a s 0).map (Value.int .i64 ·)) := by
      have : vcount a s 0 = 0 := by have := HC.out 0; omega
      rw [this]
      exact World.ownsRow_nil _ _ _ _
    have HI : Hid (w.ownsRow w.heap.size 3 1 (.slice none 0 0) (vcount a s 0) ((upto a s 0).map (Value.int .i64 ·)) ∧ Below w.heap.size w w) := ⟨h00, Below.refl _ _⟩
    clear h00
    have s00 : (s : Int) ≠ 0 := by omega
    go_enter Tryd.func23, Tryd.ntmps23
    go_wp2_with fail
    go_loopw [8, 9] (fun l i wr => ∃ v : Nat, v ≤ n ∧ i = .int .i64 v ∧ Hid (wr.ownsRow w.heap.size 3 1 l (vcount a s v) ((upto a s v).map (Value.int .i64 ·)) ∧ Below w.heap.size w wr)) (fun _ i _ => n - (intOf i).toNat)
    case atStart => exact ⟨0, by omega, by go_num, HI⟩
    case round =>
      obtain ⟨v, hk, rfl, hO⟩ := hrel
      by_cases hlt : v < n
      · have hkb : vcount a s v ≤ 100000 := by have := HC.out v; omega
        have hge := hO.out.2.size
        have i1 : (v : Int) < (n : Int) := by omega
        by_cases hm : v % s = a
        · have i2 : ((v : Int) % (s : Int) == (a : Int)) = true := by rw [beq_iff_eq]; omega
          have hc : Hid (vcount a s (v + 1) = vcount a s v + 1) := by
            have h1 := upto_yes hm
            have h2 := congrArg List.length h1
            rw [HR.out, HR.out, List.length_append, vrow_len, vrow_len] at h2
            exact h2
          have hu := Lib.hid (upto_yes hm)
          clear hm
          go_wp2_with (first
            | (at_builtin; refine append_num (v := (v : Int)) hO.out.1 hge hkb rfl (.tmp 35) (.tmp 37) rfl rfl rfl ?_; intro g cap w1 hown hgrow hgl)
            | fail)
          have HN := Lib.hid (And.intro hown (grown_below hO.out.1 hO.out.2 hge hgrow))
          clear hown hgrow
          go_roundw
          case rel => exact ⟨v + 1, by omega, by go_num, by rw [hc.out, hu.out, List.map_append]; exact HN.out⟩
          case measure => simp [intOf]; omega
        · have i2 : ((v : Int) % (s : Int) == (a : Int)) = false := by rw [beq_eq_false_iff_ne]; omega
          have hc : Hid (vcount a s (v + 1) = vcount a s v) := by
            have h2 := congrArg List.length (upto_no hm)
            rw [HR.out, HR.out, vrow_len, vrow_len] at h2
            exact h2
          have hu := Lib.hid (upto_no hm)
          clear hm
          go_wp2_with fail
          go_roundw
          case rel => exact ⟨v + 1, by omega, by go_num, by rw [hc.out, hu.out]; exact hO⟩
          case measure => simp [intOf]; omega
      · obtain rfl : v = n := by omega
        have HT := Lib.hid (HY.out wr _ (by rw [← HR.out]; exact hO.out.1) hO.out.2)
        clear hlt hk
        go_wp2_with fail
        go_ret2
        exact HT.out
theorem ints_drop {a b : List Int} {k : Nat} (hl : a.length = b.length) (hk : k < a.length) (h : a.take k = b.take k) : (a.take (k + 1) = b.take (k + 1)) ↔ a[k] = b[k]'(by omega) := by
  rw [List.take_succ_eq_append_getElem hk, List.take_succ_eq_append_getElem (by omega : k < b.length), h]
  constructor
  · intro h2
    have := List.append_cancel_left h2
    simpa using this
  · intro h2
    rw [h2]
theorem drewN_below2 (w : World) (n : Nat) : Below w.heap.size w (w.drewN n) := ⟨rfl, rfl, rfl, Nat.le_refl _, fun _ _ => rfl⟩
set_option maxRecDepth 100000 in
theorem numbers_same (L M : List Int) (A B : Option Addr) (c c' hi hi' : Nat) (w : World) (hA : Ints w hi A L) (hB : Ints w hi' B M) (hhi : hi ≤ w.heap.size) (hhi' : hi' ≤ w.heap.size) :
    Calls Tryd.prog 24 #[.slice A L.length c, .slice B M.length c'] w fun e w' => e = .returned (.bool (decide (L = M))) ∧ Below w.heap.size w w' := by
  have l1 := hA.len
  have l2 := hB.len
  by_cases hl : L.length = M.length
  · have hC := Lib.hid (fun k (h1 : k < L.length) (h2 : k < M.length) => And.intro (hA.cell k h1) (hB.cell k h2))
    have HT := Lib.hid (fun k (hk : k < L.length) => ints_drop (a := L) (b := M) (k := k) hl hk)
    obtain ⟨x, hx⟩ : ∃ x, x = L.length := ⟨_, rfl⟩
    obtain ⟨y, hy⟩ : ∃ y, y = M.length := ⟨_, rfl⟩
    have HX := Lib.hid hx
    have HY := Lib.hid hy
    rw [← hx, ← hy]
    rw [← hx] at l1 hl
    rw [← hy] at hl l2
    have i0 : ((x : Int) != (y : Int)) = false := bne_eq_false_iff_eq.2 (by omega)
    clear hx hy hA hB
    go_enter Tryd.func24, Tryd.ntmps24
    go_wp2_with fail
    go_loopw [5] (fun i wr => ∃ k : Nat, k ≤ x ∧ i = .int .i64 k ∧ Hid (L.take k = M.take k) ∧ Hid (Below w.heap.size w wr)) (fun i _ => x - (intOf i).toNat)
    case atStart => exact ⟨0, by omega, by go_num, rfl, Below.refl _ _⟩
    case round =>
      obtain ⟨k, hk, rfl, HK, hO⟩ := hrel
      by_cases hlt : k < x
      · obtain ⟨⟨p, rfl, m1, d1⟩, ⟨q, rfl, m2, d2⟩⟩ := hC.out k (by have := HX.out; omega) (by have := HY.out; omega)
        have f1 := (hO.out.cell (p := p.add k) (by rw [ad_block]; omega)).trans d1
        have f2 := (hO.out.cell (p := q.add k) (by rw [ad_block]; omega)).trans d2
        have hT := (HT.out k (by have := HX.out; omega) HK.out)
        obtain ⟨u, hu⟩ : ∃ u, u = L[k]'(by have := HX.out; omega) := ⟨_, rfl⟩
        obtain ⟨v, hv⟩ : ∃ v, v = M[k]'(by have := HY.out; omega) := ⟨_, rfl⟩
        rw [← hu] at f1
        rw [← hv] at f2
        rw [← hu, ← hv] at hT
        have HT2 := Lib.hid hT
        clear d1 d2 hu hv hC hT m1 m2
        by_cases huv : u = v
        · have i2 : (u != v) = false := bne_eq_false_iff_eq.2 huv
          have HN : Hid (L.take (k + 1) = M.take (k + 1)) := HT2.out.2 huv
          clear huv
          go_wp2_with fail
          go_quiet (fail)
          go_wp2_with fail
          go_roundw
          case rel => exact ⟨k + 1, by omega, by go_num, HN, hO.out.trans ((drewN_below2 wr _).mono hO.out.size)⟩
          case measure => simp [intOf]; omega
        · have i2 : (u != v) = true := bne_iff_ne.2 huv
          have HN : Hid (L ≠ M) := fun h => huv (HT2.out.1 (by rw [h]))
          clear huv
          go_wp2_with fail
          go_quiet (fail)
          go_wp2_with fail
          go_ret
          exact ⟨by rw [decide_eq_false HN.out]; rfl, hO.out.trans ((drewN_below2 wr _).mono hO.out.size)⟩
      · have HN : Hid (L = M) := by
          have h1 := HK.out
          have h2 := HX.out
          have h3 := HY.out
          rw [List.take_of_length_le (by omega), List.take_of_length_le (by omega)] at h1
          exact h1
        clear HK HT hC
        go_wp2_with fail
        go_ret
        exact ⟨by rw [decide_eq_true HN.out]; rfl, hO.out⟩
  · have HN : Hid (decide (L = M) = false) := decide_eq_false (fun h => hl (by rw [h]))
    obtain ⟨x, hx⟩ : ∃ x, x = L.length := ⟨_, rfl⟩
    obtain ⟨y, hy⟩ : ∃ y, y = M.length := ⟨_, rfl⟩
    rw [← hx, ← hy]
    rw [← hx] at l1 hl
    rw [← hy] at hl l2
    have i0 : ((x : Int) != (y : Int)) = true := bne_iff_ne.2 (by omega)
    clear hx hy hA hB
    go_enter Tryd.func24, Tryd.ntmps24
    go_wp2_with fail
    go_ret
    exact ⟨by rw [HN.out]; rfl, Below.refl _ _⟩
end Go.Proofs.YtnkdaehmdcpafaaDoor
