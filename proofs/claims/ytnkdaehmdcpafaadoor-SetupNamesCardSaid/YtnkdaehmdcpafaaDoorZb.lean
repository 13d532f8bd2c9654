/-
  SEVERAL TEXTS IN ONE (a claim has sixty files at most): Ua, Ub, Uc, Ud: the head of each stands ahead of it. No condition but theirs.
-/
import Derived.Test.YtnkdaehmdcpafaaDoorEv
import Derived.Deep.AppendLies
import Derived.Deep.DeepCutAuto
import Derived.Deep.CutBlock
import Derived.Maps.AppendAt
import Derived.Deep.QuietTactic
import Derived.BigQuiet
/-
  WORDS FOR LAYER 6 (package setup): the stripe of a variable, the variables of a stripe; which numbers may be; and a slice of numbers that is appended to. No condition but those that stand.
-/
namespace Go.Proofs.YtnkdaehmdcpafaaDoor
open Go.RowKit
set_option linter.unusedVariables false
def inF (n l m : Int) : Bool := decide (l ≤ n) && decide (n ≤ m)
/-- What Stripe tells: a stripe, and an error. -/
def strF (v s : Int) : Int × Int := if s < 1 ∨ v < 0 then (0, 1) else (v % s, 0)
/-- Whether a setup's numbers may be (n: as many values to begin with). -/
def numF (st cl tr : Int) (n : Nat) : Bool := inF n 1 32 && (inF st 1 n && (inF cl 0 1099511627776 && inF tr 1 1000))
def errF (b : Bool) : Int := if b then 0 else 4
theorem ret_e {a b : Int} (h : a = b) : Ending.returned (.int .i64 a) = .returned (.int .i64 b) := by rw [h]
/-- How many variables a stripe has. -/
def vcount (a s n : Nat) : Nat := (n - a + (s - 1)) / s
def vrow (a s k : Nat) : List Int := (List.range k).map fun j => ((a + j * s : Nat) : Int)
theorem vcount_lt {a s n k : Nat} (hs : 1 ≤ s) : k < vcount a s n ↔ a + k * s < n := by
  unfold vcount
  rw [Nat.lt_iff_add_one_le, Nat.le_div_iff_mul_le (by omega), Nat.add_mul, Nat.one_mul]
  omega
theorem vcount_le {a s n : Nat} (hs : 1 ≤ s) : vcount a s n ≤ n := by
  rcases Nat.eq_zero_or_pos (vcount a s n) with h | h
  · omega
  · have := (vcount_lt (a := a) (n := n) (k := vcount a s n - 1) hs).1 (by omega)
    have h2 : vcount a s n - 1 ≤ (vcount a s n - 1) * s := Nat.le_mul_of_pos_right _ hs
    omega
theorem vrow_len (a s k : Nat) : (vrow a s k).length = k := by simp [vrow]
theorem vrow_snoc (a s k : Nat) : vrow a s (k + 1) = vrow a s k ++ [((a + k * s : Nat) : Int)] := by simp [vrow, List.range_succ]
theorem vrow_get (a s k j : Nat) (h : j < k) : (vrow a s k)[j]'(by rw [vrow_len]; exact h) = ((a + j * s : Nat) : Int) := by simp [vrow]
/-- What Variables tells. -/
def varsF (a s n : Int) : List Int := if s < 1 ∨ n < 1 ∨ a < 0 ∨ s ≤ a then [] else vrow a.toNat s.toNat (vcount a.toNat s.toNat n.toNat)
def varsE (a s n : Int) : Int := if s < 1 ∨ n < 1 ∨ a < 0 ∨ s ≤ a then 1 else 0
theorem info_parts2 {t : TypeId} {z : Value} {a b : Nat} (h : (Tryd.prog.info? t).map (fun i => (i.zero, i.size, i.bytes)) = some (some z, a, b)) : ∃ i, Tryd.prog.info? t = some i ∧ i.zero = some z ∧ i.size = a ∧ i.bytes = b := by
  cases hi : Tryd.prog.info? t with
  | none => rw [hi] at h; cases h
  | some i =>
    rw [hi] at h
    simp at h
    exact ⟨i, rfl, h.1, h.2.1, h.2.2⟩
theorem plain_int_info : (Tryd.prog.info? 3).map (fun i => (i.zero, i.size, i.bytes)) = some (some (.int .i64 0), 1, 8) := by kernel_rfl
/-- Behind an append to what a call owns all below is as it was. -/
theorem grown_below {w wr w1 : World} {o : Obj} {e : TypeId} {size k : Nat} {sv : Value} {xs : List Value} {B : Nat} (own : wr.ownsRow B e size sv k xs) (b : Below B w wr) (hB : B ≤ wr.heap.size) (hg : (wr.alloc o).grownBy w1 sv.ownBlock) : Below B w w1 := by
  have hz := hg.size
  simp at hz
  refine ⟨hg.os.trans b.os, hg.tape.trans b.tape, hg.output.trans b.output, by have := b.size; omega, fun i hi => ?_⟩
  rw [hg.block i (by simp; omega) (own_ge own hi)]
  rw [heap_alloc_old wr o (by omega), b.block i hi]
/-- One number more, in a plain region. -/
theorem append_num {ops : Array Oper} {rest : List Oper} {o : Oper} {a : Act} {Q : Exit → Act → World → Prop} {w : World} {base k : Nat} {sv : Value} {xs : List Value} {v : Int}
    (own : w.ownsRow base 3 1 sv k xs) (hb : base ≤ w.heap.size) (hk : k ≤ 100000) (hgd : o.guard = none) (s x : Operand) (ho : o.op = .call { callee := .builtin .append, args := #[s, x], argTypes := #[42, 42] }) (hs : a.eval s = sv) (hx : a.eval x = .slice (some ⟨w.heap.size, 0, none⟩) 1 1)
    (h : ∀ g cap w', w'.ownsRow base 3 1 (.slice (some ⟨g, 0, none⟩) (k + 1) cap) (k + 1) (xs ++ [.int .i64 v]) → (w.alloc (.cells #[.int .i64 v] 3)).grownBy w' sv.ownBlock → g < w'.heap.size → wpList Tryd.prog ops Q rest (a.put o.dst (.slice (some ⟨g, 0, none⟩) (k + 1) cap)) w') :
    wpList Tryd.prog ops Q (o :: rest) a (w.alloc (.cells #[.int .i64 v] 3)) := by
  obtain ⟨i0, hi0, hz0, hz1, hz2⟩ := info_parts2 plain_int_info
  exact wpList_append_lies _ hgd s x _ ho base 3 i0 _ 1 8 Tryd.underlying42 hi0 hz0 hz1 hz2 rfl (by omega) sv k xs hs (own.alloc _) ⟨w.heap.size, 0, none⟩ 1 1 [.int .i64 v] hx rfl (World.news_of_block (cs := #[.int .i64 v]) (t := 3) (fr := (0, 0)) (heap_alloc_new w _)) (by simp [Value.oneCell']) (by omega) (by unfold maxLen; omega) (by omega) (by simp; omega) (w.heap.size + 1) (by simp) fun g cap w' a1 a2 _ a4 => h g cap w' a1 a2 a4
/-- A slice that a call owns, as numbers. -/
theorem Ints.of_own {w : World} {base k : Nat} {sv : Value} {L : List Int} {e : TypeId} (own : w.ownsRow base e 1 sv k (L.map (Value.int .i64 ·))) (hk : k = L.length) (hl : L.length ≤ 100000) : ∃ A c, sv = .slice A L.length c ∧ Ints w w.heap.size A L := by
  subst hk
  by_cases h0 : L.length = 0
  · rcases own.2 with ⟨h1, h2⟩ | ⟨g, cap, cur, h1, _⟩
    · exact ⟨none, 0, by rw [h1, h0], by omega, fun j hj => absurd hj (by omega)⟩
    · exact ⟨_, _, h1, by omega, fun j hj => absurd hj (by omega)⟩
  · obtain ⟨g, cap, hv, hg1, hg2⟩ := own.form (by omega)
    subst hv
    exact ⟨_, _, rfl, by omega, fun j hj => ⟨_, rfl, hg2, own.cells (g := g) rfl j _ (by simp [hj])⟩⟩
set_option maxRecDepth 100000 in
theorem within_any (n l m : Int) (w : World) : Calls Tryd.prog 45 #[.int .i64 n, .int .i64 l, .int .i64 m] w fun e w' => e = .returned (.bool (inF n l m)) ∧ w = w' := by
  by_cases h1 : l ≤ n
  · have hv : inF n l m = decide (n ≤ m) := by unfold inF; rw [decide_eq_true h1]; rfl
    rw [hv]
    clear hv
    go_enter Tryd.func45, Tryd.ntmps45
    go_wp2_with fail
    go_ret
    exact ⟨rfl, rfl⟩
  · have hv : inF n l m = false := by unfold inF; rw [decide_eq_false h1]; rfl
    rw [hv]
    clear hv
    go_enter Tryd.func45, Tryd.ntmps45
    go_wp2_with fail
    go_ret
    exact ⟨rfl, rfl⟩
set_option maxRecDepth 100000 in
theorem stripe_any (v s : Int) (v0 : -9223372036854775808 ≤ v) (v1 : v < 9223372036854775808) (s1 : s < 9223372036854775808) (w : World) : Calls Tryd.prog 20 #[.int .i64 v, .int .i64 s] w fun e w' => e = .returned (.tuple #[.int .i64 (strF v s).1, .int .i64 (strF v s).2]) ∧ w = w' := by
  by_cases h1 : s < 1
  · have hv : strF v s = (0, 1) := by unfold strF; rw [if_pos (Or.inl h1)]
    rw [hv]
    clear hv
    go_enter Tryd.func20, Tryd.ntmps20
    go_wp2_with fail
    go_ret2
    exact ⟨rfl, rfl⟩
  by_cases h2 : v < 0
  · have hv : strF v s = (0, 1) := by unfold strF; rw [if_pos (Or.inr h2)]
    rw [hv]
    clear hv
    go_enter Tryd.func20, Tryd.ntmps20
    go_wp2_with fail
    go_ret2
    exact ⟨rfl, rfl⟩
  · have hv : strF v s = (v % s, 0) := by unfold strF; rw [if_neg (by omega)]
    rw [hv]
    have hs0 : s ≠ 0 := by omega
    clear hv
    go_enter Tryd.func20, Tryd.ntmps20
    go_wp2_with fail
    go_ret2
    exact ⟨rfl, rfl⟩
set_option maxRecDepth 100000 in
theorem rstripe_any (v s : Int) (v0 : -9223372036854775808 ≤ v) (v1 : v < 9223372036854775808) (s1 : s < 9223372036854775808) (w : World) : Calls Tryd.prog 21 #[.int .i64 v, .int .i64 s] w fun e w' => e = .returned (.tuple #[.int .i64 (strF v s).1, .int .i64 (strF v s).2]) ∧ w = w' := by
  by_cases h1 : s < 1
  · have hv : strF v s = (0, 1) := by unfold strF; rw [if_pos (Or.inl h1)]
    rw [hv]
    clear hv
    go_enter Tryd.func21, Tryd.ntmps21
    go_wp2_with fail
    go_ret2
    exact ⟨rfl, rfl⟩
  by_cases h2 : v < 0
  · have hv : strF v s = (0, 1) := by unfold strF; rw [if_pos (Or.inr h2)]
    rw [hv]
    clear hv
    go_enter Tryd.func21, Tryd.ntmps21
    go_wp2_with fail
    go_ret2
    exact ⟨rfl, rfl⟩
  · have hv : strF v s = (v % s, 0) := by unfold strF; rw [if_neg (by omega)]
    rw [hv]
    have hs0 : s ≠ 0 := by omega
    clear hv
    go_enter Tryd.func21, Tryd.ntmps21
    go_wp2_with fail
    go_ret2
    exact ⟨rfl, rfl⟩
end Go.Proofs.YtnkdaehmdcpafaaDoor
/-
  CONTRACTS OF LAYER 6: the variables of a stripe, by package setup and by the document's own answer; whether two lists of numbers are the same. Conditions: at most 5000 variables, lists of at most 100000.
-/
namespace Go.Proofs.YtnkdaehmdcpafaaDoor
open Go.RowKit
set_option linter.unusedVariables false
/-- What Variables leaves. -/
def Told (w : World) (a s n : Int) (e : Ending) (w' : World) : Prop := ∃ A c, e = .returned (.tuple #[.slice A (varsF a s n).length c, .int .i64 (varsE a s n)]) ∧ Ints w' w'.heap.size A (varsF a s n) ∧ (∀ p, A = some p → w.heap.size ≤ p.block) ∧ Below w.heap.size w w'
theorem Told.no {w : World} {a s n : Int} (h : s < 1 ∨ n < 1 ∨ a < 0 ∨ s ≤ a) : Told w a s n (.returned (.tuple #[.slice none 0 0, .int .i64 1])) w := by
  have h1 : varsF a s n = [] := by unfold varsF; rw [if_pos h]
  have h2 : varsE a s n = 1 := by unfold varsE; rw [if_pos h]
  unfold Told
  rw [h1, h2]
  exact ⟨none, 0, rfl, ⟨by simp, fun k hk => absurd hk (by simp)⟩, (fun p h => nomatch h), Below.refl _ _⟩
theorem Told.yes {w w' : World} {a s n : Nat} {sv : Value} (hs : 1 ≤ s) (ha : a < s) (hn : 1 ≤ n) (hn5 : n ≤ 5000) (own : w'.ownsRow w.heap.size 3 1 sv (vcount a s n) ((vrow a s (vcount a s n)).map (Value.int .i64 ·))) (b : Below w.heap.size w w') :
    Told w a s n (.returned (.tuple #[sv, .int .i64 0])) w' := by
  have h1 : varsF a s n = vrow a s (vcount a s n) := by unfold varsF; rw [if_neg (by omega)]; simp
  have h2 : varsE a s n = 0 := by unfold varsE; rw [if_neg (by omega)]
  have hc := vcount_le (a := a) (n := n) hs
  unfold Told
  rw [h1, h2]
  obtain ⟨A, c, rfl, hI⟩ := Ints.of_own own (by rw [vrow_len]) (by rw [vrow_len]; omega)
  exact ⟨A, c, rfl, hI, fun p hp => by subst hp; exact (own.lt _ rfl).1, b⟩
set_option maxRecDepth 100000 in
theorem vars_any (a s n : Int) (a0 : -9223372036854775808 ≤ a) (a1 : a < 9223372036854775808) (s0 : -9223372036854775808 ≤ s) (s1 : s < 9223372036854775808) (hn5 : n ≤ 5000) (w : World) :
    Calls Tryd.prog 22 #[.int .i64 a, .int .i64 s, .int .i64 n] w (Told w a s n) := by
  by_cases h1 : s < 1
  · have HT := Lib.hid (Told.no (w := w) (a := a) (n := n) (Or.inl h1))
    go_enter Tryd.func22, Tryd.ntmps22
    go_wp2_with fail
    go_ret2
    exact HT.out
  by_cases h2 : n < 1
  · have HT := Lib.hid (Told.no (w := w) (a := a) (s := s) (Or.inr (Or.inl h2)))
    go_enter Tryd.func22, Tryd.ntmps22
    go_wp2_with fail
    go_ret2
    exact HT.out
  have HW := Lib.hid (within_any a 0 (s - 1))
  by_cases h3 : a < 0 ∨ s ≤ a
  · have HT := Lib.hid (Told.no (w := w) (a := a) (s := s) (n := n) (Or.inr (Or.inr h3)))
    have hv : Hid (inF a 0 (s - 1) = false) := by
      show inF a 0 (s - 1) = false
      unfold inF
      rcases h3 with h | h
      · rw [decide_eq_false (p := 0 ≤ a) (by omega)]; rfl
      · rw [decide_eq_false (p := a ≤ s - 1) (by omega)]; simp
    clear h3
    go_enter Tryd.func22, Tryd.ntmps22
    go_wp2_with fail
    refine (HW.out w).mono ?_
    rintro _ _ ⟨rfl, rfl⟩
    rw [hv.out]
    go_wp2_with fail
    go_ret2
    exact HT.out
  · have hv : Hid (inF a 0 (s - 1) = true) := by
      show inF a 0 (s - 1) = true
      unfold inF
      rw [decide_eq_true (p := 0 ≤ a) (by omega), decide_eq_true (p := a ≤ s - 1) (by omega)]; rfl
    obtain ⟨a, rfl⟩ := Int.eq_ofNat_of_zero_le (show 0 ≤ a by omega)
    obtain ⟨s, rfl⟩ := Int.eq_ofNat_of_zero_le (show 0 ≤ s by omega)
    obtain ⟨n, rfl⟩ := Int.eq_ofNat_of_zero_le (show 0 ≤ n by omega)
    have HY := Lib.hid (fun (w' : World) (sv : Value) => Told.yes (w := w) (w' := w') (a := a) (s := s) (n := n) (sv := sv) (by omega) (by omega) (by omega) (by omega))
    have hcl := vcount_le (a := a) (n := n) (s := s) (by omega)
    have HL := Lib.hid (fun k => vcount_lt (a := a) (s := s) (n := n) (k := k) (by omega))
    have h00 : w.ownsRow w.heap.size 3 1 (.slice none 0 0) 0 ((vrow a s 0).map (Value.int .i64 ·)) := World.ownsRow_nil _ _ _ _
    have HI : Hid (w.ownsRow w.heap.size 3 1 (.slice none 0 0) 0 ((vrow a s 0).map (Value.int .i64 ·)) ∧ Below w.heap.size w w) := ⟨h00, Below.refl _ _⟩
    clear h00
    go_enter Tryd.func22, Tryd.ntmps22
    go_wp2_with fail
    refine (HW.out w).mono ?_
    rintro _ _ ⟨rfl, rfl⟩
    rw [hv.out]
    clear HW hv
    go_wp2_with fail
    go_loopw [8, 9] (fun l i wr => ∃ (k : Nat) (z : Int), k ≤ vcount a s n ∧ i = .int .i64 z ∧ Hid (z = (n : Int) - (a + k * s : Nat)) ∧ Hid (wr.ownsRow w.heap.size 3 1 l k ((vrow a s k).map (Value.int .i64 ·)) ∧ Below w.heap.size w wr)) (fun _ i _ => (intOf i).toNat)
    case atStart => exact ⟨0, (n : Int) - (a : Int), by omega, by go_num, by show _ = _; omega, HI⟩
    case round =>
      obtain ⟨k, z, hk, rfl, hZ, hO⟩ := hrel
      by_cases hlt : k < vcount a s n
      · have hx := (HL.out k).1 hlt
        have hkb : k ≤ 100000 := by omega
        have hge := hO.out.2.size
        have i1 : 0 < z := by have := hZ.out; omega
        have i2 : z ≤ (n : Int) := by have := hZ.out; omega
        have hzv : Hid ((n : Int) - z = ((a + k * s : Nat) : Int)) := by have := hZ.out; show _ = _; omega
        have hlt' : Hid (k + 1 ≤ vcount a s n) := hlt
        clear hx hlt
        go_wp2_with (first
          | (at_builtin; refine append_num (v := (n : Int) - z) hO.out.1 hge hkb rfl (.tmp 31) (.tmp 35) rfl rfl rfl ?_; intro g cap w1 hown hgrow hgl)
          | fail)
        have HN := Lib.hid (And.intro hown (grown_below hO.out.1 hO.out.2 hge hgrow))
        clear hown hgrow
        go_roundw
        case rel =>
          refine ⟨k + 1, _, hlt'.out, rfl, ?_, ?_⟩
          · have := hZ.out; show _ = _; rw [Nat.add_mul]; omega
          · have := HN.out
            rw [hzv.out] at this
            rw [vrow_snoc, List.map_append]
            exact this
        case measure => simp [intOf]; omega
      · have hge : ¬ a + k * s < n := fun h => hlt ((HL.out k).2 h)
        have i1 : ¬ 0 < z := by have := hZ.out; omega
        obtain rfl : k = vcount a s n := by omega
        have HT := Lib.hid (HY.out wr _ hO.out.1 hO.out.2)
        clear hge hlt hk
        go_wp2_with fail
        go_ret2
        exact HT.out
/-- The numbers below v that are of a stripe. -/
def upto (a s v : Nat) : List Int := (((List.range v).filter fun x => x % s == a).map fun (x : Nat) => (x : Int))
theorem upto_yes {a s v : Nat} (h : v % s = a) : upto a s (v + 1) = upto a s v ++ [(v : Int)] := by simp [upto, List.range_succ, List.filter_append, h]
theorem upto_no {a s v : Nat} (h : v % s ≠ a) : upto a s (v + 1) = upto a s v := by simp [upto, List.range_succ, List.filter_append, h]
theorem upto_row {a s : Nat} (hs : 1 ≤ s) (ha : a < s) : ∀ v, upto a s v = vrow a s (vcount a s v) := by
  intro v
  induction v with
  | zero =>
    have h0 : vcount a s 0 = 0 := by have := vcount_le (a := a) (s := s) (n := 0) hs; omega
    rw [h0]
    rfl
  | succ v ih =>
    have hk : ∀ k, k < vcount a s v ↔ a + k * s < v := fun k => vcount_lt hs
    have hk' : ∀ k, k < vcount a s (v + 1) ↔ a + k * s < v + 1 := fun k => vcount_lt hs
    have hmono : vcount a s v ≤ vcount a s (v + 1) := by
      rcases Nat.lt_or_ge (vcount a s (v + 1)) (vcount a s v) with h | h
      · have := (hk (vcount a s (v + 1))).1 h
        have := (hk' (vcount a s (v + 1))).2 (by omega)
        omega
      · exact h
    by_cases h : v % s = a
    · have hv : v = a + (v / s) * s := by have := Nat.mod_add_div v s; rw [Nat.mul_comm] at this; omega
      have c1 : vcount a s v = v / s := by
        have h1 : ¬ (v / s < vcount a s v) := fun hh => by have := (hk _).1 hh; omega
        rcases Nat.lt_or_ge (vcount a s v) (v / s) with h2 | h2
        · exfalso
          have h3 : ¬ (a + vcount a s v * s < v) := fun hh => absurd ((hk _).2 hh) (by omega)
          have h4 : (vcount a s v + 1) * s ≤ (v / s) * s := Nat.mul_le_mul_right _ h2
          rw [Nat.add_mul] at h4
          omega
        · omega
      have c2 : vcount a s (v + 1) = v / s + 1 := by
        have h1 : v / s < vcount a s (v + 1) := (hk' _).2 (by omega)
        rcases Nat.lt_or_ge (v / s + 1) (vcount a s (v + 1)) with h2 | h2
        · exfalso
          have := (hk' _).1 h2
          rw [Nat.add_mul] at this
          omega
        · omega
      rw [upto_yes h, ih, c1, c2, vrow_snoc, ← hv]
    · rw [upto_no h, ih]
      have : vcount a s (v + 1) = vcount a s v := by
        rcases Nat.lt_or_ge (vcount a s v) (vcount a s (v + 1)) with h2 | h2
        · exfalso
          have h3 := (hk' _).1 h2
          have h4 : ¬ (a + vcount a s v * s < v) := fun hh => absurd ((hk _).2 hh) (by omega)
          have h5 : v = a + vcount a s v * s := by omega
          apply h
          rw [h5, Nat.add_mul_mod_self_right, Nat.mod_eq_of_lt ha]
        · omega
      rw [this]
set_option maxRecDepth 100000 in
theorem rvars_any (a s n : Int) (a0 : -9223372036854775808 ≤ a) (a1 : a < 9223372036854775808) (s0 : -9223372036854775808 ≤ s) (s1 : s < 9223372036854775808) (hn5 : n ≤ 5000) (w : World) :
    Calls Tryd.prog 23 #[.int .i64 a, .int .i64 s, .int .i64 n] w (Told w a s n) := by
  by_cases h1 : s < 1
  · have HT := Lib.hid (Told.no (w := w) (a := a) (n := n) (Or.inl h1))
    go_enter Tryd.func23, Tryd.ntmps23
    go_wp2_with fail
    go_ret2
    exact HT.out
  by_cases h2 : n < 1
  · have HT := Lib.hid (Told.no (w := w) (a := a) (s := s) (Or.inr (Or.inl h2)))
    go_enter Tryd.func23, Tryd.ntmps23
    go_wp2_with fail
    go_ret2
    exact HT.out
  by_cases h3 : a < 0
  · have HT := Lib.hid (Told.no (w := w) (a := a) (s := s) (n := n) (Or.inr (Or.inr (Or.inl h3))))
    go_enter Tryd.func23, Tryd.ntmps23
    go_wp2_with fail
    go_ret2
    exact HT.out
  by_cases h4 : s ≤ a
  · have HT := Lib.hid (Told.no (w := w) (a := a) (s := s) (n := n) (Or.inr (Or.inr (Or.inr h4))))
    go_enter Tryd.func23, Tryd.ntmps23
    go_wp2_with fail
    go_ret2
    exact HT.out
  · obtain ⟨a, rfl⟩ := Int.eq_ofNat_of_zero_le (show 0 ≤ a by omega)
    obtain ⟨s, rfl⟩ := Int.eq_ofNat_of_zero_le (show 0 ≤ s by omega)
    obtain ⟨n, rfl⟩ := Int.eq_ofNat_of_zero_le (show 0 ≤ n by omega)
    have HR := Lib.hid (fun v => upto_row (a := a) (s := s) (by omega) (by omega) v)
    have HY := Lib.hid (fun (w' : World) (sv : Value) => Told.yes (w := w) (w' := w') (a := a) (s := s) (n := n) (sv := sv) (by omega) (by omega) (by omega) (by omega))
    have HC := Lib.hid (fun v => vcount_le (a := a) (n := v) (s := s) (by omega))
    have h00 : w.ownsRow w.heap.size 3 1 (.slice none 0 0) (vcount a s 0) ((upto a s 0).map (Value.int .i64 ·)) := by
      have : vcount a s 0 = 0 := by have := HC.out 0; omega
      rw [this]
      exact World.ownsRow_nil _ _ _ _
    have HI : Hid (w.ownsRow w.heap.size 3 1 (.slice none 0 0) (vcount a s 0) ((upto a s 0).map (Value.int .i64 ·)) ∧ Below w.heap.size w w) := ⟨h00, Below.refl _ _⟩
    clear h00
    have s00 : (s : Int) ≠ 0 := by omega
    go_enter Tryd.func23, Tryd.ntmps23
    go_wp2_with fail
    go_loopw [8, 9] (fun l i wr => ∃ v : Nat, v ≤ n ∧ i = .int .i64 v ∧ Hid (wr.ownsRow w.heap.size 3 1 l (vcount a s v) ((upto a s v).map (Value.int .i64 ·)) ∧ Below w.heap.size w wr)) (fun _ i _ => n - (intOf i).toNat)
    case atStart => exact ⟨0, by omega, by go_num, HI⟩
    case round =>
      obtain ⟨v, hk, rfl, hO⟩ := hrel
      by_cases hlt : v < n
      · have hkb : vcount a s v ≤ 100000 := by have := HC.out v; omega
        have hge := hO.out.2.size
        have i1 : (v : Int) < (n : Int) := by omega
        by_cases hm : v % s = a
        · have i2 : ((v : Int) % (s : Int) == (a : Int)) = true := by rw [beq_iff_eq]; omega
          have hc : Hid (vcount a s (v + 1) = vcount a s v + 1) := by
            have h1 := upto_yes hm
            have h2 := congrArg List.length h1
            rw [HR.out, HR.out, List.length_append, vrow_len, vrow_len] at h2
            exact h2
          have hu := Lib.hid (upto_yes hm)
          clear hm
          go_wp2_with (first
            | (at_builtin; refine append_num (v := (v : Int)) hO.out.1 hge hkb rfl (.tmp 35) (.tmp 37) rfl rfl rfl ?_; intro g cap w1 hown hgrow hgl)
            | fail)
          have HN := Lib.hid (And.intro hown (grown_below hO.out.1 hO.out.2 hge hgrow))
          clear hown hgrow
          go_roundw
          case rel => exact ⟨v + 1, by omega, by go_num, by rw [hc.out, hu.out, List.map_append]; exact HN.out⟩
          case measure => simp [intOf]; omega
        · have i2 : ((v : Int) % (s : Int) == (a : Int)) = false := by rw [beq_eq_false_iff_ne]; omega
          have hc : Hid (vcount a s (v + 1) = vcount a s v) := by
            have h2 := congrArg List.length (upto_no hm)
            rw [HR.out, HR.out, vrow_len, vrow_len] at h2
            exact h2
          have hu := Lib.hid (upto_no hm)
          clear hm
          go_wp2_with fail
          go_roundw
          case rel => exact ⟨v + 1, by omega, by go_num, by rw [hc.out, hu.out]; exact hO⟩
          case measure => simp [intOf]; omega
      · obtain rfl : v = n := by omega
        have HT := Lib.hid (HY.out wr _ (by rw [← HR.out]; exact hO.out.1) hO.out.2)
        clear hlt hk
        go_wp2_with fail
        go_ret2
        exact HT.out
theorem ints_drop {a b : List Int} {k : Nat} (hl : a.length = b.length) (hk : k < a.length) (h : a.take k = b.take k) : (a.take (k + 1) = b.take (k + 1)) ↔ a[k] = b[k]'(by omega) := by
  rw [List.take_succ_eq_append_getElem hk, List.take_succ_eq_append_getElem (by omega : k < b.length), h]
  constructor
  · intro h2
    have := List.append_cancel_left h2
    simpa using this
  · intro h2
    rw [h2]
theorem drewN_below2 (w : World) (n : Nat) : Below w.heap.size w (w.drewN n) := ⟨rfl, rfl, rfl, Nat.le_refl _, fun _ _ => rfl⟩
set_option maxRecDepth 100000 in
theorem numbers_same (L M : List Int) (A B : Option Addr) (c c' hi hi' : Nat) (w : World) (hA : Ints w hi A L) (hB : Ints w hi' B M) (hhi : hi ≤ w.heap.size) (hhi' : hi' ≤ w.heap.size) :
    Calls Tryd.prog 24 #[.slice A L.length c, .slice B M.length c'] w fun e w' => e = .returned (.bool (decide (L = M))) ∧ Below w.heap.size w w' := by
  have l1 := hA.len
  have l2 := hB.len
  by_cases hl : L.length = M.length
  · have hC := Lib.hid (fun k (h1 : k < L.length) (h2 : k < M.length) => And.intro (hA.cell k h1) (hB.cell k h2))
    have HT := Lib.hid (fun k (hk : k < L.length) => ints_drop (a := L) (b := M) (k := k) hl hk)
    obtain ⟨x, hx⟩ : ∃ x, x = L.length := ⟨_, rfl⟩
    obtain ⟨y, hy⟩ : ∃ y, y = M.length := ⟨_, rfl⟩
    have HX := Lib.hid hx
    have HY := Lib.hid hy
    rw [← hx, ← hy]
    rw [← hx] at l1 hl
    rw [← hy] at hl l2
    have i0 : ((x : Int) != (y : Int)) = false := bne_eq_false_iff_eq.2 (by omega)
    clear hx hy hA hB
    go_enter Tryd.func24, Tryd.ntmps24
    go_wp2_with fail
    go_loopw [5] (fun i wr => ∃ k : Nat, k ≤ x ∧ i = .int .i64 k ∧ Hid (L.take k = M.take k) ∧ Hid (Below w.heap.size w wr)) (fun i _ => x - (intOf i).toNat)
    case atStart => exact ⟨0, by omega, by go_num, rfl, Below.refl _ _⟩
    case round =>
      obtain ⟨k, hk, rfl, HK, hO⟩ := hrel
      by_cases hlt : k < x
      · obtain ⟨⟨p, rfl, m1, d1⟩, ⟨q, rfl, m2, d2⟩⟩ := hC.out k (by have := HX.out; omega) (by have := HY.out; omega)
        have f1 := (hO.out.cell (p := p.add k) (by rw [ad_block]; omega)).trans d1
        have f2 := (hO.out.cell (p := q.add k) (by rw [ad_block]; omega)).trans d2
        have hT := (HT.out k (by have := HX.out; omega) HK.out)
        obtain ⟨u, hu⟩ : ∃ u, u = L[k]'(by have := HX.out; omega) := ⟨_, rfl⟩
        obtain ⟨v, hv⟩ : ∃ v, v = M[k]'(by have := HY.out; omega) := ⟨_, rfl⟩
        rw [← hu] at f1
        rw [← hv] at f2
        rw [← hu, ← hv] at hT
        have HT2 := Lib.hid hT
        clear d1 d2 hu hv hC hT m1 m2
        by_cases huv : u = v
        · have i2 : (u != v) = false := bne_eq_false_iff_eq.2 huv
          have HN : Hid (L.take (k + 1) = M.take (k + 1)) := HT2.out.2 huv
          clear huv
          go_wp2_with fail
          go_quiet (fail)
          go_wp2_with fail
          go_roundw
          case rel => exact ⟨k + 1, by omega, by go_num, HN, hO.out.trans ((drewN_below2 wr _).mono hO.out.size)⟩
          case measure => simp [intOf]; omega
        · have i2 : (u != v) = true := bne_iff_ne.2 huv
          have HN : Hid (L ≠ M) := fun h => huv (HT2.out.1 (by rw [h]))
          clear huv
          go_wp2_with fail
          go_quiet (fail)
          go_wp2_with fail
          go_ret
          exact ⟨by rw [decide_eq_false HN.out]; rfl, hO.out.trans ((drewN_below2 wr _).mono hO.out.size)⟩
      · have HN : Hid (L = M) := by
          have h1 := HK.out
          have h2 := HX.out
          have h3 := HY.out
          rw [List.take_of_length_le (by omega), List.take_of_length_le (by omega)] at h1
          exact h1
        clear HK HT hC
        go_wp2_with fail
        go_ret
        exact ⟨by rw [decide_eq_true HN.out]; rfl, hO.out⟩
  · have HN : Hid (decide (L = M) = false) := decide_eq_false (fun h => hl (by rw [h]))
    obtain ⟨x, hx⟩ : ∃ x, x = L.length := ⟨_, rfl⟩
    obtain ⟨y, hy⟩ : ∃ y, y = M.length := ⟨_, rfl⟩
    rw [← hx, ← hy]
    rw [← hx] at l1 hl
    rw [← hy] at hl l2
    have i0 : ((x : Int) != (y : Int)) = true := bne_iff_ne.2 (by omega)
    clear hx hy hA hB
    go_enter Tryd.func24, Tryd.ntmps24
    go_wp2_with fail
    go_ret
    exact ⟨by rw [HN.out]; rfl, Below.refl _ _⟩
end Go.Proofs.YtnkdaehmdcpafaaDoor
/-
  CONTRACTS OF LAYER 6: whether a setup's numbers may be; Check, off what is told of the threads; a setup without threads; the examples that each law asks first. No condition but those that stand.
-/
namespace Go.Proofs.YtnkdaehmdcpafaaDoor
open Go.RowKit
set_option linter.unusedVariables false
/-- A setup's five cells. -/
def setupV (st cl tr : Int) (I : Option Addr) (n c : Nat) (T : Option Addr) (m c' : Nat) : Value := .agg #[.int .i64 st, .int .i64 cl, .int .i64 tr, .slice I n c, .slice T m c']
structure SFive (w : World) (g : Nat) (st cl tr : Int) (I : Option Addr) (n c : Nat) (T : Option Addr) (m c' : Nat) : Prop where
  c0 : w.cell? ⟨g, 0, none⟩ = some (.int .i64 st)
  c1 : w.cell? ⟨g, 1, none⟩ = some (.int .i64 cl)
  c2 : w.cell? ⟨g, 2, none⟩ = some (.int .i64 tr)
  c3 : w.cell? ⟨g, 3, none⟩ = some (.slice I n c)
  c4 : w.cell? ⟨g, 4, none⟩ = some (.slice T m c')
theorem SFive.new (w : World) (st cl tr : Int) (I : Option Addr) (n c : Nat) (T : Option Addr) (m c' : Nat) : SFive (w.alloc (.cells #[.int .i64 st, .int .i64 cl, .int .i64 tr, .slice I n c, .slice T m c'] 25)) w.heap.size st cl tr I n c T m c' :=
  ⟨World.cell?_alloc_mark w _ _ (0, 0) 0, World.cell?_alloc_mark w _ _ (0, 0) 1, World.cell?_alloc_mark w _ _ (0, 0) 2, World.cell?_alloc_mark w _ _ (0, 0) 3, World.cell?_alloc_mark w _ _ (0, 0) 4⟩
theorem SFive.below {w w' : World} {B g : Nat} {st cl tr : Int} {I : Option Addr} {n c : Nat} {T : Option Addr} {m c' : Nat} (h : SFive w g st cl tr I n c T m c') (hb : Below B w w') (hg : g < B) : SFive w' g st cl tr I n c T m c' :=
  ⟨(hb.cell (p := ⟨g, 0, none⟩) hg).trans h.c0, (hb.cell (p := ⟨g, 1, none⟩) hg).trans h.c1, (hb.cell (p := ⟨g, 2, none⟩) hg).trans h.c2, (hb.cell (p := ⟨g, 3, none⟩) hg).trans h.c3, (hb.cell (p := ⟨g, 4, none⟩) hg).trans h.c4⟩
theorem sfive_below (w : World) (st cl tr : Int) (I : Option Addr) (n c : Nat) (T : Option Addr) (m c' : Nat) : Below w.heap.size w (w.alloc (.cells #[.int .i64 st, .int .i64 cl, .int .i64 tr, .slice I n c, .slice T m c'] 25)) := (Below.refl _ _).alloc (Nat.le_refl _) _
theorem numF_and (st cl tr : Int) (n : Nat) {a b c d : Bool} (h1 : inF n 1 32 = a) (h2 : inF st 1 n = b) (h3 : inF cl 0 1099511627776 = c) (h4 : inF tr 1 1000 = d) : numF st cl tr n = (a && (b && (c && d))) := by unfold numF; rw [h1, h2, h3, h4]
set_option maxRecDepth 100000 in
theorem numbers_any (st cl tr : Int) (I : Option Addr) (n c : Nat) (T : Option Addr) (m c' : Nat) (hn : n ≤ 9223372036854775807) (w : World) :
    Calls Tryd.prog 33 #[.agg #[.int .i64 st, .int .i64 cl, .int .i64 tr, .slice I n c, .slice T m c']] w fun e w' => e = .returned (.bool (numF st cl tr n)) ∧ Below w.heap.size w w' := by
  obtain ⟨a, ha⟩ : ∃ a, inF n 1 32 = a := ⟨_, rfl⟩
  obtain ⟨b, hb⟩ : ∃ b, inF st 1 n = b := ⟨_, rfl⟩
  obtain ⟨x, hx⟩ : ∃ x, inF cl 0 1099511627776 = x := ⟨_, rfl⟩
  obtain ⟨y, hy⟩ : ∃ y, inF tr 1 1000 = y := ⟨_, rfl⟩
  have HN := Lib.hid (numF_and st cl tr n ha hb hx hy)
  have H1 := Lib.hid (fun w => by have := within_any n 1 32 w; rw [ha] at this; exact this)
  have H2 := Lib.hid (fun w => by have := within_any st 1 n w; rw [hb] at this; exact this)
  have H3 := Lib.hid (fun w => by have := within_any cl 0 1099511627776 w; rw [hx] at this; exact this)
  have H4 := Lib.hid (fun w => by have := within_any tr 1 1000 w; rw [hy] at this; exact this)
  have HB := Lib.hid (sfive_below w st cl tr I n c T m c')
  clear ha hb hx hy
  go_enter Tryd.func33, Tryd.ntmps33
  go_wp2_with fail
  refine (H1.out _).mono ?_
  rintro _ _ ⟨rfl, rfl⟩
  cases a with
  | false =>
    go_wp2_with fail
    go_ret
    exact ⟨by rw [HN.out]; rfl, HB.out⟩
  | true =>
    go_wp2_with fail
    refine (H2.out _).mono ?_
    rintro _ _ ⟨rfl, rfl⟩
    cases b with
    | false =>
      go_wp2_with fail
      go_ret
      exact ⟨by rw [HN.out]; rfl, HB.out⟩
    | true =>
      go_wp2_with fail
      refine (H3.out _).mono ?_
      rintro _ _ ⟨rfl, rfl⟩
      cases x with
      | false =>
        go_wp2_with fail
        go_ret
        exact ⟨by rw [HN.out]; rfl, HB.out⟩
      | true =>
        go_wp2_with fail
        refine (H4.out _).mono ?_
        rintro _ _ ⟨rfl, rfl⟩
        go_wp2_with fail
        go_ret
        exact ⟨by rw [HN.out]; rfl, HB.out⟩
set_option maxRecDepth 100000 in
/-- Check, off what is told of the threads. -/
theorem check_of (st cl tr : Int) (I : Option Addr) (n c : Nat) (T : Option Addr) (m c' : Nat) (hn : n ≤ 9223372036854775807) (tb : Bool) (w : World)
    (ht : ∀ W', Below w.heap.size w W' → Calls Tryd.prog 34 #[.slice T m c'] W' fun e w' => e = .returned (.bool tb) ∧ Below W'.heap.size W' w') :
    Calls Tryd.prog 14 #[.agg #[.int .i64 st, .int .i64 cl, .int .i64 tr, .slice I n c, .slice T m c']] w fun e w' => e = .returned (.int .i64 (errF (numF st cl tr n && tb))) ∧ Below w.heap.size w w' := by
  have HB := Lib.hid (sfive_below w st cl tr I n c T m c')
  have HF := Lib.hid (fun W' (h : Below (w.alloc (.cells #[.int .i64 st, .int .i64 cl, .int .i64 tr, .slice I n c, .slice T m c'] 25)).heap.size (w.alloc (.cells #[.int .i64 st, .int .i64 cl, .int .i64 tr, .slice I n c, .slice T m c'] 25)) W') => (SFive.new w st cl tr I n c T m c').below h (by simp))
  have HN := Lib.hid (fun W' => numbers_any st cl tr I n c T m c' hn W')
  have HT := Lib.hid ht
  obtain ⟨nb, hnb⟩ : ∃ nb, nb = numF st cl tr n := ⟨_, rfl⟩
  rw [← hnb] at HN ⊢
  clear hnb ht
  go_enter Tryd.func14, Tryd.ntmps14
  go_wp2_with fail
  refine (HN.out _).mono ?_
  rintro _ w1 ⟨rfl, b1⟩
  have f4 := (HF.out w1 b1).c4
  have H1 := Lib.hid (HB.out.trans (b1.mono HB.out.size))
  clear b1
  cases nb with
  | false =>
    go_wp2_with fail
    go_ret
    exact ⟨rfl, H1.out⟩
  | true =>
    go_wp2_with fail
    refine (HT.out w1 H1.out).mono ?_
    rintro _ w2 ⟨rfl, b2⟩
    have H2 := Lib.hid (H1.out.trans (b2.mono H1.out.size))
    clear b2
    cases tb with
    | false =>
      go_wp2_with fail
      go_ret
      exact ⟨rfl, H2.out⟩
    | true =>
      go_wp2_with fail
      go_ret
      exact ⟨rfl, H2.out⟩
set_option maxRecDepth 100000 in
theorem threads_none (c : Nat) (w : World) : Calls Tryd.prog 34 #[.slice none 0 c] w fun e w' => e = .returned (.bool true) ∧ Below w.heap.size w w' := by
  go_enter Tryd.func34, Tryd.ntmps34
  go_wp2_with fail
  go_loopw [12] (fun i wr => i = .int .i64 0 ∧ wr = w) (fun i _ => 0)
  case atStart => exact ⟨rfl, rfl⟩
  case round =>
    obtain ⟨rfl, rfl⟩ := hrel
    go_wp2_with fail
    go_ret
    exact ⟨rfl, Below.refl _ _⟩
end Go.Proofs.YtnkdaehmdcpafaaDoor
/-
  THE EXAMPLES OF LAYER 6, as each law asks them: they stand, whatever was in memory. No condition.
-/
namespace Go.Proofs.YtnkdaehmdcpafaaDoor
open Go.RowKit
set_option linter.unusedVariables false
theorem check_bare (st cl tr : Int) (I : Option Addr) (n c : Nat) (hn : n ≤ 9223372036854775807) (w : World) :
    Calls Tryd.prog 14 #[.agg #[.int .i64 st, .int .i64 cl, .int .i64 tr, .slice I n c, .slice none 0 0]] w fun e w' => e = .returned (.int .i64 (errF (numF st cl tr n))) ∧ Below w.heap.size w w' := by
  have := check_of st cl tr I n c none 0 0 hn true w fun W' _ => threads_none 0 W'
  rw [Bool.and_true] at this
  exact this
theorem three_ints (w : World) (a b c : Int) : Ints (w.alloc (.cells #[.int .i64 a, .int .i64 b, .int .i64 c] 3)) (w.heap.size + 1) (some ⟨w.heap.size, 0, none⟩) [a, b, c] :=
  ⟨by simp, fun k hk => ⟨_, rfl, by show w.heap.size < _; omega, by
    rw [row_add]
    match k, hk with
    | 0, _ => exact World.cell?_alloc_mark w _ _ (0, 0) 0
    | 1, _ => exact World.cell?_alloc_mark w _ _ (0, 0) 1
    | 2, _ => exact World.cell?_alloc_mark w _ _ (0, 0) 2⟩⟩
set_option maxRecDepth 100000 in
theorem awake_any (w : World) : Calls Tryd.prog 11 #[] w fun e w' => e = .returned (.bool true) ∧ Below w.heap.size w w' := by
  have H1 := Lib.hid (stripe_any 5 3 (by omega) (by omega) (by omega) w)
  have e1 : strF 5 3 = (2, 0) := by kernel_rfl
  have e2 : varsF 2 3 9 = [2, 5, 8] := by kernel_rfl
  have e3 : varsE 2 3 9 = 0 := by kernel_rfl
  have e4 : errF (numF 1 0 1 1) = 0 := by kernel_rfl
  have e5 : errF (numF 2 0 1 1) = 4 := by kernel_rfl
  rw [e1] at H1
  have H2 : Hid (∀ w, Calls Tryd.prog 22 #[.int .i64 2, .int .i64 3, .int .i64 9] w fun e w' => ∃ A c, e = .returned (.tuple #[.slice A 3 c, .int .i64 0]) ∧ Ints w' w'.heap.size A [2, 5, 8] ∧ (∀ p, A = some p → w.heap.size ≤ p.block) ∧ Below w.heap.size w w') := fun w => by
    have := vars_any 2 3 9 (by omega) (by omega) (by omega) (by omega) (by omega) w
    unfold Told at this
    rw [e2, e3] at this
    exact this
  have H3 : Hid (∀ I n c w, n = 1 → Calls Tryd.prog 14 #[.agg #[.int .i64 1, .int .i64 0, .int .i64 1, .slice I n c, .slice none 0 0]] w fun e w' => e = .returned (.int .i64 0) ∧ Below w.heap.size w w') := fun I n c w hn => by
    subst hn
    have := check_bare 1 0 1 I 1 c (by omega) w
    rw [e4] at this
    exact this
  have H4 : Hid (∀ I n c w, n = 1 → Calls Tryd.prog 14 #[.agg #[.int .i64 2, .int .i64 0, .int .i64 1, .slice I n c, .slice none 0 0]] w fun e w' => e = .returned (.int .i64 4) ∧ Below w.heap.size w w') := fun I n c w hn => by
    subst hn
    have := check_bare 2 0 1 I 1 c (by omega) w
    rw [e5] at this
    exact this
  clear e1 e2 e3 e4 e5
  go_enter Tryd.func11, Tryd.ntmps11
  go_wp2_with fail
  refine H1.out.mono ?_
  rintro _ _ ⟨rfl, rfl⟩
  go_wp2_with fail
  refine (H2.out w).mono ?_
  rintro _ w1 ⟨A, c, rfl, hI, _, b1⟩
  have HI := Lib.hid hI
  have B1 := Lib.hid b1
  clear hI b1
  go_wp2_with fail
  refine (H3.out _ _ _ _ rfl).mono ?_
  rintro _ w2 ⟨rfl, b2⟩
  have B2 : Hid (Below w1.heap.size w1 w2) := ((Below.refl _ _).alloc (Nat.le_refl _) _).trans (b2.mono (by simp))
  clear b2
  go_wp2_with fail
  refine (H4.out _ _ _ _ rfl).mono ?_
  rintro _ w3 ⟨rfl, b3⟩
  have B3 : Hid (Below w2.heap.size w2 w3) := ((Below.refl _ _).alloc (Nat.le_refl _) _).trans (b3.mono (by simp))
  clear b3
  go_wp2_with fail
  have BA : Hid (Below w1.heap.size w1 (w3.alloc (.cells #[.int .i64 2, .int .i64 5, .int .i64 8] 3))) := (B2.out.trans (B3.out.mono B2.out.size)).trans ((Below.refl _ _).alloc (Nat.le_refl _) _ |>.mono (by have := B2.out.size; have := B3.out.size; omega))
  refine (numbers_same [2, 5, 8] [2, 5, 8] A (some ⟨w3.heap.size, 0, none⟩) c 3 w1.heap.size (w3.heap.size + 1) _ (HI.out.below BA.out (Nat.le_refl _)) (three_ints w3 2 5 8) BA.out.size (by simp)).mono ?_
  rintro _ w4 ⟨rfl, b4⟩
  have B4 : Hid (Below w.heap.size w w4) := B1.out.trans ((BA.out.trans (b4.mono BA.out.size)).mono B1.out.size)
  clear b4
  go_wp2_with fail
  go_ret
  exact ⟨rfl, B4.out⟩
end Go.Proofs.YtnkdaehmdcpafaaDoor
