/-
  SEVERAL TEXTS IN ONE (a claim has sixty files at most): Dlu, Dlv: the head of each stands ahead of it. No condition but theirs.
-/
import Derived.Test.YteigglhhnemngaaGreatDoorDlq
namespace Go.Proofs.YteigglhhnemngaaGreatDoor
set_option maxRecDepth 100000
set_option linter.unusedVariables false
set_option linter.unusedSimpArgs false
def Seg (S : ByteArray) (a b : Nat) (l : List UInt8) : Prop := a + l.length = b ∧ b ≤ S.size ∧ ∃ r, S.data.toList.drop a = l ++ r
theorem Seg.nil {S : ByteArray} {a : Nat} (h : a ≤ S.size) : Seg S a a [] := ⟨rfl, h, _, rfl⟩
theorem Seg.append {S : ByteArray} {a b c : Nat} {l m : List UInt8} (h : Seg S a b l) (k : Seg S b c m) : Seg S a c (l ++ m) := by
  obtain ⟨h1, h2, r, h3⟩ := h
  obtain ⟨k1, k2, t, k3⟩ := k
  refine ⟨by rw [List.length_append]; omega, k2, t, ?_⟩
  have e : S.data.toList.drop b = r := by
    rw [← h1, ← List.drop_drop, h3, List.drop_left]
  rw [h3, ← e, k3, List.append_assoc]
theorem toL_size (S : ByteArray) : S.data.toList.length = S.size := by rw [Array.length_toList]; rfl
theorem step_ok {S : ByteArray} {x : Nat × Int} {n l m : Int} (ha : x.1 ≤ S.size) (hm : 0 ≤ m) (h : (nmR S x n l m).2.2 = 0) : x.2 = 0 ∧ Seg S x.1 (nmR S x n l m).2.1 (Vm.put (nmR S x n l m).1.toNat) ∧ l ≤ (nmR S x n l m).1 ∧ 0 ≤ (nmR S x n l m).1 ∧ (nmR S x n l m).1 ≤ m ∧ (nmR S x n l m).1 < 18446744073709551616 ∧ (nmR S x n l m).2.1 ≤ S.size := by
  obtain ⟨a, wr⟩ := x
  simp only at ha
  have hv := rNum_val hm S a wr
  unfold nmR at h ⊢
  simp only at h ⊢
  split at h
  · simp only at h
    omega
  · rename_i hc
    rw [if_neg hc]
    simp only at h ⊢
    have h0 : (rNum m S a wr).2.1 = 0 := by
      unfold rNum rd at h ⊢
      by_cases hw : wr = 0
      · rw [if_pos hw] at h ⊢
        by_cases ht : (tNum m (S.data.toList.drop a)).2.2 = 0
        · rw [if_pos ht]
        · rw [if_neg ht] at h
          exact absurd h ht
      · rw [if_neg hw] at h
        exact absurd h hw
    obtain ⟨hw, _, _⟩ := rNum_ok h0
    subst hw
    have hl : l ≤ (rNum m S a 0).1 := by
      have : ¬ ((rNum m S a 0).1 < l) := fun z => hc ⟨h0, z⟩
      omega
    have e : rNum m S a 0 = (((Vm.get (S.data.toList.drop a)).1 : Int), 0, a + (Vm.get (S.data.toList.drop a)).2.1, 0) ∧ (Vm.get (S.data.toList.drop a)).2.2 = 0 := by
      unfold rNum rd tNum at h0 ⊢
      rw [if_pos rfl] at h0 ⊢
      by_cases h2 : (Vm.get (S.data.toList.drop a)).2.2 = 0
      · rw [if_pos h2] at h0 ⊢
        by_cases h3 : m < ((Vm.get (S.data.toList.drop a)).1 : Int)
        · rw [if_pos h3] at h0
          simp at h0
        · rw [if_neg h3]
          exact ⟨rfl, h2⟩
      · rw [if_neg h2] at h0
        simp only at h0
        rw [if_neg (by omega)] at h0
        simp only at h0
        omega
    obtain ⟨e, eg⟩ := e
    rw [e] at hl hv ⊢
    simp only at hl hv ⊢
    obtain ⟨n0, sz, er⟩ : ∃ g : Nat × Nat × Nat, Vm.get (S.data.toList.drop a) = g := ⟨_, rfl⟩
    have hg : Vm.get (S.data.toList.drop a) = ((Vm.get (S.data.toList.drop a)).1, (Vm.get (S.data.toList.drop a)).2.1, 0) := by rw [← eg]
    obtain ⟨g1, g2, g3, g4⟩ := get_ok hg
    have hd := drop_len S a
    have hpl : (Vm.put (Vm.get (S.data.toList.drop a)).1).length = (Vm.get (S.data.toList.drop a)).2.1 := by rw [g4, List.length_take]; omega
    refine ⟨trivial, ⟨?_, ?_, ?_⟩, hl, hv.1, hv.2, by omega, by omega⟩
    · rw [Int.toNat_natCast, hpl]
    · omega
    · rw [Int.toNat_natCast, g4]
      exact ⟨_, (List.take_append_drop _ _).symm⟩
theorem step_up {S : ByteArray} {x : Nat × Int} {n l m : Int} (ha : x.1 ≤ S.size) (hm : 0 ≤ m) : x.1 ≤ (nmR S x n l m).2.1 ∧ (nmR S x n l m).2.1 ≤ S.size ∧ (x.2 ≠ 0 → (nmR S x n l m).2 = x) := by
  obtain ⟨a, wr⟩ := x
  simp only at ha ⊢
  by_cases h : (nmR S (a, wr) n l m).2.2 = 0
  · obtain ⟨h1, ⟨h2, h3, _⟩, _⟩ := step_ok (S := S) (x := (a, wr)) ha hm h
    simp only at h1 h2 h3 ⊢
    exact ⟨by omega, h3, fun z => absurd h1 z⟩
  · unfold nmR at h ⊢
    simp only at h ⊢
    split
    · rename_i hc
      obtain ⟨hw, _⟩ := rNum_ok hc.1
      simp only
      exact ⟨Nat.le_refl _, ha, fun z => absurd hw z⟩
    · rename_i hc
      rw [if_neg hc] at h
      simp only at h ⊢
      unfold rNum rd at h ⊢
      by_cases hw : wr = 0
      · rw [if_pos hw] at h ⊢
        by_cases ht : (tNum m (S.data.toList.drop a)).2.2 = 0
        · rw [if_pos ht] at h
          exact absurd rfl h
        · rw [if_neg ht]
          exact ⟨Nat.le_refl _, ha, fun z => absurd hw z⟩
      · rw [if_neg hw]
        exact ⟨Nat.le_refl _, ha, fun _ => rfl⟩
theorem step_put {S : ByteArray} {a b : Nat} {n l m z : Int} (hs : Seg S a b (Vm.put z.toNat)) (h0 : 0 ≤ z) (hl : l ≤ z) (hm : z ≤ m) (h64 : m < 18446744073709551616) : nmR S (a, 0) n l m = (z, (b, 0)) := by
  obtain ⟨h1, h2, r, h3⟩ := hs
  have hg := Vm.get_put' z.toNat (by omega) r
  have e1 : tNum m (Vm.put z.toNat ++ r) = (z, (Vm.put z.toNat).length, 0) := by
    have hz : ((z.toNat : Nat) : Int) = z := Int.toNat_of_nonneg h0
    unfold tNum
    rw [hg]
    simp only [if_true]
    rw [hz, if_neg (by omega)]
  have e : rNum m S a 0 = (z, 0, b, 0) := by
    unfold rNum rd
    rw [if_pos rfl, h3, e1]
    simp only [if_true]
    rw [h1]
  unfold nmR
  rw [e]
  simp only
  rw [if_neg (by omega)]
end Go.Proofs.YteigglhhnemngaaGreatDoor
namespace Go.Proofs.YteigglhhnemngaaGreatDoor
set_option maxRecDepth 100000
set_option linter.unusedVariables false
set_option linter.unusedSimpArgs false
theorem who_forth {z T last : Int} (h0 : 0 ≤ z) (h1 : z ≤ 13 * T - 1) (hT0 : 1 ≤ T) (hT : T ≤ 6) (l0 : 0 ≤ last) (l1 : last < T) :
    (z.tdiv T + 1 - 1) * T + ((last + z).tmod T - last + T).tmod T = z := by
  have hm := modT (z := last + z) (T := T) (by omega) hT0
  rw [tmod_id (by omega : 0 ≤ (last + z).tmod T - last + T), tmod_id (by omega : 0 ≤ last + z), Int.tdiv_eq_ediv_of_nonneg h0]
  have h9 : T = 1 ∨ T = 2 ∨ T = 3 ∨ T = 4 ∨ T = 5 ∨ T = 6 := by omega
  rcases h9 with rfl | rfl | rfl | rfl | rfl | rfl <;> omega
theorem sizes_q {q : Cd} (hq : CdOk q) : sizesB q.T q.V q.S = true := by
  obtain ⟨a, b, c, d, e, f, _⟩ := hq
  simp [sizesB, a, b, c, d, e, f]
theorem zigzag {z : Int} (h0 : 0 ≤ z) (h1 : z < 18446744073709551616) : zigV (zagV z) = z ∧ -9223372036854775808 ≤ zagV z ∧ zagV z ≤ 9223372036854775807 := by
  unfold zigV zagV
  split <;> split <;> omega
theorem putsL_two (a b : Int) : putsL [a, b] = Vm.put a.toNat ++ Vm.put b.toNat := by simp [putsL]
theorem putsL_one (a : Int) : putsL [a] = Vm.put a.toNat := by simp [putsL]
def PartB (q : Cd) (S : ByteArray) (s : Nat × Int) (x : Ev × (Nat × Int)) : Prop := s.2 = 0 ∧ mayT q x.1 = true ∧ Seg S s.1 x.2.1 (putsL (restN q x.1))
set_option maxHeartbeats 1000000 in
theorem part_back {q : Cd} (hq : CdOk q) {S : ByteArray} {s : Nat × Int} {kd th : Int} (hk : 1 ≤ kd ∧ kd ≤ 13) (ht : 0 ≤ th ∧ th < q.T) (ha : s.1 ≤ S.size) (h : (partP q (nmR S) ⟨kd, th, 0, 0, 0, 0, 0⟩ s).2.2 = 0) :
    PartB q S s (partP q (nmR S) ⟨kd, th, 0, 0, 0, 0, 0⟩ s) ∧ (partP q (nmR S) ⟨kd, th, 0, 0, 0, 0, 0⟩ s).1.kd = kd ∧ (partP q (nmR S) ⟨kd, th, 0, 0, 0, 0, 0⟩ s).1.th = th := by
  have S0 := hq.S0
  have V0 := hq.V0
  have V1 := hq.V1
  have S1 := hq.S1
  have c0 := hq.c0
  have c1 := hq.c1
  have hbg := hq.bg th.toNat
  have hbp := hq.bp th.toNat
  have hth : 0 ≤ th ∧ th ≤ q.T - 1 := by omega
  have hsz := sizes_q hq
  unfold PartB
  by_cases k1 : kd = 1
  · subst k1
    have e1 : partP q (nmR S) ⟨1, th, 0, 0, 0, 0, 0⟩ s = beginP q (nmR S) ⟨1, th, 0, 0, 0, 0, 0⟩ s := by unfold partP; rw [if_pos rfl]
    rw [e1] at h ⊢
    unfold beginP clkP txP at h ⊢
    simp only at h ⊢
    have u1 := step_up (S := S) (x := s) (n := u64 0) (l := 0) (m := 5) ha (by omega)
    have o1 := step_ok (S := S) (x := s) (n := u64 0) (l := 0) (m := 5) ha (by omega)
    generalize nmR S s (u64 0) 0 5 = A at *
    have o2 := step_ok (S := S) (x := A.2) (n := u64 (0 - q.clk)) (l := 0) (m := 1099511627776 - q.clk) u1.2.1 (by omega) h
    generalize nmR S A.2 (u64 (0 - q.clk)) 0 (1099511627776 - q.clk) = B at *
    obtain ⟨w1, g1, _, p1, p2, _, _⟩ := o2
    obtain ⟨w0, g0, _, r1, r2, _, _⟩ := o1 w1
    refine ⟨⟨w0, told_mk hsz hth (.inl ⟨rfl, ⟨r1, r2⟩, rfl, ⟨by simp only; omega, by simp only; omega⟩, rfl, rfl⟩) (fun _ => by simp only; omega) (fun x => by simp at x) (fun x => by simp at x) (fun x => by simp at x), ?_⟩, (by first | rfl | trivial), (by first | rfl | trivial)⟩
    have er : restN q ⟨1, th, A.1, 0, q.clk + B.1, 0, 0⟩ = [A.1, B.1] := by
      unfold restN
      simp only [if_true]
      rw [show q.clk + B.1 - q.clk = B.1 by omega]
    rw [er, putsL_two]
    exact g0.append g1
  by_cases k2 : kd = 2
  · subst k2
    have e1 : partP q (nmR S) ⟨2, th, 0, 0, 0, 0, 0⟩ s = lookP q (nmR S) ⟨2, th, 0, 0, 0, 0, 0⟩ s := by unfold partP; rw [if_neg k1, if_pos rfl]
    rw [e1] at h ⊢
    unfold lookP seenP stripeP at h ⊢
    simp only at h ⊢
    have u1 := step_up (S := S) (x := s) (n := u64 0) (l := 0) (m := q.S - 1) ha (by omega)
    have o1 := step_ok (S := S) (x := s) (n := u64 0) (l := 0) (m := q.S - 1) ha (by omega)
    generalize nmR S s (u64 0) 0 (q.S - 1) = A at *
    have o2 := step_ok (S := S) (x := A.2) (n := u64 (q.bg th.toNat - 0)) (l := 0) (m := q.bg th.toNat) u1.2.1 (by omega) h
    generalize nmR S A.2 (u64 (q.bg th.toNat - 0)) 0 (q.bg th.toNat) = B at *
    obtain ⟨w1, g1, _, p1, p2, _, _⟩ := o2
    obtain ⟨w0, g0, _, r1, r2, _, _⟩ := o1 w1
    refine ⟨⟨w0, told_mk hsz hth (.inr (.inl ⟨rfl, rfl, ⟨r1, r2⟩, ⟨by simp only; omega, by simp only; omega⟩, rfl, rfl⟩)) (fun x => by simp at x) (fun _ => by simp only; omega) (fun x => by simp at x) (fun x => by simp at x), ?_⟩, (by first | rfl | trivial), (by first | rfl | trivial)⟩
    have er : restN q ⟨2, th, 0, A.1, q.bg th.toNat - B.1, 0, 0⟩ = [A.1, B.1] := by
      unfold restN
      simp only [if_true]
      rw [if_neg (by simp), show q.bg th.toNat - (q.bg th.toNat - B.1) = B.1 by omega]
    rw [er, putsL_two]
    exact g0.append g1
  by_cases k3 : kd = 3 ∨ kd = 8
  · have e1 : partP q (nmR S) ⟨kd, th, 0, 0, 0, 0, 0⟩ s = valueP q (nmR S) ⟨kd, th, 0, 0, 0, 0, 0⟩ s := by unfold partP; rw [if_neg k1, if_neg k2, if_pos k3]
    rw [e1] at h ⊢
    unfold valueP numP varP at h ⊢
    simp only at h ⊢
    have u1 := step_up (S := S) (x := s) (n := u64 0) (l := 0) (m := q.V - 1) ha (by omega)
    have o1 := step_ok (S := S) (x := s) (n := u64 0) (l := 0) (m := q.V - 1) ha (by omega)
    generalize nmR S s (u64 0) 0 (q.V - 1) = A at *
    have o2 := step_ok (S := S) (x := A.2) (n := zigV (i64w (0 - q.xs A.1.toNat))) (l := 0) (m := 18446744073709551615) u1.2.1 (by omega) h
    generalize nmR S A.2 (zigV (i64w (0 - q.xs A.1.toNat))) 0 18446744073709551615 = B at *
    obtain ⟨w1, g1, _, p1, p2, p3, _⟩ := o2
    obtain ⟨w0, g0, _, r1, r2, _, _⟩ := o1 w1
    obtain ⟨z1, z2, z3⟩ := zigzag p1 p3
    have hx0 := i64w_lo (q.xs A.1.toNat + zagV B.1)
    have hx1 := i64w_hi (q.xs A.1.toNat + zagV B.1)
    have hb := hq.xs A.1.toNat
    have hxx : i64w (i64w (q.xs A.1.toNat + zagV B.1) - q.xs A.1.toNat) = zagV B.1 := by
      unfold i64w
      rw [IntKind.wrap_i64, IntKind.wrap_i64]
      omega
    refine ⟨⟨w0, told_mk hsz hth (.inr (.inr (.inl ⟨k3, rfl, ⟨r1, r2⟩, rfl, ⟨hx0, hx1⟩, rfl⟩))) (fun x => absurd x k1) (fun x => absurd x k2) (fun x => by simp only at x; omega) (fun x => by simp only at x; omega), ?_⟩, (by first | rfl | trivial), (by first | rfl | trivial)⟩
    have er : restN q ⟨kd, th, 0, A.1, 0, i64w (q.xs A.1.toNat + zagV B.1), 0⟩ = [A.1, B.1] := by
      unfold restN
      simp only [k1, k2, k3, if_true, if_false]
      rw [hxx, z1]
    rw [er, putsL_two]
    exact g0.append g1
  by_cases k4 : kd = 4 ∨ kd = 6 ∨ kd = 9 ∨ kd = 11
  · have e1 : partP q (nmR S) ⟨kd, th, 0, 0, 0, 0, 0⟩ s = stripeP q (nmR S) ⟨kd, th, 0, 0, 0, 0, 0⟩ s := by unfold partP; rw [if_neg k1, if_neg k2, if_neg k3, if_pos k4]
    rw [e1] at h ⊢
    unfold stripeP at h ⊢
    simp only at h ⊢
    have o1 := step_ok (S := S) (x := s) (n := u64 0) (l := 0) (m := q.S - 1) ha (by omega) h
    generalize nmR S s (u64 0) 0 (q.S - 1) = A at *
    obtain ⟨w0, g0, _, r1, r2, _, _⟩ := o1
    refine ⟨⟨w0, told_mk hsz hth (.inr (.inr (.inr (.inl ⟨k4, rfl, ⟨r1, r2⟩, rfl, rfl, rfl⟩)))) (fun x => absurd x k1) (fun x => absurd x k2) (fun x => by simp only at x; omega) (fun x => by simp only at x; omega), ?_⟩, (by first | rfl | trivial), (by first | rfl | trivial)⟩
    have er : restN q ⟨kd, th, 0, A.1, 0, 0, 0⟩ = [A.1] := by
      unfold restN
      simp only [k1, k2, k3, k4, if_true, if_false]
    rw [er, putsL_one]
    exact g0
  by_cases k5 : kd = 5
  · subst k5
    have e1 : partP q (nmR S) ⟨5, th, 0, 0, 0, 0, 0⟩ s = bumpP q (nmR S) ⟨5, th, 0, 0, 0, 0, 0⟩ s := by unfold partP; rw [if_neg k1, if_neg k2, if_neg k3, if_neg k4, if_pos rfl]
    rw [e1] at h ⊢
    unfold bumpP at h ⊢
    simp only at h ⊢
    have o1 := step_ok (S := S) (x := s) (n := u64 (0 - q.clk)) (l := 1) (m := 1099511627776 - q.clk) ha (by omega) h
    generalize nmR S s (u64 (0 - q.clk)) 1 (1099511627776 - q.clk) = A at *
    obtain ⟨w0, g0, r0, r1, r2, _, _⟩ := o1
    refine ⟨⟨w0, told_mk hsz hth (.inr (.inr (.inr (.inr (.inl ⟨rfl, rfl, rfl, ⟨by simp only; omega, by simp only; omega⟩, rfl, rfl⟩))))) (fun x => by simp at x) (fun x => by simp at x) (fun _ => by simp only; omega) (fun x => by simp at x), ?_⟩, (by first | rfl | trivial), (by first | rfl | trivial)⟩
    have er : restN q ⟨5, th, 0, 0, q.clk + A.1, 0, 0⟩ = [A.1] := by
      unfold restN
      simp only [k1, k2, k3, k4, if_true, if_false]
      rw [show q.clk + A.1 - q.clk = A.1 by omega]
    rw [er, putsL_one]
    exact g0
  by_cases k7 : kd = 7
  · subst k7
    have e1 : partP q (nmR S) ⟨7, th, 0, 0, 0, 0, 0⟩ s = commitP q (nmR S) ⟨7, th, 0, 0, 0, 0, 0⟩ s := by unfold partP; rw [if_neg k1, if_neg k2, if_neg k3, if_neg k4, if_neg k5, if_pos rfl]
    rw [e1] at h ⊢
    unfold commitP at h ⊢
    simp only at h ⊢
    have o1 := step_ok (S := S) (x := s) (n := u64 (min 0 1)) (l := 0) (m := min (q.bp th.toNat) 1) ha (by omega) h
    generalize nmR S s (u64 (min 0 1)) 0 (min (q.bp th.toNat) 1) = A at *
    obtain ⟨w0, g0, r0, r1, r2, _, _⟩ := o1
    have hz : (A.1 = 0 ∧ q.bp th.toNat * A.1 = 0 ∧ min (q.bp th.toNat * A.1) 1 = A.1) ∨ (A.1 = 1 ∧ q.bp th.toNat * A.1 = q.bp th.toNat ∧ min (q.bp th.toNat * A.1) 1 = A.1) := by
      have : A.1 = 0 ∨ A.1 = 1 := by omega
      rcases this with h | h
      · left
        rw [h]
        refine ⟨rfl, by omega, by omega⟩
      · right
        rw [h] at r2 ⊢
        refine ⟨rfl, by omega, by omega⟩
    have hbz : 0 ≤ q.bp th.toNat * A.1 ∧ q.bp th.toNat * A.1 ≤ 1099511627776 := by rcases hz with ⟨_, h, _⟩ | ⟨_, h, _⟩ <;> rw [h] <;> omega
    refine ⟨⟨w0, told_mk hsz hth (.inr (.inr (.inr (.inr (.inr (.inl ⟨rfl, rfl, rfl, hbz, rfl, rfl⟩)))))) (fun x => by simp at x) (fun x => by simp at x) (fun x => by simp at x) (fun _ => ?_), ?_⟩, (by first | rfl | trivial), (by first | rfl | trivial)⟩
    · simp only
      rcases hz with ⟨_, h, _⟩ | ⟨_, h, _⟩
      · exact .inl h
      · exact .inr h
    · have er : restN q ⟨7, th, 0, 0, q.bp th.toNat * A.1, 0, 0⟩ = [A.1] := by
        unfold restN
        simp only [k1, k2, k3, k4, k5, if_true, if_false]
        rcases hz with ⟨_, _, h⟩ | ⟨_, _, h⟩ <;> rw [h]
      rw [er, putsL_one]
      exact g0
  by_cases k10 : kd = 10
  · subst k10
    have e1 : partP q (nmR S) ⟨10, th, 0, 0, 0, 0, 0⟩ s = abortP q (nmR S) ⟨10, th, 0, 0, 0, 0, 0⟩ s := by unfold partP; rw [if_neg k1, if_neg k2, if_neg k3, if_neg k4, if_neg k5, if_neg k7, if_pos rfl]
    rw [e1] at h ⊢
    unfold abortP at h ⊢
    by_cases h6 : (whyP (nmR S) ⟨10, th, 0, 0, 0, 0, 0⟩ s).1.why = 6
    · rw [if_pos h6] at h ⊢
      unfold whyP at h h6 ⊢
      simp only at h h6 ⊢
      have o1 := step_ok (S := S) (x := s) (n := u64 (0 - 1)) (l := 0) (m := 5) ha (by omega) h
      generalize nmR S s (u64 (0 - 1)) 0 5 = A at *
      obtain ⟨w0, g0, r0, r1, r2, _, _⟩ := o1
      refine ⟨⟨w0, told_mk hsz hth (.inr (.inr (.inr (.inr (.inr (.inr (.inl ⟨rfl, rfl, ⟨Int.le_refl _, by simp only; omega⟩, rfl, rfl, ⟨by simp only; omega, by simp only; omega⟩, fun _ => rfl⟩))))))) (fun x => by simp at x) (fun x => by simp at x) (fun x => by simp at x) (fun x => by simp at x), ?_⟩, (by first | rfl | trivial), (by first | rfl | trivial)⟩
      have er : restN q ⟨10, th, 0, 0, 0, 0, A.1 + 1⟩ = [A.1] := by
        unfold restN
        simp only [k1, k2, k3, k4, k5, k7, h6, if_true, if_false]
        rw [show (6 : Int) - 1 = A.1 by omega]
      rw [er, putsL_one]
      exact g0
    · rw [if_neg h6] at h ⊢
      unfold stripeP whyP at h ⊢
      unfold whyP at h6
      simp only at h h6 ⊢
      have u1 := step_up (S := S) (x := s) (n := u64 (0 - 1)) (l := 0) (m := 5) ha (by omega)
      have o1 := step_ok (S := S) (x := s) (n := u64 (0 - 1)) (l := 0) (m := 5) ha (by omega)
      generalize nmR S s (u64 (0 - 1)) 0 5 = A at *
      have o2 := step_ok (S := S) (x := A.2) (n := u64 0) (l := 0) (m := q.S - 1) u1.2.1 (by omega) h
      generalize nmR S A.2 (u64 0) 0 (q.S - 1) = B at *
      obtain ⟨w1, g1, _, p1, p2, _, _⟩ := o2
      obtain ⟨w0, g0, _, r1, r2, _, _⟩ := o1 w1
      refine ⟨⟨w0, told_mk hsz hth (.inr (.inr (.inr (.inr (.inr (.inr (.inl ⟨rfl, rfl, ⟨p1, p2⟩, rfl, rfl, ⟨by simp only; omega, by simp only; omega⟩, fun x => absurd x h6⟩))))))) (fun x => by simp at x) (fun x => by simp at x) (fun x => by simp at x) (fun x => by simp at x), ?_⟩, (by first | rfl | trivial), (by first | rfl | trivial)⟩
      have er : restN q ⟨10, th, 0, B.1, 0, 0, A.1 + 1⟩ = [A.1, B.1] := by
        unfold restN
        simp only [k1, k2, k3, k4, k5, k7, h6, if_true, if_false]
        rw [show A.1 + 1 - 1 = A.1 by omega]
      rw [er, putsL_two]
      exact g0.append g1
  have e1 : partP q (nmR S) ⟨kd, th, 0, 0, 0, 0, 0⟩ s = (⟨kd, th, 0, 0, 0, 0, 0⟩, s) := by unfold partP; rw [if_neg k1, if_neg k2, if_neg k3, if_neg k4, if_neg k5, if_neg k7, if_neg k10]
  rw [e1] at h ⊢
  have k12 : kd = 12 ∨ kd = 13 := by omega
  refine ⟨⟨h, told_mk hsz hth (.inr (.inr (.inr (.inr (.inr (.inr (.inr ⟨k12, rfl, rfl, rfl, rfl, rfl⟩))))))) (fun x => absurd x k1) (fun x => absurd x k2) (fun x => absurd x k5) (fun x => absurd x k7), ?_⟩, (by first | rfl | trivial), (by first | rfl | trivial)⟩
  have er : restN q ⟨kd, th, 0, 0, 0, 0, 0⟩ = [] := by
    unfold restN
    simp only [k1, k2, k3, k4, k5, k7, k10, if_true, if_false]
  rw [er]
  exact Seg.nil ha
theorem rd_back {q : Cd} (hq : CdOk q) {S : ByteArray} {a : Nat} {wr : Int} (ha : a ≤ S.size) (h : (rdX q S a wr).2.2 = 0) : wr = 0 ∧ mayT q (rdX q S a wr).1 = true ∧ Seg S a (rdX q S a wr).2.1 (evB q (rdX q S a wr).1) := by
  have T0 := hq.T0
  have hw := who_b q hq S (a, wr) ev0
  have u1 := step_up (S := S) (x := (a, wr)) (n := u64 (whoN q ev0)) (l := 0) (m := 13 * q.T - 1) ha (by omega)
  have o1 := step_ok (S := S) (x := (a, wr)) (n := u64 (whoN q ev0)) (l := 0) (m := 13 * q.T - 1) ha (by omega)
  unfold rdX passP at h ⊢
  have e0 : (whoP q (nmR S) ev0 (a, wr)).1 = ⟨(whoP q (nmR S) ev0 (a, wr)).1.kd, (whoP q (nmR S) ev0 (a, wr)).1.th, 0, 0, 0, 0, 0⟩ := rfl
  rw [e0] at h ⊢
  obtain ⟨⟨p1, p2, p3⟩, p4, p5⟩ := part_back hq ⟨hw.1, hw.2.1⟩ ⟨hw.2.2.1, hw.2.2.2⟩ (s := (whoP q (nmR S) ev0 (a, wr)).2) u1.2.1 h
  obtain ⟨o2, o3, o4, o5, o6, o7, o8⟩ := o1 p1
  refine ⟨o2, p2, ?_⟩
  have hf := who_forth o5 o6 T0 hq.T1 hq.l0 hq.l1
  have en : whoN q (partP q (nmR S) ⟨(whoP q (nmR S) ev0 (a, wr)).1.kd, (whoP q (nmR S) ev0 (a, wr)).1.th, 0, 0, 0, 0, 0⟩ (whoP q (nmR S) ev0 (a, wr)).2).1 = (nmR S (a, wr) (u64 (whoN q ev0)) 0 (13 * q.T - 1)).1 := by
    unfold whoN
    rw [p4, p5]
    exact hf
  unfold evB
  rw [en]
  have hs : ∀ (n : Int) (L : List Int), putsL (n :: L) = Vm.put n.toNat ++ putsL L := fun n L => by simp [putsL]
  rw [hs]
  exact o3.append p3
end Go.Proofs.YteigglhhnemngaaGreatDoor
namespace Go.Proofs.YteigglhhnemngaaGreatDoor
set_option maxRecDepth 100000
set_option linter.unusedVariables false
set_option linter.unusedSimpArgs false
theorem Seg.split {S : ByteArray} {a c : Nat} {l m : List UInt8} (h : Seg S a c (l ++ m)) : ∃ b, Seg S a b l ∧ Seg S b c m := by
  obtain ⟨h1, h2, r, h3⟩ := h
  rw [List.length_append] at h1
  refine ⟨a + l.length, ⟨rfl, by omega, m ++ r, by rw [h3, List.append_assoc]⟩, by omega, h2, r, ?_⟩
  rw [← List.drop_drop, h3, List.append_assoc, List.drop_left]
theorem Seg.le {S : ByteArray} {a c : Nat} {l : List UInt8} (h : Seg S a c l) : a ≤ c ∧ c ≤ S.size := ⟨by have := h.1; omega, h.2.1⟩
theorem part_told {q : Cd} (hq : CdOk q) {S : ByteArray} {a b : Nat} {e : Ev} (h : mayT q e = true) (hs : Seg S a b (putsL (restN q e))) : partP q (nmR S) ⟨e.kd, e.th, 0, 0, 0, 0, 0⟩ (a, 0) = (e, (b, 0)) := by
  obtain ⟨h0, h1, hk, hv, hm, k1, k2, k5, k7⟩ := told_of hq h
  have S0 := hq.S0
  have V0 := hq.V0
  have V1 := hq.V1
  have S1 := hq.S1
  have c0 := hq.c0
  have c1 := hq.c1
  have hbg := hq.bg e.th.toNat
  have hbp := hq.bp e.th.toNat
  obtain ⟨kd, th, tx, pl, v, x, why⟩ := e
  simp only at h0 h1 hk hv k1 k2 k5 k7 hbg hbp
  unfold MayK at hm
  simp only at hm
  clear h
  by_cases n1 : kd = 1
  · subst n1
    have hvc := k1 rfl
    have e1 : restN q ⟨1, th, tx, pl, v, x, why⟩ = [tx, v - q.clk] := by unfold restN; rw [if_pos rfl]
    rw [e1, putsL_two] at hs
    obtain ⟨m, s1, s2⟩ := hs.split
    have o1 := step_put (n := u64 0) (l := 0) (m := 5) s1 (by omega) (by omega) (by omega) (by omega)
    have o2 := step_put (n := u64 (0 - q.clk)) (l := 0) (m := 1099511627776 - q.clk) s2 (by omega) (by omega) (by omega) (by omega)
    have e2 : partP q (nmR S) ⟨1, th, 0, 0, 0, 0, 0⟩ (a, 0) = beginP q (nmR S) ⟨1, th, 0, 0, 0, 0, 0⟩ (a, 0) := by unfold partP; rw [if_pos rfl]
    rw [e2]
    unfold beginP clkP txP
    simp only [o1, o2]
    obtain ⟨rfl, rfl, rfl⟩ : pl = 0 ∧ x = 0 ∧ why = 0 := by omega
    rw [show q.clk + (v - q.clk) = v by omega]
  by_cases n2 : kd = 2
  · subst n2
    have hvc := k2 rfl
    have e1 : restN q ⟨2, th, tx, pl, v, x, why⟩ = [pl, q.bg th.toNat - v] := by unfold restN; rw [if_neg n1, if_pos rfl]
    rw [e1, putsL_two] at hs
    obtain ⟨m, s1, s2⟩ := hs.split
    have o1 := step_put (n := u64 0) (l := 0) (m := q.S - 1) s1 (by omega) (by omega) (by omega) (by omega)
    have o2 := step_put (n := u64 (q.bg th.toNat - 0)) (l := 0) (m := q.bg th.toNat) s2 (by omega) (by omega) (by omega) (by omega)
    have e2 : partP q (nmR S) ⟨2, th, 0, 0, 0, 0, 0⟩ (a, 0) = lookP q (nmR S) ⟨2, th, 0, 0, 0, 0, 0⟩ (a, 0) := by unfold partP; rw [if_neg n1, if_pos rfl]
    rw [e2]
    unfold lookP seenP stripeP
    simp only [o1, o2]
    obtain ⟨rfl, rfl, rfl⟩ : tx = 0 ∧ x = 0 ∧ why = 0 := by omega
    rw [show q.bg th.toNat - (q.bg th.toNat - v) = v by omega]
  by_cases n3 : kd = 3 ∨ kd = 8
  · have e1 : restN q ⟨kd, th, tx, pl, v, x, why⟩ = [pl, zigV (i64w (x - q.xs pl.toNat))] := by unfold restN; rw [if_neg n1, if_neg n2, if_pos n3]
    rw [e1, putsL_two] at hs
    obtain ⟨m, s1, s2⟩ := hs.split
    have hx0 := i64w_lo (x - q.xs pl.toNat)
    have hx1 := i64w_hi (x - q.xs pl.toNat)
    have z0 := zig_lo _ hx0
    have z1 := zig_hi _ hx0 hx1
    have o1 := step_put (n := u64 0) (l := 0) (m := q.V - 1) s1 (by omega) (by omega) (by omega) (by omega)
    have o2 := step_put (n := zigV (i64w (0 - q.xs pl.toNat))) (l := 0) (m := 18446744073709551615) s2 z0 z0 (by omega) (by omega)
    have e2 : partP q (nmR S) ⟨kd, th, 0, 0, 0, 0, 0⟩ (a, 0) = valueP q (nmR S) ⟨kd, th, 0, 0, 0, 0, 0⟩ (a, 0) := by unfold partP; rw [if_neg n1, if_neg n2, if_pos n3]
    have hxx : i64w (q.xs pl.toNat + zagV (zigV (i64w (x - q.xs pl.toNat)))) = x := by
      rw [zag_zig]
      have hb := hq.xs pl.toNat
      unfold i64w
      rw [IntKind.wrap_i64, IntKind.wrap_i64]
      omega
    rw [e2]
    unfold valueP numP varP
    simp only [o1, o2, hxx]
    obtain ⟨rfl, rfl, rfl⟩ : tx = 0 ∧ v = 0 ∧ why = 0 := by omega
    rfl
  by_cases n4 : kd = 4 ∨ kd = 6 ∨ kd = 9 ∨ kd = 11
  · have e1 : restN q ⟨kd, th, tx, pl, v, x, why⟩ = [pl] := by unfold restN; rw [if_neg n1, if_neg n2, if_neg n3, if_pos n4]
    rw [e1, putsL_one] at hs
    have o1 := step_put (n := u64 0) (l := 0) (m := q.S - 1) hs (by omega) (by omega) (by omega) (by omega)
    have e2 : partP q (nmR S) ⟨kd, th, 0, 0, 0, 0, 0⟩ (a, 0) = stripeP q (nmR S) ⟨kd, th, 0, 0, 0, 0, 0⟩ (a, 0) := by unfold partP; rw [if_neg n1, if_neg n2, if_neg n3, if_pos n4]
    rw [e2]
    unfold stripeP
    simp only [o1]
    obtain ⟨rfl, rfl, rfl, rfl⟩ : tx = 0 ∧ v = 0 ∧ x = 0 ∧ why = 0 := by omega
    rfl
  by_cases n5 : kd = 5
  · subst n5
    have hvc := k5 rfl
    have e1 : restN q ⟨5, th, tx, pl, v, x, why⟩ = [v - q.clk] := by unfold restN; rw [if_neg n1, if_neg n2, if_neg n3, if_neg n4, if_pos rfl]
    rw [e1, putsL_one] at hs
    have o1 := step_put (n := u64 (0 - q.clk)) (l := 1) (m := 1099511627776 - q.clk) hs (by omega) (by omega) (by omega) (by omega)
    have e2 : partP q (nmR S) ⟨5, th, 0, 0, 0, 0, 0⟩ (a, 0) = bumpP q (nmR S) ⟨5, th, 0, 0, 0, 0, 0⟩ (a, 0) := by unfold partP; rw [if_neg n1, if_neg n2, if_neg n3, if_neg n4, if_pos rfl]
    rw [e2]
    unfold bumpP
    simp only [o1]
    obtain ⟨rfl, rfl, rfl, rfl⟩ : tx = 0 ∧ pl = 0 ∧ x = 0 ∧ why = 0 := by omega
    rw [show q.clk + (v - q.clk) = v by omega]
  by_cases n7 : kd = 7
  · subst n7
    have hvc := k7 rfl
    have e1 : restN q ⟨7, th, tx, pl, v, x, why⟩ = [min v 1] := by unfold restN; rw [if_neg n1, if_neg n2, if_neg n3, if_neg n4, if_neg n5, if_pos rfl]
    rw [e1, putsL_one] at hs
    have o1 := step_put (n := u64 (min 0 1)) (l := 0) (m := min (q.bp th.toNat) 1) hs (by omega) (by omega) (by omega) (by omega)
    have e2 : partP q (nmR S) ⟨7, th, 0, 0, 0, 0, 0⟩ (a, 0) = commitP q (nmR S) ⟨7, th, 0, 0, 0, 0, 0⟩ (a, 0) := by unfold partP; rw [if_neg n1, if_neg n2, if_neg n3, if_neg n4, if_neg n5, if_pos rfl]
    have hbv : q.bp th.toNat * min v 1 = v := by
      rcases hvc with h | h
      · rw [h, show min (0 : Int) 1 = 0 from rfl, Int.mul_zero]
      · have : min v 1 = 0 ∨ min v 1 = 1 := by omega
        rcases this with h9 | h9 <;> rw [h9] <;> omega
    rw [e2]
    unfold commitP
    simp only [o1, hbv]
    obtain ⟨rfl, rfl, rfl, rfl⟩ : tx = 0 ∧ pl = 0 ∧ x = 0 ∧ why = 0 := by omega
    rfl
  by_cases n10 : kd = 10
  · subst n10
    have e2 : partP q (nmR S) ⟨10, th, 0, 0, 0, 0, 0⟩ (a, 0) = abortP q (nmR S) ⟨10, th, 0, 0, 0, 0, 0⟩ (a, 0) := by unfold partP; rw [if_neg n1, if_neg n2, if_neg n3, if_neg n4, if_neg n5, if_neg n7, if_pos rfl]
    obtain ⟨rfl, rfl, rfl⟩ : tx = 0 ∧ v = 0 ∧ x = 0 := by omega
    by_cases h6 : why = 6
    · have e1 : restN q ⟨10, th, 0, pl, 0, 0, why⟩ = [why - 1] := by unfold restN; rw [if_neg n1, if_neg n2, if_neg n3, if_neg n4, if_neg n5, if_neg n7, if_pos rfl, if_pos h6]
      rw [e1, putsL_one] at hs
      have o1 := step_put (n := u64 (0 - 1)) (l := 0) (m := 5) hs (by omega) (by omega) (by omega) (by omega)
      have ew : whyP (nmR S) ⟨10, th, 0, 0, 0, 0, 0⟩ (a, 0) = (⟨10, th, 0, 0, 0, 0, why⟩, (b, 0)) := by
        unfold whyP
        simp only [o1]
        rw [show why - 1 + 1 = why by omega]
      rw [e2]
      unfold abortP
      rw [ew, if_pos h6]
      obtain rfl : pl = 0 := by omega
      rfl
    · have e1 : restN q ⟨10, th, 0, pl, 0, 0, why⟩ = [why - 1, pl] := by unfold restN; rw [if_neg n1, if_neg n2, if_neg n3, if_neg n4, if_neg n5, if_neg n7, if_pos rfl, if_neg h6]
      rw [e1, putsL_two] at hs
      obtain ⟨m, s1, s2⟩ := hs.split
      have o1 := step_put (n := u64 (0 - 1)) (l := 0) (m := 5) s1 (by omega) (by omega) (by omega) (by omega)
      have o2 := step_put (n := u64 0) (l := 0) (m := q.S - 1) s2 (by omega) (by omega) (by omega) (by omega)
      have ew : whyP (nmR S) ⟨10, th, 0, 0, 0, 0, 0⟩ (a, 0) = (⟨10, th, 0, 0, 0, 0, why⟩, (m, 0)) := by
        unfold whyP
        simp only [o1]
        rw [show why - 1 + 1 = why by omega]
      rw [e2]
      unfold abortP
      rw [ew, if_neg h6]
      unfold stripeP
      simp only [o2]
  have e1 : restN q ⟨kd, th, tx, pl, v, x, why⟩ = [] := by unfold restN; rw [if_neg n1, if_neg n2, if_neg n3, if_neg n4, if_neg n5, if_neg n7, if_neg n10]
  rw [e1] at hs
  have e2 : partP q (nmR S) ⟨kd, th, 0, 0, 0, 0, 0⟩ (a, 0) = (⟨kd, th, 0, 0, 0, 0, 0⟩, (a, 0)) := by unfold partP; rw [if_neg n1, if_neg n2, if_neg n3, if_neg n4, if_neg n5, if_neg n7, if_neg n10]
  obtain ⟨rfl, rfl, rfl, rfl, rfl⟩ : tx = 0 ∧ pl = 0 ∧ v = 0 ∧ x = 0 ∧ why = 0 := by omega
  have hab : a = b := hs.1
  rw [e2, hab]
theorem rd_told {q : Cd} (hq : CdOk q) {S : ByteArray} {a b : Nat} {e : Ev} (h : mayT q e = true) (hs : Seg S a b (evB q e)) : rdX q S a 0 = (e, (b, 0)) := by
  obtain ⟨h0, h1, hk, _⟩ := told_of hq h
  obtain ⟨b0, b1, b2, b3⟩ := who_back hk h0 h1 hq.l0 hq.l1 hq.T1
  have hT := hq.T1
  have hh : evB q e = Vm.put (whoN q e).toNat ++ putsL (restN q e) := by simp [evB, putsL]
  rw [hh] at hs
  obtain ⟨m, s1, s2⟩ := hs.split
  have o1 := step_put (n := u64 (whoN q ev0)) (l := 0) (m := 13 * q.T - 1) s1 b0 b0 b1 (by omega)
  have ew : whoP q (nmR S) ev0 (a, 0) = (⟨e.kd, e.th, 0, 0, 0, 0, 0⟩, (m, 0)) := by
    unfold whoP
    simp only [o1]
    unfold whoN
    rw [b2, b3]
    rfl
  unfold rdX passP
  rw [ew]
  exact part_told hq h s2
theorem rd_up {q : Cd} (hq : CdOk q) {S : ByteArray} {a : Nat} {wr : Int} (ha : a ≤ S.size) : a ≤ (rdX q S a wr).2.1 ∧ (rdX q S a wr).2.1 ≤ S.size := by
  have S0 := hq.S0
  have V0 := hq.V0
  have V1 := hq.V1
  have S1 := hq.S1
  have c0 := hq.c0
  have c1 := hq.c1
  have T0 := hq.T0
  have u0 := step_up (S := S) (x := (a, wr)) (n := u64 (whoN q ev0)) (l := 0) (m := 13 * q.T - 1) ha (by omega)
  unfold rdX passP
  have key : ∀ (e : Ev) (s : Nat × Int), s.1 ≤ S.size → s.1 ≤ (partP q (nmR S) e s).2.1 ∧ (partP q (nmR S) e s).2.1 ≤ S.size := fun e s hs => by
    have hbg := hq.bg e.th.toNat
    have hbp := hq.bp e.th.toNat
    unfold partP
    split
    · have u1 := step_up (S := S) (x := s) (n := u64 e.tx) (l := 0) (m := 5) hs (by omega)
      have u2 := step_up (S := S) (x := (txP (nmR S) e s).2) (n := u64 ((txP (nmR S) e s).1.v - q.clk)) (l := 0) (m := 1099511627776 - q.clk) u1.2.1 (by omega)
      exact ⟨Nat.le_trans u1.1 u2.1, u2.2.1⟩
    · split
      · have u1 := step_up (S := S) (x := s) (n := u64 e.pl) (l := 0) (m := q.S - 1) hs (by omega)
        have u2 := step_up (S := S) (x := (stripeP q (nmR S) e s).2) (n := u64 (q.bg e.th.toNat - (stripeP q (nmR S) e s).1.v)) (l := 0) (m := q.bg e.th.toNat) u1.2.1 (by omega)
        exact ⟨Nat.le_trans u1.1 u2.1, u2.2.1⟩
      · split
        · have u1 := step_up (S := S) (x := s) (n := u64 e.pl) (l := 0) (m := q.V - 1) hs (by omega)
          have u2 := step_up (S := S) (x := (varP q (nmR S) e s).2) (n := zigV (i64w ((varP q (nmR S) e s).1.x - q.xs (varP q (nmR S) e s).1.pl.toNat))) (l := 0) (m := 18446744073709551615) u1.2.1 (by omega)
          exact ⟨Nat.le_trans u1.1 u2.1, u2.2.1⟩
        · split
          · have u1 := step_up (S := S) (x := s) (n := u64 e.pl) (l := 0) (m := q.S - 1) hs (by omega)
            exact ⟨u1.1, u1.2.1⟩
          · split
            · have u1 := step_up (S := S) (x := s) (n := u64 (e.v - q.clk)) (l := 1) (m := 1099511627776 - q.clk) hs (by omega)
              exact ⟨u1.1, u1.2.1⟩
            · split
              · have u1 := step_up (S := S) (x := s) (n := u64 (min e.v 1)) (l := 0) (m := min (q.bp e.th.toNat) 1) hs (by omega)
                exact ⟨u1.1, u1.2.1⟩
              · split
                · have u1 := step_up (S := S) (x := s) (n := u64 (e.why - 1)) (l := 0) (m := 5) hs (by omega)
                  unfold abortP
                  split
                  · exact ⟨u1.1, u1.2.1⟩
                  · have u2 := step_up (S := S) (x := (whyP (nmR S) e s).2) (n := u64 (whyP (nmR S) e s).1.pl) (l := 0) (m := q.S - 1) u1.2.1 (by omega)
                    exact ⟨Nat.le_trans u1.1 u2.1, u2.2.1⟩
                · exact ⟨Nat.le_refl _, hs⟩
  have h9 := key (whoP q (nmR S) ev0 (a, wr)).1 (whoP q (nmR S) ev0 (a, wr)).2 u0.2.1
  exact ⟨Nat.le_trans u0.1 h9.1, h9.2⟩
end Go.Proofs.YteigglhhnemngaaGreatDoor
namespace Go.Proofs.YteigglhhnemngaaGreatDoor
set_option maxRecDepth 100000
open Go.RowKit Go.Deep
set_option linter.unusedVariables false
set_option linter.unusedSimpArgs false
theorem know_ok {q : Cd} (hq : CdOk q) {e : Ev} (h : mayT q e = true) (hx : -9223372036854775808 ≤ e.x ∧ e.x ≤ 9223372036854775807) : CdOk (knowQ q e) := by
  obtain ⟨h0, h1, hk, hv, hm, k1, k2, k5, k7⟩ := told_of hq h
  have hbg := hq.bg
  have hbp := hq.bp
  have hc0 := hq.c0
  have hc1 := hq.c1
  have hclk : q.clk ≤ (knowQ q e).clk ∧ (knowQ q e).clk ≤ 1099511627776 := by
    unfold knowQ
    simp only
    split
    · rename_i hh
      rcases hh with hh | hh
      · exact ⟨k1 hh, hv.2⟩
      · exact ⟨by have := k5 hh; omega, hv.2⟩
    · exact ⟨Int.le_refl _, hc1⟩
  refine ⟨hq.T0, hq.T1, hq.V0, hq.V1, hq.S0, hq.S1, h0, h1, by omega, hclk.2, fun t => ?_, fun t => ?_, fun v => ?_⟩
  · have b1 := (hbg t).1
    have b2 := (hbg t).2
    by_cases hh : e.kd = 1
    · have e1 : (knowQ q e).bg t = put q.bg e.th.toNat e.v t := by unfold knowQ; simp only [hh, if_true]
      have e2 : (knowQ q e).clk = e.v := by unfold knowQ; simp only [hh, true_or, if_true]
      rw [e1, e2]
      unfold put
      split
      · exact ⟨hv.1, Int.le_refl _⟩
      · exact ⟨b1, by have := k1 hh; omega⟩
    · have e1 : (knowQ q e).bg t = q.bg t := by unfold knowQ; simp only [hh, if_false]
      rw [e1]
      exact ⟨b1, by omega⟩
  · have b1 := (hbp t).1
    have b2 := (hbp t).2
    by_cases hh : e.kd = 5
    · have e1 : (knowQ q e).bp t = put q.bp e.th.toNat e.v t := by unfold knowQ; simp only [hh, if_true]
      have e2 : (knowQ q e).clk = e.v := by unfold knowQ; simp only [hh, or_true, if_true]
      rw [e1, e2]
      unfold put
      split
      · exact ⟨hv.1, Int.le_refl _⟩
      · exact ⟨b1, by have := k5 hh; omega⟩
    · have e1 : (knowQ q e).bp t = q.bp t := by unfold knowQ; simp only [hh, if_false]
      rw [e1]
      exact ⟨b1, by omega⟩
  · have hb := hq.xs v
    by_cases hh : e.kd = 3 ∨ e.kd = 8
    · have e1 : (knowQ q e).xs v = put q.xs e.pl.toNat e.x v := by unfold knowQ; simp only [hh, if_true]
      rw [e1]
      unfold put
      split
      · exact hx
      · exact hb
    · have e1 : (knowQ q e).xs v = q.xs v := by unfold knowQ; simp only [hh, if_false]
      rw [e1]
      exact hb
theorem wrQ_ok {q : Cd} (hq : CdOk q) {e : Ev} (ok : EvOk e) {most : Int} {l : List UInt8} : CdOk (wrQ q most l e) := by
  unfold wrQ
  split
  · exact know_ok hq (by rename_i h; exact h.1) ⟨ok.y0, ok.y1⟩
  · exact hq
theorem put1 {n : Int} (h0 : 0 ≤ n) (h : n < 128) : (Vm.put n.toNat).length = 1 := by
  have h1 := Vm.put_mono 10 n.toNat 127 (by omega)
  have h2 := (Vm.put_len n.toNat).1
  have h3 : (Vm.putF 10 127).length = 1 := by kernel_rfl
  have h4 : (Vm.put n.toNat).length ≤ 1 := by rw [← h3]; exact h1
  omega
theorem put6 {n : Int} (h0 : 0 ≤ n) (h : n ≤ 1099511627776) : (Vm.put n.toNat).length ≤ 6 := by
  have h1 := Vm.put_mono 10 n.toNat 1099511627776 (by omega)
  have h3 : (Vm.putF 10 1099511627776).length = 6 := by kernel_rfl
  rw [← h3]
  exact h1
theorem evB_cons (q : Cd) (e : Ev) : evB q e = Vm.put (whoN q e).toNat ++ putsL (restN q e) := by simp [evB, putsL]
theorem evB_small {q : Cd} (hq : CdOk q) {e : Ev} (h : mayT q e = true) : 1 ≤ (evB q e).length ∧ (evB q e).length ≤ 12 := by
  obtain ⟨h0, h1, hk, hv, hm, k1, k2, k5, k7⟩ := told_of hq h
  obtain ⟨b0, b1, _, _⟩ := who_back hk h0 h1 hq.l0 hq.l1 hq.T1
  have T1 := hq.T1
  have S1 := hq.S1
  have V1 := hq.V1
  have c0 := hq.c0
  have c1 := hq.c1
  have hbg := hq.bg e.th.toNat
  have w1 := put1 (n := whoN q e) b0 (by unfold whoN; omega)
  rw [evB_cons, List.length_append, w1]
  have hr : (putsL (restN q e)).length ≤ 11 := by
    unfold MayK at hm
    unfold restN
    split
    · rw [putsL_two, List.length_append]
      have := put1 (n := e.tx) (by omega) (by omega)
      have := put6 (n := e.v - q.clk) (by have := k1 (by assumption); omega) (by omega)
      omega
    · split
      · rw [putsL_two, List.length_append]
        have := put1 (n := e.pl) (by omega) (by omega)
        have := put6 (n := q.bg e.th.toNat - e.v) (by have := k2 (by assumption); omega) (by omega)
        omega
      · split
        · rw [putsL_two, List.length_append]
          have := put1 (n := e.pl) (by omega) (by omega)
          have := put10 (zigV (i64w (e.x - q.xs e.pl.toNat))).toNat
          omega
        · split
          · rw [putsL_one]
            have := put1 (n := e.pl) (by omega) (by omega)
            omega
          · split
            · rw [putsL_one]
              have := put10 (e.v - q.clk).toNat
              omega
            · split
              · rw [putsL_one]
                have := put10 (min e.v 1).toNat
                omega
              · split
                · split
                  · rw [putsL_one]
                    have := put10 (e.why - 1).toNat
                    omega
                  · rw [putsL_two, List.length_append]
                    have := put1 (n := e.why - 1) (by omega) (by omega)
                    have := put1 (n := e.pl) (by omega) (by omega)
                    omega
                · simp [putsL]
  omega
structure CW (w0 : World) (gc gw B : Nat) (most : Int) (q : Cd) (l : List UInt8) (w : World) : Prop where
  cod : CodAt w gc q
  wr : Wr w B gw most l
  b : B ≤ w.heap.size
  bel : Below w0.heap.size w0 w
  ok : CdOk q
  n1 : w0.heap.size ≤ gc
  n2 : w0.heap.size ≤ gw
  n3 : w0.heap.size ≤ B
section
variable {w0 w w' : World} {gc gw B : Nat} {most : Int} {q : Cd} {l : List UInt8}
theorem CW.below (h : CW w0 gc gw B most q l w) (b : Below w.heap.size w w') : CW w0 gc gw B most q l w' :=
  ⟨h.cod.below b, h.wr.below b (Nat.le_refl _), Nat.le_trans h.b b.size, h.bel.trans (b.mono h.bel.size), h.ok, h.n1, h.n2, h.n3⟩
theorem write_cw (hek : Ek w0) (h : CW w0 gc gw B most q l w) (e : Ev) (ok' : EvOk e) :
    Calls Tryz.prog 26 #[.pointer (some ⟨gc, 0, none⟩), .pointer (some ⟨gw, 0, none⟩), evV e] w fun r w' => r = .returned (.int .i64 (wrE q most l e)) ∧ CW w0 gc gw B most (wrQ q most l e) (wrL q most l e) w' ∧ FrT B gw gc w w' := by
  refine (write_anyD q h.ok e ok' B gc gw most l w (hek.below h.bel) h.cod h.wr h.b).mono ?_
  rintro r w' ⟨h1, h2, h3, h4⟩
  exact ⟨h1, ⟨h3, h2, Nat.le_trans h.b h4.size, h.bel.trans (h4.below h.n2 h.n1 h.n3 h.bel.size), wrQ_ok h.ok ok', h.n1, h.n2, h.n3⟩, h4⟩
end
end Go.Proofs.YteigglhhnemngaaGreatDoor
namespace Go.Proofs.YteigglhhnemngaaGreatDoor
set_option maxRecDepth 100000
open Go.RowKit Go.Deep
set_option linter.unusedVariables false
set_option linter.unusedSimpArgs false
theorem raw_fits {most : Int} {l b : List UInt8} (h : (l.length : Int) + b.length ≤ most) : rawE most l b = 0 ∧ rawL most l b = l ++ b := by
  unfold rawE rawL
  rw [if_pos h, if_pos h]
  exact ⟨rfl, rfl⟩
theorem written {q : Cd} {l : List UInt8} {e : Ev} (h : mayT q e = true) (hf : (l.length : Int) + (evB q e).length ≤ 16777216) : wrE q 16777216 l e = 0 ∧ wrL q 16777216 l e = l ++ evB q e ∧ wrQ q 16777216 l e = knowQ q e := by
  obtain ⟨a, b⟩ := raw_fits hf
  unfold wrE wrL wrQ
  rw [if_pos h, if_pos h, if_pos ⟨h, a⟩, a, b]
  exact ⟨rfl, rfl, rfl⟩
end Go.Proofs.YteigglhhnemngaaGreatDoor
