/-
  THE DOCUMENT'S OWN HEAP (seesawref11), as it lies: by the same numbers as the program's; what its readers tell. Conditions: as they stand.
-/
import Derived.Test.YtokhcogmoleocaaTa
namespace Go.Proofs.Ytokhcogmoleocaa
set_option maxRecDepth 100000
open Go.RowKit Go.Deep
set_option linter.unusedVariables false
/-- A list of numbers, in blocks from lo on that are not q. -/
structure SlR (w : World) (lo q : Nat) (A : Option Addr) (L : List Int) : Prop where
  ints : Ints w w.heap.size A L
  apart : ∀ p, A = some p → lo ≤ p.block ∧ p.block ≠ q
section
variable {w w' : World} {lo q : Nat} {A : Option Addr} {L : List Int}
theorem SlR.below (h : SlR w lo q A L) (hb : Below w.heap.size w w') : SlR w' lo q A L := ⟨ints_up11 (h.ints.below hb (Nat.le_refl _)) hb.size, h.apart⟩
theorem SlR.keep (h : SlR w lo q A L) (hk : ∀ b, lo ≤ b → b ≠ q → b < w.heap.size → w'.heap[b]? = w.heap[b]?) (hz : w.heap.size ≤ w'.heap.size) : SlR w' lo q A L :=
  ⟨⟨h.ints.len, fun k hkl => by
    obtain ⟨p, rfl, m, c⟩ := h.ints.cell k hkl
    obtain ⟨h1, h2⟩ := h.apart p rfl
    refine ⟨p, rfl, by omega, ?_⟩
    rw [← c]
    unfold World.cell?
    rw [ad_block, hk _ h1 h2 m]⟩, h.apart⟩
theorem SlR.set (h : SlR w lo q A L) (i : Nat) (v : Value) : SlR (w.setCell ⟨q, i, none⟩ v) lo q A L := h.keep (fun b _ h2 _ => heap_set_other _ _ _ _ _ h2) (by simp)
theorem SlR.own {base c : Nat} {e : TypeId} (own : w.ownsRow base e 1 (.slice A L.length c) L.length (vT L)) (hl : L.length ≤ 1000) (h1 : lo ≤ base) (h2 : q < base) : SlR w lo q A L := by
  obtain ⟨A', c', hv, hI⟩ := ints_ownH (L := L) own (by omega)
  injection hv with e1 _ _
  subst e1
  exact ⟨hI, fun p e => by have := ((own_geT own).1 p e).1; exact ⟨by omega, by omega⟩⟩
end
structure RefH (w : World) (q lo : Nat) (c : Nat → Int) : Prop where
  ex : ∃ (X Y Z : Option Addr) (cx cy cz : Nat), w.heap[q]? = some (.cells #[.slice X (valuesL c).length cx, .slice Y (ownersL c).length cy, .slice Z (versionsL c).length cz, .int .i64 (c 65), .int .i64 (c 66)] 70 (0, 0)) ∧ SlR w lo q X (valuesL c) ∧ SlR w lo q Y (ownersL c) ∧ SlR w lo q Z (versionsL c)
section
variable {w w' : World} {q lo : Nat} {c : Nat → Int}
theorem RefH.lt (h : RefH w q lo c) : q < w.heap.size := by
  obtain ⟨X, Y, Z, cx, cy, cz, h1, _⟩ := h.ex
  exact (Array.getElem?_eq_some_iff.1 h1).1
theorem RefH.below (h : RefH w q lo c) (hb : Below w.heap.size w w') : RefH w' q lo c := by
  have hq := h.lt
  obtain ⟨X, Y, Z, cx, cy, cz, h1, h2, h3, h4⟩ := h.ex
  exact ⟨X, Y, Z, cx, cy, cz, (hb.block q hq).trans h1, h2.below hb, h3.below hb, h4.below hb⟩
/-- Another block than q, below lo, has changed. -/
theorem RefH.keep (h : RefH w q lo c) (x : Nat) (hx : x ≠ q) (hxl : x < lo) (hk : ∀ b, b ≠ x → b < w.heap.size → w'.heap[b]? = w.heap[b]?) (hz : w.heap.size ≤ w'.heap.size) : RefH w' q lo c := by
  have hq := h.lt
  obtain ⟨X, Y, Z, cx, cy, cz, h1, h2, h3, h4⟩ := h.ex
  have hk2 : ∀ b, lo ≤ b → b ≠ q → b < w.heap.size → w'.heap[b]? = w.heap[b]? := fun b h1 _ h3 => hk b (by omega) h3
  exact ⟨X, Y, Z, cx, cy, cz, (hk q (Ne.symm hx) hq).trans h1, h2.keep hk2 hz, h3.keep hk2 hz, h4.keep hk2 hz⟩
/-- What a call leaves that writes it. -/
structure UpdR (w : World) (q lo : Nat) (c : Nat → Int) (w' : World) : Prop where
  at' : RefH w' q lo c
  far : ∀ b, b ≠ q → b < w.heap.size → w'.heap[b]? = w.heap[b]?
  size : w.heap.size ≤ w'.heap.size
  low : ∀ B, B ≤ q → Below B w w'
theorem UpdR.refl (h : RefH w q lo c) : UpdR w q lo c w := ⟨h, fun _ _ _ => rfl, Nat.le_refl _, fun B _ => Below.refl _ _⟩
theorem valuesL_len (n : Nat) (h : c 67 = n) : (valuesL c).length = n := by simp [valuesL, h]
theorem ownersL_len (n : Nat) (h : c 0 = n) : (ownersL c).length = n := by simp [ownersL, h]
theorem versionsL_len (n : Nat) (h : c 0 = n) : (versionsL c).length = n := by simp [versionsL, h]
/-- All of it. -/
structure Opn (w : World) (q lo : Nat) (c : Nat → Int) (n m : Nat) (X Y Z : Option Addr) (cx cy cz : Nat) : Prop where
  e0 : c 0 = n
  e67 : c 67 = m
  n1 : 1 ≤ n
  nm : n ≤ m
  m32 : m ≤ 32
  row : w.heap[q]? = some (.cells #[.slice X m cx, .slice Y n cy, .slice Z n cz, .int .i64 (c 65), .int .i64 (c 66)] 70 (0, 0))
  x : SlR w lo q X (valuesL c)
  y : SlR w lo q Y (ownersL c)
  z : SlR w lo q Z (versionsL c)
theorem RefH.opn (h : RefH w q lo c) (hb : HB c) : ∃ n m X Y Z cx cy cz, Opn w q lo c n m X Y Z cx cy cz := by
  obtain ⟨X, Y, Z, cx, cy, cz, h1, h2, h3, h4⟩ := h.ex
  have := hb.s1; have := hb.s2; have := hb.v1; have := hb.v2
  obtain ⟨n, hn⟩ : ∃ n : Nat, c 0 = n := ⟨(c 0).toNat, by omega⟩
  obtain ⟨m, hm⟩ : ∃ m : Nat, c 67 = m := ⟨(c 67).toNat, by omega⟩
  rw [valuesL_len m hm, ownersL_len n hn, versionsL_len n hn] at h1
  exact ⟨n, m, X, Y, Z, cx, cy, cz, hn, hm, by omega, by omega, by omega, h1, h2, h3, h4⟩
variable {n m : Nat} {X Y Z : Option Addr} {cx cy cz : Nat}
theorem Opn.ref (h : Opn w q lo c n m X Y Z cx cy cz) : RefH w q lo c := ⟨X, Y, Z, cx, cy, cz, by rw [valuesL_len m h.e67, ownersL_len n h.e0, versionsL_len n h.e0]; exact h.row, h.x, h.y, h.z⟩
theorem Opn.atX (h : Opn w q lo c n m X Y Z cx cy cz) {k : Nat} (hk : k < m) : ∃ p, X = some p ∧ w.cell? (p.add k) = some (.int .i64 (c (68 + k))) := by
  obtain ⟨p, e, _, hc⟩ := h.x.ints.cell k (by rw [valuesL_len m h.e67]; exact hk)
  exact ⟨p, e, by rw [hc]; simp [valuesL]⟩
theorem Opn.atY (h : Opn w q lo c n m X Y Z cx cy cz) {k : Nat} (hk : k < n) : ∃ p, Y = some p ∧ w.cell? (p.add k) = some (.int .i64 (c (1 + k))) := by
  obtain ⟨p, e, _, hc⟩ := h.y.ints.cell k (by rw [ownersL_len n h.e0]; exact hk)
  exact ⟨p, e, by rw [hc]; simp [ownersL]⟩
theorem Opn.atZ (h : Opn w q lo c n m X Y Z cx cy cz) {k : Nat} (hk : k < n) : ∃ p, Z = some p ∧ w.cell? (p.add k) = some (.int .i64 (c (33 + k))) := by
  obtain ⟨p, e, _, hc⟩ := h.z.ints.cell k (by rw [versionsL_len n h.e0]; exact hk)
  exact ⟨p, e, by rw [hc]; simp [versionsL]⟩
theorem Opn.cell (h : Opn w q lo c n m X Y Z cx cy cz) (i : Nat) : w.cell? ⟨q, i, none⟩ = (#[.slice X m cx, .slice Y n cy, .slice Z n cz, .int .i64 (c 65), .int .i64 (c 66)] : Array Value)[i]? := by simp [World.cell?, h.row]
theorem Opn.fr (h : Opn w q lo c n m X Y Z cx cy cz) (i : Nat) : w.frozen? ⟨q, i, none⟩ = false := by simp [World.frozen?, h.row]
set_option maxHeartbeats 4000000 in
theorem ris_any (h : RefH w q lo c) (hb : HB c) (s : Int) : Calls Try.prog 57 #[.pointer (some ⟨q, 0, none⟩), .int .i64 s] w fun e w' => e = .returned (.bool (isS c s)) ∧ w = w' := by
  obtain ⟨n, m, X, Y, Z, cx, cy, cz, o⟩ := h.opn hb
  have c1 := o.cell 1
  simp at c1
  by_cases h1 : 0 ≤ s
  · rw [show isS c s = decide (s < n) by unfold isS; rw [decide_eq_true h1, o.e0]; rfl]
    clear h o hb
    go_enter Try.func57, Try.ntmps57
    go_wp2_with fail
    go_ret
    exact ⟨rfl, rfl⟩
  · rw [show isS c s = false by unfold isS; rw [decide_eq_false h1]; rfl]
    clear h o hb
    go_enter Try.func57, Try.ntmps57
    go_wp2_with fail
    go_ret
    exact ⟨rfl, rfl⟩
set_option maxHeartbeats 4000000 in
theorem rowner_any (h : RefH w q lo c) (hb : HB c) (s : Int) : Calls Try.prog 53 #[.pointer (some ⟨q, 0, none⟩), .int .i64 s] w fun e w' => e = .returned (.int .i64 (ownerF c s)) ∧ w = w' := by
  have HI := ris_any h hb s
  obtain ⟨n, m, X, Y, Z, cx, cy, cz, o⟩ := h.opn hb
  have c1 := o.cell 1
  simp at c1
  by_cases h1 : isS c s = true
  · obtain ⟨k, rfl, hk, hkl⟩ := isS_nat hb h1
    obtain ⟨p, rfl, hc⟩ := o.atY (k := k) (by have := o.e0; omega)
    rw [show ownerF c (k : Int) = c (1 + k) by unfold ownerF; rw [if_pos h1]; rfl]
    rw [h1] at HI
    have HI := Lib.hid HI
    have i0 : (0 : Int) ≤ (k : Int) := by omega
    have i1 : (k : Int) < (n : Int) := by have := o.e0; omega
    clear h o hb h1 hk hkl
    generalize c (1 + k) = v at hc ⊢
    go_enter Try.func53, Try.ntmps53
    go_wp2_with fail
    refine HI.out.mono ?_
    rintro e w' ⟨rfl, rfl⟩
    go_wp2_with fail
    go_ret
    exact ⟨rfl, rfl⟩
  · rw [Bool.not_eq_true] at h1
    rw [show ownerF c s = -1 by unfold ownerF; rw [h1]; rfl]
    rw [h1] at HI
    have HI := Lib.hid HI
    clear h o hb h1
    go_enter Try.func53, Try.ntmps53
    go_wp2_with fail
    refine HI.out.mono ?_
    rintro e w' ⟨rfl, rfl⟩
    go_wp2_with fail
    go_ret
    exact ⟨rfl, rfl⟩
set_option maxHeartbeats 4000000 in
theorem rversion_any (h : RefH w q lo c) (hb : HB c) (s : Int) : Calls Try.prog 54 #[.pointer (some ⟨q, 0, none⟩), .int .i64 s] w fun e w' => e = .returned (.int .i64 (versionF c s)) ∧ w = w' := by
  have HI := ris_any h hb s
  obtain ⟨n, m, X, Y, Z, cx, cy, cz, o⟩ := h.opn hb
  have c1 := o.cell 2
  simp at c1
  by_cases h1 : isS c s = true
  · obtain ⟨k, rfl, hk, hkl⟩ := isS_nat hb h1
    obtain ⟨p, rfl, hc⟩ := o.atZ (k := k) (by have := o.e0; omega)
    rw [show versionF c (k : Int) = c (33 + k) by unfold versionF; rw [if_pos h1]; rfl]
    rw [h1] at HI
    have HI := Lib.hid HI
    have i0 : (0 : Int) ≤ (k : Int) := by omega
    have i1 : (k : Int) < (n : Int) := by have := o.e0; omega
    clear h o hb h1 hk hkl
    generalize c (33 + k) = v at hc ⊢
    go_enter Try.func54, Try.ntmps54
    go_wp2_with fail
    refine HI.out.mono ?_
    rintro e w' ⟨rfl, rfl⟩
    go_wp2_with fail
    go_ret
    exact ⟨rfl, rfl⟩
  · rw [Bool.not_eq_true] at h1
    rw [show versionF c s = 0 by unfold versionF; rw [h1]; rfl]
    rw [h1] at HI
    have HI := Lib.hid HI
    clear h o hb h1
    go_enter Try.func54, Try.ntmps54
    go_wp2_with fail
    refine HI.out.mono ?_
    rintro e w' ⟨rfl, rfl⟩
    go_wp2_with fail
    go_ret
    exact ⟨rfl, rfl⟩
set_option maxHeartbeats 4000000 in
theorem rvalue_any (h : RefH w q lo c) (hb : HB c) (v : Int) : Calls Try.prog 51 #[.pointer (some ⟨q, 0, none⟩), .int .i64 v] w fun e w' => e = .returned (.int .i64 (valueF c v)) ∧ w = w' := by
  obtain ⟨n, m, X, Y, Z, cx, cy, cz, o⟩ := h.opn hb
  have c1 := o.cell 0
  simp at c1
  by_cases h1 : isV c v = true
  · obtain ⟨k, rfl, hk, hkl⟩ := isV_nat hb h1
    obtain ⟨p, rfl, hc⟩ := o.atX (k := k) (by have := o.e67; omega)
    rw [show valueF c (k : Int) = c (68 + k) by unfold valueF; rw [if_pos h1]; rfl]
    have i0 : (0 : Int) ≤ (k : Int) := by omega
    have i1 : (k : Int) < (m : Int) := by have := o.e67; omega
    clear h o hb h1 hk hkl
    generalize c (68 + k) = v at hc ⊢
    go_enter Try.func51, Try.ntmps51
    go_wp2_with fail
    go_ret
    exact ⟨rfl, rfl⟩
  · have h2 : v < 0 ∨ (m : Int) ≤ v := by rw [isV_iff, o.e67] at h1; omega
    rw [Bool.not_eq_true] at h1
    rw [show valueF c v = 0 by unfold valueF; rw [h1]; rfl]
    clear h o hb h1
    by_cases h3 : v < 0
    · go_enter Try.func51, Try.ntmps51
      go_wp2_with fail
      go_ret
      exact ⟨rfl, rfl⟩
    · have h4 : (m : Int) ≤ v := by omega
      clear h2
      go_enter Try.func51, Try.ntmps51
      go_wp2_with fail
      go_ret
      exact ⟨rfl, rfl⟩
set_option maxHeartbeats 4000000 in
theorem rstripe_any (h : RefH w q lo c) (hb : HB c) (v : Int) : Calls Try.prog 52 #[.pointer (some ⟨q, 0, none⟩), .int .i64 v] w fun e w' => e = .returned (.int .i64 (stripeF c v)) ∧ w = w' := by
  obtain ⟨n, m, X, Y, Z, cx, cy, cz, o⟩ := h.opn hb
  have c1 := o.cell 0
  have c2 := o.cell 1
  simp at c1 c2
  have hn := o.n1
  have hm := o.m32
  have hnm := o.nm
  by_cases h1 : isV c v = true
  · obtain ⟨k, rfl, hk, hkl⟩ := isV_nat hb h1
    have i0 : (0 : Int) ≤ (k : Int) := by omega
    have i1 : (k : Int) < (m : Int) := by have := o.e67; omega
    have hr : (k : Int) % (n : Int) = stripeF c (k : Int) := by unfold stripeF; rw [if_pos h1, o.e0]
    have hz : (n : Int) ≠ 0 := by omega
    rw [← hr]
    clear h o hb h1 hk hkl hr
    go_enter Try.func52, Try.ntmps52
    go_wp2_with fail
    go_ret
    exact ⟨rfl, rfl⟩
  · have h2 : v < 0 ∨ (m : Int) ≤ v := by rw [isV_iff, o.e67] at h1; omega
    rw [Bool.not_eq_true] at h1
    rw [show stripeF c v = -1 by unfold stripeF; rw [h1]; rfl]
    clear h o hb h1
    by_cases h3 : v < 0
    · go_enter Try.func52, Try.ntmps52
      go_wp2_with fail
      go_ret
      exact ⟨rfl, rfl⟩
    · have h4 : (m : Int) ≤ v := by omega
      clear h2
      go_enter Try.func52, Try.ntmps52
      go_wp2_with fail
      go_ret
      exact ⟨rfl, rfl⟩
end
end Go.Proofs.Ytokhcogmoleocaa
