/-
  THE DOCUMENT'S OWN HEAP (seesawref11): Let, Free, Bump, Set. Conditions: as they stand.
-/
import Derived.Test.YtokhcogmoleocaaTc
namespace Go.Proofs.Ytokhcogmoleocaa
set_option maxRecDepth 100000
open Go.RowKit Go.Deep
set_option linter.unusedVariables false
section
variable {w w' w1 : World} {q lo : Nat} {c c' : Nat → Int} {n m : Nat} {X Y Z : Option Addr} {cx cy cz : Nat}
theorem Opn.withY (o : Opn w q lo c n m X Y Z cx cy cz) {k : Nat} (hk : k < n) (x : Int) : Calls Try.prog 58 #[.slice Y n cy, .int .i64 k, .int .i64 x] w fun e w' => ∃ (A' : Option Addr) (c' : Nat), e = .returned (.slice A' n c') ∧ w'.ownsRow w.heap.size 3 1 (.slice A' n c') n (vT ((ownersL c).set k x)) ∧ Below w.heap.size w w' := by
  have HW := with_any cy o.y.ints (by rw [ownersL_len n o.e0]; have := o.nm; have := o.m32; omega) k (by rw [ownersL_len n o.e0]; exact hk) x
  rw [ownersL_len n o.e0] at HW
  exact HW
theorem Opn.withZ (o : Opn w q lo c n m X Y Z cx cy cz) {k : Nat} (hk : k < n) (x : Int) : Calls Try.prog 58 #[.slice Z n cz, .int .i64 k, .int .i64 x] w fun e w' => ∃ (A' : Option Addr) (c' : Nat), e = .returned (.slice A' n c') ∧ w'.ownsRow w.heap.size 3 1 (.slice A' n c') n (vT ((versionsL c).set k x)) ∧ Below w.heap.size w w' := by
  have HW := with_any cz o.z.ints (by rw [versionsL_len n o.e0]; have := o.nm; have := o.m32; omega) k (by rw [versionsL_len n o.e0]; exact hk) x
  rw [versionsL_len n o.e0] at HW
  exact HW
theorem Opn.fieldY (o : Opn w q lo c n m X Y Z cx cy cz) (hlo : lo ≤ w.heap.size) {k : Nat} (hk : k < n) (x : Int) : ∀ A' c' w1, w1.ownsRow w.heap.size 3 1 (.slice A' n c') n (vT ((ownersL c).set k x)) → Below w.heap.size w w1 → w1.cell? ⟨q, 1, none⟩ = some (.slice Y n cy) ∧ w1.frozen? ⟨q, 1, none⟩ = false ∧ Hid (UpdR w q lo (put c (1 + k) x) (w1.setCell ⟨q, 1, none⟩ (.slice A' n c')) ∧ Opn (w1.setCell ⟨q, 1, none⟩ (.slice A' n c')) q lo (put c (1 + k) x) n m X A' Z cx c' cz) := fun A' c' w1 own hb1 => by
  have hq := o.ref.lt
  have c1 := o.cell 1
  simp at c1
  exact ⟨(hb1.cell (p := ⟨q, 1, none⟩) hq).trans c1, (World.frozen?_of_block (a := ⟨q, 1, none⟩) (hb1.block q hq)).trans (o.fr 1), UpdR.store hq hb1 (o.setY hb1 own hk hlo).ref, o.setY hb1 own hk hlo⟩
theorem Opn.fieldZ (o : Opn w q lo c n m X Y Z cx cy cz) (hc : HB c) (hlo : lo ≤ w.heap.size) {k : Nat} (hk : k < n) (x : Int) : ∀ A' c' w1, w1.ownsRow w.heap.size 3 1 (.slice A' n c') n (vT ((versionsL c).set k x)) → Below w.heap.size w w1 → w1.cell? ⟨q, 2, none⟩ = some (.slice Z n cz) ∧ w1.frozen? ⟨q, 2, none⟩ = false ∧ Hid (UpdR w q lo (put c (33 + k) x) (w1.setCell ⟨q, 2, none⟩ (.slice A' n c'))) := fun A' c' w1 own hb1 => by
  have hq := o.ref.lt
  have c1 := o.cell 2
  simp at c1
  exact ⟨(hb1.cell (p := ⟨q, 2, none⟩) hq).trans c1, (World.frozen?_of_block (a := ⟨q, 2, none⟩) (hb1.block q hq)).trans (o.fr 2), UpdR.store hq hb1 (o.setZ hc hb1 own hk hlo).ref⟩
set_option maxHeartbeats 4000000 in
theorem rlet_any (h : RefH w q lo c) (hb : HB c) (ho : HO c) (hlo : lo ≤ w.heap.size) (s who : Int) : Calls Try.prog 47 #[.pointer (some ⟨q, 0, none⟩), .int .i64 s, .int .i64 who] w fun e w' => e = .returned (.int .i64 (ownedE c s who)) ∧ UpdR w q lo (letC c s who) w' := by
  have HI := ris_any h hb s
  have HU := Lib.hid (UpdR.refl h)
  obtain ⟨n, m, X, Y, Z, cx, cy, cz, o⟩ := h.opn hb
  have c1 := o.cell 1
  simp at c1
  by_cases h1 : isS c s = true
  · obtain ⟨k, rfl, hk, hkl⟩ := isS_nat hb h1
    have hkn : k < n := by have := o.e0; omega
    rw [h1] at HI
    have HI := Lib.hid HI
    have i0 : (0 : Int) ≤ (k : Int) := by omega
    have i1 : (k : Int) < (n : Int) := by omega
    have hok := ho k hk
    obtain ⟨p, hp, hc⟩ := o.atY hkn
    by_cases h2 : who < 0 ∨ c (1 + k) ≠ who
    · have e1 : ownedE c (k : Int) who = 7 := by unfold ownedE; rw [if_neg (by rw [h1]; decide), if_pos (show who = -1 ∨ c (1 + (k : Int).toNat) ≠ who by show who = -1 ∨ c (1 + k) ≠ who; omega)]
      rw [show letC c (k : Int) who = c by unfold letC; rw [e1]; rfl, e1]
      subst hp
      by_cases h3 : who < 0
      · clear e1 h o hb h1 hk hkl h2
        go_enter Try.func47, Try.ntmps47
        go_wp2_with fail
        refine HI.out.mono ?_
        rintro e w' ⟨rfl, rfl⟩
        go_wp2_with fail
        go_ret
        exact ⟨rfl, HU.out⟩
      · have h4 : c (1 + k) ≠ who := by omega
        obtain ⟨v, hv⟩ : ∃ v, v = c (1 + k) := ⟨_, rfl⟩
        rw [← hv] at hc h4
        have q1 : (v != who) = true := bne_iff_ne.2 h4
        clear e1 h o hb h1 hk hkl h2 hok hv h4
        go_enter Try.func47, Try.ntmps47
        go_wp2_with fail
        refine HI.out.mono ?_
        rintro e w' ⟨rfl, rfl⟩
        go_wp2_with fail
        go_ret
        exact ⟨rfl, HU.out⟩
    · have h4 : c (1 + k) = who := by omega
      have h3 : ¬ who < 0 := by omega
      have e1 : ownedE c (k : Int) who = 0 := by unfold ownedE; rw [if_neg (by rw [h1]; decide), if_neg (show ¬ (who = -1 ∨ c (1 + (k : Int).toNat) ≠ who) by show ¬ (who = -1 ∨ c (1 + k) ≠ who); omega)]
      rw [show letC c (k : Int) who = put c (1 + k) (-1) by unfold letC; rw [e1]; rfl, e1]
      rw [h4] at hc
      have q1 : (who != who) = false := bne_eq_false_iff_eq.2 rfl
      have HW := Lib.hid (o.withY hkn (-1))
      have HF := Lib.hid (o.fieldY hlo hkn (-1))
      subst hp
      clear e1 h o hb h1 hk hkl h2 hok h4 HU
      go_enter Try.func47, Try.ntmps47
      go_wp2_with fail
      refine HI.out.mono ?_
      rintro e w' ⟨rfl, rfl⟩
      go_wp2_with fail
      refine HW.out.mono ?_
      rintro e w1 ⟨A', c', rfl, own, hb1⟩
      obtain ⟨g1, g2, HU⟩ := HF.out _ _ _ own hb1
      clear own hb1 HF
      go_wp2_with fail
      go_ret
      exact ⟨rfl, HU.out.1⟩
  · rw [Bool.not_eq_true] at h1
    have e1 : ownedE c s who = 5 := by unfold ownedE; rw [if_pos h1]
    rw [show letC c s who = c by unfold letC; rw [e1]; rfl, e1]
    rw [h1] at HI
    have HI := Lib.hid HI
    clear e1 h o hb h1
    go_enter Try.func47, Try.ntmps47
    go_wp2_with fail
    refine HI.out.mono ?_
    rintro e w' ⟨rfl, rfl⟩
    go_wp2_with fail
    go_ret
    exact ⟨rfl, HU.out⟩
set_option maxHeartbeats 4000000 in
theorem rbump_any (h : RefH w q lo c) (hb : HB c) : Calls Try.prog 49 #[.pointer (some ⟨q, 0, none⟩)] w fun e w' => e = .returned (.tuple #[.int .i64 (bumpN c), .int .i64 (bumpE c)]) ∧ UpdR w q lo (bumpC c) w' := by
  obtain ⟨n, m, X, Y, Z, cx, cy, cz, o⟩ := h.opn hb
  have hq := h.lt
  have c1 := o.cell 3
  have c2 := o.cell 4
  simp at c1 c2
  have f1 := o.fr 3
  have k1 := hb.k1
  have k3 := hb.k3
  have HD : ∀ j, Below w.heap.size w (w.drewN j) := fun j => ⟨rfl, rfl, rfl, Nat.le_refl _, fun _ _ => rfl⟩
  by_cases hc : c 66 ≤ c 65
  · rw [show bumpN c = 0 by unfold bumpN; rw [if_pos hc], show bumpE c = 41 by unfold bumpE; rw [if_pos hc], show bumpC c = c by unfold bumpC; rw [if_pos hc]]
    have HU : Hid (∀ j, UpdR w q lo c (w.drewN j)) := fun j => ⟨h.below (HD j), fun _ _ _ => rfl, Nat.le_refl _, fun B _ => ⟨rfl, rfl, rfl, Nat.le_refl _, fun _ _ => rfl⟩⟩
    obtain ⟨x, hx⟩ : ∃ x, x = c 65 := ⟨_, rfl⟩
    obtain ⟨y, hy⟩ : ∃ y, y = c 66 := ⟨_, rfl⟩
    rw [← hx] at c1 k1 hc
    rw [← hy] at c2 k3 hc
    clear hx hy h hb o HD
    go_enter Try.func49, Try.ntmps49
    go_upto_region 1 with fail
    go_quiet (fail)
    go_wp2_with fail
    go_ret2
    exact ⟨rfl, HU.out _⟩
  · rw [show bumpN c = c 65 + 1 by unfold bumpN; rw [if_neg hc], show bumpE c = 0 by unfold bumpE; rw [if_neg hc], show bumpC c = put c 65 (c 65 + 1) by unfold bumpC; rw [if_neg hc]]
    have HU : Hid (∀ j, UpdR w q lo (put c 65 (c 65 + 1)) ((w.drewN j).setCell ⟨q, 3, none⟩ (.int .i64 (c 65 + 1)))) := fun j => UpdR.store hq (HD j) (o.setT hb (HD j) (c 65 + 1)).ref
    obtain ⟨x, hx⟩ : ∃ x, x = c 65 := ⟨_, rfl⟩
    obtain ⟨y, hy⟩ : ∃ y, y = c 66 := ⟨_, rfl⟩
    have c3 : ∀ j, ((w.drewN j).setCell ⟨q, 3, none⟩ (.int .i64 (x + 1))).cell? ⟨q, 3, none⟩ = some (.int .i64 (x + 1)) := fun j => by
      have hr : (w.drewN j).heap[q]? = w.heap[q]? := rfl
      have := heap_set_same _ _ 3 (.int .i64 (x + 1)) _ _ (hr.trans o.row)
      simp [World.cell?, this]
    rw [← hx] at c1 k1 hc HU ⊢
    rw [← hy] at c2 k3 hc
    have m1 : wrap64 (x + 1) = x + 1 := by unfold wrap64; omega
    clear hx hy h hb o HD
    go_enter Try.func49, Try.ntmps49
    go_upto_region 1 with fail
    go_quiet (fail)
    go_wp2_with fail
    go_ret2
    exact ⟨rfl, HU.out _⟩
end
end Go.Proofs.Ytokhcogmoleocaa
