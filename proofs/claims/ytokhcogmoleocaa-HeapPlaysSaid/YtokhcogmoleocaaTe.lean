/-
  THE DOCUMENT'S OWN HEAP (seesawref11): Free, Set. Conditions: as they stand.
-/
import Derived.Test.YtokhcogmoleocaaTd
namespace Go.Proofs.Ytokhcogmoleocaa
set_option maxRecDepth 100000
open Go.RowKit Go.Deep
set_option linter.unusedVariables false
theorem put_comm {c : Nat → Int} {i j : Nat} {x y : Int} (h : i ≠ j) : put (put c i x) j y = put (put c j y) i x := by
  funext k
  unfold put
  by_cases h1 : k = i <;> by_cases h2 : k = j <;> simp [h1, h2] <;> omega
section
variable {w w' w1 : World} {q lo : Nat} {c c' : Nat → Int} {n m : Nat} {X Y Z : Option Addr} {cx cy cz : Nat}
set_option maxHeartbeats 4000000 in
theorem rfree_any (h : RefH w q lo c) (hb : HB c) (ho : HO c) (hlo : lo ≤ w.heap.size) (s who v : Int) : Calls Try.prog 48 #[.pointer (some ⟨q, 0, none⟩), .int .i64 s, .int .i64 who, .int .i64 v] w fun e w' => e = .returned (.int .i64 (freeE c s who v)) ∧ UpdR w q lo (freeC c s who v) w' := by
  have HI := ris_any h hb s
  have HU := Lib.hid (UpdR.refl h)
  obtain ⟨n, m, X, Y, Z, cx, cy, cz, o⟩ := h.opn hb
  have c1 := o.cell 1
  have c2 := o.cell 2
  have c3 := o.cell 3
  simp at c1 c2 c3
  by_cases h1 : isS c s = true
  · obtain ⟨k, rfl, hk, hkl⟩ := isS_nat hb h1
    have hkn : k < n := by have := o.e0; omega
    rw [h1] at HI
    have HI := Lib.hid HI
    have i0 : (0 : Int) ≤ (k : Int) := by omega
    have i1 : (k : Int) < (n : Int) := by omega
    have hok := ho k hk
    obtain ⟨p, hp, hc⟩ := o.atY hkn
    obtain ⟨r, hr, hc3⟩ := o.atZ hkn
    by_cases h2 : who < 0 ∨ c (1 + k) ≠ who
    · have e1 : ownedE c (k : Int) who = 7 := by unfold ownedE; rw [if_neg (by rw [h1]; decide), if_pos (show who = -1 ∨ c (1 + (k : Int).toNat) ≠ who by show who = -1 ∨ c (1 + k) ≠ who; omega)]
      have e2 : freeE c (k : Int) who v = 7 := by unfold freeE; rw [e1]; rfl
      rw [show freeC c (k : Int) who v = c by unfold freeC; rw [e2]; rfl, e2]
      subst hp
      by_cases h3 : who < 0
      · clear e1 e2 h o hb h1 hk hkl h2 hr hc3
        go_enter Try.func48, Try.ntmps48
        go_wp2_with fail
        refine HI.out.mono ?_
        rintro e w' ⟨rfl, rfl⟩
        go_wp2_with fail
        go_ret
        exact ⟨rfl, HU.out⟩
      · have h4 : c (1 + k) ≠ who := by omega
        obtain ⟨u, hu⟩ : ∃ u, u = c (1 + k) := ⟨_, rfl⟩
        rw [← hu] at hc h4
        have q1 : (u != who) = true := bne_iff_ne.2 h4
        clear e1 e2 h o hb h1 hk hkl h2 hok hu h4 hr hc3
        go_enter Try.func48, Try.ntmps48
        go_wp2_with fail
        refine HI.out.mono ?_
        rintro e w' ⟨rfl, rfl⟩
        go_wp2_with fail
        go_ret
        exact ⟨rfl, HU.out⟩
    · have h4 : c (1 + k) = who := by omega
      have h3 : ¬ who < 0 := by omega
      have e1 : ownedE c (k : Int) who = 0 := by unfold ownedE; rw [if_neg (by rw [h1]; decide), if_neg (show ¬ (who = -1 ∨ c (1 + (k : Int).toNat) ≠ who) by show ¬ (who = -1 ∨ c (1 + k) ≠ who); omega)]
      rw [h4] at hc
      have q1 : (who != who) = false := bne_eq_false_iff_eq.2 rfl
      by_cases h5 : v < c (33 + k) ∨ c 65 < v
      · have e2 : freeE c (k : Int) who v = 1 := by unfold freeE; rw [if_neg (by rw [e1]; decide), if_pos (show v < c (33 + (k : Int).toNat) ∨ c 65 < v from h5)]
        rw [show freeC c (k : Int) who v = c by unfold freeC; rw [e2]; rfl, e2]
        obtain ⟨u, hu⟩ : ∃ u, u = c (33 + k) := ⟨_, rfl⟩
        obtain ⟨t, ht⟩ : ∃ t, t = c 65 := ⟨_, rfl⟩
        rw [← hu] at hc3 h5
        rw [← ht] at c3 h5
        subst hp hr
        by_cases h6 : v < u
        · clear e1 e2 h o hb h1 hk hkl h2 hok h4 h5 ht hu
          go_enter Try.func48, Try.ntmps48
          go_wp2_with fail
          refine HI.out.mono ?_
          rintro e w' ⟨rfl, rfl⟩
          go_wp2_with fail
          go_ret
          exact ⟨rfl, HU.out⟩
        · have h7 : t < v := by omega
          clear e1 e2 h o hb h1 hk hkl h2 hok h4 h5 ht hu
          go_enter Try.func48, Try.ntmps48
          go_wp2_with fail
          refine HI.out.mono ?_
          rintro e w' ⟨rfl, rfl⟩
          go_wp2_with fail
          go_ret
          exact ⟨rfl, HU.out⟩
      · have e2 : freeE c (k : Int) who v = 0 := by unfold freeE; rw [if_neg (by rw [e1]; decide), if_neg (show ¬ (v < c (33 + (k : Int).toNat) ∨ c 65 < v) from h5)]
        rw [show freeC c (k : Int) who v = put (put c (33 + k) v) (1 + k) (-1) by unfold freeC; rw [e2]; rfl, e2, put_comm (i := 33 + k) (by omega)]
        have h6 : ¬ v < c (33 + k) := by omega
        have h7 : ¬ c 65 < v := by omega
        have hb2 : HB (put c (1 + k) (-1)) := ⟨by rw [put_far (by omega)]; exact hb.s1, by rw [put_far (by omega)]; exact hb.s2, by rw [put_far (by omega), put_far (by omega)]; exact hb.v1, by rw [put_far (by omega)]; exact hb.v2, by rw [put_far (by omega)]; exact hb.k1, by rw [put_far (by omega), put_far (by omega)]; exact hb.k2, by rw [put_far (by omega)]; exact hb.k3⟩
        have HW := Lib.hid (o.withY hkn (-1))
        have HF := Lib.hid (o.fieldY hlo hkn (-1))
        have HG : Hid (∀ {w2 A' c'}, UpdR w q lo (put c (1 + k) (-1)) w2 → Opn w2 q lo (put c (1 + k) (-1)) n m X A' Z cx c' cz → w2.cell? ⟨q, 2, none⟩ = some (.slice Z n cz) ∧ Hid (Calls Try.prog 58 #[.slice Z n cz, .int .i64 k, .int .i64 v] w2 fun e w' => ∃ (A' : Option Addr) (c' : Nat), e = .returned (.slice A' n c') ∧ w'.ownsRow w2.heap.size 3 1 (.slice A' n c') n (vT ((versionsL (put c (1 + k) (-1))).set k v)) ∧ Below w2.heap.size w2 w') ∧ Hid (∀ A' c' w1, w1.ownsRow w2.heap.size 3 1 (.slice A' n c') n (vT ((versionsL (put c (1 + k) (-1))).set k v)) → Below w2.heap.size w2 w1 → w1.cell? ⟨q, 2, none⟩ = some (.slice Z n cz) ∧ w1.frozen? ⟨q, 2, none⟩ = false ∧ Hid (UpdR w q lo (put (put c (1 + k) (-1)) (33 + k) v) (w1.setCell ⟨q, 2, none⟩ (.slice A' n c'))))) := fun {w2 A' c'} hu2 o2 => ⟨(o2.cell 2).trans rfl, o2.withZ hkn v, fun A' c' w1 own hb1 => by
          obtain ⟨a1, a2, a3⟩ := o2.fieldZ hb2 (Nat.le_trans hlo hu2.size) hkn v A' c' w1 own hb1
          exact ⟨a1, a2, hu2.trans a3.out⟩⟩
        obtain ⟨u, hu⟩ : ∃ u, u = c (33 + k) := ⟨_, rfl⟩
        obtain ⟨t, ht⟩ : ∃ t, t = c 65 := ⟨_, rfl⟩
        rw [← hu] at hc3 h6
        rw [← ht] at c3 h7
        subst hp hr
        clear e1 e2 h o hb h1 hk hkl h2 hok h4 h5 ht hu HU hb2
        go_enter Try.func48, Try.ntmps48
        go_wp2_with fail
        refine HI.out.mono ?_
        rintro e w' ⟨rfl, rfl⟩
        go_wp2_with fail
        refine HW.out.mono ?_
        rintro e w1 ⟨A', c', rfl, own, hb1⟩
        obtain ⟨g1, g2, HU⟩ := HF.out _ _ _ own hb1
        obtain ⟨g3, HW2, HF2⟩ := HG.out HU.out.1 HU.out.2
        clear own hb1 HF HG HW
        generalize hw2 : w1.setCell ⟨q, 1, none⟩ (.slice A' n c') = w2 at HU g3 HW2 HF2
        go_wp2_with fail
        refine HW2.out.mono ?_
        rintro e w3 ⟨A3, c3', rfl, own3, hb3⟩
        obtain ⟨g4, g5, HU3⟩ := HF2.out _ _ _ own3 hb3
        clear own3 hb3 HF2 HW2
        go_wp2_with fail
        go_ret
        exact ⟨rfl, HU3.out⟩
  · rw [Bool.not_eq_true] at h1
    have e1 : ownedE c s who = 5 := by unfold ownedE; rw [if_pos h1]
    have e2 : freeE c s who v = 5 := by unfold freeE; rw [e1]; rfl
    rw [show freeC c s who v = c by unfold freeC; rw [e2]; rfl, e2]
    rw [h1] at HI
    have HI := Lib.hid HI
    clear e1 e2 h o hb h1
    go_enter Try.func48, Try.ntmps48
    go_wp2_with fail
    refine HI.out.mono ?_
    rintro e w' ⟨rfl, rfl⟩
    go_wp2_with fail
    go_ret
    exact ⟨rfl, HU.out⟩
set_option maxHeartbeats 4000000 in
theorem rset_any (h : RefH w q lo c) (hb : HB c) (hlo : lo ≤ w.heap.size) (v x : Int) : Calls Try.prog 50 #[.pointer (some ⟨q, 0, none⟩), .int .i64 v, .int .i64 x] w fun e w' => e = .returned (.int .i64 (setE c v)) ∧ UpdR w q lo (setC11 c v x) w' := by
  have HU := Lib.hid (UpdR.refl h)
  obtain ⟨n, m, X, Y, Z, cx, cy, cz, o⟩ := h.opn hb
  have hq := h.lt
  have c0 := o.cell 0
  simp at c0
  by_cases h1 : isV c v = true
  · obtain ⟨k, rfl, hk, hkl⟩ := isV_nat hb h1
    have hkm : k < m := by have := o.e67; omega
    rw [show setE c (k : Int) = 0 by unfold setE; rw [if_pos h1], show setC11 c (k : Int) x = put c (68 + k) x by unfold setC11; rw [if_pos h1]; rfl]
    have i0 : (0 : Int) ≤ (k : Int) := by omega
    have i1 : (k : Int) < (m : Int) := by omega
    have hlen := valuesL_len m o.e67
    have OWE := Lib.hid (own_emptyT64 (w := w) w.heap.size (Nat.le_refl _))
    have hB0 : Below w.heap.size w (w.alloc (.cells #[] 2)) := (Below.refl w.heap.size w).alloc (Nat.le_refl _) _
    have HI3 := Lib.hid (o.x.ints.below hB0 (Nat.le_refl _))
    have hz3 : Hid (w.heap.size ≤ (w.alloc (.cells #[] 2)).heap.size) := by show _ ≤ _; simp
    have c0' : (w.alloc (.cells #[] 2)).cell? ⟨q, 0, none⟩ = some (.slice X m cx) := (hB0.cell (p := ⟨q, 0, none⟩) hq).trans c0
    have HK : Hid (∀ A' c' w', w'.ownsRow w.heap.size 2 1 (.slice A' (valuesL c).length c') (valuesL c).length (vT (valuesL c)) → (w.alloc (.cells #[] 2)).grownBy w' (Value.ownBlock (.slice (some ⟨w.heap.size, 0, none⟩) 0 0)) → ∃ g u, A' = some ⟨g, 0, none⟩ ∧ w'.cell? ⟨g, k, none⟩ = some (.int .i64 u) ∧ w'.frozen? ⟨g, k, none⟩ = false ∧ (w'.setCell ⟨g, k, none⟩ (.int .i64 x)).cell? ⟨q, 0, none⟩ = some (.slice X m cx) ∧ (w'.setCell ⟨g, k, none⟩ (.int .i64 x)).frozen? ⟨q, 0, none⟩ = false ∧ Hid (UpdR w q lo (put c (68 + k) x) ((w'.setCell ⟨g, k, none⟩ (.int .i64 x)).setCell ⟨q, 0, none⟩ (.slice (some ⟨g, 0, none⟩) m c')))) := fun A' c' w' own hg => by
      obtain ⟨g, u, rfl, hbg, hc, hf⟩ := own_cellT own (k := k) (by omega)
      have own2 := own_setT (k := k) own x
      have hb2 : Below w.heap.size w (w'.setCell ⟨g, k, none⟩ (.int .i64 x)) := (below_grownT OWE.out (Nat.le_refl _) hB0 hg hz3.out).setCell (p := ⟨g, k, none⟩) hbg _
      rw [hlen] at own2
      exact ⟨g, u, rfl, hc, hf, (hb2.cell (p := ⟨q, 0, none⟩) hq).trans c0, (World.frozen?_of_block (a := ⟨q, 0, none⟩) (hb2.block q hq)).trans (o.fr 0), UpdR.store hq hb2 (o.setX hb hb2 own2 hkm hlo).ref⟩
    have hlL : Hid ((valuesL c).length ≤ 100000) := by show _ ≤ _; have := o.m32; omega
    obtain ⟨V, hV⟩ : ∃ V, V = valuesL c := ⟨_, rfl⟩
    rw [← hV] at hlen HI3 HK hlL
    subst hlen
    clear h o hb h1 hk hkl HU hB0 hV hkm
    go_enter Try.func50, Try.ntmps50
    go_wp2_with (first
      | (at_builtin; refine wpList_cloneT64 OWE.out hz3.out HI3.out hlL.out rfl (.tmp 19) (.tmp 23) rfl rfl rfl ?_; intro A4 c4 w4 own4 hg4; obtain ⟨g4, u4, rfl, hc4, hf4, hc5, hf5, H4⟩ := HK.out _ _ _ own4 hg4; clear own4 hg4)
      | fail)
    go_ret
    exact ⟨rfl, H4.out⟩
  · have h2 : v < 0 ∨ (m : Int) ≤ v := by rw [isV_iff, o.e67] at h1; omega
    rw [Bool.not_eq_true] at h1
    rw [show setE c v = 5 by unfold setE; rw [h1]; rfl, show setC11 c v x = c by unfold setC11; rw [h1]; rfl]
    clear h o hb h1
    by_cases h3 : v < 0
    · clear h2
      go_enter Try.func50, Try.ntmps50
      go_wp2_with fail
      go_ret
      exact ⟨rfl, HU.out⟩
    · have h4 : (m : Int) ≤ v := by omega
      clear h2
      go_enter Try.func50, Try.ntmps50
      go_wp2_with fail
      go_ret
      exact ⟨rfl, HU.out⟩
end
end Go.Proofs.Ytokhcogmoleocaa
