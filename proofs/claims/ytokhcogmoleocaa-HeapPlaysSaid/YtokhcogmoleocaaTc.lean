/-
  THE DOCUMENT'S OWN HEAP (seesawref11): what its calls do to it: the same as the program's to its numbers, where no owner is below -1. Conditions: as they stand.
-/
import Derived.Test.YtokhcogmoleocaaTb
namespace Go.Proofs.Ytokhcogmoleocaa
set_option maxRecDepth 100000
open Go.RowKit Go.Deep
set_option linter.unusedVariables false
/-- No owner is below -1. -/
def HO (c : Nat → Int) : Prop := ∀ k, k < 32 → -1 ≤ c (1 + k)
theorem ext_range {n : Nat} {f g : Nat → Int} (h : ∀ j, j < n → f j = g j) : (List.range n).map f = (List.range n).map g := List.map_congr_left fun j hj => h j (List.mem_range.1 hj)
theorem set_range {n k : Nat} {f g : Nat → Int} {x : Int} (h : ∀ j, j < n → g j = if j = k then x else f j) : (List.range n).map g = ((List.range n).map f).set k x := by
  apply List.ext_getElem?
  intro j
  by_cases hj : j < n
  · rw [List.getElem?_set]
    simp [hj, h j hj]
    by_cases hjk : j = k
    · subst hjk; simp [hj]
    · simp [hjk, Ne.symm hjk]
  · rw [List.getElem?_eq_none (by simp; omega), List.getElem?_eq_none (by simp; omega)]
section
variable {c : Nat → Int} {k : Nat} {x : Int}
theorem put_o1 (hk : k < 32) : valuesL (put c (1 + k) x) = valuesL c := by
  unfold valuesL
  rw [put_far (by omega)]
  exact ext_range fun j _ => put_far (by omega)
theorem put_o2 : ownersL (put c (1 + k) x) = (ownersL c).set k x := by
  unfold ownersL
  rw [put_far (by omega)]
  refine set_range fun j _ => ?_
  unfold put
  by_cases h : j = k
  · rw [if_pos (by omega), if_pos h]
  · rw [if_neg (by omega), if_neg h]
theorem put_o3 (hk : k < 32) : versionsL (put c (1 + k) x) = versionsL c := by
  unfold versionsL
  rw [put_far (by omega)]
  exact ext_range fun j _ => put_far (by omega)
theorem put_v1 (hk : k < 32) : valuesL (put c (33 + k) x) = valuesL c := by
  unfold valuesL
  rw [put_far (by omega)]
  exact ext_range fun j _ => put_far (by omega)
theorem put_v2 (hb : HB c) : ownersL (put c (33 + k) x) = ownersL c := by
  have := hb.s2
  unfold ownersL
  rw [put_far (by omega)]
  exact ext_range fun j _ => put_far (by omega)
theorem put_v3 : versionsL (put c (33 + k) x) = (versionsL c).set k x := by
  unfold versionsL
  rw [put_far (by omega)]
  refine set_range fun j _ => ?_
  unfold put
  by_cases h : j = k
  · rw [if_pos (by omega), if_pos h]
  · rw [if_neg (by omega), if_neg h]
theorem put_x1 : valuesL (put c (68 + k) x) = (valuesL c).set k x := by
  unfold valuesL
  rw [put_far (by omega)]
  refine set_range fun j _ => ?_
  unfold put
  by_cases h : j = k
  · rw [if_pos (by omega), if_pos h]
  · rw [if_neg (by omega), if_neg h]
theorem put_x2 (hb : HB c) : ownersL (put c (68 + k) x) = ownersL c := by
  have := hb.s2
  unfold ownersL
  rw [put_far (by omega)]
  exact ext_range fun j _ => put_far (by omega)
theorem put_x3 (hb : HB c) : versionsL (put c (68 + k) x) = versionsL c := by
  have := hb.s2
  unfold versionsL
  rw [put_far (by omega)]
  exact ext_range fun j _ => put_far (by omega)
theorem put_k1 : valuesL (put c 65 x) = valuesL c := by
  unfold valuesL
  rw [put_far (by omega)]
  exact ext_range fun j _ => put_far (by omega)
theorem put_k2 (hb : HB c) : ownersL (put c 65 x) = ownersL c := by
  have := hb.s2
  unfold ownersL
  rw [put_far (by omega)]
  exact ext_range fun j _ => put_far (by omega)
theorem put_k3 (hb : HB c) : versionsL (put c 65 x) = versionsL c := by
  have := hb.s2
  unfold versionsL
  rw [put_far (by omega)]
  exact ext_range fun j hj => put_far (by omega)
end
section
variable {w w' w1 : World} {q lo : Nat} {c c' : Nat → Int} {n m : Nat} {X Y Z : Option Addr} {cx cy cz : Nat}
theorem Opn.setY (o : Opn w q lo c n m X Y Z cx cy cz) (hb : Below w.heap.size w w1) {A : Option Addr} {ca k : Nat} {x : Int} (own : w1.ownsRow w.heap.size 3 1 (.slice A n ca) n (vT ((ownersL c).set k x))) (hk : k < n) (hlo : lo ≤ w.heap.size) : Opn (w1.setCell ⟨q, 1, none⟩ (.slice A n ca)) q lo (put c (1 + k) x) n m X A Z cx ca cz := by
  have hq := o.ref.lt
  have hk32 : k < 32 := by have := o.nm; have := o.m32; omega
  have hn := o.nm
  have hm := o.m32
  have hlen : ((ownersL c).set k x).length = n := by rw [List.length_set]; exact ownersL_len n o.e0
  have h1 := heap_set_same _ _ 1 (.slice A n ca) _ _ ((hb.block q hq).trans o.row)
  rw [← hlen] at own
  refine ⟨by rw [put_far (by omega)]; exact o.e0, by rw [put_far (by omega)]; exact o.e67, o.n1, o.nm, o.m32, ?_, ?_, ?_, ?_⟩
  · rw [h1, put_far (by omega), put_far (by omega)]
    rfl
  · rw [put_o1 hk32]; exact (o.x.below hb).set _ _
  · rw [put_o2]; exact (SlR.own own (by omega) hlo hq).set _ _
  · rw [put_o3 hk32]; exact (o.z.below hb).set _ _
theorem Opn.setZ (o : Opn w q lo c n m X Y Z cx cy cz) (hc : HB c) (hb : Below w.heap.size w w1) {A : Option Addr} {ca k : Nat} {x : Int} (own : w1.ownsRow w.heap.size 3 1 (.slice A n ca) n (vT ((versionsL c).set k x))) (hk : k < n) (hlo : lo ≤ w.heap.size) : Opn (w1.setCell ⟨q, 2, none⟩ (.slice A n ca)) q lo (put c (33 + k) x) n m X Y A cx cy ca := by
  have hq := o.ref.lt
  have hk32 : k < 32 := by have := o.nm; have := o.m32; omega
  have hn := o.nm
  have hm := o.m32
  have hlen : ((versionsL c).set k x).length = n := by rw [List.length_set]; exact versionsL_len n o.e0
  have h1 := heap_set_same _ _ 2 (.slice A n ca) _ _ ((hb.block q hq).trans o.row)
  rw [← hlen] at own
  refine ⟨by rw [put_far (by omega)]; exact o.e0, by rw [put_far (by omega)]; exact o.e67, o.n1, o.nm, o.m32, ?_, ?_, ?_, ?_⟩
  · rw [h1, put_far (by omega), put_far (by omega)]
    rfl
  · rw [put_v1 hk32]; exact (o.x.below hb).set _ _
  · rw [put_v2 hc]; exact (o.y.below hb).set _ _
  · rw [put_v3]; exact (SlR.own own (by omega) hlo hq).set _ _
theorem Opn.setX (o : Opn w q lo c n m X Y Z cx cy cz) (hc : HB c) (hb : Below w.heap.size w w1) {A : Option Addr} {ca k : Nat} {x : Int} (own : w1.ownsRow w.heap.size 2 1 (.slice A m ca) m (vT ((valuesL c).set k x))) (hk : k < m) (hlo : lo ≤ w.heap.size) : Opn (w1.setCell ⟨q, 0, none⟩ (.slice A m ca)) q lo (put c (68 + k) x) n m A Y Z ca cy cz := by
  have hq := o.ref.lt
  have hn := o.nm
  have hm := o.m32
  have hlen : ((valuesL c).set k x).length = m := by rw [List.length_set]; exact valuesL_len m o.e67
  have h1 := heap_set_same _ _ 0 (.slice A m ca) _ _ ((hb.block q hq).trans o.row)
  rw [← hlen] at own
  refine ⟨by rw [put_far (by omega)]; exact o.e0, by rw [put_far (by omega)]; exact o.e67, o.n1, o.nm, o.m32, ?_, ?_, ?_, ?_⟩
  · rw [h1, put_far (by omega), put_far (by omega)]
    rfl
  · rw [put_x1]; exact (SlR.own own (by omega) hlo hq).set _ _
  · rw [put_x2 hc]; exact (o.y.below hb).set _ _
  · rw [put_x3 hc]; exact (o.z.below hb).set _ _
theorem Opn.setT (o : Opn w q lo c n m X Y Z cx cy cz) (hc : HB c) (hb : Below w.heap.size w w1) (x : Int) : Opn (w1.setCell ⟨q, 3, none⟩ (.int .i64 x)) q lo (put c 65 x) n m X Y Z cx cy cz := by
  have hq := o.ref.lt
  have h1 := heap_set_same _ _ 3 (.int .i64 x) _ _ ((hb.block q hq).trans o.row)
  refine ⟨by rw [put_far (by omega)]; exact o.e0, by rw [put_far (by omega)]; exact o.e67, o.n1, o.nm, o.m32, ?_, ?_, ?_, ?_⟩
  · rw [h1, put_far (i := 65) (j := 66) (by omega), put_at]
    rfl
  · rw [put_k1]; exact (o.x.below hb).set _ _
  · rw [put_k2 hc]; exact (o.y.below hb).set _ _
  · rw [put_k3 hc]; exact (o.z.below hb).set _ _
theorem UpdR.store (hq : q < w.heap.size) (hb : Below w.heap.size w w1) {i : Nat} {v : Value} (h : RefH (w1.setCell ⟨q, i, none⟩ v) q lo c') : UpdR w q lo c' (w1.setCell ⟨q, i, none⟩ v) :=
  ⟨h, fun b h1 h2 => (heap_set_other _ _ _ _ _ h1).trans (hb.block b h2), by have := hb.size; simp; omega, fun B hB => (hb.mono (by omega)).setCell (p := ⟨q, i, none⟩) hB _⟩
theorem UpdR.trans (h1 : UpdR w q lo c w1) (h2 : UpdR w1 q lo c' w') : UpdR w q lo c' w' :=
  ⟨h2.at', fun b a1 a2 => (h2.far b a1 (by have := h1.size; omega)).trans (h1.far b a1 a2), Nat.le_trans h1.size h2.size, fun B hB => (h1.low B hB).trans (h2.low B hB)⟩
theorem UpdR.low_of (h : UpdR w q lo c w1) {B : Nat} {w0 : World} (hB : B ≤ q) (hb : Below B w0 w) : Below B w0 w1 := hb.trans (h.low B hB)
set_option maxHeartbeats 4000000 in
theorem rown_any (h : RefH w q lo c) (hb : HB c) (ho : HO c) (hlo : lo ≤ w.heap.size) (s who : Int) : Calls Try.prog 46 #[.pointer (some ⟨q, 0, none⟩), .int .i64 s, .int .i64 who] w fun e w' => e = .returned (.int .i64 (ownE c s who)) ∧ UpdR w q lo (ownC c s who) w' := by
  have HI := ris_any h hb s
  have HU := Lib.hid (UpdR.refl h)
  obtain ⟨n, m, X, Y, Z, cx, cy, cz, o⟩ := h.opn hb
  have hq := h.lt
  have c1 := o.cell 1
  simp at c1
  have f1 := o.fr 1
  by_cases h1 : isS c s = true
  · obtain ⟨k, rfl, hk, hkl⟩ := isS_nat hb h1
    have hkn : k < n := by have := o.e0; omega
    rw [h1] at HI
    have HI := Lib.hid HI
    have i0 : (0 : Int) ≤ (k : Int) := by omega
    have i1 : (k : Int) < (n : Int) := by omega
    by_cases h2 : who < 0 ∨ 6 ≤ who
    · have e1 : ownE c (k : Int) who = 1 := by unfold ownE; rw [if_neg (by rw [h1]; decide), if_pos h2]
      rw [show ownC c (k : Int) who = c by unfold ownC; rw [e1]; rfl, e1]
      clear e1 h o hb h1 hk hkl
      by_cases h3 : who < 0
      · clear h2
        go_enter Try.func46, Try.ntmps46
        go_wp2_with fail
        refine HI.out.mono ?_
        rintro e w' ⟨rfl, rfl⟩
        go_wp2_with fail
        go_ret
        exact ⟨rfl, HU.out⟩
      · have h4 : 5 < who := by omega
        clear h2
        go_enter Try.func46, Try.ntmps46
        go_wp2_with fail
        refine HI.out.mono ?_
        rintro e w' ⟨rfl, rfl⟩
        go_wp2_with fail
        go_ret
        exact ⟨rfl, HU.out⟩
    · have h3 : ¬ who < 0 := by omega
      have h4 : ¬ 5 < who := by omega
      obtain ⟨p, rfl, hc⟩ := o.atY hkn
      by_cases h5 : c (1 + k) = -1
      · have e1 : ownE c (k : Int) who = 0 := by unfold ownE; rw [if_neg (by rw [h1]; decide), if_neg h2, if_neg (show ¬ c (1 + (k : Int).toNat) ≠ -1 from fun h => h h5)]
        rw [show ownC c (k : Int) who = put c (1 + k) who by unfold ownC; rw [e1]; rfl, e1]
        have HW := with_any cy o.y.ints (by rw [ownersL_len n o.e0]; have := o.nm; have := o.m32; omega) k (by rw [ownersL_len n o.e0]; exact hkn) who
        rw [ownersL_len n o.e0] at HW
        have HW := Lib.hid HW
        have HF : Hid (∀ A' c' w1, w1.ownsRow w.heap.size 3 1 (.slice A' n c') n (vT ((ownersL c).set k who)) → Below w.heap.size w w1 → w1.cell? ⟨q, 1, none⟩ = some (.slice (some p) n cy) ∧ w1.frozen? ⟨q, 1, none⟩ = false ∧ Hid (UpdR w q lo (put c (1 + k) who) (w1.setCell ⟨q, 1, none⟩ (.slice A' n c')))) := fun A' c' w1 own hb1 =>
          ⟨(hb1.cell (p := ⟨q, 1, none⟩) hq).trans c1, (World.frozen?_of_block (a := ⟨q, 1, none⟩) (hb1.block q hq)).trans f1, UpdR.store hq hb1 (o.setY hb1 own hkn hlo).ref⟩
        rw [h5] at hc
        clear e1 h o hb h1 hk hkl h2 h5 HU
        go_enter Try.func46, Try.ntmps46
        go_wp2_with fail
        refine HI.out.mono ?_
        rintro e w' ⟨rfl, rfl⟩
        go_wp2_with fail
        refine HW.out.mono ?_
        rintro e w1 ⟨A', c', rfl, own, hb1⟩
        obtain ⟨g1, g2, HU⟩ := HF.out _ _ _ own hb1
        clear own hb1 HF
        go_wp2_with fail
        go_ret
        exact ⟨rfl, HU.out⟩
      · have e1 : ownE c (k : Int) who = 6 := by unfold ownE; rw [if_neg (by rw [h1]; decide), if_neg h2, if_pos (show c (1 + (k : Int).toNat) ≠ -1 from h5)]
        rw [show ownC c (k : Int) who = c by unfold ownC; rw [e1]; rfl, e1]
        have h6 : 0 ≤ c (1 + k) := by have := ho k hk; omega
        clear e1 h o hb h1 hk hkl h2 h5
        generalize c (1 + k) = v at hc h6
        go_enter Try.func46, Try.ntmps46
        go_wp2_with fail
        refine HI.out.mono ?_
        rintro e w' ⟨rfl, rfl⟩
        go_wp2_with fail
        go_ret
        exact ⟨rfl, HU.out⟩
  · rw [Bool.not_eq_true] at h1
    have e1 : ownE c s who = 5 := by unfold ownE; rw [if_pos h1]
    rw [show ownC c s who = c by unfold ownC; rw [e1]; rfl, e1]
    rw [h1] at HI
    have HI := Lib.hid HI
    clear e1 h o hb h1
    go_enter Try.func46, Try.ntmps46
    go_wp2_with fail
    refine HI.out.mono ?_
    rintro e w' ⟨rfl, rfl⟩
    go_wp2_with fail
    go_ret
    exact ⟨rfl, HU.out⟩
end
end Go.Proofs.Ytokhcogmoleocaa
