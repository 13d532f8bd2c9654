/-
  THE DOCUMENT'S OWN HEAP (seesawref11): New, where it makes one. Conditions: as they stand.
-/
import Derived.Test.YtokhcogmoleocaaTj
namespace Go.Proofs.Ytokhcogmoleocaa
set_option maxRecDepth 100000
open Go.RowKit Go.Deep
set_option linter.unusedVariables false
/-- k owners, the first j of them laid. -/
def LN (k j : Nat) : List Int := (List.range k).map fun i => if i < j then (-1) else 0
theorem LN_len (k j : Nat) : (LN k j).length = k := by simp [LN]
theorem LN_zero (k : Nat) : zerosT k = vT (LN k 0) := by
  unfold zerosT vT LN
  rw [show (Value.int .i64 0).cells = #[Value.int .i64 0] from rfl, toList_madeCells_one, Nat.mul_one]
  apply List.ext_getElem?
  intro i
  by_cases hi : i < k
  · simp [hi]
  · rw [List.getElem?_eq_none (by simp; omega), List.getElem?_eq_none (by simp; omega)]
theorem LN_set (k j : Nat) : (LN k j).set j (-1) = LN k (j + 1) := by
  unfold LN
  refine (set_range fun i hi => ?_).symm
  by_cases h : i = j
  · rw [if_pos h, if_pos (by omega)]
  · rw [if_neg h]
    by_cases h2 : i < j
    · rw [if_pos h2, if_pos (by omega)]
    · rw [if_neg h2, if_neg (by omega)]
theorem LN_owners {L : List Int} {k : Nat} {limit : Int} (h : badH L.length k limit = false) : ownersL (newF L k limit) = LN k k := by
  obtain ⟨h1, h2, h3, h4, h5, h6⟩ := badH_no h
  unfold ownersL LN
  rw [new_st]
  refine List.map_congr_left fun j hj => ?_
  have hj := List.mem_range.1 hj
  rw [if_pos (by omega), new_owner (by omega) (by omega)]
theorem LN_versions {L : List Int} {k : Nat} {limit : Int} (h : badH L.length k limit = false) : versionsL (newF L k limit) = LN k 0 := by
  obtain ⟨h1, h2, h3, h4, h5, h6⟩ := badH_no h
  unfold versionsL LN
  rw [new_st]
  refine List.map_congr_left fun j hj => ?_
  have hj := List.mem_range.1 hj
  rw [if_neg (by omega), new_version (by omega) (by omega)]
/-- What lies there, the first j owners laid. -/
structure LoN (w0 : World) (q : Nat) (X : Option Addr) (cx y z : Nat) (L : List Int) (k : Nat) (l : Int) (j : Nat) (w : World) : Prop where
  row : w.heap[q]? = some (.cells #[.slice X L.length cx, .slice (some ⟨y, 0, none⟩) k k, .slice (some ⟨z, 0, none⟩) k k, .int .i64 0, .int .i64 l] 70 (0, 0))
  x : w.ownsRow w0.heap.size 2 1 (.slice X L.length cx) L.length (vT L)
  oy : w.ownsRow w0.heap.size 3 1 (.slice (some ⟨y, 0, none⟩) k k) k (vT (LN k j))
  oz : w.ownsRow w0.heap.size 3 1 (.slice (some ⟨z, 0, none⟩) k k) k (vT (LN k 0))
  b : Below w0.heap.size w0 w
  q0 : w0.heap.size ≤ q
  yq : y ≠ q
  yz : y ≠ z
  qx : ∀ p, X = some p → p.block ≠ q
  zq : z ≠ q
theorem LoN.next {w0 w : World} {q : Nat} {X : Option Addr} {cx y z : Nat} {L : List Int} {k : Nat} {l : Int} {j : Nat} (h : LoN w0 q X cx y z L k l j w) : LoN w0 q X cx y z L k l (j + 1) (w.setCell ⟨y, j, none⟩ (.int .i64 (-1))) := by
  have hy := own_ltT h.oy (r := y) rfl
  refine ⟨(heap_set_other _ _ _ _ _ (Ne.symm h.yq)).trans h.row, own_moreT h.x fun r hr => heap_set_other _ _ _ _ _ (fun e => own_unlikeT h.x h.oy (by decide) hr (by rw [e]; rfl)), ?_, own_moreT h.oz fun r hr => heap_set_other _ _ _ _ _ (fun e => h.yz (by have := Option.some.inj hr; exact (this.trans e).symm)), h.b.setCell (p := ⟨y, j, none⟩) hy.1 _, h.q0, h.yq, h.yz, h.qx, h.zq⟩
  have := own_setT (k := j) h.oy (-1)
  rw [LN_set] at this
  exact this
theorem LoN.ref {w0 w : World} {q : Nat} {X : Option Addr} {cx y z : Nat} {L : List Int} {k : Nat} {limit : Int} (h : LoN w0 q X cx y z L k limit k w) (hb : badH L.length k limit = false) : RefH w q w0.heap.size (newF L k limit) := by
  obtain ⟨h1, h2, h3, h4, h5, h6⟩ := badH_no hb
  have e1 : valuesL (newF L k limit) = L := new_values
  have e2 := LN_owners hb
  have e3 := LN_versions hb
  refine ⟨X, some ⟨y, 0, none⟩, some ⟨z, 0, none⟩, cx, k, k, ?_, ?_, ?_, ?_⟩
  · rw [e1, e2, e3, LN_len, LN_len, new_clock (by omega), new_limit]
    exact h.row
  · rw [e1]
    obtain ⟨A', c', hv, hI⟩ := ints_ownH (L := L) h.x (by omega)
    injection hv with e _ _
    subst e
    exact ⟨hI, fun p e => ⟨((own_geT h.x).1 p e).1, h.qx p e⟩⟩
  · rw [e2]
    have ho := h.oy
    rw [← LN_len k k] at ho
    obtain ⟨A', c', hv, hI⟩ := ints_ownH (L := LN k k) (by rw [LN_len]; exact h.oy) (by rw [LN_len]; omega)
    injection hv with e _ _
    subst e
    exact ⟨hI, fun p e => by cases e; exact ⟨(own_ltT h.oy (r := y) rfl).1, h.yq⟩⟩
  · rw [e3]
    obtain ⟨A', c', hv, hI⟩ := ints_ownH (L := LN k 0) (by rw [LN_len]; exact h.oz) (by rw [LN_len]; omega)
    injection hv with e _ _
    subst e
    exact ⟨hI, fun p e => by cases e; exact ⟨(own_ltT h.oz (r := z) rfl).1, h.zq⟩⟩
set_option maxHeartbeats 8000000 in
set_option maxRecDepth 100000 in
theorem rnew_yes {L : List Int} {st limit : Int} (h : badH L.length st limit = false) {w : World} {A : Option Addr} (c : Nat) (hI : Ints w w.heap.size A L) : Calls Try.prog 29 #[.slice A L.length c, .int .i64 st, .int .i64 limit] w fun e w' => ∃ q, e = .returned (.tuple #[.pointer (some ⟨q, 0, none⟩), .int .i64 0]) ∧ RefH w' q w.heap.size (newF L st limit) ∧ w.heap.size ≤ q ∧ Below w.heap.size w w' := by
  obtain ⟨h1, h2, h3, h4, h5, h6⟩ := badH_no h
  obtain ⟨k, rfl⟩ : ∃ k : Nat, st = k := ⟨st.toNat, by omega⟩
  have i1 : ¬ (L.length : Int) < 1 := by omega
  have i2 : ¬ 32 < (L.length : Int) := by omega
  have i3 : ¬ (k : Int) < 1 := by omega
  have i4 : ¬ (L.length : Int) < (k : Int) := by omega
  have i5 : ¬ limit < 0 := by omega
  have i6 : ¬ 1099511627776 < limit := by omega
  have hk1 : k ≤ 32 := by omega
  have HI := Lib.hid hI
  have HBD := Lib.hid h
  clear h hI
  go_enter Try.func29, Try.ntmps29
  go_upto_region 3 with fail
  refine regNew (by kernel_rfl) _ (by show 46 ≤ 58; decide) w A c L k limit (by omega) (by omega) rfl rfl rfl HI.out ?_
  intro u0 u1 u2 u3 u4 u5 u6 u7 X cx y z w1 b1 ox oy oz hyz
  have HL0 : Hid (LoN w w1.heap.size X cx y z L k limit 0 (w1.alloc (.cells #[.slice X L.length cx, .slice (some ⟨y, 0, none⟩) k k, .slice (some ⟨z, 0, none⟩) k k, .int .i64 0, .int .i64 limit] 70))) := by
    rw [LN_zero] at oy oz
    exact ⟨heap_alloc_new w1 _, ox.alloc _, oy.alloc _, oz.alloc _, b1.alloc b1.size _, b1.size, by have := (own_ltT oy (r := y) rfl).2; omega, hyz, fun p e => by have := ((own_geT ox).1 p e).2; omega, by have := (own_ltT oz (r := z) rfl).2; omega⟩
  obtain ⟨q, hq⟩ : ∃ q, q = w1.heap.size := ⟨_, rfl⟩
  rw [← hq] at HL0 ⊢
  obtain ⟨W1, hW1⟩ : ∃ W1, W1 = w1.alloc (.cells #[.slice X L.length cx, .slice (some ⟨y, 0, none⟩) k k, .slice (some ⟨z, 0, none⟩) k k, .int .i64 0, .int .i64 limit] 70) := ⟨_, rfl⟩
  rw [← hW1] at HL0 ⊢
  clear hW1 hq b1 ox oy oz hyz
  simp only [putAll, List.setIfInBounds_toArray, List.set_cons_zero, List.set_cons_succ]
  go_wp2_with fail
  go_loopw [9] (fun i wr => ∃ j : Nat, j ≤ k ∧ i = .int .i64 j ∧ Hid (LoN w q X cx y z L k limit j wr)) (fun i _ => k - (intOf i).toNat)
  case atStart => exact ⟨0, by omega, by go_num, HL0⟩
  case round =>
    obtain ⟨j, hj, rfl, hL⟩ := hrel
    by_cases hlt : j < k
    · have c1 : wr.cell? ⟨q, 1, none⟩ = some (.slice (some ⟨y, 0, none⟩) k k) := by simp [World.cell?, hL.out.row]
      obtain ⟨g9, x9, e9, _, c2, f2⟩ := own_cellT hL.out.oy hlt
      injection e9 with e9
      injection e9 with e9
      subst e9
      have HN := Lib.hid hL.out.next
      have j0 : (0 : Int) ≤ (j : Int) := by omega
      have j1 : (j : Int) < (k : Int) := by omega
      go_wp2_with fail
      go_roundw
      case rel => exact ⟨j + 1, by omega, by go_num, HN⟩
      case measure => simp [intOf]; omega
    · obtain rfl : j = k := by omega
      have j1 : ¬ (j : Int) < (j : Int) := by omega
      go_wp2_with fail
      go_ret2
      exact ⟨q, rfl, hL.out.ref HBD.out, hL.out.q0, hL.out.b⟩
end Go.Proofs.Ytokhcogmoleocaa
