/-
  THE DOCUMENT'S OWN HEAP (seesawref11): New. Laid by gen/gen_tj.py. Conditions: as they stand.
-/
import Derived.Test.YtokhcogmoleocaaTi
namespace Go.Proofs.Ytokhcogmoleocaa
set_option maxRecDepth 100000
open Go.RowKit Go.Deep
set_option linter.unusedVariables false
set_option maxHeartbeats 4000000 in
theorem rnew_no {L : List Int} {st limit : Int} (h : badH L.length st limit = true) (A : Option Addr) (c : Nat) (hl : L.length ≤ 9223372036854775807) (w : World) : Calls Try.prog 29 #[.slice A L.length c, .int .i64 st, .int .i64 limit] w fun e w' => e = .returned (.tuple #[.pointer none, .int .i64 1]) ∧ w = w' := by
  have hb := badH_yes h
  clear h
  by_cases h1 : L.length < 1
  · have i1 : (L.length : Int) < 1 := by omega
    clear hb
    go_enter Try.func29, Try.ntmps29
    go_wp2_with fail
    go_ret2
    exact ⟨rfl, rfl⟩
  by_cases h2 : 32 < L.length
  · have i1 : ¬ (L.length : Int) < 1 := by omega
    have i2 : 32 < (L.length : Int) := by omega
    clear hb
    go_enter Try.func29, Try.ntmps29
    go_wp2_with fail
    go_ret2
    exact ⟨rfl, rfl⟩
  have i1 : ¬ (L.length : Int) < 1 := by omega
  have i2 : ¬ 32 < (L.length : Int) := by omega
  by_cases h3 : st < 1
  · clear hb
    go_enter Try.func29, Try.ntmps29
    go_wp2_with fail
    go_ret2
    exact ⟨rfl, rfl⟩
  by_cases h4 : (L.length : Int) < st
  · clear hb
    go_enter Try.func29, Try.ntmps29
    go_wp2_with fail
    go_ret2
    exact ⟨rfl, rfl⟩
  by_cases h5 : limit < 0
  · clear hb
    go_enter Try.func29, Try.ntmps29
    go_wp2_with fail
    go_ret2
    exact ⟨rfl, rfl⟩
  have h6 : 1099511627776 < limit := by omega
  clear hb
  go_enter Try.func29, Try.ntmps29
  go_wp2_with fail
  go_ret2
  exact ⟨rfl, rfl⟩
section
variable {a : Act} {w : World} {K : Act → World → Prop} {Q : Exit → Act → World → Prop} {o : Oper}
theorem n_lit (ho : o.op = Op.buildSlice 33 0 #[]) (hK : K (a.put o.dst (.slice (some ⟨w.heap.size, 0, none⟩) 0 0)) (w.alloc (.cells #[] 2))) : Oper.wp Try.prog o a w K Q := by
  obtain ⟨dst, op, type, pos, after, guard⟩ := o
  have ho' : op = _ := ho
  subst ho'
  clear ho
  go_simp
  exact hK
theorem n_make (n : Nat) (hn : n ≤ 1000) (x : Operand) (ho : o.op = .makeSlice 35 x x) (hx : a.eval x = .int .i64 n) (hK : ∀ w', w'.ownsRow w.heap.size 3 1 (.slice (some ⟨w.heap.size, 0, none⟩) n n) n ((madeCells (Value.int .i64 0).cells (n * 1)).toList) → Below w.heap.size w w' → K (a.put o.dst (.slice (some ⟨w.heap.size, 0, none⟩) n n)) w') : Oper.wp Try.prog o a w K Q := by
  obtain ⟨i0, hi0, hz0, hz1, hz2⟩ := info_parts2 int_infoT
  obtain ⟨w', hrun, r1, r2⟩ := run_make_full (P := Try.prog) w w.heap.size 35 3 i0 (.int .i64 0) 1 Try.underlying35 hi0 hz0 hz1 .i64 .i64 n (by rw [hz2]; omega) (by unfold maxLen; omega) (Nat.le_refl _)
  have hbl : Below w.heap.size w w' := ⟨r2.os, r2.tape, r2.output, r2.size, fun i hi => r2.block i hi (by simp)⟩
  have hrun' : (execOp a.eval o).run Try.prog w = .ok (.value (.slice (some ⟨w.heap.size, 0, none⟩) n n)) w' := by
    simp only [execOp, ho, hx, Sem.run_bind, hrun, Result.andThen_ok, Sem.run_pure]
  unfold Oper.wp
  rw [hrun']
  exact hK w' r1 hbl
theorem n_build {X Y Z : Option Addr} {n m cx cy cz : Nat} {l : Int} (ho : o.op = Op.build 70 #[(0, .tmp 38), (4, .tmp 39), (1, .tmp 41), (2, .tmp 43)]) (h1 : a.tmps[38]?.getD undef = .slice X m cx) (h2 : a.tmps[39]?.getD undef = .int .i64 l) (h3 : a.tmps[41]?.getD undef = .slice Y n cy) (h4 : a.tmps[43]?.getD undef = .slice Z n cz) (hK : K (a.put o.dst (.agg #[.slice X m cx, .slice Y n cy, .slice Z n cz, .int .i64 0, .int .i64 l])) w) : Oper.wp Try.prog o a w K Q := by
  obtain ⟨dst, op, type, pos, after, guard⟩ := o
  have ho' : op = _ := ho
  subst ho'
  clear ho
  go_simp
  exact hK
theorem n_box {X Y Z : Option Addr} {n m cx cy cz : Nat} {l : Int} (ho : o.op = Op.box 70 (.tmp 44)) (h1 : a.tmps[44]?.getD undef = .agg #[.slice X m cx, .slice Y n cy, .slice Z n cz, .int .i64 0, .int .i64 l]) (hK : K (a.put o.dst (.pointer (some ⟨w.heap.size, 0, none⟩))) (w.alloc (.cells #[.slice X m cx, .slice Y n cy, .slice Z n cz, .int .i64 0, .int .i64 l] 70))) : Oper.wp Try.prog o a w K Q := by
  obtain ⟨dst, op, type, pos, after, guard⟩ := o
  have ho' : op = _ := ho
  subst ho'
  clear ho
  go_simp
  exact hK
end
theorem own_moreT {w w' : World} {base s n : Nat} {e : TypeId} {v : Value} {xs : List Value} (h : w.ownsRow base e s v n xs) (hk : ∀ r, v.ownBlock = some r → w'.heap[r]? = w.heap[r]?) : w'.ownsRow base e s v n xs := by
  refine ⟨h.1, ?_⟩
  rcases h.2 with hn | ⟨g, cap, cur, hv, hb, hg, rest⟩
  · exact .inl hn
  · exact .inr ⟨g, cap, cur, hv, hb, (hk g (by rw [hv]; rfl)).trans hg, rest⟩
theorem own_ltT {w : World} {base s n : Nat} {e : TypeId} {v : Value} {xs : List Value} (h : w.ownsRow base e s v n xs) {r : Nat} (hr : v.ownBlock = some r) : base ≤ r ∧ r < w.heap.size := by
  rcases h.2 with ⟨hn, _⟩ | ⟨g, cap, cur, hv, hb, hg, rest⟩
  · rw [hn] at hr; cases hr
  · rw [hv] at hr
    obtain rfl : g = r := Option.some.inj hr
    exact ⟨hb, (Array.getElem?_eq_some_iff.1 hg).1⟩
theorem own_belowT {w w' : World} {base s n : Nat} {e : TypeId} {v : Value} {xs : List Value} (h : w.ownsRow base e s v n xs) (hb : Below w.heap.size w w') : w'.ownsRow base e s v n xs := own_moreT h fun r hr => hb.block r (own_ltT h hr).2
theorem own_unlikeT {w : World} {b1 s1 n1 b2 s2 n2 : Nat} {e1 e2 : TypeId} {v1 v2 : Value} {x1 x2 : List Value} (h1 : w.ownsRow b1 e1 s1 v1 n1 x1) (h2 : w.ownsRow b2 e2 s2 v2 n2 x2) (he : e1 ≠ e2) {r : Nat} (hr1 : v1.ownBlock = some r) (hr2 : v2.ownBlock = some r) : False := by
  rcases h1.2 with ⟨hn, _⟩ | ⟨g, cap, cur, hv, hb, hg, rest⟩
  · rw [hn] at hr1; cases hr1
  rcases h2.2 with ⟨hn, _⟩ | ⟨g', cap', cur', hv', hb', hg', rest'⟩
  · rw [hn] at hr2; cases hr2
  rw [hv] at hr1
  rw [hv'] at hr2
  obtain rfl : g = r := Option.some.inj hr1
  obtain rfl : g' = g := Option.some.inj hr2
  rw [hg] at hg'
  injection hg' with hg'
  injection hg' with _ hg' _
  exact he hg'
/-- What the plain ones leave. -/
def valN (A : Option Addr) (c len k : Nat) (l : Int) : Nat → Option Value
  | 1 => some (.slice A len c)
  | 3 => some (.int .i64 l)
  | 4 => some (.int .i64 k)
  | 6 => some (.int .i64 k)
  | _ => none
def zerosT (k : Nat) : List Value := (madeCells (Value.int .i64 0).cells (k * 1)).toList
structure JN (W : World) (A : Option Addr) (c : Nat) (L : List Int) (k : Nat) (l : Int) (don : Nat → Bool) (u : Nat → Value) (w : World) : Prop where
  b : Below W.heap.size W w
  o2 : don 2 = true → don 0 = true
  pv : ∀ j v, valN A c L.length k l j = some v → don j = true → u j = v
  e0 : don 0 = true → don 2 = false → ∃ p, u 0 = .slice (some ⟨p, 0, none⟩) 0 0 ∧ w.ownsRow W.heap.size 2 1 (.slice (some ⟨p, 0, none⟩) 0 0) 0 []
  e2 : don 2 = true → ∃ A' c', u 2 = .slice A' L.length c' ∧ w.ownsRow W.heap.size 2 1 (.slice A' L.length c') L.length (vT L)
  e5 : don 5 = true → ∃ p, u 5 = .slice (some ⟨p, 0, none⟩) k k ∧ w.ownsRow W.heap.size 3 1 (.slice (some ⟨p, 0, none⟩) k k) k (zerosT k)
  e7 : don 7 = true → ∃ p, u 7 = .slice (some ⟨p, 0, none⟩) k k ∧ w.ownsRow W.heap.size 3 1 (.slice (some ⟨p, 0, none⟩) k k) k (zerosT k)
  ne : don 5 = true → don 7 = true → ∀ r, (u 5).ownBlock = some r → (u 7).ownBlock = some r → False
section
variable {W : World} {A : Option Addr} {c : Nat} {L : List Int} {k : Nat} {l : Int} {don : Nat → Bool} {u : Nat → Value} {w : World}
theorem JN.step (h : JN W A c L k l don u w) (i : Nat) (v : Value) (w' : World) (hb : Below W.heap.size W w')
    (ho2 : i = 2 → don 0 = true) (hpv : ∀ x, valN A c L.length k l i = some x → v = x)
    (hk : ∀ j r, (j = 5 ∨ j = 7 ∨ j = 2 ∨ j = 0 ∧ don 2 = false ∧ i ≠ 2) → j ≠ i → don j = true → (u j).ownBlock = some r → w'.heap[r]? = w.heap[r]?)
    (h0 : i = 0 → don 2 = false ∧ ∃ p, v = .slice (some ⟨p, 0, none⟩) 0 0 ∧ w'.ownsRow W.heap.size 2 1 (.slice (some ⟨p, 0, none⟩) 0 0) 0 [])
    (h2 : i = 2 → ∃ A' c', v = .slice A' L.length c' ∧ w'.ownsRow W.heap.size 2 1 (.slice A' L.length c') L.length (vT L))
    (h5 : i = 5 ∨ i = 7 → ∃ p, v = .slice (some ⟨p, 0, none⟩) k k ∧ w'.ownsRow W.heap.size 3 1 (.slice (some ⟨p, 0, none⟩) k k) k (zerosT k))
    (hn : i = 5 ∨ i = 7 → ∀ r, v.ownBlock = some r → w.heap.size ≤ r) : JN W A c L k l (fun j => j == i || don j) (fun j => if j = i then v else u j) w' := by
  have e : ∀ j, j ≠ i → (j == i || don j) = don j := fun j hj => by rw [beq_eq_false_iff_ne.2 hj, Bool.false_or]
  refine ⟨hb, ?_, ?_, ?_, ?_, ?_, ?_, ?_⟩
  · intro hd
    by_cases hi : i = 2
    · have := ho2 hi; simp [this]
    · rw [e 2 (Ne.symm hi)] at hd
      simp [h.o2 hd]
  · intro j x hj hd
    by_cases hji : j = i
    · subst hji; simp only [if_pos]; exact hpv x hj
    · simp only [if_neg hji]
      rw [e j hji] at hd
      exact h.pv j x hj hd
  · intro hd hd2
    by_cases hi : i = 0
    · subst hi; simp only [if_pos]; exact (h0 rfl).2
    · rw [e 0 (Ne.symm hi)] at hd
      have hi2 : i ≠ 2 := by rintro rfl; simp at hd2
      rw [e 2 (Ne.symm hi2)] at hd2
      simp only [if_neg (Ne.symm hi)]
      obtain ⟨p, e1, e2⟩ := h.e0 hd hd2
      exact ⟨p, e1, own_moreT e2 fun r hr => hk 0 r (.inr (.inr (.inr ⟨rfl, hd2, hi2⟩))) (Ne.symm hi) hd (by rw [e1]; exact hr)⟩
  · intro hd
    by_cases hi : i = 2
    · subst hi; simp only [if_pos]; exact h2 rfl
    · rw [e 2 (Ne.symm hi)] at hd
      simp only [if_neg (Ne.symm hi)]
      obtain ⟨A', c', e1, e2⟩ := h.e2 hd
      exact ⟨A', c', e1, own_moreT e2 fun r hr => hk 2 r (.inr (.inr (.inl rfl))) (Ne.symm hi) hd (by rw [e1]; exact hr)⟩
  · intro hd
    by_cases hi : i = 5
    · subst hi; simp only [if_pos]; exact h5 (.inl rfl)
    · rw [e 5 (Ne.symm hi)] at hd
      simp only [if_neg (Ne.symm hi)]
      obtain ⟨p, e1, e2⟩ := h.e5 hd
      exact ⟨p, e1, own_moreT e2 fun r hr => hk 5 r (.inl rfl) (Ne.symm hi) hd (by rw [e1]; exact hr)⟩
  · intro hd
    by_cases hi : i = 7
    · subst hi; simp only [if_pos]; exact h5 (.inr rfl)
    · rw [e 7 (Ne.symm hi)] at hd
      simp only [if_neg (Ne.symm hi)]
      obtain ⟨p, e1, e2⟩ := h.e7 hd
      exact ⟨p, e1, own_moreT e2 fun r hr => hk 7 r (.inr (.inl rfl)) (Ne.symm hi) hd (by rw [e1]; exact hr)⟩
  · intro hd5 hd7 r hr5 hr7
    by_cases hi5 : i = 5
    · subst hi5
      simp only [if_pos] at hr5
      rw [if_neg (by decide)] at hr7
      rw [e 7 (by decide)] at hd7
      obtain ⟨p, e1, e2⟩ := h.e7 hd7
      rw [e1] at hr7
      have := (own_ltT e2 hr7).2
      have := hn (.inl rfl) r hr5
      omega
    · by_cases hi7 : i = 7
      · subst hi7
        simp only [if_pos] at hr7
        rw [if_neg (by decide)] at hr5
        rw [e 5 (by decide)] at hd5
        obtain ⟨p, e1, e2⟩ := h.e5 hd5
        rw [e1] at hr5
        have := (own_ltT e2 hr5).2
        have := hn (.inr rfl) r hr7
        omega
      · rw [if_neg (Ne.symm hi5)] at hr5
        rw [if_neg (Ne.symm hi7)] at hr7
        rw [e 5 (Ne.symm hi5)] at hd5
        rw [e 7 (Ne.symm hi7)] at hd7
        exact h.ne hd5 hd7 r hr5 hr7
theorem JN.lt (h : JN W A c L k l don u w) {j r : Nat} (hj : j = 5 ∨ j = 7 ∨ j = 2 ∨ j = 0 ∧ don 2 = false) (hd : don j = true) (hr : (u j).ownBlock = some r) : r < w.heap.size := by
  rcases hj with rfl | rfl | rfl | ⟨rfl, h2⟩
  · obtain ⟨p, e1, e2⟩ := h.e5 hd; rw [e1] at hr; exact (own_ltT e2 hr).2
  · obtain ⟨p, e1, e2⟩ := h.e7 hd; rw [e1] at hr; exact (own_ltT e2 hr).2
  · obtain ⟨A', c', e1, e2⟩ := h.e2 hd; rw [e1] at hr; exact (own_ltT e2 hr).2
  · obtain ⟨p, e1, e2⟩ := h.e0 hd h2; rw [e1] at hr; exact (own_ltT e2 hr).2
/-- A step that writes no block that lay. -/
theorem JN.fresh (h : JN W A c L k l don u w) (i : Nat) (v : Value) (w' : World) (hb : Below w.heap.size w w') (hi2 : i ≠ 2) (hpv : ∀ x, valN A c L.length k l i = some x → v = x)
    (h0 : i = 0 → don 2 = false ∧ ∃ p, v = .slice (some ⟨p, 0, none⟩) 0 0 ∧ w'.ownsRow W.heap.size 2 1 (.slice (some ⟨p, 0, none⟩) 0 0) 0 [])
    (h5 : i = 5 ∨ i = 7 → ∃ p, v = .slice (some ⟨p, 0, none⟩) k k ∧ w'.ownsRow W.heap.size 3 1 (.slice (some ⟨p, 0, none⟩) k k) k (zerosT k))
    (hn : i = 5 ∨ i = 7 → ∀ r, v.ownBlock = some r → w.heap.size ≤ r) : JN W A c L k l (fun j => j == i || don j) (fun j => if j = i then v else u j) w' :=
  h.step i v w' (h.b.trans (hb.mono h.b.size)) (fun e => absurd e hi2) hpv (fun j r hj hji hd hr => hb.block r (h.lt (by rcases hj with h | h | h | ⟨h, h2, _⟩ <;> simp [*]) hd hr)) h0 (fun e => absurd e hi2) h5 hn
end
noncomputable def opsN : Array Oper := opsIn Try.f29 3
theorem dstN {ops : Array Oper} {i : Nat} {o : Oper} {x : Option Tmp} (ho : ops[i]? = some o) (h : (ops[i]?).map Oper.dst = some x) : o.dst = x := by
  rw [ho] at h
  exact Option.some.inj h
theorem guardN {ops : Array Oper} {i : Nat} {o : Oper} (ho : ops[i]? = some o) (h : (ops[i]?).map (fun o => o.guard.isNone) = some true) : o.guard = none := by
  rw [ho] at h
  have := Option.some.inj h
  simpa using this
theorem wpListN {P : Program} {ops : Array Oper} {Q : Exit → Act → World → Prop} {k : Nat} {o : Oper} {a : Act} {w : World} (ho : ops[k]? = some o) (hg : o.guard = none) (h : Oper.wp P o a w (fun a' w' => wpList P ops Q (ops.toList.drop (k + 1)) a' w') Q) : wpList P ops Q (ops.toList.drop k) a w := by
  have hk : k < ops.size := (Array.getElem?_eq_some_iff.1 ho).1
  rw [wpList_at hk]
  unfold wpOp
  rw [ho]
  have hw : Region.wanted o (yielded ops a.tmps) = true := by simp [Region.wanted, hg]
  simp only [hw, if_true]
  exact .inl h
set_option maxRecDepth 100000 in
set_option maxHeartbeats 4000000 in
theorem regNew {id : Nat} {ops : Array Oper} (hops : ops = opsN) (T0 : Array Value) (hsz : 46 ≤ T0.size) (W : World) (A : Option Addr) (c : Nat) (L : List Int) (k : Nat) (l : Int) (hk : k ≤ 1000) (hL : L.length ≤ 1000) (h0 : T0[0]? = some (.slice A L.length c)) (h1 : T0[1]? = some (.int .i64 k)) (h2 : T0[2]? = some (.int .i64 l)) (hI : Ints W W.heap.size A L) {Q : Exit → Act → World → Prop}
    (hend : ∀ (u0 u1 u2 u3 u4 u5 u6 u7 : Value) (X : Option Addr) (cx y z : Nat) (w : World), Below W.heap.size W w → w.ownsRow W.heap.size 2 1 (.slice X L.length cx) L.length (vT L) → w.ownsRow W.heap.size 3 1 (.slice (some ⟨y, 0, none⟩) k k) k (zerosT k) → w.ownsRow W.heap.size 3 1 (.slice (some ⟨z, 0, none⟩) k k) k (zerosT k) → y ≠ z → Q .normal ⟨(((putAll T0 [36, 37, 38, 39, 40, 41, 42, 43] [u0, u1, u2, u3, u4, u5, u6, u7]).setIfInBounds 44 (.agg #[.slice X L.length cx, .slice (some ⟨y, 0, none⟩) k k, .slice (some ⟨z, 0, none⟩) k k, .int .i64 0, .int .i64 l])).setIfInBounds 45 (.pointer (some ⟨w.heap.size, 0, none⟩))).setIfInBounds 8 (.pointer (some ⟨w.heap.size, 0, none⟩)), []⟩ (w.alloc (.cells #[.slice X L.length cx, .slice (some ⟨y, 0, none⟩) k k, .slice (some ⟨z, 0, none⟩) k k, .int .i64 0, .int .i64 l] 70))) :
    (Code.region id ops true).wp Try.prog Q ⟨T0, []⟩ W := by
  subst hops
  have hos : opsN.size = 11 := by kernel_rfl
  refine wp_region_st (JN W A c L k l) [36, 37, 38, 39, 40, 41, 42, 43] W T0 (by decide) (fun x hx => ?_) (by kernel_rfl) (by kernel_rfl) (fun u => ⟨(Below.refl _ _).drew, by simp, fun j v _ h => by simp at h, by simp, by simp, by simp, by simp, by simp⟩) ?_ ?_
  · simp at hx
    omega
  · intro i o ho hi4 don u a w hT hU hdi hdone hJ K hK
    have hwait : ∀ j, waitsH opsN i j = true → don j = true := fun j hj => waitsH_of (P := fun j => don j = true) ho hdone hj
    have hU2 : ∀ j, j < 8 → ∀ v, u j = v → a.tmps[36 + j]?.getD undef = v := fun j hj v hv => by
      have hge : ([36, 37, 38, 39, 40, 41, 42, 43] : List Nat).getD j 0 = 36 + j := by
        match j, hj with
        | 0, _ | 1, _ | 2, _ | 3, _ | 4, _ | 5, _ | 6, _ | 7, _ => rfl
        | j + 8, h => exact absurd h (by omega)
      have h := hU j hj
      rw [hge] at h
      rw [h, hv]
      rfl
    have hT0 : ∀ t v, t ∉ ([36, 37, 38, 39, 40, 41, 42, 43] : List Nat) → T0[t]? = some v → a.tmps[t]?.getD undef = v := fun t v ht hv => by
      rw [hT t ht, hv]
      rfl
    have plain : ∀ v, valN A c L.length k l i = some v → i ≠ 0 → i ≠ 2 → i ≠ 5 → i ≠ 7 → K (a.put o.dst v) w := fun v hv n0 n2 n5 n7 => hK v w (hJ.fresh i v w (Below.refl _ _) n2 (fun x hx => Option.some.inj (hv.symm.trans hx)) (fun e => absurd e n0) (fun e => absurd e (by omega)) (fun e => absurd e (by omega)))
    match i, hi4 with
    | 0, _ =>
      have d2 : don 2 = false := by
        cases hd2 : don 2
        · rfl
        · have := hJ.o2 hd2
          rw [hdi] at this
          cases this
      exact n_lit (opAtH ho (by kernel_rfl)) (hK _ _ (hJ.fresh 0 _ _ ((Below.refl _ _).alloc (Nat.le_refl _) _) (by decide) (fun x hx => by simp [valN] at hx) (fun _ => ⟨d2, _, rfl, own_emptyT64 _ hJ.b.size⟩) (fun e => by omega) (fun e => by omega)))
    | 1, _ => exact h_move 0 (opAtH ho (by kernel_rfl)) (hT0 0 _ (by decide) h0) (plain _ rfl (by decide) (by decide) (by decide) (by decide))
    | 2, _ =>
      have d0 := hwait 0 (by kernel_rfl)
      obtain ⟨p, e1, own⟩ := hJ.e0 d0 hdi
      have v1 := hU2 1 (by decide) _ (hJ.pv 1 _ rfl (hwait 1 (by kernel_rfl)))
      refine wp_cloneT64 own hJ.b.size (hI.below hJ.b (Nat.le_refl _)) (by omega) (.tmp 36) (.tmp 37) (opAtH ho (by kernel_rfl)) (by simpa [Act.eval, Array.getD_eq_getD_getElem?] using hU2 0 (by decide) _ e1) (by simpa [Act.eval, Array.getD_eq_getD_getElem?] using v1) ?_
      intro A' c' w' own' hg
      have hbw : Below W.heap.size W w' := below_grownT own (Nat.le_refl _) hJ.b hg hJ.b.size
      refine hK _ _ (hJ.step 2 _ w' hbw (fun _ => d0) (fun x hx => by simp [valN] at hx) (fun j r hj hji hd hr => ?_) (fun e => by omega) (fun _ => ⟨A', c', rfl, own'⟩) (fun e => by omega) (fun e => by omega))
      have hlt := hJ.lt (j := j) (by rcases hj with h | h | h | ⟨h, h2, _⟩ <;> simp [*]) hd hr
      refine hg.block r hlt ?_
      rcases hj with rfl | rfl | rfl | ⟨_, _, h3⟩
      · obtain ⟨p5, e5, own5⟩ := hJ.e5 hd
        rw [e5] at hr
        intro hc
        exact own_unlikeT own own5 (by decide) hc.symm hr
      · obtain ⟨p5, e5, own5⟩ := hJ.e7 hd
        rw [e5] at hr
        intro hc
        exact own_unlikeT own own5 (by decide) hc.symm hr
      · exact absurd rfl hji
      · exact absurd rfl h3
    | 3, _ => exact h_move 2 (opAtH ho (by kernel_rfl)) (hT0 2 _ (by decide) h2) (plain _ rfl (by decide) (by decide) (by decide) (by decide))
    | 4, _ => exact h_move 1 (opAtH ho (by kernel_rfl)) (hT0 1 _ (by decide) h1) (plain _ rfl (by decide) (by decide) (by decide) (by decide))
    | 5, _ =>
      have v4 := hU2 4 (by decide) _ (hJ.pv 4 _ rfl (hwait 4 (by kernel_rfl)))
      refine n_make k hk (.tmp 40) (opAtH ho (by kernel_rfl)) (by simpa [Act.eval, Array.getD_eq_getD_getElem?] using v4) ?_
      intro w' own hb
      exact hK _ _ (hJ.fresh 5 _ w' hb (by decide) (fun x hx => by simp [valN] at hx) (fun e => by omega) (fun _ => ⟨_, rfl, ownsRow_lowH own hJ.b.size⟩) (fun _ r hr => Nat.le_of_eq (Option.some.inj hr)))
    | 6, _ => exact h_move 1 (opAtH ho (by kernel_rfl)) (hT0 1 _ (by decide) h1) (plain _ rfl (by decide) (by decide) (by decide) (by decide))
    | 7, _ =>
      have v4 := hU2 6 (by decide) _ (hJ.pv 6 _ rfl (hwait 6 (by kernel_rfl)))
      refine n_make k hk (.tmp 42) (opAtH ho (by kernel_rfl)) (by simpa [Act.eval, Array.getD_eq_getD_getElem?] using v4) ?_
      intro w' own hb
      exact hK _ _ (hJ.fresh 7 _ w' hb (by decide) (fun x hx => by simp [valN] at hx) (fun e => by omega) (fun _ => ⟨_, rfl, ownsRow_lowH own hJ.b.size⟩) (fun _ r hr => Nat.le_of_eq (Option.some.inj hr)))
    | i + 8, h => exact absurd (show i + 8 < 8 from h) (by omega)
  · intro us w hu hJ
    match us, hu with
    | [u0, u1, u2, u3, u4, u5, u6, u7], _ =>
      obtain ⟨X, cx, e2, own2⟩ := hJ.e2 rfl
      obtain ⟨y, e5, own5⟩ := hJ.e5 rfl
      obtain ⟨z, e7, own7⟩ := hJ.e7 rfl
      have e2 : u2 = .slice X L.length cx := e2
      have e5 : u5 = .slice (some ⟨y, 0, none⟩) k k := e5
      have e7 : u7 = .slice (some ⟨z, 0, none⟩) k k := e7
      have e3 : u3 = .int .i64 l := hJ.pv 3 _ rfl rfl
      have hyz : y ≠ z := by
        rintro rfl
        exact hJ.ne rfl rfl y (by show u5.ownBlock = _; rw [e5]; rfl) (by show u7.ownBlock = _; rw [e7]; rfl)
      have hres := hend u0 u1 u2 u3 u4 u5 u6 u7 X cx y z w hJ.b own2 own5 own7 hyz
      have hTs : (putAll T0 [36, 37, 38, 39, 40, 41, 42, 43] [u0, u1, u2, u3, u4, u5, u6, u7]).size = T0.size := putAll_size _ _ _
      have t38 : (putAll T0 [36, 37, 38, 39, 40, 41, 42, 43] [u0, u1, u2, u3, u4, u5, u6, u7])[38]? = some u2 := putAll_at T0 [36, 37, 38, 39, 40, 41, 42, 43] [u0, u1, u2, u3, u4, u5, u6, u7] 2 (by decide) rfl (by decide) (by show 38 < T0.size; omega)
      have t39 : (putAll T0 [36, 37, 38, 39, 40, 41, 42, 43] [u0, u1, u2, u3, u4, u5, u6, u7])[39]? = some u3 := putAll_at T0 [36, 37, 38, 39, 40, 41, 42, 43] [u0, u1, u2, u3, u4, u5, u6, u7] 3 (by decide) rfl (by decide) (by show 39 < T0.size; omega)
      have t41 : (putAll T0 [36, 37, 38, 39, 40, 41, 42, 43] [u0, u1, u2, u3, u4, u5, u6, u7])[41]? = some u5 := putAll_at T0 [36, 37, 38, 39, 40, 41, 42, 43] [u0, u1, u2, u3, u4, u5, u6, u7] 5 (by decide) rfl (by decide) (by show 41 < T0.size; omega)
      have t43 : (putAll T0 [36, 37, 38, 39, 40, 41, 42, 43] [u0, u1, u2, u3, u4, u5, u6, u7])[43]? = some u7 := putAll_at T0 [36, 37, 38, 39, 40, 41, 42, 43] [u0, u1, u2, u3, u4, u5, u6, u7] 7 (by decide) rfl (by decide) (by show 43 < T0.size; omega)
      obtain ⟨o1, k1⟩ : ∃ o, opsN[8]? = some o := ⟨_, Array.getElem?_eq_getElem (by omega)⟩
      obtain ⟨o2, k2⟩ : ∃ o, opsN[9]? = some o := ⟨_, Array.getElem?_eq_getElem (by omega)⟩
      obtain ⟨o3, k3⟩ : ∃ o, opsN[10]? = some o := ⟨_, Array.getElem?_eq_getElem (by omega)⟩
      rw [show ([36, 37, 38, 39, 40, 41, 42, 43] : List Nat).length = 8 from rfl]
      generalize putAll T0 [36, 37, 38, 39, 40, 41, 42, 43] [u0, u1, u2, u3, u4, u5, u6, u7] = T1 at *
      refine wpListN k1 (guardN k1 (by kernel_rfl)) (n_build (opAtH k1 (by kernel_rfl)) (by show T1[38]?.getD undef = _; rw [t38]; exact e2) (by show T1[39]?.getD undef = _; rw [t39]; exact e3) (by show T1[41]?.getD undef = _; rw [t41]; exact e5) (by show T1[43]?.getD undef = _; rw [t43]; exact e7) ?_)
      rw [dstN k1 (x := some 44) (by kernel_rfl)]
      refine wpListN k2 (guardN k2 (by kernel_rfl)) (n_box (opAtH k2 (by kernel_rfl)) (by show (T1.setIfInBounds 44 _)[44]?.getD undef = _; rw [Array.getElem?_setIfInBounds_self_of_lt (by omega)]; try rfl) ?_)
      rw [dstN k2 (x := some 45) (by kernel_rfl)]
      refine wpListN k3 (guardN k3 (by kernel_rfl)) (h_assign 45 (opAtH k3 (by kernel_rfl)) (by show ((T1.setIfInBounds 44 _).setIfInBounds 45 _)[45]?.getD undef = _; rw [Array.getElem?_setIfInBounds_self_of_lt (by simp; omega)]; try rfl) ?_)
      rw [dstN k3 (x := some 8) (by kernel_rfl)]
      rw [show opsN.toList.drop (10 + 1) = [] from List.drop_eq_nil_of_le (by simp [hos]), wpList]
      exact hres
end Go.Proofs.Ytokhcogmoleocaa
