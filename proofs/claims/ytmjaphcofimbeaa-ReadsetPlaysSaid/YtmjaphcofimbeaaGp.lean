/-
  seesawref10's Add, where it inserts: its drawn region, in whatever order its parts are done. Conditions: as they stand.
-/
import Derived.Test.YtmjaphcofimbeaaGo
namespace Go.Proofs.Ytmjaphcofimbeaa
set_option maxRecDepth 100000
open Go.RowKit Go.Deep
set_option linter.unusedVariables false
/-- The operations of the region of a number, in a piece of code. -/
noncomputable def regOps10 (n : Nat) : Code → Option (Array Oper)
  | .region id ops _ => if id == n then some ops else none
  | .seq a b => match regOps10 n a with | some x => some x | none => regOps10 n b
  | .cond _ a b => match regOps10 n a with | some x => some x | none => regOps10 n b
  | .block _ b => regOps10 n b
  | .loop b => regOps10 n b
  | .scope b => regOps10 n b
  | _ => none
noncomputable def ops10 (n : Nat) : Array Oper := match Try.f10.body with
  | some c => (regOps10 n c).getD #[]
  | none => #[]
theorem opAt10 {ops : Array Oper} {i : Nat} {o : Oper} {x : Op} (ho : ops[i]? = some o) (h : (ops[i]?).map Oper.op = some x) : o.op = x := by
  rw [ho] at h
  exact Option.some.inj h
theorem dst10 {ops : Array Oper} {i : Nat} {o : Oper} {x : Option Tmp} (ho : ops[i]? = some o) (h : (ops[i]?).map Oper.dst = some x) : o.dst = x := by
  rw [ho] at h
  exact Option.some.inj h
theorem guard10 {ops : Array Oper} {i : Nat} {o : Oper} (ho : ops[i]? = some o) (h : (ops[i]?).map (fun o => o.guard.isNone) = some true) : o.guard = none := by
  rw [ho] at h
  have := Option.some.inj h
  simpa using this
def waits10 (ops : Array Oper) (i j : Nat) : Bool := match ops[i]? with
  | some o => o.after.any fun e => Region.binds .any e && e.on == j
  | none => false
theorem waits10_of {ops : Array Oper} {i j : Nat} {o : Oper} {P : Nat → Prop} (ho : ops[i]? = some o) (hd : ∀ e ∈ o.after.toList, Region.binds .any e = true → P e.on) (h : waits10 ops i j = true) : P j := by
  unfold waits10 at h
  rw [ho] at h
  obtain ⟨e, he, h6⟩ := Array.any_eq_true'.1 h
  simp only [Bool.and_eq_true, beq_iff_eq] at h6
  have := hd e (by simpa using he) h6.1
  rwa [h6.2] at this
theorem wpList10 {P : Program} {ops : Array Oper} {Q : Exit → Act → World → Prop} {k : Nat} {o : Oper} {a : Act} {w : World} (ho : ops[k]? = some o) (hg : o.guard = none) (h : Oper.wp P o a w (fun a' w' => wpList P ops Q (ops.toList.drop (k + 1)) a' w') Q) : wpList P ops Q (ops.toList.drop k) a w := by
  have hk : k < ops.size := (Array.getElem?_eq_some_iff.1 ho).1
  rw [wpList_at hk]
  unfold wpOp
  rw [ho]
  have hw : Region.wanted o (yielded ops a.tmps) = true := by simp [Region.wanted, hg]
  simp only [hw, if_true]
  exact .inl h
/-- What the plain ones leave. -/
def valR (g : Nat) (A : Option Addr) (c len k : Nat) (n : Int) : Nat → Option Value
  | 0 | 2 | 3 | 12 | 13 => some (.pointer (some ⟨g, 0, none⟩))
  | 4 | 14 => some (.pointer (some ⟨g, 2, none⟩))
  | 5 | 15 => some (.slice A len c)
  | 6 | 16 => some (.int .i64 k)
  | 7 => some (.slice A k c)
  | 9 => some (.int .i64 n)
  | 17 => some (.slice (hiP A c k) (len - k) (c - k))
  | _ => none
/-- The newest link of the chain of appends. -/
def curI (don : Nat → Bool) : Nat := if don 18 = true then 18 else if don 11 = true then 11 else if don 8 = true then 8 else 1
def lstI (L : List Int) (k : Nat) (n : Int) (j : Nat) : List Int := if j = 18 then L.take k ++ n :: L.drop k else if j = 11 then L.take k ++ [n] else if j = 8 then L.take k else []
structure JR (W : World) (g : Nat) (A : Option Addr) (c : Nat) (L : List Int) (k : Nat) (n : Int) (don : Nat → Bool) (u : Nat → Value) (w : World) : Prop where
  b : Below W.heap.size W w
  o1 : don 8 = true → don 1 = true
  o2 : don 11 = true → don 8 = true ∧ don 10 = true
  o3 : don 18 = true → don 11 = true
  pv : ∀ j v, valR g A c L.length k n j = some v → don j = true → u j = v
  ch : don 1 = true → ∃ A' c', u (curI don) = .slice A' (lstI L k n (curI don)).length c' ∧ w.ownsRow W.heap.size 3 1 (.slice A' (lstI L k n (curI don)).length c') (lstI L k n (curI don)).length (vI (lstI L k n (curI don)))
  nn : don 10 = true → don 11 = false → ∃ p, u 10 = .slice (some ⟨p, 0, none⟩) 1 1 ∧ W.heap.size ≤ p ∧ w.heap[p]? = some (.cells #[.int .i64 n] 3 (0, 0)) ∧ (don 1 = true → (u (curI don)).ownBlock ≠ some p)
section
variable {W : World} {g : Nat} {A : Option Addr} {c : Nat} {L : List Int} {k : Nat} {n : Int} {don : Nat → Bool} {u : Nat → Value} {w : World}
theorem curI_far {i : Nat} (h1 : i ≠ 18) (h2 : i ≠ 11) (h3 : i ≠ 8) : curI (fun j => j == i || don j) = curI don := by
  unfold curI
  have e : ∀ j, j ≠ i → (j == i || don j) = don j := fun j hj => by rw [beq_eq_false_iff_ne.2 hj, Bool.false_or]
  dsimp only
  simp only [e 18 (Ne.symm h1), e 11 (Ne.symm h2), e 8 (Ne.symm h3)]
theorem curI_in (don : Nat → Bool) : curI don = 18 ∨ curI don = 11 ∨ curI don = 8 ∨ curI don = 1 := by
  unfold curI
  split
  · exact .inl rfl
  · split
    · exact .inr (.inl rfl)
    · split
      · exact .inr (.inr (.inl rfl))
      · exact .inr (.inr (.inr rfl))
theorem JR.plain (h : JR W g A c L k n don u w) {i : Nat} {v : Value} (hv : valR g A c L.length k n i = some v) : JR W g A c L k n (fun j => j == i || don j) (fun j => if j = i then v else u j) w := by
  have n1 : i ≠ 1 := by rintro rfl; simp [valR] at hv
  have n8 : i ≠ 8 := by rintro rfl; simp [valR] at hv
  have n10 : i ≠ 10 := by rintro rfl; simp [valR] at hv
  have n11 : i ≠ 11 := by rintro rfl; simp [valR] at hv
  have n18 : i ≠ 18 := by rintro rfl; simp [valR] at hv
  have e : ∀ j, j ≠ i → (j == i || don j) = don j := fun j hj => by rw [beq_eq_false_iff_ne.2 hj, Bool.false_or]
  have hcur : curI (fun j => j == i || don j) = curI don := curI_far n18 n11 n8
  have hci : ¬ curI don = i := by rcases curI_in don with h | h | h | h <;> omega
  refine ⟨h.b, ?_, ?_, ?_, ?_, ?_, ?_⟩
  · rw [e 8 (Ne.symm n8), e 1 (Ne.symm n1)]; exact h.o1
  · rw [e 8 (Ne.symm n8), e 11 (Ne.symm n11), e 10 (Ne.symm n10)]; exact h.o2
  · rw [e 18 (Ne.symm n18), e 11 (Ne.symm n11)]; exact h.o3
  · intro j v' hj hd
    by_cases hji : j = i
    · subst hji
      rw [if_pos rfl]
      rw [hv] at hj
      exact Option.some.inj hj
    · rw [if_neg hji]
      rw [e j hji] at hd
      exact h.pv j v' hj hd
  · rw [e 1 (Ne.symm n1), hcur, if_neg hci]; exact h.ch
  · rw [e 10 (Ne.symm n10), e 11 (Ne.symm n11), e 1 (Ne.symm n1), hcur, if_neg hci, if_neg (Ne.symm n10)]; exact h.nn
theorem off_of {b c : Bool} (h : b = true → c = true) (hc : c = false) : b = false := by
  cases b
  · rfl
  · rw [h rfl] at hc; cases hc
theorem JR.first (h : JR W g A c L k n don u w) (hd : don 1 = false) : JR W g A c L k n (fun j => j == 1 || don j) (fun j => if j = 1 then .slice (some ⟨w.heap.size, 0, none⟩) 0 0 else u j) (w.alloc (.cells #[] 3)) := by
  have d8 : don 8 = false := off_of h.o1 hd
  have d11 : don 11 = false := off_of (fun x => (h.o2 x).1) d8
  have d18 : don 18 = false := off_of h.o3 d11
  have hcur : curI (fun j => j == 1 || don j) = 1 := by unfold curI; simp [d8, d11, d18]
  refine ⟨h.b.alloc h.b.size _, by simp [d8], by simp [d11], by simp [d18], ?_, ?_, ?_⟩
  · intro j v' hj hdj
    have hji : j ≠ 1 := by rintro rfl; simp [valR] at hj
    rw [if_neg hji]
    rw [beq_eq_false_iff_ne.2 hji, Bool.false_or] at hdj
    exact h.pv j v' hj hdj
  · intro _
    rw [hcur]
    exact ⟨some ⟨w.heap.size, 0, none⟩, 0, by simp [lstI], by simpa [lstI, vI] using own_empty W.heap.size h.b.size⟩
  · intro h10 _
    simp at h10
    obtain ⟨p, e1, e2, e3, _⟩ := h.nn h10 d11
    have hp : p < w.heap.size := (Array.getElem?_eq_some_iff.1 e3).1
    refine ⟨p, by simpa using e1, e2, ?_, fun _ => ?_⟩
    · exact (((Below.refl w.heap.size w).alloc (Nat.le_refl _) (.cells #[] 3)).block p hp).trans e3
    · rw [hcur, if_pos rfl]
      show some w.heap.size ≠ some p
      simp; omega
theorem JR.link (h : JR W g A c L k n don u w) {i : Nat} (hi : i = 8 ∧ don 8 = false ∧ don 1 = true ∨ i = 11 ∧ don 11 = false ∧ don 8 = true ∧ don 10 = true ∨ i = 18 ∧ don 18 = false ∧ don 11 = true) {w' : World} {A' : Option Addr} {c' : Nat}
    (hl : w'.ownsRow W.heap.size 3 1 (.slice A' (lstI L k n i).length c') (lstI L k n i).length (vI (lstI L k n i))) (hg : w.grownBy w' (u (curI don)).ownBlock) (ho : ∀ g, Value.ownBlock (.slice A' (lstI L k n i).length c') = some g → (u (curI don)).ownBlock = some g ∨ g = w.heap.size) :
    JR W g A c L k n (fun j => j == i || don j) (fun j => if j = i then .slice A' (lstI L k n i).length c' else u j) w' := by
  have d1 : don 1 = true := by
    rcases hi with ⟨_, _, h1⟩ | ⟨_, _, h1, _⟩ | ⟨_, _, h1⟩
    · exact h1
    · exact h.o1 h1
    · exact h.o1 (h.o2 h1).1
  have hcur : curI (fun j => j == i || don j) = i := by
    rcases hi with ⟨rfl, h1, _⟩ | ⟨rfl, h1, _, _⟩ | ⟨rfl, h1, _⟩
    · have d11 : don 11 = false := off_of (fun x => (h.o2 x).1) h1
      have d18 : don 18 = false := off_of h.o3 d11
      unfold curI; simp [d11, d18]
    · have d18 : don 18 = false := off_of h.o3 h1
      unfold curI; simp [d18]
    · unfold curI; simp
  obtain ⟨A0, c0, e0, own0⟩ := h.ch d1
  rw [e0] at hg ho
  refine ⟨own_below own0 (Nat.le_refl _) h.b hg h.b.size, ?_, ?_, ?_, ?_, ?_, ?_⟩
  · intro _; simp [d1]
  · rcases hi with ⟨rfl, h1, _⟩ | ⟨rfl, h1, h8, h10⟩ | ⟨rfl, h1, _⟩
    · intro h11
      simp at h11
      have := h.o2 h11
      simp [this]
    · intro _; simp [h8, h10]
    · intro h11
      simp at h11
      have := h.o2 h11
      simp [this]
  · rcases hi with ⟨rfl, h1, _⟩ | ⟨rfl, h1, h8, h10⟩ | ⟨rfl, h1, h11⟩
    · intro h18
      simp at h18
      simp [h.o3 h18]
    · intro h18; simp
    · intro _; simp [h11]
  · intro j v' hj hdj
    have hji : j ≠ i := by rintro rfl; rcases hi with ⟨rfl, _⟩ | ⟨rfl, _⟩ | ⟨rfl, _⟩ <;> simp [valR] at hj
    rw [if_neg hji]
    rw [beq_eq_false_iff_ne.2 hji, Bool.false_or] at hdj
    exact h.pv j v' hj hdj
  · intro _
    rw [hcur, if_pos rfl]
    exact ⟨A', c', rfl, hl⟩
  · intro h10 h11
    rcases hi with ⟨rfl, h1, _⟩ | ⟨rfl, h1, h8, _⟩ | ⟨rfl, h1, hx⟩
    · simp at h10 h11
      obtain ⟨p, e1, e2, e3, e4⟩ := h.nn h10 h11
      have hp : p < w.heap.size := (Array.getElem?_eq_some_iff.1 e3).1
      have e5 := e4 d1
      rw [e0] at e5
      refine ⟨p, by simpa using e1, e2, (hg.block p hp (Ne.symm e5)).trans e3, fun _ => ?_⟩
      rw [hcur, if_pos rfl]
      intro hc
      rcases ho p hc with h | h
      · exact e5 h
      · omega
    · simp at h11
    · simp [hx] at h11
theorem JR.one (h : JR W g A c L k n don u w) (hd : don 10 = false) : JR W g A c L k n (fun j => j == 10 || don j) (fun j => if j = 10 then .slice (some ⟨w.heap.size, 0, none⟩) 1 1 else u j) (w.alloc (.cells #[.int .i64 n] 3)) := by
  have hcur : curI (fun j => j == 10 || don j) = curI don := curI_far (by decide) (by decide) (by decide)
  have hci : ¬ curI don = 10 := by rcases curI_in don with h | h | h | h <;> omega
  have d11 : don 11 = false := off_of (fun x => (h.o2 x).2) hd
  refine ⟨h.b.alloc h.b.size _, by simpa using h.o1, by simp [d11], by simpa using h.o3, ?_, ?_, ?_⟩
  · intro j v' hj hdj
    have hji : j ≠ 10 := by rintro rfl; simp [valR] at hj
    rw [if_neg hji]
    rw [beq_eq_false_iff_ne.2 hji, Bool.false_or] at hdj
    exact h.pv j v' hj hdj
  · intro h1
    simp at h1
    rw [hcur, if_neg hci]
    obtain ⟨A', c', e, own⟩ := h.ch h1
    exact ⟨A', c', e, own.alloc _⟩
  · intro _ _
    refine ⟨w.heap.size, by simp, h.b.size, World.alloc_heap_new w _, fun h1 => ?_⟩
    simp at h1
    rw [hcur, if_neg hci]
    obtain ⟨A', c', e, own⟩ := h.ch h1
    rw [e]
    intro hc
    have := (own.lt _ hc).2
    omega
set_option maxRecDepth 100000 in
set_option maxHeartbeats 4000000 in
theorem regIns {id : Nat} {ops : Array Oper} (hops : ops = ops10 8) (T0 : Array Value) (hsz : 60 ≤ T0.size) (W : World) (g lo : Nat) (A : Option Addr) (c : Nat) (L : List Int) (k : Nat) (n : Int) (hk : k ≤ L.length) (h0 : T0[0]? = some (.pointer (some ⟨g, 0, none⟩))) (h1 : T0[1]? = some (.int .i64 n)) (h5 : T0[5]? = some (.int .i64 k)) (hgl : g < W.heap.size) (hc2 : W.cell? ⟨g, 2, none⟩ = some (.slice A L.length c)) (hfr : W.frozen? ⟨g, 2, none⟩ = false) (hI : Ints W W.heap.size A L) (hlc : L.length ≤ c) (hcm : c ≤ maxLen) (hlen : L.length ≤ 1000) {Q : Exit → Act → World → Prop}
    (hend : ∀ (u0 u1 u2 u3 u4 u5 u6 u7 u8 u9 u10 u11 u12 u13 u14 u15 u16 u17 : Value) (A' : Option Addr) (c' : Nat) (w : World), Below W.heap.size W w → w.ownsRow W.heap.size 3 1 (.slice A' (L.take k ++ n :: L.drop k).length c') (L.take k ++ n :: L.drop k).length (vI (L.take k ++ n :: L.drop k)) → Q .normal ⟨((putAll T0 [39, 40, 41, 42, 43, 44, 45, 46, 47, 48, 49, 50, 51, 52, 53, 54, 55, 56, 57] [u0, u1, u2, u3, u4, u5, u6, u7, u8, u9, u10, u11, u12, u13, u14, u15, u16, u17, .slice A' (L.take k ++ n :: L.drop k).length c']).setIfInBounds 58 (.pointer (some ⟨g, 0, none⟩))).setIfInBounds 59 (.pointer (some ⟨g, 2, none⟩)), []⟩ (w.setCell ⟨g, 2, none⟩ (.slice A' (L.take k ++ n :: L.drop k).length c'))) :
    (Code.region id ops true).wp Try.prog Q ⟨T0, []⟩ W := by
  subst hops
  have hos : (ops10 8).size = 22 := by kernel_rfl
  have hp : A = none → L.length = 0 := by
    intro h
    rcases Nat.eq_zero_or_pos L.length with h0 | h0
    · exact h0
    · obtain ⟨p, e, _⟩ := hI.cell 0 h0
      rw [h] at e
      cases e
  have hfz : ∀ w, Below W.heap.size W w → w.frozen? ⟨g, 2, none⟩ = false := fun w b => (World.frozen?_of_block (a := ⟨g, 2, none⟩) (b.block g hgl)).trans hfr
  have hcell : ∀ w, Below W.heap.size W w → w.cell? ⟨g, 2, none⟩ = some (.slice A L.length c) := fun w b => (b.cell (p := ⟨g, 2, none⟩) hgl).trans hc2
  refine wp_region_st (JR W g A c L k n) [39, 40, 41, 42, 43, 44, 45, 46, 47, 48, 49, 50, 51, 52, 53, 54, 55, 56, 57] W T0 (by decide) (fun x hx => ?_) (by kernel_rfl) (by kernel_rfl) (fun u => ⟨(Below.refl _ _).drew, by simp, by simp, by simp, fun j v _ h => by simp at h, fun h => by simp at h, fun h => by simp at h⟩) ?_ ?_
  · simp at hx
    omega
  · intro i o ho hi4 don u a w hT hU hdi hdone hJ K hK
    have hwait : ∀ j, waits10 (ops10 8) i j = true → don j = true := fun j hj => waits10_of (P := fun j => don j = true) ho hdone hj
    have hval : ∀ j v, valR g A c L.length k n j = some v → waits10 (ops10 8) i j = true → u j = v := fun j v hv hj => hJ.pv j v hv (hwait j hj)
    have plain : ∀ v, valR g A c L.length k n i = some v → K (a.put o.dst v) w := fun v hv => hK v w (hJ.plain hv)
    have hU2 : ∀ j, j < 19 → ∀ v, u j = v → a.tmps[39 + j]?.getD undef = v := fun j hj v hv => by
      have hge : ([39, 40, 41, 42, 43, 44, 45, 46, 47, 48, 49, 50, 51, 52, 53, 54, 55, 56, 57] : List Nat).getD j 0 = 39 + j := by
        match j, hj with
        | 0, _ | 1, _ | 2, _ | 3, _ | 4, _ | 5, _ | 6, _ | 7, _ | 8, _ | 9, _ | 10, _ | 11, _ | 12, _ | 13, _ | 14, _ | 15, _ | 16, _ | 17, _ | 18, _ => rfl
        | j + 19, h => exact absurd h (by omega)
      have h := hU j hj
      rw [hge] at h
      rw [h, hv]
      rfl
    have hT0 : ∀ t v, t ∉ ([39, 40, 41, 42, 43, 44, 45, 46, 47, 48, 49, 50, 51, 52, 53, 54, 55, 56, 57] : List Nat) → T0[t]? = some v → a.tmps[t]?.getD undef = v := fun t v ht hv => by
      rw [hT t ht, hv]
      rfl
    match i, hi4 with
    | 0, _ => exact i_move 0 (opAt10 ho (by kernel_rfl)) (hT0 0 _ (by decide) h0) (plain _ rfl)
    | 1, _ => exact i_lit0 (opAt10 ho (by kernel_rfl)) (hK _ _ (hJ.first hdi))
    | 2, _ => exact i_move 0 (opAt10 ho (by kernel_rfl)) (hT0 0 _ (by decide) h0) (plain _ rfl)
    | 3, _ => exact i_nil 41 g (opAt10 ho (by kernel_rfl)) (hU2 2 (by decide) _ (hval 2 _ rfl (by kernel_rfl))) (plain _ rfl)
    | 4, _ => exact i_field 42 g (opAt10 ho (by kernel_rfl)) (hU2 3 (by decide) _ (hval 3 _ rfl (by kernel_rfl))) (plain _ rfl)
    | 5, _ => exact i_load 43 g (opAt10 ho (by kernel_rfl)) (hU2 4 (by decide) _ (hval 4 _ rfl (by kernel_rfl))) (hcell w hJ.b) (plain _ rfl)
    | 6, _ => exact i_move 5 (opAt10 ho (by kernel_rfl)) (hT0 5 _ (by decide) h5) (plain _ rfl)
    | 7, _ => exact i_lo 44 45 A L.length c k hk hlc hcm hp (opAt10 ho (by kernel_rfl)) (hU2 5 (by decide) _ (hval 5 _ rfl (by kernel_rfl))) (hU2 6 (by decide) _ (hval 6 _ rfl (by kernel_rfl))) (plain _ rfl)
    | 8, _ =>
      have d1 := hwait 1 (by kernel_rfl)
      have d11 : don 11 = false := off_of (fun x => (hJ.o2 x).1) hdi
      have d18 : don 18 = false := off_of hJ.o3 d11
      have hcu : curI don = 1 := by unfold curI; simp [hdi, d11, d18]
      obtain ⟨A', c', e, own⟩ := hJ.ch d1
      rw [hcu] at e own
      have hz : (L.take k).length = k := by simp; omega
      have v7 := hU2 7 (by decide) _ (hval 7 _ rfl (by kernel_rfl))
      rw [← hz] at v7
      refine wp_append_list2 (L := L.take k) own hJ.b.size (ints_lo (hI.below hJ.b (Nat.le_refl _)) k) (by simp [lstI]; omega) (.tmp 40) (.tmp 46) (opAt10 ho (by kernel_rfl)) (by simpa [Act.eval, Array.getD_eq_getD_getElem?] using hU2 1 (by decide) _ e) (by simpa [Act.eval, Array.getD_eq_getD_getElem?] using v7) ?_
      intro A2 c2 w2 own2 hg2 hn2
      have hl8 : lstI L k n 8 = L.take k := rfl
      have q1 : (lstI L k n 1).length + (L.take k).length = (lstI L k n 8).length := by rw [hl8]; simp [lstI]
      have q2 : vI (lstI L k n 1) ++ vI (L.take k) = vI (lstI L k n 8) := by rw [hl8]; simp [lstI, vI]
      rw [q1, q2] at own2
      rw [q1] at hn2 ⊢
      rw [← e, ← hcu] at hg2 hn2
      exact hK _ _ (hJ.link (.inl ⟨rfl, hdi, d1⟩) own2 hg2 hn2)
    | 9, _ => exact i_move 1 (opAt10 ho (by kernel_rfl)) (hT0 1 _ (by decide) h1) (plain _ rfl)
    | 10, _ => exact i_lit1 48 n (opAt10 ho (by kernel_rfl)) (hU2 9 (by decide) _ (hval 9 _ rfl (by kernel_rfl))) (hK _ _ (hJ.one hdi))
    | 11, _ =>
      have d8 := hwait 8 (by kernel_rfl)
      have d10 := hwait 10 (by kernel_rfl)
      have d18 : don 18 = false := off_of hJ.o3 hdi
      have hcu : curI don = 8 := by unfold curI; simp [hdi, d8, d18]
      obtain ⟨A', c', e, own⟩ := hJ.ch (hJ.o1 d8)
      rw [hcu] at e own
      obtain ⟨p, e1, e2, e3, _⟩ := hJ.nn d10 hdi
      have hp1 : p < w.heap.size := (Array.getElem?_eq_some_iff.1 e3).1
      have hI1 : Ints w w.heap.size (some ⟨p, 0, none⟩) [n] := ⟨by simp, fun j hj => by
        obtain rfl : j = 0 := by simp at hj; omega
        exact ⟨⟨p, 0, none⟩, rfl, hp1, by simp [World.cell?, Addr.add, e3]⟩⟩
      have hl8 : lstI L k n 8 = L.take k := rfl
      refine wp_append_list2 (L := [n]) own hJ.b.size hI1 (by rw [hl8]; simp; omega) (.tmp 47) (.tmp 49) (opAt10 ho (by kernel_rfl)) (by simpa [Act.eval, Array.getD_eq_getD_getElem?] using hU2 8 (by decide) _ e) (by simpa [Act.eval, Array.getD_eq_getD_getElem?] using hU2 10 (by decide) _ e1) ?_
      intro A2 c2 w2 own2 hg2 hn2
      have hl11 : lstI L k n 11 = L.take k ++ [n] := rfl
      have q1 : (lstI L k n 8).length + [n].length = (lstI L k n 11).length := by rw [hl8, hl11]; simp
      have q2 : vI (lstI L k n 8) ++ vI [n] = vI (lstI L k n 11) := by rw [hl8, hl11]; simp [vI]
      rw [q1, q2] at own2
      rw [q1] at hn2 ⊢
      rw [← e, ← hcu] at hg2 hn2
      exact hK _ _ (hJ.link (.inr (.inl ⟨rfl, hdi, d8, d10⟩)) own2 hg2 hn2)
    | 12, _ => exact i_move 0 (opAt10 ho (by kernel_rfl)) (hT0 0 _ (by decide) h0) (plain _ rfl)
    | 13, _ => exact i_nil 51 g (opAt10 ho (by kernel_rfl)) (hU2 12 (by decide) _ (hval 12 _ rfl (by kernel_rfl))) (plain _ rfl)
    | 14, _ => exact i_field 52 g (opAt10 ho (by kernel_rfl)) (hU2 13 (by decide) _ (hval 13 _ rfl (by kernel_rfl))) (plain _ rfl)
    | 15, _ => exact i_load 53 g (opAt10 ho (by kernel_rfl)) (hU2 14 (by decide) _ (hval 14 _ rfl (by kernel_rfl))) (hcell w hJ.b) (plain _ rfl)
    | 16, _ => exact i_move 5 (opAt10 ho (by kernel_rfl)) (hT0 5 _ (by decide) h5) (plain _ rfl)
    | 17, _ => exact i_hi 54 55 A L.length c k hk hlc hcm hp (opAt10 ho (by kernel_rfl)) (hU2 15 (by decide) _ (hval 15 _ rfl (by kernel_rfl))) (hU2 16 (by decide) _ (hval 16 _ rfl (by kernel_rfl))) (plain _ rfl)
    | 18, _ =>
      have d11 := hwait 11 (by kernel_rfl)
      have hcu : curI don = 11 := by unfold curI; simp [hdi, d11]
      obtain ⟨A', c', e, own⟩ := hJ.ch (hJ.o1 (hJ.o2 d11).1)
      rw [hcu] at e own
      have hz : (L.drop k).length = L.length - k := by simp
      have v17 := hU2 17 (by decide) _ (hval 17 _ rfl (by kernel_rfl))
      rw [← hz] at v17
      have hl11 : lstI L k n 11 = L.take k ++ [n] := rfl
      have hl18 : lstI L k n 18 = L.take k ++ n :: L.drop k := rfl
      refine wp_append_list2 (L := L.drop k) own hJ.b.size (ints_hi (hI.below hJ.b (Nat.le_refl _)) k hlc) (by rw [hl11]; simp; omega) (.tmp 50) (.tmp 56) (opAt10 ho (by kernel_rfl)) (by simpa [Act.eval, Array.getD_eq_getD_getElem?] using hU2 11 (by decide) _ e) (by simpa [Act.eval, Array.getD_eq_getD_getElem?] using v17) ?_
      intro A2 c2 w2 own2 hg2 hn2
      have q1 : (lstI L k n 11).length + (L.drop k).length = (lstI L k n 18).length := by rw [hl11, hl18]; simp; omega
      have q2 : vI (lstI L k n 11) ++ vI (L.drop k) = vI (lstI L k n 18) := by rw [hl11, hl18]; simp [vI]
      rw [q1, q2] at own2
      rw [q1] at hn2 ⊢
      rw [← e, ← hcu] at hg2 hn2
      exact hK _ _ (hJ.link (.inr (.inr ⟨rfl, hdi, d11⟩)) own2 hg2 hn2)
    | i + 19, h => exact absurd (show i + 19 < 19 from h) (by omega)
  · intro us w hu hJ
    match us, hu with
    | [u0, u1, u2, u3, u4, u5, u6, u7, u8, u9, u10, u11, u12, u13, u14, u15, u16, u17, u18], _ =>
      obtain ⟨A', c', e, own⟩ := hJ.ch rfl
      have e18 : u18 = .slice A' (L.take k ++ n :: L.drop k).length c' := e
      have own' : w.ownsRow W.heap.size 3 1 (.slice A' (L.take k ++ n :: L.drop k).length c') (L.take k ++ n :: L.drop k).length (vI (L.take k ++ n :: L.drop k)) := own
      have e39 : u0 = .pointer (some ⟨g, 0, none⟩) := hJ.pv 0 _ rfl rfl
      have hb := hJ.b
      have hcg := hcell w hb
      clear hJ e own
      subst e18 e39
      obtain ⟨o1, k1⟩ : ∃ o, (ops10 8)[19]? = some o := ⟨_, Array.getElem?_eq_getElem (by omega)⟩
      obtain ⟨o2, k2⟩ : ∃ o, (ops10 8)[20]? = some o := ⟨_, Array.getElem?_eq_getElem (by omega)⟩
      obtain ⟨o3, k3⟩ : ∃ o, (ops10 8)[21]? = some o := ⟨_, Array.getElem?_eq_getElem (by omega)⟩
      rw [show ([39, 40, 41, 42, 43, 44, 45, 46, 47, 48, 49, 50, 51, 52, 53, 54, 55, 56, 57] : List Nat).length = 19 from rfl]
      have hres := hend (.pointer (some ⟨g, 0, none⟩)) u1 u2 u3 u4 u5 u6 u7 u8 u9 u10 u11 u12 u13 u14 u15 u16 u17 A' c' w hb own'
      obtain ⟨vv, hvv⟩ : ∃ v, v = Value.slice A' (L.take k ++ n :: L.drop k).length c' := ⟨_, rfl⟩
      rw [← hvv] at hres ⊢
      have t39 : (putAll T0 [39, 40, 41, 42, 43, 44, 45, 46, 47, 48, 49, 50, 51, 52, 53, 54, 55, 56, 57] [.pointer (some ⟨g, 0, none⟩), u1, u2, u3, u4, u5, u6, u7, u8, u9, u10, u11, u12, u13, u14, u15, u16, u17, vv])[39]? = some (.pointer (some ⟨g, 0, none⟩)) := putAll_at T0 [39, 40, 41, 42, 43, 44, 45, 46, 47, 48, 49, 50, 51, 52, 53, 54, 55, 56, 57] [.pointer (some ⟨g, 0, none⟩), u1, u2, u3, u4, u5, u6, u7, u8, u9, u10, u11, u12, u13, u14, u15, u16, u17, vv] 0 (by decide) rfl (by decide) (by show 39 < T0.size; omega)
      have t57 : (putAll T0 [39, 40, 41, 42, 43, 44, 45, 46, 47, 48, 49, 50, 51, 52, 53, 54, 55, 56, 57] [.pointer (some ⟨g, 0, none⟩), u1, u2, u3, u4, u5, u6, u7, u8, u9, u10, u11, u12, u13, u14, u15, u16, u17, vv])[57]? = some vv := putAll_at T0 [39, 40, 41, 42, 43, 44, 45, 46, 47, 48, 49, 50, 51, 52, 53, 54, 55, 56, 57] [.pointer (some ⟨g, 0, none⟩), u1, u2, u3, u4, u5, u6, u7, u8, u9, u10, u11, u12, u13, u14, u15, u16, u17, vv] 18 (by decide) rfl (by decide) (by show 57 < T0.size; omega)
      have hTs : (putAll T0 [39, 40, 41, 42, 43, 44, 45, 46, 47, 48, 49, 50, 51, 52, 53, 54, 55, 56, 57] [.pointer (some ⟨g, 0, none⟩), u1, u2, u3, u4, u5, u6, u7, u8, u9, u10, u11, u12, u13, u14, u15, u16, u17, vv]).size = T0.size := putAll_size _ _ _
      generalize putAll T0 [39, 40, 41, 42, 43, 44, 45, 46, 47, 48, 49, 50, 51, 52, 53, 54, 55, 56, 57] [.pointer (some ⟨g, 0, none⟩), u1, u2, u3, u4, u5, u6, u7, u8, u9, u10, u11, u12, u13, u14, u15, u16, u17, vv] = T1 at *
      refine wpList10 k1 (guard10 k1 (by kernel_rfl)) (i_nil 39 g (opAt10 k1 (by kernel_rfl)) (by show T1[39]?.getD undef = _; rw [t39]; rfl) ?_)
      rw [dst10 k1 (x := some 58) (by kernel_rfl)]
      refine wpList10 k2 (guard10 k2 (by kernel_rfl)) (i_field 58 g (opAt10 k2 (by kernel_rfl)) (by show (T1.setIfInBounds 58 _)[58]?.getD undef = _; rw [Array.getElem?_setIfInBounds_self_of_lt (by omega)]; rfl) ?_)
      rw [dst10 k2 (x := some 59) (by kernel_rfl)]
      refine wpList10 k3 (guard10 k3 (by kernel_rfl)) (i_store 59 57 g (opAt10 k3 (by kernel_rfl)) (by show ((T1.setIfInBounds 58 _).setIfInBounds 59 _)[59]?.getD undef = _; rw [Array.getElem?_setIfInBounds_self_of_lt (by simp; omega)]; rfl) (by show ((T1.setIfInBounds 58 _).setIfInBounds 59 _)[57]?.getD undef = vv; rw [Array.getElem?_setIfInBounds_ne (by decide), Array.getElem?_setIfInBounds_ne (by decide), t57]; rfl) hcg (hfz w hb) hvv ?_)
      rw [dst10 k3 (x := none) (by kernel_rfl)]
      rw [show (ops10 8).toList.drop (21 + 1) = [] from List.drop_eq_nil_of_le (by simp [hos]), wpList]
      exact hres
end
end Go.Proofs.Ytmjaphcofimbeaa
