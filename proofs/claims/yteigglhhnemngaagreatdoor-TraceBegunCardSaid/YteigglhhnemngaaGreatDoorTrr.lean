/-
  P15.5, P15.6: THE WALK OF TraceBegun. Laid by gen/gen_trr.py. Conditions: the table of names lies.
-/
import Derived.Test.YteigglhhnemngaaGreatDoorTrl
import Derived.Test.YteigglhhnemngaaGreatDoorTrq
namespace Go.Proofs.YteigglhhnemngaaGreatDoor
set_option maxRecDepth 100000
open Go.RowKit Go.Deep
set_option linter.unusedVariables false
set_option linter.unusedSimpArgs false
section
variable {a : Act} {w : World} {K : Act → World → Prop} {Q : Exit → Act → World → Prop} {o : Oper}
theorem t_len (x : Nat) {s : ByteArray} (ho : o.op = .call { callee := .builtin .len, args := #[.tmp x], argTypes := #[9] }) (hx : a.tmps[x]?.getD undef = .string s) (hK : K (a.put o.dst (.int .i64 (s.size : Int))) w) : Oper.wp Tryz.prog o a w K Q := by
  obtain ⟨dst, op, type, pos, after, guard⟩ := o
  have ho' : op = _ := ho
  subst ho'
  clear ho
  go_simp
  exact hK
theorem t_lssc (x : Nat) {n : Int} (h : ¬ n < 4) (ho : o.op = .binOp .lss 3 (.tmp x) (.const (.int .i64 4)) 3) (hx : a.tmps[x]?.getD undef = .int .i64 n) (hK : K (a.put o.dst (.bool false)) w) : Oper.wp Tryz.prog o a w K Q := by
  obtain ⟨dst, op, type, pos, after, guard⟩ := o
  have ho' : op = _ := ho
  subst ho'
  clear ho
  go_simp
  exact hK
theorem t_lss (x y : Nat) {n m : Int} (h : ¬ n < m) (ho : o.op = .binOp .lss 3 (.tmp x) (.tmp y) 3) (hx : a.tmps[x]?.getD undef = .int .i64 n) (hy : a.tmps[y]?.getD undef = .int .i64 m) (hK : K (a.put o.dst (.bool false)) w) : Oper.wp Tryz.prog o a w K Q := by
  obtain ⟨dst, op, type, pos, after, guard⟩ := o
  have ho' : op = _ := ho
  subst ho'
  clear ho
  go_simp
  exact hK
theorem t_neqs (x y : Nat) {n : ByteArray} (ho : o.op = .binOp .neq 9 (.tmp x) (.tmp y) 9) (hx : a.tmps[x]?.getD undef = .string n) (hy : a.tmps[y]?.getD undef = .string n) (hK : K (a.put o.dst (.bool false)) w) : Oper.wp Tryz.prog o a w K Q := by
  obtain ⟨dst, op, type, pos, after, guard⟩ := o
  have ho' : op = _ := ho
  subst ho'
  clear ho
  go_simp
  exact hK
theorem t_sl3 (x : Nat) {s : ByteArray} (h : 3 ≤ s.size) (h2 : s.size ≤ 1000000) (ho : o.op = .slice 9 (.tmp x) none (some (.const (.int .i64 3))) none) (hx : a.tmps[x]?.getD undef = .string s) (hK : K (a.put o.dst (.string (s.extract 0 3))) w) : Oper.wp Tryz.prog o a w K Q := by
  have h' : (3 : Int) ≤ (s.size : Int) := by omega
  obtain ⟨dst, op, type, pos, after, guard⟩ := o
  have ho' : op = _ := ho
  subst ho'
  clear ho
  go_simp
  exact hK
theorem t_sl4 (x : Nat) {s : ByteArray} (h : 4 ≤ s.size) (h2 : s.size ≤ 1000000) (ho : o.op = .slice 9 (.tmp x) (some (.const (.int .i64 4))) none none) (hx : a.tmps[x]?.getD undef = .string s) (hK : K (a.put o.dst (.string (s.extract 4 s.size))) w) : Oper.wp Tryz.prog o a w K Q := by
  have h' : (4 : Int) ≤ (s.size : Int) := by omega
  obtain ⟨dst, op, type, pos, after, guard⟩ := o
  have ho' : op = _ := ho
  subst ho'
  clear ho
  go_simp
  exact hK
theorem t_sl4m (x y : Nat) {s : ByteArray} {m : Nat} (h : 4 ≤ m) (hm : m ≤ s.size) (h2 : s.size ≤ 1000000) (ho : o.op = .slice 9 (.tmp x) (some (.const (.int .i64 4))) (some (.tmp y)) none) (hx : a.tmps[x]?.getD undef = .string s) (hy : a.tmps[y]?.getD undef = .int .i64 (m : Int)) (hK : K (a.put o.dst (.string (s.extract 4 m))) w) : Oper.wp Tryz.prog o a w K Q := by
  have h' : (4 : Int) ≤ (m : Int) := by omega
  have h'' : (m : Int) ≤ (s.size : Int) := by omega
  obtain ⟨dst, op, type, pos, after, guard⟩ := o
  have ho' : op = _ := ho
  subst ho'
  clear ho
  go_simp
  exact hK
end
theorem fine_take {T V S : Int} {L : List Ev} (h : Fine T V S L) (k : Nat) : Fine T V S (L.take k) := fun i e he => by
  have hi : i < (L.take k).length := (List.getElem?_eq_some_iff.1 he).1
  have hik : i < k := by rw [List.length_take] at hi; omega
  rw [List.getElem?_take_of_lt hik] at he
  rw [List.take_take, show min i k = i by omega]
  exact h i e he
theorem byM_part {q : Cd} (hq : CdOk q) {M N : List Ev} (h : okM q (M ++ N)) : N.length + (byM q M).length ≤ (byM q (M ++ N)).length ∧ (byM q (M ++ N)).length ≤ (byM q M).length + 12 * N.length := by
  induction M generalizing q with
  | nil =>
    have := byM_small hq (L := N) h
    simp only [List.nil_append, byM, List.length_nil]
    omega
  | cons e r ih =>
    have h2 := ih (know_ok hq h.1.1 ⟨h.1.2.y0, h.1.2.y1⟩) h.2
    show _ + (evB q e ++ byM (knowQ q e) r).length ≤ (evB q e ++ byM (knowQ q e) (r ++ N)).length ∧ _
    constructor
    · rw [List.length_append, List.length_append]; omega
    · show (evB q e ++ byM (knowQ q e) (r ++ N)).length ≤ (evB q e ++ byM (knowQ q e) r).length + _
      rw [List.length_append, List.length_append]; omega
theorem body_parts {T V S : Int} {L : List Ev} (hz : size13 T V S = true) (hn : L.length < 128) : ∃ h3 : List UInt8, h3.length = 3 ∧ ∃ b : List UInt8, b.length = 1 ∧ bodyB T V S L = h3 ++ (b ++ byM (newQ T V S) L) ∧ ∀ M : List Ev, M.length < 128 → ∃ b' : List UInt8, b'.length = 1 ∧ bodyB T V S M = h3 ++ (b' ++ byM (newQ T V S) M) := by
  obtain ⟨a1, a2, a3, a4, a5, a6⟩ := size_num hz
  have p1 := put1 (n := T) a1 (by omega)
  have p2 := put1 (n := V) (by omega) (by omega)
  have p3 := put1 (n := S) (by omega) (by omega)
  have hb : ∀ M : List Ev, M.length < 128 → ∃ b' : List UInt8, b'.length = 1 ∧ bodyB T V S M = (Vm.put T.toNat ++ (Vm.put V.toNat ++ Vm.put S.toNat)) ++ (b' ++ byM (newQ T V S) M) := fun M hM => by
    have p4 := put1 (n := (M.length : Int)) (by omega) (by omega)
    refine ⟨Vm.put (M.length : Int).toNat, p4, ?_⟩
    simp [bodyB, headB, putsL]
  obtain ⟨b, h1, h2⟩ := hb L hn
  exact ⟨_, by rw [List.length_append, List.length_append, p1, p2, p3], b, h1, h2, hb⟩
theorem begun {T V S : Int} {L : List Ev} (hz : size13 T V S = true) (hF : Fine T V S L) (hok : ∀ e ∈ L, EvOk e) (hn : L.length ≤ 120) (k : Nat) (hk : k ≤ L.length) :
    ∃ X Y, X = bs (bodyB T V S L) ∧ Y = bs (bodyB T V S (L.take k)) ∧ 4 ≤ Y.size ∧ Y.size + (L.length - k) ≤ X.size ∧ X.size ≤ Y.size + 12 * (L.length - k) ∧ X.size ≤ 5000 ∧ X.extract 0 3 = Y.extract 0 3 ∧ X.extract 4 Y.size = Y.extract 4 Y.size := by
  obtain ⟨h3, e3, b, eb, hX, hr⟩ := body_parts (L := L) hz (by omega)
  obtain ⟨c, ec, hY⟩ := hr (L.take k) (by rw [List.length_take]; omega)
  have hbl := body_len hz hF hok
  have hmain : ∃ r, byM (newQ T V S) L = byM (newQ T V S) (L.take k) ++ r ∧ (L.length - k) ≤ r.length ∧ r.length ≤ 12 * (L.length - k) := by
    by_cases hL : L = []
    · subst hL
      exact ⟨[], by simp [byM], by simp, by simp⟩
    · have hq := newQ_ok (size_fine hz hF hL)
      have ho := fineH_ok (init_inv S T) (relC_0 T V S) (fineH_0.2 hF) hok
      rw [← List.take_append_drop k L] at ho
      have hp := byM_part hq ho
      have ha := byM_app (newQ T V S) (L.take k) (L.drop k)
      rw [List.take_append_drop] at ha hp
      refine ⟨_, ha, ?_⟩
      rw [ha, List.length_append, List.length_drop] at hp
      omega
  obtain ⟨r, hr1, hr2, hr3⟩ := hmain
  refine ⟨_, _, rfl, rfl, ?_⟩
  have sX : (bs (bodyB T V S L)).size = 4 + (byM (newQ T V S) (L.take k)).length + r.length := by
    rw [bs_size, hX, hr1]; simp only [List.length_append]; omega
  have sY : (bs (bodyB T V S (L.take k))).size = 4 + (byM (newQ T V S) (L.take k)).length := by
    rw [bs_size, hY]; simp only [List.length_append]; omega
  have sB := bs_size (bodyB T V S L)
  refine ⟨by omega, by omega, by omega, by omega, ?_, ?_⟩
  · apply bytes_inj
    rw [bytes_extract, bytes_extract]
    show ((bodyB T V S L).take 3).drop 0 = ((bodyB T V S (L.take k)).take 3).drop 0
    rw [hX, hY, ← e3, List.take_left, List.take_left]
  · apply bytes_inj
    rw [bytes_extract, bytes_extract, sY]
    show ((bodyB T V S L).take _).drop 4 = ((bodyB T V S (L.take k)).take _).drop 4
    obtain ⟨m, hm⟩ : ∃ m, m = byM (newQ T V S) (L.take k) := ⟨_, rfl⟩
    rw [hX, hY, hr1, ← hm]
    have t1 : h3 ++ (b ++ (m ++ r)) = (h3 ++ b) ++ m ++ r := by simp
    have t2 : h3 ++ (c ++ m) = (h3 ++ c) ++ m := by simp
    have l1 : (h3 ++ b).length = 4 := by rw [List.length_append, e3, eb]
    have l2 : (h3 ++ c).length = 4 := by rw [List.length_append, e3, ec]
    have l3 : ((h3 ++ b) ++ m).length = 4 + m.length := by rw [List.length_append, l1]
    have l4 : ((h3 ++ c) ++ m).length = 4 + m.length := by rw [List.length_append, l2]
    rw [t1, t2, ← l3, List.take_left, l3, ← l4, List.take_length]
    rw [show (4 : Nat) = (h3 ++ b).length from l1.symm, List.drop_left, l1, ← l2, List.drop_left]
def spotB (y : Int) (n : Nat) : Nat := (IntKind.u64.wrap y).toNat % n
theorem spotB_is (y : Int) (n : Nat) (h2 : n ≤ 1000000) : wrap64 ((IntKind.u64.wrap y).tmod ((n : Int) + 1)) = (spotB y (n + 1) : Nat) ∧ spotB y (n + 1) < n + 1 := by
  have h0 : 0 ≤ IntKind.u64.wrap y := by
    simp [IntKind.wrap, IntKind.bits, IntKind.signed]
    omega
  have hl : spotB y (n + 1) < n + 1 := Nat.mod_lt _ (by omega)
  refine ⟨?_, hl⟩
  unfold spotB at hl ⊢
  obtain ⟨u, hu⟩ := Int.eq_ofNat_of_zero_le h0
  rw [hu] at hl ⊢
  rw [Int.tmod_eq_emod_of_nonneg (by omega)]
  simp only [Int.toNat_natCast] at hl ⊢
  rw [show (n : Int) + 1 = ((n + 1 : Nat) : Int) by omega, ← Int.natCast_emod, IntWalk.wrap64_in _ ⟨by omega, by omega⟩]
noncomputable def rgBg_ops : Array Oper := opsW Tryz.f8 12
def rgBg_D : List (Option Nat) := [some 66, some 67, some 68, some 69, some 70, some 71, some 72, some 73, some 74, some 75, some 76, some 77, some 78, some 79, some 80, some 81, some 82, some 83, some 84, some 85, some 86, some 87, some 88, some 89, some 90, some 91, some 92, some 93, some 94, some 95, some 96, some 97, some 98, some 99, some 100, some 101, some 102, some 103, some 104, some 105, some 106, some 107, some 108]
set_option maxRecDepth 100000 in
set_option maxHeartbeats 4000000 in
theorem rgBg {id : Nat} {ops : Array Oper} (hops : ops = rgBg_ops) (T0 : Array Value) (hsz : 109 ≤ T0.size) (W : World) (X Y : ByteArray) (g1 : 4 ≤ Y.size) (g2 : Y.size ≤ X.size) (g3 : X.size ≤ 5000) (g4 : X.extract 0 3 = Y.extract 0 3) (g5 : X.extract 4 Y.size = Y.extract 4 Y.size) (h10 : T0[10]? = some (.int .i64 0)) (h11 : T0[11]? = some (.string X)) (h13 : T0[13]? = some (.int .i64 0)) (h14 : T0[14]? = some (.string Y)) (h16 : T0[16]? = some (.int .i64 0)) {Q : Exit → Act → World → Prop}
    (hend : ∀ w : World, Below W.heap.size W w → Q .normal ⟨putAll T0 [66, 67, 68, 69, 70, 71, 72, 73, 74, 75, 76, 77, 78, 79, 80, 81, 82, 83, 84, 85, 86, 87, 88, 89, 90, 91, 92, 93, 94, 95, 96, 97, 98, 99, 100, 101, 102, 103, 104, 105, 106, 107, 108] [.int .i64 0, .bool false, .bool false, .int .i64 0, .bool false, .bool false, .bool false, .int .i64 0, .bool false, .bool false, .bool false, .string X, .int .i64 (X.size : Int), .bool false, .bool false, .bool false, .string Y, .int .i64 (Y.size : Int), .bool false, .bool false, .bool false, .string X, .string (X.extract 0 3), .string Y, .string (X.extract 0 3), .bool false, .bool false, .bool false, .string X, .int .i64 (X.size : Int), .string Y, .int .i64 (Y.size : Int), .bool false, .bool false, .bool false, .string X, .string Y, .int .i64 (Y.size : Int), .string (X.extract 4 Y.size), .string Y, .string (X.extract 4 Y.size), .bool false, .bool false], []⟩ w) : (Code.region id ops true).wp Tryz.prog Q ⟨T0, []⟩ W := by
  subst hops
  have hos : rgBg_ops.size = 43 := by kernel_rfl
  have hga : (List.range 43).all (fun i => match rgBg_ops[i]? with | some o => o.guard == ([none, none, none, some (2, false), some (2, false), none, none, some (6, false), some (6, false), none, none, some (10, false), some (10, false), some (10, false), none, none, some (15, false), some (15, false), some (15, false), none, none, some (20, false), some (20, false), some (20, false), some (20, false), some (20, false), none, none, some (27, false), some (27, false), some (27, false), some (27, false), some (27, false), none, none, some (34, false), some (34, false), some (34, false), some (34, false), some (34, false), some (34, false), some (34, false), none] : List (Option (Nat × Bool))).getD i none | none => false) = true := by kernel_rfl
  have hds : ((pairsS rgBg_D ([.int .i64 0, .bool false, .bool false, .int .i64 0, .bool false, .bool false, .bool false, .int .i64 0, .bool false, .bool false, .bool false, .string X, .int .i64 (X.size : Int), .bool false, .bool false, .bool false, .string Y, .int .i64 (Y.size : Int), .bool false, .bool false, .bool false, .string X, .string (X.extract 0 3), .string Y, .string (X.extract 0 3), .bool false, .bool false, .bool false, .string X, .int .i64 (X.size : Int), .string Y, .int .i64 (Y.size : Int), .bool false, .bool false, .bool false, .string X, .string Y, .int .i64 (Y.size : Int), .string (X.extract 4 Y.size), .string Y, .string (X.extract 4 Y.size), .bool false, .bool false] : List Value)).map (·.1)) = [66, 67, 68, 69, 70, 71, 72, 73, 74, 75, 76, 77, 78, 79, 80, 81, 82, 83, 84, 85, 86, 87, 88, 89, 90, 91, 92, 93, 94, 95, 96, 97, 98, 99, 100, 101, 102, 103, 104, 105, 106, 107, 108] := rfl
  refine wp_region_valsN ([.int .i64 0, .bool false, .bool false, .int .i64 0, .bool false, .bool false, .bool false, .int .i64 0, .bool false, .bool false, .bool false, .string X, .int .i64 (X.size : Int), .bool false, .bool false, .bool false, .string Y, .int .i64 (Y.size : Int), .bool false, .bool false, .bool false, .string X, .string (X.extract 0 3), .string Y, .string (X.extract 0 3), .bool false, .bool false, .bool false, .string X, .int .i64 (X.size : Int), .string Y, .int .i64 (Y.size : Int), .bool false, .bool false, .bool false, .string X, .string Y, .int .i64 (Y.size : Int), .string (X.extract 4 Y.size), .string Y, .string (X.extract 4 Y.size), .bool false, .bool false] : List Value) [true, true, true, true, true, true, true, true, true, true, true, true, true, true, true, true, true, true, true, true, true, true, true, true, true, true, true, true, true, true, true, true, true, true, true, true, true, true, true, true, true, true, true] rgBg_D (fun don w => Below W.heap.size W w) W T0 (by rw [hds]; decide) (fun x hx => ?_) (by kernel_rfl) (by kernel_rfl) (fun i o j want ho hg => ?_) (fun i hi hon => ?_) (fun i hi hon don w hM => ?_) ((Below.refl _ _).drew) ?_ ?_
  · rw [hds] at hx
    have hall : (([66, 67, 68, 69, 70, 71, 72, 73, 74, 75, 76, 77, 78, 79, 80, 81, 82, 83, 84, 85, 86, 87, 88, 89, 90, 91, 92, 93, 94, 95, 96, 97, 98, 99, 100, 101, 102, 103, 104, 105, 106, 107, 108] : List Nat).all fun d => decide (d < 109)) = true := by decide
    have := List.all_eq_true.1 hall x hx
    simp only [decide_eq_true_eq] at this
    omega
  · have hi : i < 43 := by rw [← hos]; exact (Array.getElem?_eq_some_iff.1 ho).1
    have h1 := List.all_eq_true.1 hga i (by simpa using hi)
    rw [ho] at h1
    simp only [hg, beq_iff_eq] at h1
    match i, hi with
    | 0, _ => cases h1
    | 1, _ => cases h1
    | 2, _ => cases h1
    | 3, _ => obtain ⟨rfl, rfl⟩ := Prod.mk.inj (Option.some.inj h1); exact .inl rfl
    | 4, _ => obtain ⟨rfl, rfl⟩ := Prod.mk.inj (Option.some.inj h1); exact .inl rfl
    | 5, _ => cases h1
    | 6, _ => cases h1
    | 7, _ => obtain ⟨rfl, rfl⟩ := Prod.mk.inj (Option.some.inj h1); exact .inl rfl
    | 8, _ => obtain ⟨rfl, rfl⟩ := Prod.mk.inj (Option.some.inj h1); exact .inl rfl
    | 9, _ => cases h1
    | 10, _ => cases h1
    | 11, _ => obtain ⟨rfl, rfl⟩ := Prod.mk.inj (Option.some.inj h1); exact .inl rfl
    | 12, _ => obtain ⟨rfl, rfl⟩ := Prod.mk.inj (Option.some.inj h1); exact .inl rfl
    | 13, _ => obtain ⟨rfl, rfl⟩ := Prod.mk.inj (Option.some.inj h1); exact .inl rfl
    | 14, _ => cases h1
    | 15, _ => cases h1
    | 16, _ => obtain ⟨rfl, rfl⟩ := Prod.mk.inj (Option.some.inj h1); exact .inl rfl
    | 17, _ => obtain ⟨rfl, rfl⟩ := Prod.mk.inj (Option.some.inj h1); exact .inl rfl
    | 18, _ => obtain ⟨rfl, rfl⟩ := Prod.mk.inj (Option.some.inj h1); exact .inl rfl
    | 19, _ => cases h1
    | 20, _ => cases h1
    | 21, _ => obtain ⟨rfl, rfl⟩ := Prod.mk.inj (Option.some.inj h1); exact .inl rfl
    | 22, _ => obtain ⟨rfl, rfl⟩ := Prod.mk.inj (Option.some.inj h1); exact .inl rfl
    | 23, _ => obtain ⟨rfl, rfl⟩ := Prod.mk.inj (Option.some.inj h1); exact .inl rfl
    | 24, _ => obtain ⟨rfl, rfl⟩ := Prod.mk.inj (Option.some.inj h1); exact .inl rfl
    | 25, _ => obtain ⟨rfl, rfl⟩ := Prod.mk.inj (Option.some.inj h1); exact .inl rfl
    | 26, _ => cases h1
    | 27, _ => cases h1
    | 28, _ => obtain ⟨rfl, rfl⟩ := Prod.mk.inj (Option.some.inj h1); exact .inl rfl
    | 29, _ => obtain ⟨rfl, rfl⟩ := Prod.mk.inj (Option.some.inj h1); exact .inl rfl
    | 30, _ => obtain ⟨rfl, rfl⟩ := Prod.mk.inj (Option.some.inj h1); exact .inl rfl
    | 31, _ => obtain ⟨rfl, rfl⟩ := Prod.mk.inj (Option.some.inj h1); exact .inl rfl
    | 32, _ => obtain ⟨rfl, rfl⟩ := Prod.mk.inj (Option.some.inj h1); exact .inl rfl
    | 33, _ => cases h1
    | 34, _ => cases h1
    | 35, _ => obtain ⟨rfl, rfl⟩ := Prod.mk.inj (Option.some.inj h1); exact .inl rfl
    | 36, _ => obtain ⟨rfl, rfl⟩ := Prod.mk.inj (Option.some.inj h1); exact .inl rfl
    | 37, _ => obtain ⟨rfl, rfl⟩ := Prod.mk.inj (Option.some.inj h1); exact .inl rfl
    | 38, _ => obtain ⟨rfl, rfl⟩ := Prod.mk.inj (Option.some.inj h1); exact .inl rfl
    | 39, _ => obtain ⟨rfl, rfl⟩ := Prod.mk.inj (Option.some.inj h1); exact .inl rfl
    | 40, _ => obtain ⟨rfl, rfl⟩ := Prod.mk.inj (Option.some.inj h1); exact .inl rfl
    | 41, _ => obtain ⟨rfl, rfl⟩ := Prod.mk.inj (Option.some.inj h1); exact .inl rfl
    | 42, _ => cases h1
    | i + 43, h => exact absurd (show i + 43 < 43 from h) (by omega)
  · match i, hi with
    | 0, _ => cases hon
    | 1, _ => cases hon
    | 2, _ => cases hon
    | 3, _ => cases hon
    | 4, _ => cases hon
    | 5, _ => cases hon
    | 6, _ => cases hon
    | 7, _ => cases hon
    | 8, _ => cases hon
    | 9, _ => cases hon
    | 10, _ => cases hon
    | 11, _ => cases hon
    | 12, _ => cases hon
    | 13, _ => cases hon
    | 14, _ => cases hon
    | 15, _ => cases hon
    | 16, _ => cases hon
    | 17, _ => cases hon
    | 18, _ => cases hon
    | 19, _ => cases hon
    | 20, _ => cases hon
    | 21, _ => cases hon
    | 22, _ => cases hon
    | 23, _ => cases hon
    | 24, _ => cases hon
    | 25, _ => cases hon
    | 26, _ => cases hon
    | 27, _ => cases hon
    | 28, _ => cases hon
    | 29, _ => cases hon
    | 30, _ => cases hon
    | 31, _ => cases hon
    | 32, _ => cases hon
    | 33, _ => cases hon
    | 34, _ => cases hon
    | 35, _ => cases hon
    | 36, _ => cases hon
    | 37, _ => cases hon
    | 38, _ => cases hon
    | 39, _ => cases hon
    | 40, _ => cases hon
    | 41, _ => cases hon
    | 42, _ => cases hon
    | i + 43, h => exact absurd (show i + 43 < 43 from h) (by omega)
  · match i, hi with
    | 0, _ => cases hon
    | 1, _ => cases hon
    | 2, _ => cases hon
    | 3, _ => cases hon
    | 4, _ => cases hon
    | 5, _ => cases hon
    | 6, _ => cases hon
    | 7, _ => cases hon
    | 8, _ => cases hon
    | 9, _ => cases hon
    | 10, _ => cases hon
    | 11, _ => cases hon
    | 12, _ => cases hon
    | 13, _ => cases hon
    | 14, _ => cases hon
    | 15, _ => cases hon
    | 16, _ => cases hon
    | 17, _ => cases hon
    | 18, _ => cases hon
    | 19, _ => cases hon
    | 20, _ => cases hon
    | 21, _ => cases hon
    | 22, _ => cases hon
    | 23, _ => cases hon
    | 24, _ => cases hon
    | 25, _ => cases hon
    | 26, _ => cases hon
    | 27, _ => cases hon
    | 28, _ => cases hon
    | 29, _ => cases hon
    | 30, _ => cases hon
    | 31, _ => cases hon
    | 32, _ => cases hon
    | 33, _ => cases hon
    | 34, _ => cases hon
    | 35, _ => cases hon
    | 36, _ => cases hon
    | 37, _ => cases hon
    | 38, _ => cases hon
    | 39, _ => cases hon
    | 40, _ => cases hon
    | 41, _ => cases hon
    | 42, _ => cases hon
    | i + 43, h => exact absurd (show i + 43 < 43 from h) (by omega)
  · intro i oo ho hi hon don a w hT hU hdi hM K hK
    rw [hds] at hT
    have hT0 : ∀ t v, t ∉ ([66, 67, 68, 69, 70, 71, 72, 73, 74, 75, 76, 77, 78, 79, 80, 81, 82, 83, 84, 85, 86, 87, 88, 89, 90, 91, 92, 93, 94, 95, 96, 97, 98, 99, 100, 101, 102, 103, 104, 105, 106, 107, 108] : List Nat) → T0[t]? = some v → a.tmps[t]?.getD undef = v := fun t v ht hv => by rw [hT t ht, hv]; rfl
    match i, hi with
    | 0, _ => exact v_move 10 (opAtW ho (by kernel_rfl)) (hT0 10 _ (by decide) h10) (hK w hM)
    | 1, _ =>
      exact b_neq0 66 (by simp) (opAtW ho (by kernel_rfl)) ((hU 0 (by kernel_rfl)).2 66 rfl) (hK w hM)
    | 2, _ => exact v_move 67 (opAtW ho (by kernel_rfl)) ((hU 1 (by kernel_rfl)).2 67 rfl) (hK w hM)
    | 3, _ => exact v_move 13 (opAtW ho (by kernel_rfl)) (hT0 13 _ (by decide) h13) (hK w hM)
    | 4, _ =>
      exact b_neq0 69 (by simp) (opAtW ho (by kernel_rfl)) ((hU 3 (by kernel_rfl)).2 69 rfl) (hK w hM)
    | 5, _ => exact v_orF 68 70 (opAtW ho (by kernel_rfl)) ((hU 2 (by kernel_rfl)).2 68 rfl) ((hU 4 (by kernel_rfl)).2 70 rfl) (hK w hM)
    | 6, _ => exact v_move 71 (opAtW ho (by kernel_rfl)) ((hU 5 (by kernel_rfl)).2 71 rfl) (hK w hM)
    | 7, _ => exact v_move 16 (opAtW ho (by kernel_rfl)) (hT0 16 _ (by decide) h16) (hK w hM)
    | 8, _ =>
      exact b_neq0 73 (by simp) (opAtW ho (by kernel_rfl)) ((hU 7 (by kernel_rfl)).2 73 rfl) (hK w hM)
    | 9, _ => exact v_orF 72 74 (opAtW ho (by kernel_rfl)) ((hU 6 (by kernel_rfl)).2 72 rfl) ((hU 8 (by kernel_rfl)).2 74 rfl) (hK w hM)
    | 10, _ => exact v_move 75 (opAtW ho (by kernel_rfl)) ((hU 9 (by kernel_rfl)).2 75 rfl) (hK w hM)
    | 11, _ => exact v_move 11 (opAtW ho (by kernel_rfl)) (hT0 11 _ (by decide) h11) (hK w hM)
    | 12, _ =>
      exact t_len 77 (opAtW ho (by kernel_rfl)) ((hU 11 (by kernel_rfl)).2 77 rfl) (hK w hM)
    | 13, _ =>
      exact t_lssc 78 (by omega) (opAtW ho (by kernel_rfl)) ((hU 12 (by kernel_rfl)).2 78 rfl) (hK w hM)
    | 14, _ => exact v_orF 76 79 (opAtW ho (by kernel_rfl)) ((hU 10 (by kernel_rfl)).2 76 rfl) ((hU 13 (by kernel_rfl)).2 79 rfl) (hK w hM)
    | 15, _ => exact v_move 80 (opAtW ho (by kernel_rfl)) ((hU 14 (by kernel_rfl)).2 80 rfl) (hK w hM)
    | 16, _ => exact v_move 14 (opAtW ho (by kernel_rfl)) (hT0 14 _ (by decide) h14) (hK w hM)
    | 17, _ =>
      exact t_len 82 (opAtW ho (by kernel_rfl)) ((hU 16 (by kernel_rfl)).2 82 rfl) (hK w hM)
    | 18, _ =>
      exact t_lssc 83 (by omega) (opAtW ho (by kernel_rfl)) ((hU 17 (by kernel_rfl)).2 83 rfl) (hK w hM)
    | 19, _ => exact v_orF 81 84 (opAtW ho (by kernel_rfl)) ((hU 15 (by kernel_rfl)).2 81 rfl) ((hU 18 (by kernel_rfl)).2 84 rfl) (hK w hM)
    | 20, _ => exact v_move 85 (opAtW ho (by kernel_rfl)) ((hU 19 (by kernel_rfl)).2 85 rfl) (hK w hM)
    | 21, _ => exact v_move 11 (opAtW ho (by kernel_rfl)) (hT0 11 _ (by decide) h11) (hK w hM)
    | 22, _ =>
      exact t_sl3 87 (by omega) (by omega) (opAtW ho (by kernel_rfl)) ((hU 21 (by kernel_rfl)).2 87 rfl) (hK w hM)
    | 23, _ => exact v_move 14 (opAtW ho (by kernel_rfl)) (hT0 14 _ (by decide) h14) (hK w hM)
    | 24, _ =>
      exact t_sl3 89 (by omega) (by omega) (opAtW ho (by kernel_rfl)) ((hU 23 (by kernel_rfl)).2 89 rfl) (by rw [← g4]; exact (hK w hM))
    | 25, _ =>
      exact t_neqs 88 90 (opAtW ho (by kernel_rfl)) ((hU 22 (by kernel_rfl)).2 88 rfl) ((hU 24 (by kernel_rfl)).2 90 rfl) (hK w hM)
    | 26, _ => exact v_orF 86 91 (opAtW ho (by kernel_rfl)) ((hU 20 (by kernel_rfl)).2 86 rfl) ((hU 25 (by kernel_rfl)).2 91 rfl) (hK w hM)
    | 27, _ => exact v_move 92 (opAtW ho (by kernel_rfl)) ((hU 26 (by kernel_rfl)).2 92 rfl) (hK w hM)
    | 28, _ => exact v_move 11 (opAtW ho (by kernel_rfl)) (hT0 11 _ (by decide) h11) (hK w hM)
    | 29, _ =>
      exact t_len 94 (opAtW ho (by kernel_rfl)) ((hU 28 (by kernel_rfl)).2 94 rfl) (hK w hM)
    | 30, _ => exact v_move 14 (opAtW ho (by kernel_rfl)) (hT0 14 _ (by decide) h14) (hK w hM)
    | 31, _ =>
      exact t_len 96 (opAtW ho (by kernel_rfl)) ((hU 30 (by kernel_rfl)).2 96 rfl) (hK w hM)
    | 32, _ =>
      exact t_lss 95 97 (by omega) (opAtW ho (by kernel_rfl)) ((hU 29 (by kernel_rfl)).2 95 rfl) ((hU 31 (by kernel_rfl)).2 97 rfl) (hK w hM)
    | 33, _ => exact v_orF 93 98 (opAtW ho (by kernel_rfl)) ((hU 27 (by kernel_rfl)).2 93 rfl) ((hU 32 (by kernel_rfl)).2 98 rfl) (hK w hM)
    | 34, _ => exact v_move 99 (opAtW ho (by kernel_rfl)) ((hU 33 (by kernel_rfl)).2 99 rfl) (hK w hM)
    | 35, _ => exact v_move 11 (opAtW ho (by kernel_rfl)) (hT0 11 _ (by decide) h11) (hK w hM)
    | 36, _ => exact v_move 14 (opAtW ho (by kernel_rfl)) (hT0 14 _ (by decide) h14) (hK w hM)
    | 37, _ =>
      exact t_len 102 (opAtW ho (by kernel_rfl)) ((hU 36 (by kernel_rfl)).2 102 rfl) (hK w hM)
    | 38, _ =>
      exact t_sl4m 101 103 (by omega) (by omega) (by omega) (opAtW ho (by kernel_rfl)) ((hU 35 (by kernel_rfl)).2 101 rfl) ((hU 37 (by kernel_rfl)).2 103 rfl) (hK w hM)
    | 39, _ => exact v_move 14 (opAtW ho (by kernel_rfl)) (hT0 14 _ (by decide) h14) (hK w hM)
    | 40, _ =>
      exact t_sl4 105 (by omega) (by omega) (opAtW ho (by kernel_rfl)) ((hU 39 (by kernel_rfl)).2 105 rfl) (by rw [← g5]; exact (hK w hM))
    | 41, _ =>
      exact t_neqs 104 106 (opAtW ho (by kernel_rfl)) ((hU 38 (by kernel_rfl)).2 104 rfl) ((hU 40 (by kernel_rfl)).2 106 rfl) (hK w hM)
    | 42, _ => exact v_orF 100 107 (opAtW ho (by kernel_rfl)) ((hU 34 (by kernel_rfl)).2 100 rfl) ((hU 41 (by kernel_rfl)).2 107 rfl) (hK w hM)
    | i + 43, h => exact absurd (show i + 43 < 43 from h) (by omega)
  · intro w hM
    exact hend w (hM)
theorem bg_long (T V S : Int) (A : Option Addr) (L : List Ev) (c : Nat) (y : Int) (hl0 : L.length ≤ 9223372036854775807) (h : 120 < L.length) (w : World) (hek : Ek w) : Calls Tryz.prog 8 #[trV T V S A L.length c, .int .i64 y] w fun r w' => r = .returned (.bool true) ∧ Below w.heap.size w w' := by
  have HW := Lib.hid (fun W (h : Ek W) => works_any W h)
  have HEK := Lib.hid hek
  obtain ⟨n, hn⟩ : ∃ n, n = L.length := ⟨_, rfl⟩
  rw [← hn] at hl0 h ⊢
  unfold trV
  obtain ⟨w1, hw1⟩ : ∃ W, w.alloc (.cells #[.int .i64 T, .int .i64 V, .int .i64 S, .slice A n c] 25) = W := ⟨_, rfl⟩
  have b1 : Below w.heap.size w w1 := by rw [← hw1]; exact (Below.refl _ _).alloc (Nat.le_refl _) _
  have R1 : Hid (w1.heap[w.heap.size]? = some (.cells #[.int .i64 T, .int .i64 V, .int .i64 S, .slice A n c] 25 (0, 0))) := by rw [← hw1]; exact heap_alloc_new w _
  have B1 := Lib.hid b1
  have HW1 := Lib.hid hw1
  clear hek hw1 b1 hn
  have q1 : (120 : Int) < (n : Int) := by omega
  go_enter Tryz.func8, Tryz.ntmps8
  go_wp2_with fail
  rw [HW1.out]
  refine (HW.out w1 (HEK.out.below B1.out)).mono ?_
  rintro _ w2 ⟨rfl, b2⟩
  have B2 := Lib.hid (B1.out.trans (b2.mono B1.out.size))
  have R2 := Lib.hid (row_stays R1.out b2)
  have x0 := cell_of_row w2 w.heap.size 0 _ _ _ R2.out
  have x1 := cell_of_row w2 w.heap.size 1 _ _ _ R2.out
  have x2 := cell_of_row w2 w.heap.size 2 _ _ _ R2.out
  have x3 := cell_of_row w2 w.heap.size 3 _ _ _ R2.out
  simp only [List.getElem?_toArray, List.getElem?_cons_zero, List.getElem?_cons_succ] at x0 x1 x2 x3
  clear b2
  go_wp2_with fail
  refine (HW.out w2 (HEK.out.below B2.out)).mono ?_
  rintro _ w3 ⟨rfl, b3⟩
  clear x0 x1 x2 x3
  go_wp2_with fail
  go_ret
  exact ⟨rfl, B2.out.trans (b3.mono B2.out.size)⟩
theorem bg_none (T V S : Int) (A : Option Addr) (L : List Ev) (c : Nat) (y : Int) (hT : i64P T) (hV : i64P V) (hS : i64P S) (hl0 : L.length ≤ 120) (hck : (checkF T V S L).2 ≠ 0) (w : World) (hek : Ek w) (he : EvsAt w w.heap.size A L) : Calls Tryz.prog 8 #[trV T V S A L.length c, .int .i64 y] w fun r w' => r = .returned (.bool true) ∧ Below w.heap.size w w' := by
  obtain ⟨e, hee⟩ : ∃ e, e = (checkF T V S L).2 := ⟨_, rfl⟩
  obtain ⟨E, hE⟩ : ∃ E, E = encW T V S L := ⟨_, rfl⟩
  have HN : Hid (∀ W, Ek W → EvsAt W W.heap.size A L → Calls Tryz.prog 12 #[.agg #[.int .i64 T, .int .i64 V, .int .i64 S, .slice A L.length c]] W fun r w' => r = .returned (.tuple #[.string E, .int .i64 e]) ∧ Below W.heap.size W w') := fun W hW h => by
    rw [hE, hee]
    exact encode_any W hW T V S A L c hT hV hS (by omega) h
  rw [← hee] at hck
  have q2 : (e != 0) = true := bne_iff_ne.2 hck
  have HE := Lib.hid he
  clear hee hE hT hV hS he
  have HW := Lib.hid (fun W (h : Ek W) => works_any W h)
  have HEK := Lib.hid hek
  obtain ⟨n, hn⟩ : ∃ n, n = L.length := ⟨_, rfl⟩
  rw [← hn] at hl0 HN ⊢
  unfold trV
  obtain ⟨w1, hw1⟩ : ∃ W, w.alloc (.cells #[.int .i64 T, .int .i64 V, .int .i64 S, .slice A n c] 25) = W := ⟨_, rfl⟩
  have b1 : Below w.heap.size w w1 := by rw [← hw1]; exact (Below.refl _ _).alloc (Nat.le_refl _) _
  have R1 : Hid (w1.heap[w.heap.size]? = some (.cells #[.int .i64 T, .int .i64 V, .int .i64 S, .slice A n c] 25 (0, 0))) := by rw [← hw1]; exact heap_alloc_new w _
  have B1 := Lib.hid b1
  have HW1 := Lib.hid hw1
  clear hek hw1 b1 hn
  have q1 : ¬ (120 : Int) < (n : Int) := by omega
  go_enter Tryz.func8, Tryz.ntmps8
  go_wp2_with fail
  rw [HW1.out]
  refine (HW.out w1 (HEK.out.below B1.out)).mono ?_
  rintro _ w2 ⟨rfl, b2⟩
  have B2 := Lib.hid (B1.out.trans (b2.mono B1.out.size))
  have R2 := Lib.hid (row_stays R1.out b2)
  have x0 := cell_of_row w2 w.heap.size 0 _ _ _ R2.out
  have x1 := cell_of_row w2 w.heap.size 1 _ _ _ R2.out
  have x2 := cell_of_row w2 w.heap.size 2 _ _ _ R2.out
  have x3 := cell_of_row w2 w.heap.size 3 _ _ _ R2.out
  simp only [List.getElem?_toArray, List.getElem?_cons_zero, List.getElem?_cons_succ] at x0 x1 x2 x3
  clear b2
  go_wp2_with fail
  refine (HN.out w2 (HEK.out.below B2.out) ((HE.out.below B2.out (Nat.le_refl _)).mono B2.out.size)).mono ?_
  rintro _ w3 ⟨rfl, b3⟩
  clear x0 x1 x2 x3
  go_wp2_with fail
  go_ret
  exact ⟨rfl, B2.out.trans (b3.mono B2.out.size)⟩
set_option maxHeartbeats 4000000 in
theorem bg_main (T V S : Int) (A : Option Addr) (L : List Ev) (c : Nat) (y : Int) (hT : i64P T) (hV : i64P V) (hS : i64P S) (hl0 : L.length ≤ 120) (hlc : L.length ≤ c) (hc0 : A = none → c = 0) (hck : (checkF T V S L).2 = 0) (w : World) (hek : Ek w) (he : EvsAt w w.heap.size A L) : Calls Tryz.prog 8 #[trV T V S A L.length c, .int .i64 y] w fun r w' => r = .returned (.bool true) ∧ Below w.heap.size w w' := by
  obtain ⟨E, hE⟩ : ∃ E, E = encW T V S L := ⟨_, rfl⟩
  have HN : Hid (∀ W, Ek W → EvsAt W W.heap.size A L → Calls Tryz.prog 12 #[.agg #[.int .i64 T, .int .i64 V, .int .i64 S, .slice A L.length c]] W fun r w' => r = .returned (.tuple #[.string E, .int .i64 0]) ∧ Below W.heap.size W w') := fun W hW h => by
    have h := encode_any W hW T V S A L c hT hV hS (by omega) h
    rw [hck, ← hE] at h
    exact h
  obtain ⟨hsp, hlt⟩ := spotB_is y L.length (by omega)
  obtain ⟨k, hk⟩ : ∃ k, k = spotB y (L.length + 1) := ⟨_, rfl⟩
  rw [← hk] at hsp hlt
  obtain ⟨hz, hle, hF⟩ := fine_iff.1 (check_zero hck)
  have hok := evs_mem he
  obtain ⟨X, Y, eX, eY, g1, g2, g3, g3b, g4, g5⟩ := begun hz hF hok hl0 k (by omega)
  have hckk : (checkF T V S (L.take k)).2 = 0 := by
    rw [fine_iff.2 ⟨hz, by rw [List.length_take]; omega, fine_take hF k⟩]
  have hokk : ∀ e ∈ L.take k, EvOk e := fun e h => hok e (List.mem_of_mem_take h)
  have hlk : (L.take k).length = k := by rw [List.length_take]; omega
  obtain ⟨G, hG⟩ : ∃ E, E = encW T V S (L.take k) := ⟨_, rfl⟩
  have HN2 : Hid (∀ c W, Ek W → EvsAt W W.heap.size A L → Calls Tryz.prog 12 #[.agg #[.int .i64 T, .int .i64 V, .int .i64 S, .slice A k c]] W fun r w' => r = .returned (.tuple #[.string G, .int .i64 0]) ∧ Below W.heap.size W w') := fun c W hW h => by
    have h := encode_any W hW T V S A (L.take k) c hT hV hS (by omega) (fun i hi => by
      obtain ⟨a, h1, h2, h3⟩ := h i (by omega)
      refine ⟨a, h1, h2, ?_⟩
      have e : nthE (L.take k) i = nthE L i := by
        unfold nthE
        rw [List.getD_eq_getElem?_getD, List.getD_eq_getElem?_getD, List.getElem?_take_of_lt (by omega)]
      rw [e]
      exact h3)
    rw [hckk, ← hG, hlk] at h
    exact h
  have HX : Hid (UnwIs E X 0 0) := by rw [hE, eX]; exact (enc_is hck hok (by omega)).2.1
  have HY : Hid (UnwIs G Y 0 0) := by rw [hG, eY]; exact (enc_is hckk hokk (by omega)).2.1
  have HE := Lib.hid he
  clear hE hG hk hz hle hF hok eX eY hckk hokk hlk hT hV hS he hck
  have HW := Lib.hid (fun W (h : Ek W) => works_any W h)
  have HEK := Lib.hid hek
  obtain ⟨n, hn⟩ : ∃ n, n = L.length := ⟨_, rfl⟩
  rw [← hn] at hl0 hlc HN hsp hlt g2 g3 ⊢
  unfold trV
  obtain ⟨w1, hw1⟩ : ∃ W, w.alloc (.cells #[.int .i64 T, .int .i64 V, .int .i64 S, .slice A n c] 25) = W := ⟨_, rfl⟩
  have b1 : Below w.heap.size w w1 := by rw [← hw1]; exact (Below.refl _ _).alloc (Nat.le_refl _) _
  have R1 : Hid (w1.heap[w.heap.size]? = some (.cells #[.int .i64 T, .int .i64 V, .int .i64 S, .slice A n c] 25 (0, 0))) := by rw [← hw1]; exact heap_alloc_new w _
  have B1 := Lib.hid b1
  have HW1 := Lib.hid hw1
  clear hek hw1 b1 hn
  have q1 : ¬ (120 : Int) < (n : Int) := by omega
  go_enter Tryz.func8, Tryz.ntmps8
  go_wp2_with fail
  rw [HW1.out]
  refine (HW.out w1 (HEK.out.below B1.out)).mono ?_
  rintro _ w2 ⟨rfl, b2⟩
  have B2 := Lib.hid (B1.out.trans (b2.mono B1.out.size))
  have R2 := Lib.hid (row_stays R1.out b2)
  have x0 := cell_of_row w2 w.heap.size 0 _ _ _ R2.out
  have x1 := cell_of_row w2 w.heap.size 1 _ _ _ R2.out
  have x2 := cell_of_row w2 w.heap.size 2 _ _ _ R2.out
  have x3 := cell_of_row w2 w.heap.size 3 _ _ _ R2.out
  simp only [List.getElem?_toArray, List.getElem?_cons_zero, List.getElem?_cons_succ] at x0 x1 x2 x3
  clear b2
  go_wp2_with fail
  refine (HN.out w2 (HEK.out.below B2.out) ((HE.out.below B2.out (Nat.le_refl _)).mono B2.out.size)).mono ?_
  rintro _ w3 ⟨rfl, b3⟩
  have B3 := Lib.hid (B2.out.trans (b3.mono B2.out.size))
  have R3 := Lib.hid (row_stays R2.out b3)
  clear x0 x1 x2 x3 b3 B2 R2
  have HSP := Lib.hid hsp
  clear hsp
  have x0 := cell_of_row w3 w.heap.size 0 _ _ _ R3.out
  have x1 := cell_of_row w3 w.heap.size 1 _ _ _ R3.out
  have x2 := cell_of_row w3 w.heap.size 2 _ _ _ R3.out
  have x3 := cell_of_row w3 w.heap.size 3 _ _ _ R3.out
  simp only [List.getElem?_toArray, List.getElem?_cons_zero, List.getElem?_cons_succ] at x0 x1 x2 x3
  have y3 : (w3.alloc (.cells #[.int .i64 T, .int .i64 V, .int .i64 S, .slice A n c] 25)).cell? ⟨w.heap.size, 3, none⟩ = some (.slice A n c) := by
    have h := cell_of_row _ w.heap.size 3 _ _ _ (row_stays R3.out ((Below.refl _ _).alloc (Nat.le_refl _) (.cells #[.int .i64 T, .int .i64 V, .int .i64 S, .slice A n c] 25)))
    simpa using h
  have k0 : (k : Int) ≤ (c : Int) := by omega
  have k1 : (0 : Int) ≤ (k : Int) := by omega
  have k2 : k ≤ c := by omega
  go_wp2_with (first
    | (rw [HSP.out]; refine wpList_load_row rfl _ _ rfl w.heap.size rfl 25 #[.int .i64 T, .int .i64 V, .int .i64 S, .slice A n c] (0, 0) _ R3.out Tryz.underlying25 rfl (by kernel_rfl) ?_)
    | fail)
  obtain ⟨w4, hw4⟩ : ∃ W, w3.alloc (.cells #[.int .i64 T, .int .i64 V, .int .i64 S, .slice A k c] 25) = W := ⟨_, rfl⟩
  rw [hw4]
  have b4 : Below w3.heap.size w3 w4 := by rw [← hw4]; exact (Below.refl _ _).alloc (Nat.le_refl _) _
  have B4 := Lib.hid (B3.out.trans (b4.mono B3.out.size))
  have R4 := Lib.hid (row_stays R3.out b4)
  clear hw4 b4 x0 x1 x2 x3 y3 HSP
  refine (HN2.out c w4 (HEK.out.below B4.out) ((HE.out.below B4.out (Nat.le_refl _)).mono B4.out.size)).mono ?_
  rintro _ w5 ⟨rfl, b5⟩
  have B5 := Lib.hid (B4.out.trans (b5.mono B4.out.size))
  have R5 := Lib.hid (row_stays R4.out b5)
  clear b5 B4 R4
  go_wp2_with fail
  refine (HX.out w5).mono ?_
  rintro _ w6 ⟨rfl, b6⟩
  have B6 := Lib.hid (B5.out.trans (b6.mono B5.out.size))
  have R6 := Lib.hid (row_stays R5.out b6)
  clear b6 B5 R5
  go_wp2_with fail
  refine (HY.out w6).mono ?_
  rintro _ w7 ⟨rfl, b7⟩
  have B7 := Lib.hid (B6.out.trans (b7.mono B6.out.size))
  have R7 := Lib.hid (row_stays R6.out b7)
  clear b7 B6 R6
  go_wp2_with fail
  refine rgBg rfl _ (by simp) w7 X Y g1 (by omega) (by omega) g4 g5 rfl rfl rfl rfl rfl ?_
  intro w8 b8
  simp only [putAll, List.setIfInBounds_toArray, List.set_cons_succ, List.set_cons_zero]
  have B8 := Lib.hid (B7.out.trans (b8.mono B7.out.size))
  have x3 := cell_of_row w8 w.heap.size 3 _ _ _ (row_stays R7.out b8)
  simp only [List.getElem?_toArray, List.getElem?_cons_zero, List.getElem?_cons_succ] at x3
  have i1 : (Y.size : Int) + ((n : Int) - (k : Int)) ≤ (X.size : Int) := by omega
  have i2 : (X.size : Int) ≤ (Y.size : Int) + 12 * ((n : Int) - (k : Int)) := by omega
  clear b8
  go_wp2_with fail
  go_ret
  exact ⟨rfl, B8.out⟩
theorem begun_walk (w : World) (hek : Ek w) (T V S : Int) (A : Option Addr) (L : List Ev) (c : Nat) (y : Int) (hT : i64P T) (hV : i64P V) (hS : i64P S) (hl0 : L.length ≤ 9223372036854775807) (hlc : L.length ≤ c) (hc0 : A = none → c = 0) (he : EvsAt w w.heap.size A L) : Calls Tryz.prog 8 #[trV T V S A L.length c, .int .i64 y] w fun r w' => r = .returned (.bool true) ∧ Below w.heap.size w w' := by
  by_cases h : 120 < L.length
  · exact bg_long T V S A L c y hl0 h w hek
  · by_cases hck : (checkF T V S L).2 = 0
    · exact bg_main T V S A L c y hT hV hS (by omega) hlc hc0 hck w hek he
    · exact bg_none T V S A L c y hT hV hS (by omega) hck w hek he
end Go.Proofs.YteigglhhnemngaaGreatDoor
