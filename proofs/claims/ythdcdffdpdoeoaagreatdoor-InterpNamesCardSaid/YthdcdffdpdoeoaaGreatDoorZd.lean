/-
  SEVERAL TEXTS IN ONE (a claim has sixty files at most): Dc, Dv, Jm: the head of each stands ahead of it. No condition but theirs.
-/
import Derived.Test.YthdcdffdpdoeoaaGreatDoorDy
import Derived.Test.YthdcdffdpdoeoaaGreatDoorZh
import Derived.BigQuiet
import Derived.Deep.QuietTactic
import Derived.StillTailTactics
/-
  CONTRACTS OF PACKAGE expr's nth, value, Eval: what a tree in memory comes to; the memory that was there stays as it was. Conditions: as they stand.
-/
namespace Go.Proofs.YthdcdffdpdoeoaaGreatDoor
set_option maxRecDepth 100000
open Go.RowKit
set_option linter.unusedVariables false
theorem op_call (op : Nat) (h4 : 4 ≤ op) (h8 : op ≤ 8) : ∃ k, (k = 94 ∨ k = 95 ∨ k = 96 ∨ k = 97 ∨ k = 99) ∧ opFn op = .func (.func k) #[] #[] ∧ ∀ x y w, Calls Tryz.prog k #[.int .i64 x, .int .i64 y] w fun r w' => r = .returned (.int .i64 (opV op x y)) ∧ w = w' := by
  obtain h | h | h | h | h : op = 4 ∨ op = 5 ∨ op = 6 ∨ op = 7 ∨ op = 8 := by omega
  · subst h; exact ⟨_, .inl rfl, rfl, oper_add⟩
  · subst h; exact ⟨_, .inr (.inl rfl), rfl, oper_sub⟩
  · subst h; exact ⟨_, .inr (.inr (.inl rfl)), rfl, oper_mul⟩
  · subst h; exact ⟨_, .inr (.inr (.inr (.inl rfl))), rfl, oper_less⟩
  · subst h; exact ⟨_, .inr (.inr (.inr (.inr rfl))), rfl, oper_equal⟩
/-- The number at a place, if there is one. -/
def nthV (xs : List Int) (n : Int) : Int × Nat := if (xs.length : Int) ≤ n then (0, 5) else (xs.getD n.toNat 0, 0)
set_option maxRecDepth 100000 in
theorem nth_any (n : Int) (h0 : 0 ≤ n) (h1 : n < 9223372036854775808) (X : Option Addr) (cx hx : Nat) (xs : List Int) (w : World) (hi : Ints w hx X xs) :
    Calls Tryz.prog 82 #[.slice X xs.length cx, .int .i64 n] w fun r w' => r = .returned (comeV (nthV xs n)) ∧ w = w' := by
  obtain ⟨k, rfl⟩ := Int.eq_ofNat_of_zero_le h0
  have hlen := hi.len
  by_cases hl : xs.length ≤ k
  · have HV : Hid (nthV xs k = (0, 5)) := by show nthV _ _ = _; rw [nthV, if_pos (by omega)]
    clear hi
    go_enter Tryz.func82, Tryz.ntmps82
    go_wp2_with fail
    go_ret2
    exact ⟨ret_come (by rw [HV.out]) (by rw [HV.out]; rfl), rfl⟩
  · obtain ⟨a, rfl, b1, hc⟩ := hi.cell k (by omega)
    obtain ⟨u, hu⟩ : ∃ u, u = xs[k] := ⟨_, rfl⟩
    rw [← hu] at hc
    have HV : Hid (nthV xs k = (u, 0)) := by
      show nthV _ _ = _
      rw [nthV, if_neg (by omega), hu, List.getD_eq_getElem?_getD, Int.toNat_natCast, List.getElem?_eq_getElem (by omega)]; rfl
    clear hi hu
    go_enter Tryz.func82, Tryz.ntmps82
    go_wp2_with fail
    go_ret2
    exact ⟨ret_come (by rw [HV.out]) (by rw [HV.out]; rfl), rfl⟩

set_option maxRecDepth 100000 in
theorem value_leaf2 (m : Nat) (op : Nat) (ho : op = 2) (n : Int) (args : List Ex) (A X Y : Option Addr) (c cx cy hx : Nat) (xs ys : List Int) (w : World) (hw : wholeF (m + 1) (.node op n args) = true) (hn : n < 9223372036854775808) (hi : Ints w hx X xs) (hhx : hx ≤ w.heap.size) :
    Calls Tryz.prog 66 #[.agg #[.int .u8 op, .int .i64 n, .slice A args.length c], .slice X xs.length cx, .slice Y ys.length cy] w fun r w' => r = .returned (comeV (comeF (m + 1) (.node op n args) xs ys)) ∧ Below w.heap.size w w' := by
  have hn0 := whole_at (by omega) hw
  have HB0 := Lib.hid (boxed_below w (.int .u8 op) (.int .i64 n) (.slice A args.length c))
  have HV : Hid (comeF (m + 1) (.node op n args) xs ys = nthV xs n) := by show comeF _ _ _ _ = _; rw [comeF, if_neg (by omega), if_pos ho]; rfl
  have e1 : ((op : Int) == 1) = false := beq_eq_false_iff_ne.2 (by omega)
  have e2 : ((op : Int) == 2) = true := beq_iff_eq.2 (by omega)
  have HC := Lib.hid (nth_any n hn0 hn X cx hx xs _ (hi.below HB0.out hhx))
  obtain ⟨⟨p, q⟩, hp⟩ : ∃ p, p = nthV xs n := ⟨_, rfl⟩
  rw [← hp] at HV HC
  clear ho hw hn0 hi hp
  unfold comeV at HC
  go_enter Tryz.func66, Tryz.ntmps66
  go_wp2_with fail
  refine HC.out.mono ?_
  rintro r w5 ⟨rfl, rfl⟩
  go_wp2_with fail
  go_ret2
  exact ⟨ret_come (by rw [HV.out]) (by rw [HV.out]), HB0.out⟩

set_option maxRecDepth 100000 in
theorem value_leaf3 (m : Nat) (op : Nat) (ho : op = 3) (n : Int) (args : List Ex) (A X Y : Option Addr) (c cx cy hx : Nat) (xs ys : List Int) (w : World) (hw : wholeF (m + 1) (.node op n args) = true) (hn : n < 9223372036854775808) (hi : Ints w hx Y ys) (hhx : hx ≤ w.heap.size) :
    Calls Tryz.prog 66 #[.agg #[.int .u8 op, .int .i64 n, .slice A args.length c], .slice X xs.length cx, .slice Y ys.length cy] w fun r w' => r = .returned (comeV (comeF (m + 1) (.node op n args) xs ys)) ∧ Below w.heap.size w w' := by
  have hn0 := whole_at (by omega) hw
  have HB0 := Lib.hid (boxed_below w (.int .u8 op) (.int .i64 n) (.slice A args.length c))
  have HV : Hid (comeF (m + 1) (.node op n args) xs ys = nthV ys n) := by show comeF _ _ _ _ = _; rw [comeF, if_neg (by omega), if_neg (by omega), if_pos ho]; rfl
  have e1 : ((op : Int) == 1) = false := beq_eq_false_iff_ne.2 (by omega)
  have e2 : ((op : Int) == 2) = false := beq_eq_false_iff_ne.2 (by omega)
  have e3 : ((op : Int) == 3) = true := beq_iff_eq.2 (by omega)
  have HC := Lib.hid (nth_any n hn0 hn Y cy hx ys _ (hi.below HB0.out hhx))
  obtain ⟨⟨p, q⟩, hp⟩ : ∃ p, p = nthV ys n := ⟨_, rfl⟩
  rw [← hp] at HV HC
  clear ho hw hn0 hi hp
  unfold comeV at HC
  go_enter Tryz.func66, Tryz.ntmps66
  go_wp2_with fail
  refine HC.out.mono ?_
  rintro r w5 ⟨rfl, rfl⟩
  go_wp2_with fail
  go_ret2
  exact ⟨ret_come (by rw [HV.out]) (by rw [HV.out]), HB0.out⟩

set_option maxRecDepth 100000 in
set_option maxHeartbeats 1000000 in
theorem value_op (m : Nat) (op : Nat) (h4 : 4 ≤ op) (h8 : op ≤ 8) (d : Nat) (x1 x2 : Ex) (A X Y : Option Addr) (c cx cy lo hi hx hy : Nat) (xs ys : List Int) (w : World) (hk : Kids w lo hi d A [x1, x2]) (hhi : hi ≤ w.heap.size)
    (hxs : Ints w hx X xs) (hhx : hx ≤ w.heap.size) (hys : Ints w hy Y ys) (hhy : hy ≤ w.heap.size) (hw1 : wholeF m x1 = true) (hw2 : wholeF m x2 = true)
    (ih : ∀ (d : Nat) (e : Ex) (v : Value) (lo hi : Nat) (w : World), At w lo hi d v e → hi ≤ w.heap.size → wholeF m e = true → Ints w hx X xs → hx ≤ w.heap.size → Ints w hy Y ys → hy ≤ w.heap.size → Calls Tryz.prog 66 #[v, .slice X xs.length cx, .slice Y ys.length cy] w fun r w' => r = .returned (comeV (comeF m e xs ys)) ∧ Below w.heap.size w w') :
    Calls Tryz.prog 66 #[.agg #[.int .u8 op, .int .i64 0, .slice A 2 c], .slice X xs.length cx, .slice Y ys.length cy] w fun r w' => r = .returned (comeV (comeF (m + 1) (.node op 0 [x1, x2]) xs ys)) ∧ Below w.heap.size w w' := by
  have b0 := boxed_below w (.int .u8 op) (.int .i64 0) (.slice A 2 c)
  have z0 : w.heap.size < (w.alloc (.cells #[.int .u8 op, .int .i64 0, .slice A 2 c] 40)).heap.size := by simp
  have hbx := Boxed.new w (.int .u8 op) (.int .i64 0) (.slice A 2 c)
  obtain ⟨a, x, y, z, x', y', z', rfl, m1, m2, t1, t2, hA, hA'⟩ := (hk.below b0 hhi).two
  have hv : comeF (m + 1) (.node op 0 [x1, x2]) xs ys = come2 op (fun e => comeF m e xs ys) [x1, x2] := by rw [comeF, if_neg (by omega), if_neg (by omega), if_neg (by omega)]
  have e1 : ((op : Int) == 1) = false := beq_eq_false_iff_ne.2 (by omega)
  have e2 : ((op : Int) == 2) = false := beq_eq_false_iff_ne.2 (by omega)
  have e3 : ((op : Int) == 3) = false := beq_eq_false_iff_ne.2 (by omega)
  obtain ⟨kf, hkk, hkf, hcall⟩ := op_call op h4 h8
  have HKK := Lib.hid hkk
  have HOP : Hid (∀ w, Calls Tryz.prog 83 #[.int .u8 op] w fun r w' => r = .returned (.func (.func kf) #[] #[]) ∧ Below w.heap.size w w') := fun w => by
    have := oper_any op w (by omega)
    rw [hkf] at this
    exact this
  have HCALL := Lib.hid hcall
  clear hkf hcall hkk
  have hxs2 := hxs.below b0 hhx
  have hys2 := hys.below b0 hhy
  clear hk hxs hys h4 h8
  go_enter Tryz.func66, Tryz.ntmps66
  go_upto_region 8 with fail
  obtain ⟨W, hW⟩ : ∃ W, W = w.alloc (.cells #[.int .u8 op, .int .i64 0, .slice (some a) 2 c] 40) := ⟨_, rfl⟩
  rw [← hW] at b0 z0 hbx t1 t2 hA hA' hxs2 hys2 ⊢
  clear hW
  have HI1 := Lib.hid (ih d x1 _ _ _ W hA (by omega) hw1 hxs2 (by omega) hys2 (by omega))
  have HI2 : Hid (∀ W', Below W.heap.size W W' → Calls Tryz.prog 66 #[.agg #[x', y', z'], .slice X xs.length cx, .slice Y ys.length cy] W' fun r w' => r = .returned (comeV (comeF m x2 xs ys)) ∧ Below W'.heap.size W' w') :=
    fun W' h' => ih d x2 _ _ _ W' (hA'.below h' (by omega)) (by have := h'.size; omega) hw2 (hxs2.below h' (by omega)) (by have := h'.size; omega) (hys2.below h' (by omega)) (by have := h'.size; omega)
  have HBX := Lib.hid hbx
  have HT2 := Lib.hid t2
  have f2 := hbx.c2
  have ha := t1.c0
  have hb := t1.c1
  have hc := t1.c2
  clear hbx t1 t2 hA hA' hxs2 hys2 ih hw1 hw2
  obtain ⟨⟨v1, r1⟩, hp1⟩ : ∃ p, p = comeF m x1 xs ys := ⟨_, rfl⟩
  obtain ⟨⟨v2, r2⟩, hp2⟩ : ∃ p, p = comeF m x2 xs ys := ⟨_, rfl⟩
  rw [come2, ← hp1, ← hp2] at hv
  rw [← hp1] at HI1
  rw [← hp2] at HI2
  clear hp1 hp2
  unfold comeV at HI1 HI2
  by_cases h1 : r1 = 0
  · have j1 : ((r1 : Int) != 0) = false := by simp; omega
    rw [if_neg (by simpa using h1)] at hv
    have b5z : True := trivial
    go_wp2_with fail
    refine HI1.out.mono ?_
    rintro r w5 ⟨rfl, b5⟩
    have hbx5 := HBX.out.below b5 z0
    have f0' := hbx5.c0
    have f2' := hbx5.c2
    have t5 := HT2.out.below b5 (by omega)
    have ha' : w5.cell? ⟨a.block, a.off + 3, none⟩ = some x' := t5.c0
    have hb' : w5.cell? ⟨a.block, a.off + 3 + 1, none⟩ = some y' := t5.c1
    have hc' : w5.cell? ⟨a.block, a.off + 3 + 2, none⟩ = some z' := t5.c2
    clear t5 f2 ha hb hc hbx5
    by_cases h2 : r2 = 0
    · have j2 : ((r2 : Int) != 0) = false := by simp; omega
      rw [if_neg (by simpa using h2)] at hv
      have HV : Hid (comeF (m + 1) (.node op 0 [x1, x2]) xs ys = (opV op v1 v2, 0)) := hv
      clear hv h1 h2
      go_wp2_with fail
      refine (HI2.out w5 b5).mono ?_
      rintro r w6 ⟨rfl, b6⟩
      have c6 := b5.trans (b6.mono b5.size)
      have g0 := (HBX.out.below c6 z0).c0
      clear b5 b6 f0' f2' ha' hb' hc'
      obtain ⟨ov, hov⟩ : ∃ ov, ov = opV op v1 v2 := ⟨_, rfl⟩
      have HO := HCALL.out v1 v2
      rw [← hov] at HV HO
      have HO2 := Lib.hid HO
      clear hov HO HCALL
      go_wp2_with fail
      refine (HOP.out _).mono ?_
      rintro r w7 ⟨rfl, b7⟩
      have hkk := HKK.out
      clear HOP HI1 HI2 HKK
      rcases hkk with rfl | rfl | rfl | rfl | rfl
      all_goals
        go_wp2_with fail
        refine (HO2.out _).mono ?_
        rintro r w8 ⟨rfl, rfl⟩
        go_wp2_with fail
        go_ret2
        exact ⟨ret_come (by rw [HV.out]) (by rw [HV.out]; rfl), b0.trans ((c6.trans (b7.mono c6.size)).mono b0.size)⟩
    · have j2 : ((r2 : Int) != 0) = true := by simp; omega
      rw [if_pos (by simpa using h2)] at hv
      have HV := Lib.hid hv
      clear hv h1 h2
      go_wp2_with fail
      refine (HI2.out w5 b5).mono ?_
      rintro r w6 ⟨rfl, b6⟩
      go_wp2_with fail
      go_ret2
      exact ⟨ret_come (by rw [HV.out]) (by rw [HV.out]), b0.trans ((b5.trans (b6.mono b5.size)).mono b0.size)⟩
  · have j1 : ((r1 : Int) != 0) = true := by simp; omega
    rw [if_pos (by simpa using h1)] at hv
    have HV := Lib.hid hv
    clear hv h1
    go_wp2_with fail
    refine HI1.out.mono ?_
    rintro r w5 ⟨rfl, b5⟩
    go_wp2_with fail
    go_ret2
    exact ⟨ret_come (by rw [HV.out]) (by rw [HV.out]), b0.trans (b5.mono b0.size)⟩

set_option maxRecDepth 100000 in
theorem value_any (m : Nat) (X Y : Option Addr) (cx cy hx hy : Nat) (xs ys : List Int) : ∀ (d : Nat) (e : Ex) (v : Value) (lo hi : Nat) (w : World), At w lo hi d v e → hi ≤ w.heap.size → wholeF m e = true → Ints w hx X xs → hx ≤ w.heap.size → Ints w hy Y ys → hy ≤ w.heap.size →
    Calls Tryz.prog 66 #[v, .slice X xs.length cx, .slice Y ys.length cy] w fun r w' => r = .returned (comeV (comeF m e xs ys)) ∧ Below w.heap.size w w' := by
  induction m with
  | zero => intro d e v lo hi w _ _ hw; cases hw
  | succ m ih =>
    intro d e v lo hi w h hhi hw hxs hhx hys hhy
    obtain ⟨d, rfl⟩ : ∃ q, d = q + 1 := by
      cases d with
      | zero => exact h.elim
      | succ q => exact ⟨q, rfl⟩
    obtain ⟨op, n, args⟩ := e
    obtain ⟨q1, q2, q3, q4, A, c, rfl, hk⟩ := h.open_
    obtain ⟨o1, o8⟩ := whole_op hw
    by_cases h1 : op = 1
    · have HV : Hid (comeF (m + 1) (.node op n args) xs ys = (n, 0)) := by show comeF _ _ _ _ = _; rw [comeF, if_pos h1]
      have HB0 := Lib.hid (boxed_below w (.int .u8 op) (.int .i64 n) (.slice A args.length c))
      have e1 : ((op : Int) == 1) = true := beq_iff_eq.2 (by omega)
      clear ih h hk hw hxs hys h1
      go_enter Tryz.func66, Tryz.ntmps66
      go_wp2_with fail
      go_ret2
      exact ⟨ret_come (by rw [HV.out]) (by rw [HV.out]; rfl), HB0.out⟩
    · by_cases h2 : op = 2
      · exact value_leaf2 m op h2 n args A X Y c cx cy hx xs ys w hw q3 hxs hhx
      · by_cases h3 : op = 3
        · exact value_leaf3 m op h3 n args A X Y c cx cy hy xs ys w hw q3 hys hhy
        · obtain ⟨rfl, x1, x2, rfl, hw1, hw2⟩ := whole_two (by omega) o8 hw
          exact value_op m op (by omega) o8 d x1 x2 A X Y c cx cy lo hi hx hy xs ys w hk hhi hxs hhx hys hhy hw1 hw2 ih

set_option maxRecDepth 100000 in
theorem eval_any (X Y : Option Addr) (cx cy hx hy : Nat) (xs ys : List Int) (d : Nat) (e : Ex) (v : Value) (lo hi : Nat) (w : World) (h : At w lo hi d v e) (hhi : hi ≤ w.heap.size) (hxs : Ints w hx X xs) (hhx : hx ≤ w.heap.size) (hys : Ints w hy Y ys) (hhy : hy ≤ w.heap.size) :
    Calls Tryz.prog 44 #[v, .slice X xs.length cx, .slice Y ys.length cy] w fun r w' => r = .returned (comeV (evalF e xs ys)) ∧ Below w.heap.size w w' := by
  obtain ⟨x, y, z, rfl⟩ := h.boxed
  have b0 := boxed_below w x y z
  have z0 : w.heap.size < (w.alloc (.cells #[x, y, z] 40)).heap.size := by simp
  have hbx := Boxed.new w x y z
  have hA := h.below b0 hhi
  have hxs2 := hxs.below b0 hhx
  have hys2 := hys.below b0 hhy
  have HM := Lib.hid (Whole_any d _ _ lo hi _ hA (by omega))
  have HN : Hid (wholeF 6 e = true → ∀ W', Below (w.alloc (.cells #[x, y, z] 40)).heap.size (w.alloc (.cells #[x, y, z] 40)) W' → Calls Tryz.prog 66 #[.agg #[x, y, z], .slice X xs.length cx, .slice Y ys.length cy] W' fun r w' => r = .returned (comeV (comeF 6 e xs ys)) ∧ Below W'.heap.size W' w') :=
    fun hw W' h' => value_any 6 X Y cx cy hx hy xs ys d e _ lo hi W' (hA.below h' (by omega)) (by have := h'.size; omega) hw (hxs2.below h' (by omega)) (by have := h'.size; omega) (hys2.below h' (by omega)) (by have := h'.size; omega)
  have HB0 := Lib.hid b0
  have HBX := Lib.hid hbx
  have HZ0 := Lib.hid z0
  clear h b0 hbx z0 hA hxs2 hys2 hxs hys
  cases hv : wholeF 6 e with
  | false =>
    have HV : Hid (evalF e xs ys = (0, 4)) := by show evalF _ _ _ = _; rw [evalF, hv]; rfl
    rw [hv] at HM
    clear hv HN
    go_enter Tryz.func44, Tryz.ntmps44
    go_wp2_with fail
    refine HM.out.mono ?_
    rintro r w5 ⟨rfl, b5⟩
    go_wp2_with fail
    go_ret2
    exact ⟨ret_come (by rw [HV.out]) (by rw [HV.out]; rfl), HB0.out.trans (b5.mono HB0.out.size)⟩
  | true =>
    have HV : Hid (evalF e xs ys = comeF 6 e xs ys) := by show evalF _ _ _ = _; rw [evalF, hv]; rfl
    have HC := Lib.hid (HN.out hv)
    rw [hv] at HM
    clear hv HN
    go_enter Tryz.func44, Tryz.ntmps44
    go_wp2_with fail
    refine HM.out.mono ?_
    rintro r w5 ⟨rfl, b5⟩
    have g0 := (HBX.out.below b5 HZ0.out).c0
    have g1 := (HBX.out.below b5 HZ0.out).c1
    have g2 := (HBX.out.below b5 HZ0.out).c2
    go_wp2_with fail
    refine (HC.out w5 b5).mono ?_
    rintro r w6 ⟨rfl, b6⟩
    obtain ⟨p, hp⟩ : ∃ p, p = comeF 6 e xs ys := ⟨_, rfl⟩
    rw [← hp]
    have HP := Lib.hid hp
    clear hp
    unfold comeV
    go_wp2_with fail
    go_ret2
    exact ⟨ret_come (by rw [HV.out, ← HP.out]) (by rw [HV.out, ← HP.out]), HB0.out.trans ((b5.trans (b6.mono b5.size)).mono HB0.out.size)⟩
end Go.Proofs.YthdcdffdpdoeoaaGreatDoor
/-
  CONTRACT OF PACKAGE expr's Variable: which variable a value means; the memory that was there stays as it was. Conditions: as they stand.
-/
namespace Go.Proofs.YthdcdffdpdoeoaaGreatDoor
set_option maxRecDepth 100000
open Go.RowKit
set_option linter.unusedVariables false
set_option maxRecDepth 100000 in
theorem variable_any (x vars : Int) (hx0 : -9223372036854775808 ≤ x) (hx1 : x < 9223372036854775808) (hv0 : -9223372036854775808 ≤ vars) (hv1 : vars < 9223372036854775808) (w : World) :
    Calls Tryz.prog 41 #[.int .i64 x, .int .i64 vars] w fun r w' => r = .returned (.tuple #[.int .i64 (varF x vars).1, .int .i64 (varF x vars).2]) ∧ w = w' := by
  by_cases h : vars < 1
  · have HV : Hid (varF x vars = (0, 1)) := if_pos h
    go_enter Tryz.func41, Tryz.ntmps41
    go_wp2_with fail
    go_ret2
    exact ⟨ret_two (by rw [HV.out]) (by rw [HV.out]), rfl⟩
  · have HV : Hid (varF x vars = (x % vars, 0)) := if_neg h
    have hv : 1 ≤ vars := by omega
    have hm1 := Int.emod_nonneg x (by omega : vars ≠ 0)
    have hm2 := Int.emod_lt_of_pos x (by omega : 0 < vars)
    by_cases ht0 : x.tmod vars < 0
    · have F1 := Lib.hid (tmod_fix x vars (by omega) ht0)
      have k1 : 0 ≤ x.tmod vars + vars := by rw [F1.out]; exact hm1
      have k2 : x.tmod vars + vars < vars := by rw [F1.out]; exact hm2
      clear h hm1 hm2
      go_enter Tryz.func41, Tryz.ntmps41
      go_wp2_with fail
      go_ret2
      exact ⟨ret_two (by rw [HV.out]; exact F1.out) (by rw [HV.out]), rfl⟩
    · have F1 := Lib.hid (tmod_pos x vars (by omega) (by omega))
      clear h hm1 hm2
      go_enter Tryz.func41, Tryz.ntmps41
      go_wp2_with fail
      go_ret2
      exact ⟨ret_two (by rw [HV.out]; exact F1.out) (by rw [HV.out]), rfl⟩
end Go.Proofs.YthdcdffdpdoeoaaGreatDoor
/-
  CONTRACTS OF PACKAGE interp's value and variable (layer 9). Conditions: as they stand.
-/
namespace Go.Proofs.YthdcdffdpdoeoaaGreatDoor
set_option maxRecDepth 100000
open Go.RowKit Go.Deep
set_option linter.unusedVariables false
theorem wf_iff (x : Int) : wfI x ↔ -9223372036854775808 ≤ x ∧ x < 9223372036854775808 := by
  simp [wfI, Lit.wf, IntKind.min, IntKind.max, IntKind.signed, IntKind.bits]
  omega
theorem wf_wrap (x : Int) : wfI (wrap64 x) := by
  rw [wf_iff]
  unfold wrap64
  omega
theorem come_wf (l got : List Int) (hl : ∀ x ∈ l, wfI x) (hg : ∀ x ∈ got, wfI x) : ∀ (m : Nat) (d : Nat) (e : Ex) (v : Value) (w : World) (lo hi : Nat), At w lo hi d v e → wfI (comeF m e l got).1 := by
  have h0 : wfI 0 := by rw [wf_iff]; omega
  have h1 : wfI 1 := by rw [wf_iff]; omega
  intro m
  induction m with
  | zero => intro d e v w lo hi h; exact h0
  | succ m ih =>
    intro d e v w lo hi h
    cases d with
    | zero => exact h.elim
    | succ d =>
      obtain ⟨op, n, args⟩ := e
      obtain ⟨_, n1, n2, _, A, c, _, hk⟩ := h
      rw [comeF]
      split
      · exact (wf_iff n).2 ⟨n1, n2⟩
      split
      · split
        · exact h0
        · by_cases hn : n.toNat < l.length
          · rw [List.getD_eq_getElem?_getD, List.getElem?_eq_getElem hn]; exact hl _ (List.getElem_mem hn)
          · rw [List.getD_eq_getElem?_getD, List.getElem?_eq_none (by omega)]; exact h0
      split
      · split
        · exact h0
        · by_cases hn : n.toNat < got.length
          · rw [List.getD_eq_getElem?_getD, List.getElem?_eq_getElem hn]; exact hg _ (List.getElem_mem hn)
          · rw [List.getD_eq_getElem?_getD, List.getElem?_eq_none (by omega)]; exact h0
      · match args, hk with
        | [], _ => exact h0
        | [_], _ => exact h0
        | _ :: _ :: _ :: _, _ => exact h0
        | [a, b], hk =>
          obtain ⟨_, _, _, _, _, _, _, _, _, _, ha⟩ := hk 0 (by simp)
          obtain ⟨_, _, _, _, _, _, _, _, _, _, hb⟩ := hk 1 (by simp)
          have wa := ih d a _ w lo hi ha
          have wb := ih d b _ w lo hi hb
          rw [come2]
          split
          · exact h0
          split
          · exact h0
          · unfold opV
            split
            · exact wf_wrap _
            split
            · exact wf_wrap _
            split
            · exact wf_wrap _
            split
            · split
              · exact h1
              · exact h0
            · split
              · exact h1
              · exact h0
theorem eval_wf {l got : List Int} (hl : ∀ x ∈ l, wfI x) (hg : ∀ x ∈ got, wfI x) {d : Nat} {e : Ex} {v : Value} {w : World} {lo hi : Nat} (h : At w lo hi d v e) : wfI (evalF e l got).1 := by
  unfold evalF
  split
  · exact come_wf l got hl hg 6 d e v w lo hi h
  · rw [wf_iff]; decide
section
variable {E : Ev9} {w w' : World} {l : List Int} {L : List Fx} {f : Fx} {T : List (List Pr)} {n : Nat} {A : Option Addr} {c : Nat} {S S2 SB I : Nat → Prop}
set_option maxHeartbeats 2000000 in
theorem value9_any (h : RMat E w l L T n A c S SB I) {d o : Nat} {nm : Int} {B : Option Addr} {k kc : Nat} {e : Ex} {lo hi : Nat} (he : At w lo hi d (.agg #[.int .u8 o, .int .i64 nm, .slice B k kc]) e) (hhi : hi ≤ w.heap.size) : Calls Tryz.prog 27 #[.pointer (some ⟨E.q, 0, none⟩), .agg #[.int .u8 o, .int .i64 nm, .slice B k kc]] w fun r w' => r = .returned (.int .i64 (evalF e l E.got).1) ∧ Below w.heap.size w w' := by
  obtain ⟨y, hy⟩ : ∃ y, y = evalF e l E.got := ⟨_, rfl⟩
  have hev := fun (W : World) (hb : Below w.heap.size w W) => eval_any (some ⟨E.q, 2, none⟩) E.G 8 E.gc W.heap.size W.heap.size l E.got d e _ lo hi W (he.below hb (by have := hb.size; omega)) (by have := hb.size; omega) ((h.below hb).ints) (Nat.le_refl _) ((h.below hb).gots) (Nat.le_refl _)
  rw [h.len, ← hy] at hev
  unfold comeV at hev
  obtain ⟨y1, y2⟩ := y
  dsimp only at hev
  have HE := Lib.hid hev
  have hb0 : Below w.heap.size w (w.alloc (.cells #[.int .u8 o, .int .i64 nm, .slice B k kc] 40)) := (Below.refl _ _).alloc (Nat.le_refl _) _
  have hbx : (w.alloc (.cells #[.int .u8 o, .int .i64 nm, .slice B k kc] 40)).heap[w.heap.size]? = some (.cells #[.int .u8 o, .int .i64 nm, .slice B k kc] 40 (0, 0)) := World.alloc_heap_new w _
  have c1 := (h.below hb0).c1
  rw [← hy]
  clear he hev h hy
  go_enter Tryz.func27, Tryz.ntmps27
  go_upto_region 1 with fail
  obtain ⟨W, hW⟩ : ∃ W, W = w.alloc (.cells #[.int .u8 o, .int .i64 nm, .slice B k kc] 40) := ⟨_, rfl⟩
  rw [← hW] at hb0 hbx c1 ⊢
  have e0 := cell_of_row _ w.heap.size 0 _ _ (0, 0) hbx
  have e1 := cell_of_row _ w.heap.size 1 _ _ (0, 0) hbx
  have e2 := cell_of_row _ w.heap.size 2 _ _ (0, 0) hbx
  simp only [List.getElem?_toArray, List.getElem?_cons_zero, List.getElem?_cons_succ] at e0 e1 e2
  have HB := Lib.hid hb0
  clear hW hb0 hbx
  go_region_law
    (first
      | (rw [if_pos (by rfl)]; go_simp; go_at_call 44; refine (HE.out W.drew (HB.out.drew)).mono ?_; rintro e w9 ⟨rfl, b9⟩)
      | fail)
  all_goals
    have B9 := Lib.hid (HB.out.drew.trans (b9.mono HB.out.drew.size))
    clear b9
    go_wp2_with fail
    go_ret
    exact ⟨rfl, B9.out⟩
set_option maxHeartbeats 2000000 in
theorem variable9_any (h : RMat E w l L T n A c S SB I) {d o : Nat} {nm : Int} {B : Option Addr} {k kc : Nat} {e : Ex} {lo hi : Nat} (he : At w lo hi d (.agg #[.int .u8 o, .int .i64 nm, .slice B k kc]) e) (hhi : hi ≤ w.heap.size) : Calls Tryz.prog 24 #[.pointer (some ⟨E.q, 0, none⟩), .agg #[.int .u8 o, .int .i64 nm, .slice B k kc]] w fun r w' => r = .returned (.int .i64 (varF (evalF e l E.got).1 E.vars).1) ∧ Below w.heap.size w w' := by
  have hwf := (wf_iff _).1 (eval_wf h.wf h.gwf he)
  obtain ⟨y, hy⟩ : ∃ y, y = (evalF e l E.got).1 := ⟨_, rfl⟩
  have HVL := Lib.hid (fun (W : World) (hb : Below w.heap.size w W) => value9_any (h.below hb) (he.below hb (by have := hb.size; omega)) (by have := hb.size; omega))
  rw [← hy] at hwf HVL ⊢
  have v1 := h.v1
  have v2 := h.v2
  obtain ⟨z, hz⟩ : ∃ z, z = varF y E.vars := ⟨_, rfl⟩
  have hvr := fun W : World => variable_any y E.vars hwf.1 hwf.2 (by omega) (by omega) W
  rw [← hz] at hvr ⊢
  obtain ⟨z1, z2⟩ := z
  dsimp only at hvr
  have HVR := Lib.hid hvr
  have H := Lib.hid h
  clear he hvr h hy hz hwf v1 v2
  go_enter Tryz.func24, Tryz.ntmps24
  go_upto_region 1 with fail
  obtain ⟨W, hW⟩ : ∃ W, W = w.alloc (.cells #[.int .u8 o, .int .i64 nm, .slice B k kc] 40) := ⟨_, rfl⟩
  have hb0 : Below w.heap.size w W := by rw [hW]; exact (Below.refl _ _).alloc (Nat.le_refl _) _
  have hbx : W.heap[w.heap.size]? = some (.cells #[.int .u8 o, .int .i64 nm, .slice B k kc] 40 (0, 0)) := by rw [hW]; exact World.alloc_heap_new w _
  rw [← hW]
  have e0 := cell_of_row _ w.heap.size 0 _ _ (0, 0) hbx
  have e1 := cell_of_row _ w.heap.size 1 _ _ (0, 0) hbx
  have e2 := cell_of_row _ w.heap.size 2 _ _ (0, 0) hbx
  simp only [List.getElem?_toArray, List.getElem?_cons_zero, List.getElem?_cons_succ] at e0 e1 e2
  have HB := Lib.hid hb0
  have c0 := (H.out.below hb0).c0
  clear hW hb0 hbx
  go_region_law
    (first
      | (rw [if_pos (by rfl)]; go_simp; go_at_call 41; refine (HVR.out _).mono ?_; rintro e w8 ⟨rfl, rfl⟩)
      | (rw [if_pos (by rfl)]; go_simp; go_at_call 27; refine (HVL.out W.drew (HB.out.drew)).mono ?_; rintro e w9 ⟨rfl, b9⟩; have B9 := Lib.hid (HB.out.drew.trans (b9.mono HB.out.drew.size)); have d9 := (H.out.below B9.out).c0; clear b9)
      | fail)
  all_goals
    go_wp2_with fail
    go_ret
    exact ⟨rfl, B9.out⟩
end
end Go.Proofs.YthdcdffdpdoeoaaGreatDoor
