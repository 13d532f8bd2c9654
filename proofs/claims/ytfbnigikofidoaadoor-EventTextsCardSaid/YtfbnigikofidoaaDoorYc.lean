/-
  CONTRACT OF seesawref12.digits: a number's text (strconv.Itoa's, by Lib.itoa). Conditions: as they stand.
-/
import Derived.Test.YtfbnigikofidoaaDoorYb
import Derived.Test.YtfbnigikofidoaaDoorWv
import Derived.Deep.RegionWith
namespace Go.Proofs.YtfbnigikofidoaaDoor
set_option maxRecDepth 100000
open Go.RowKit
set_option linter.unusedVariables false
theorem c_bytes : Tryd.prog.underlying 66 = some (.slice 5) := by kernel_rfl
theorem c_byte : Tryd.prog.underlying 5 = some (.int .u8) := by kernel_rfl
theorem c_string : Tryd.prog.underlying 9 = some .string := by kernel_rfl
theorem conv_oneW (a : Addr) (x : Nat) (hx : x < 256) (wx : World) (h : wx.cell? a = some (.int .u8 x)) :
    (convert 66 9 (.slice (some a) 1 1)).run Tryd.prog wx = .ok (.string ⟨#[UInt8.ofNat x]⟩) wx := by
  have := run_convert_bytes_back (P := Tryd.prog) wx 66 9 5 a 1 [UInt8.ofNat x] c_bytes c_byte c_string (fun j hj => by
    obtain rfl : j = 0 := by simp at hj; omega
    rw [show a.add 0 = a from rfl, h]
    have e : (UInt8.ofNat x).toNat = x := by simp [UInt8.toNat_ofNat']; omega
    simp [e])
  exact this
theorem dlow_after {w w3 : World} {v : Value} {t : TypeId} (h : Below (w.alloc (.cells #[v] t)).drew.heap.size (w.alloc (.cells #[v] t)).drew w3) : w3.cell? ⟨w.heap.size, 0, none⟩ = some v := by
  have e := h.cell (p := ⟨w.heap.size, 0, none⟩) (by simp)
  rw [e]
  exact World.cell?_alloc_mark w #[v] t (0, 0) 0
theorem dlow_first {w w3 : World} {o : Obj} (h : Below (w.alloc o).drew.heap.size (w.alloc o).drew w3) : Below w.heap.size w w3 :=
  (((Below.refl _ _).alloc (Nat.le_refl _) o).drew).trans (h.mono (by simp))
theorem dlow_then {w w3 : World} (h : Below w.drew.heap.size w.drew w3) (o : Obj) : Below w.heap.size w (w3.alloc o) :=
  (((Below.refl _ _).drew).trans (h.mono (by simp))).alloc (by simpa using h.size) o
set_option maxRecDepth 100000 in
theorem rdig_low (n : Nat) (hn : n < 10) (w : World) :
    Calls Tryd.prog 17 #[.int .i64 n] w fun e w' => e = .returned (.string (bsW (Lib.decDigits n))) ∧ Below w.heap.size w w' := by
  rw [dig1 hn]
  have hc := conv_oneW ⟨w.heap.size, 0, none⟩ (48 + n) (by omega) (w.alloc (.cells #[.int .u8 ((48 + n : Nat) : Int)] 5)) (World.cell?_alloc_mark w #[.int .u8 ((48 + n : Nat) : Int)] 5 (0, 0) 0)
  have h3 : ((48 + n : Nat) : Int) = 48 + (n : Int) := by omega
  rw [h3] at hc
  obtain ⟨z, hz⟩ : ∃ z : Int, z = n := ⟨_, rfl⟩
  rw [← hz] at hc ⊢
  have h1 : ¬ z < 0 := by omega
  have h4 : z < 10 := by omega
  have h5 : (z == -9223372036854775808) = false := by simp; omega
  have h6 : IntKind.u8.wrap (48 + z) = 48 + z := IntWalk.u8_in _ ⟨by omega, by omega⟩
  have h7 : 0 ≤ z := by omega
  obtain ⟨c, hcc⟩ : ∃ c, c = UInt8.ofNat (48 + n) := ⟨_, rfl⟩
  rw [← hcc] at hc ⊢
  unfold bsW
  clear hz hn h3 hcc
  go_enter Tryd.func17, Tryd.ntmps17
  go_wp2_with fail
  go_ret
  exact ⟨rfl, (Below.refl _ _).alloc (Nat.le_refl _) _⟩
section
variable {a : Act} {w : World} {K : Act → World → Prop} {Q : Exit → Act → World → Prop} {o : Oper}
theorem d_quo (x : Nat) {n : Int} (h0 : 0 ≤ n) (h2 : n < 9223372036854775808) (ho : o.op = .binOp .quo 2 (.tmp x) (.const (.int .i64 10)) 2) (hx : a.tmps[x]?.getD undef = .int .i64 n) (hK : K (a.put o.dst (.int .i64 (n / 10))) w) : Oper.wp Tryd.prog o a w K Q := by
  obtain ⟨dst, op, type, pos, after, guard⟩ := o
  have ho' : op = _ := ho
  subst ho'
  clear ho
  have e1 : n.tdiv 10 = n / 10 := Int.tdiv_eq_ediv_of_nonneg (by omega)
  have e2 : IntKind.i64.wrap (n / 10) = n / 10 := IntWalk.i64_in _ ⟨by omega, by omega⟩
  go_simp
  exact hK
theorem d_rem (x : Nat) {n : Int} (h0 : 0 ≤ n) (h2 : n < 9223372036854775808) (ho : o.op = .binOp .rem 2 (.tmp x) (.const (.int .i64 10)) 2) (hx : a.tmps[x]?.getD undef = .int .i64 n) (hK : K (a.put o.dst (.int .i64 (n % 10))) w) : Oper.wp Tryd.prog o a w K Q := by
  obtain ⟨dst, op, type, pos, after, guard⟩ := o
  have ho' : op = _ := ho
  subst ho'
  clear ho
  have e1 : n.tmod 10 = n % 10 := Int.tmod_eq_emod_of_nonneg (by omega)
  have e2 : IntKind.i64.wrap (n % 10) = n % 10 := IntWalk.i64_in _ ⟨by omega, by omega⟩
  go_simp
  exact hK
theorem d_add (x : Nat) {n : Int} (h0 : 0 ≤ n) (h2 : n < 10) (ho : o.op = .binOp .add 2 (.const (.int .i64 48)) (.tmp x) 2) (hx : a.tmps[x]?.getD undef = .int .i64 n) (hK : K (a.put o.dst (.int .i64 (48 + n))) w) : Oper.wp Tryd.prog o a w K Q := by
  obtain ⟨dst, op, type, pos, after, guard⟩ := o
  have ho' : op = _ := ho
  subst ho'
  clear ho
  have e2 : IntKind.i64.wrap (48 + n) = 48 + n := IntWalk.i64_in _ ⟨by omega, by omega⟩
  go_simp
  exact hK
theorem d_conv (x : Nat) {n : Int} (h0 : 48 ≤ n) (h2 : n < 58) (ho : o.op = .convert 2 5 (.tmp x)) (hx : a.tmps[x]?.getD undef = .int .i64 n) (hK : K (a.put o.dst (.int .u8 n)) w) : Oper.wp Tryd.prog o a w K Q := by
  obtain ⟨dst, op, type, pos, after, guard⟩ := o
  have ho' : op = _ := ho
  subst ho'
  clear ho
  have e2 : IntKind.u8.wrap n = n := IntWalk.u8_in _ ⟨by omega, by omega⟩
  go_simp
  exact hK
theorem d_sl (x : Nat) {n : Int} (ho : o.op = .buildSlice 66 1 #[(0, .tmp x)]) (hx : a.tmps[x]?.getD undef = .int .u8 n) (hK : ∀ w', Below w.heap.size w w' → w'.heap[w.heap.size]? = some (.cells #[.int .u8 n] 5 (0, 0)) → K (a.put o.dst (.slice (some ⟨w.heap.size, 0, none⟩) 1 1)) w') : Oper.wp Tryd.prog o a w K Q := by
  obtain ⟨dst, op, type, pos, after, guard⟩ := o
  have ho' : op = _ := ho
  subst ho'
  clear ho
  have h2 := hK (w.alloc (.cells #[.int .u8 n] 5)) ((Below.refl _ _).alloc (Nat.le_refl _) _) (World.alloc_heap_new w _)
  clear hK
  go_simp
  exact h2
theorem d_str (x : Nat) {g : Nat} {s : ByteArray} (ho : o.op = .convert 66 9 (.tmp x)) (hx : a.tmps[x]?.getD undef = .slice (some ⟨g, 0, none⟩) 1 1) (hc : (convert 66 9 (.slice (some ⟨g, 0, none⟩) 1 1)).run Tryd.prog w = .ok (.string s) w) (hK : K (a.put o.dst (.string s)) w) : Oper.wp Tryd.prog o a w K Q := by
  obtain ⟨dst, op, type, pos, after, guard⟩ := o
  have ho' : op = _ := ho
  subst ho'
  clear ho
  go_simp
  exact hK
theorem d_adds (x y : Nat) {s t : ByteArray} (hs : s.size ≤ 1000) (ht : t.size ≤ 1000) (ho : o.op = .binOp .add 9 (.tmp x) (.tmp y) 9) (hx : a.tmps[x]?.getD undef = .string s) (hy : a.tmps[y]?.getD undef = .string t) (hK : K (a.put o.dst (.string (s ++ t))) w) : Oper.wp Tryd.prog o a w K Q := by
  obtain ⟨dst, op, type, pos, after, guard⟩ := o
  have ho' : op = _ := ho
  subst ho'
  clear ho
  have e2 : ¬ 9223372036854775807 < s.size + t.size := by omega
  go_simp
  exact hK
theorem d_call (x : Nat) {u v : Value} (ho : o.op = .call { callee := .value (.func 17), args := #[.tmp x], argTypes := #[2] }) (hx : a.tmps[x]?.getD undef = v) (hc : Calls Tryd.prog 17 #[v] w fun r w' => r = .returned u ∧ Below w.heap.size w w') (hK : ∀ w', Below w.heap.size w w' → K (a.put o.dst u) w') : Oper.wp Tryd.prog o a w K Q := by
  obtain ⟨dst, op, type, pos, after, guard⟩ := o
  have ho' : op = _ := ho
  subst ho'
  clear ho
  have h1 := Tryd.func17
  have HC := Lib.hid hc
  clear hc
  go_simp
  refine HC.out.mono ?_
  rintro r w' ⟨rfl, hb⟩
  exact hK w' hb
end
noncomputable def opsD7 : Array Oper := opsW Tryd.f17 7
def dsD7 : List Nat := [18, 19, 20, 21, 22, 23, 24, 25, 26, 27, 2]
def SD (n : Nat) (r : ByteArray) (c : UInt8) : Nat → Value → World → Prop
  | 0, v, _ => v = .int .i64 n
  | 1, v, _ => v = .int .i64 ((n : Int) / 10)
  | 2, v, _ => v = .string r
  | 3, v, _ => v = .int .i64 n
  | 4, v, _ => v = .int .i64 ((n : Int) % 10)
  | 5, v, _ => v = .int .i64 (48 + (n : Int) % 10)
  | 6, v, _ => v = .int .u8 (48 + (n : Int) % 10)
  | 7, v, w => ∃ g, v = .slice (some ⟨g, 0, none⟩) 1 1 ∧ w.heap[g]? = some (.cells #[.int .u8 (48 + (n : Int) % 10)] 5 (0, 0))
  | 8, v, _ => v = .string ⟨#[c]⟩
  | 9, v, _ => v = .string (r ++ ⟨#[c]⟩)
  | 10, v, _ => v = .string (r ++ ⟨#[c]⟩)
  | _ + 11, _, _ => False
theorem SD.mono {n : Nat} {r : ByteArray} {c : UInt8} (i : Nat) (v : Value) (w w' : World) (b : Below w.heap.size w w') (h : SD n r c i v w) : SD n r c i v w' := by
  match i, h with
  | 0, h => exact h
  | 1, h => exact h
  | 2, h => exact h
  | 3, h => exact h
  | 4, h => exact h
  | 5, h => exact h
  | 6, h => exact h
  | 7, h => obtain ⟨g, h1, h2⟩ := h; exact ⟨g, h1, row_stays h2 b⟩
  | 8, h => exact h
  | 9, h => exact h
  | 10, h => exact h
  | _ + 11, h => exact h.elim
set_option maxRecDepth 100000 in
set_option maxHeartbeats 4000000 in
theorem regD7 {id : Nat} {ops : Array Oper} (hops : ops = opsD7) (T0 : Array Value) (hsz : 28 ≤ T0.size) (W : World) (n : Nat) (r : ByteArray) (c : UInt8) (hr : r.size ≤ 1000) (h2 : n < 9223372036854775808)
    (ih : ∀ wx, Calls Tryd.prog 17 #[.int .i64 ((n : Int) / 10)] wx fun e w' => e = .returned (.string r) ∧ Below wx.heap.size wx w')
    (hc : ∀ (b : Nat) (wx : World), wx.cell? ⟨b, 0, none⟩ = some (.int .u8 (48 + (n : Int) % 10)) → (convert 66 9 (.slice (some ⟨b, 0, none⟩) 1 1)).run Tryd.prog wx = .ok (.string ⟨#[c]⟩) wx)
    (h0 : T0[0]? = some (.int .i64 n)) {Q : Exit → Act → World → Prop}
    (hend : ∀ (us : List Value) (w : World), us.length = 11 → Below W.heap.size W w → us.getD 10 undef = .string (r ++ ⟨#[c]⟩) → Q .normal ⟨putAll T0 dsD7 us, []⟩ w) : (Code.region id ops true).wp Tryd.prog Q ⟨T0, []⟩ W := by
  subst hops
  have hos : opsD7.size = 11 := by kernel_rfl
  refine wp_region_tail (fun i _ _ v w => SD n r c i v w) dsD7 W T0 (by decide) (fun x hx => ?_) (by kernel_rfl) (by kernel_rfl) (fun i _ _ v w w' _ _ b h => SD.mono i v w w' b h) ?_ ?_
  · have hall : (dsD7.all fun d => decide (d < 28)) = true := by decide
    have := List.all_eq_true.1 hall x hx
    simp only [decide_eq_true_eq] at this
    omega
  · intro i o ho hi a w hT hdep hb K hK
    have hw : ∀ j, waitsW opsD7 i j = true → ∃ v, a.tmps[dsD7.getD j 0]? = some v ∧ SD n r c j v w := fun j hj => by
      obtain ⟨v, _, _, h1, h2⟩ := waitsW_of (P := fun j => ∃ v x y, a.tmps[dsD7.getD j 0]? = some v ∧ SD n r c j v w) ho hdep hj
      exact ⟨v, h1, h2⟩
    have hT0 : ∀ t v, t ∉ dsD7 → T0[t]? = some v → a.tmps[t]?.getD undef = v := fun t v ht hv => by rw [hT t ht, hv]; rfl
    match i, hi with
    | 0, _ => exact v_move 0 (opAtW ho (by kernel_rfl)) (hT0 0 _ (by decide) h0) (hK _ _ (Below.refl _ _) rfl)
    | 1, _ =>
      obtain ⟨v0, e0, s0⟩ := hw 0 (by kernel_rfl)
      exact d_quo 18 (by omega) (by omega) (opAtW ho (by kernel_rfl)) (hV e0 s0) (hK _ _ (Below.refl _ _) rfl)
    | 2, _ =>
      obtain ⟨v0, e0, s0⟩ := hw 1 (by kernel_rfl)
      exact d_call 19 (opAtW ho (by kernel_rfl)) (hV e0 s0) (ih w) (fun w' hb' => hK _ w' hb' rfl)
    | 3, _ => exact v_move 0 (opAtW ho (by kernel_rfl)) (hT0 0 _ (by decide) h0) (hK _ _ (Below.refl _ _) rfl)
    | 4, _ =>
      obtain ⟨v0, e0, s0⟩ := hw 3 (by kernel_rfl)
      exact d_rem 21 (by omega) (by omega) (opAtW ho (by kernel_rfl)) (hV e0 s0) (hK _ _ (Below.refl _ _) rfl)
    | 5, _ =>
      obtain ⟨v0, e0, s0⟩ := hw 4 (by kernel_rfl)
      exact d_add 22 (by omega) (by omega) (opAtW ho (by kernel_rfl)) (hV e0 s0) (hK _ _ (Below.refl _ _) rfl)
    | 6, _ =>
      obtain ⟨v0, e0, s0⟩ := hw 5 (by kernel_rfl)
      exact d_conv 23 (by omega) (by omega) (opAtW ho (by kernel_rfl)) (hV e0 s0) (hK _ _ (Below.refl _ _) rfl)
    | 7, _ =>
      obtain ⟨v0, e0, s0⟩ := hw 6 (by kernel_rfl)
      exact d_sl 24 (opAtW ho (by kernel_rfl)) (hV e0 s0) (fun w' b hh => hK _ w' b ⟨_, rfl, hh⟩)
    | 8, _ =>
      obtain ⟨v0, e0, g, s0, hg⟩ := hw 7 (by kernel_rfl)
      exact d_str 25 (opAtW ho (by kernel_rfl)) (hV e0 s0) (hc g w (cell_of_row w g 0 _ _ _ hg)) (hK _ _ (Below.refl _ _) rfl)
    | 9, _ =>
      obtain ⟨v0, e0, s0⟩ := hw 2 (by kernel_rfl)
      obtain ⟨v1, e1, s1⟩ := hw 8 (by kernel_rfl)
      exact d_adds 20 26 hr (by show 1 ≤ 1000; omega) (opAtW ho (by kernel_rfl)) (hV e0 s0) (hV e1 s1) (hK _ _ (Below.refl _ _) rfl)
    | 10, _ =>
      obtain ⟨v0, e0, s0⟩ := hw 9 (by kernel_rfl)
      exact v_assign 27 (opAtW ho (by kernel_rfl)) (hV e0 s0) (hK _ _ (Below.refl _ _) rfl)
    | i + 11, h => exact absurd (show i + 11 < 11 from h) (by omega)
  · intro us lo hi w hu hb hS hdj
    have hdrop : opsD7.toList.drop dsD7.length = [] := List.drop_eq_nil_of_le (by show opsD7.toList.length ≤ 11; rw [Array.length_toList, hos]; omega)
    rw [hdrop]
    exact hend us w hu hb (hS 10 (by decide)).2.2.2
set_option maxRecDepth 100000 in
set_option maxHeartbeats 2000000 in
theorem rdig_high (n : Nat) (hn : 10 ≤ n) (h2 : n < 9223372036854775808) (w : World) (r : ByteArray) (hr : r.size ≤ 1000) (c : UInt8) (hcn : c.toNat = 48 + n % 10)
    (ih : ∀ wx, Calls Tryd.prog 17 #[.int .i64 ((n : Int) / 10)] wx fun e w' => e = .returned (.string r) ∧ Below wx.heap.size wx w') :
    Calls Tryd.prog 17 #[.int .i64 n] w fun e w' => e = .returned (.string (r ++ ⟨#[c]⟩)) ∧ Below w.heap.size w w' := by
  have Ih : Hid (∀ wx, Calls Tryd.prog 17 #[.int .i64 ((n : Int) / 10)] wx fun e w' => e = .returned (.string r) ∧ Below wx.heap.size wx w') := ih
  clear ih
  have h1 : ¬ (n : Int) < 0 := by omega
  have h4 : ¬ (n : Int) < 10 := by omega
  have h5 : ((n : Int) == -9223372036854775808) = false := beq_eq_false_iff_ne.2 (by omega)
  have e0 : (n : Int).tmod 10 = (n : Int) % 10 := Int.tmod_eq_emod_of_nonneg (by omega)
  have e1 : (n : Int).tdiv 10 = (n : Int) / 10 := Int.tdiv_eq_ediv_of_nonneg (by omega)
  have e2 : IntKind.u8.wrap (48 + (n : Int) % 10) = 48 + (n : Int) % 10 := IntWalk.u8_in _ ⟨by omega, by omega⟩
  have e3 : 0 ≤ (n : Int) % 10 := by omega
  have e4 : (n : Int) % 10 < 10 := by omega
  have hc : ∀ (b : Nat) (wx : World), wx.cell? ⟨b, 0, none⟩ = some (.int .u8 (48 + (n : Int) % 10)) → (convert 66 9 (.slice (some ⟨b, 0, none⟩) 1 1)).run Tryd.prog wx = .ok (.string ⟨#[c]⟩) wx := fun b wx h => by
    have e5 := conv_oneW ⟨b, 0, none⟩ c.toNat c.toNat_lt wx (by rw [h, hcn]; rfl)
    simpa using e5
  clear hcn hn
  go_enter Tryd.func17, Tryd.ntmps17
  go_wp2_with fail
  refine regD7 rfl _ (by simp) w n r c hr h2 Ih.out hc rfl ?_
  intro us w5 hu b5 h10
  obtain ⟨z0, z1, z2, z3, z4, z5, z6, z7, z8, z9, z10, rfl⟩ : ∃ z0 z1 z2 z3 z4 z5 z6 z7 z8 z9 z10 : Value, us = [z0, z1, z2, z3, z4, z5, z6, z7, z8, z9, z10] := by
    obtain ⟨z0, r0, rfl, hl0⟩ := cons_ofW hu
    obtain ⟨z1, r1, rfl, hl1⟩ := cons_ofW hl0
    obtain ⟨z2, r2, rfl, hl2⟩ := cons_ofW hl1
    obtain ⟨z3, r3, rfl, hl3⟩ := cons_ofW hl2
    obtain ⟨z4, r4, rfl, hl4⟩ := cons_ofW hl3
    obtain ⟨z5, r5, rfl, hl5⟩ := cons_ofW hl4
    obtain ⟨z6, r6, rfl, hl6⟩ := cons_ofW hl5
    obtain ⟨z7, r7, rfl, hl7⟩ := cons_ofW hl6
    obtain ⟨z8, r8, rfl, hl8⟩ := cons_ofW hl7
    obtain ⟨z9, r9, rfl, hl9⟩ := cons_ofW hl8
    obtain ⟨z10, r10, rfl, hl10⟩ := cons_ofW hl9
    obtain rfl := List.length_eq_zero_iff.1 hl10
    exact ⟨z0, z1, z2, z3, z4, z5, z6, z7, z8, z9, z10, rfl⟩
  obtain rfl : z10 = .string (r ++ ⟨#[c]⟩) := h10
  clear hu Ih hc
  simp only [dsD7, putAll, List.setIfInBounds_toArray, List.set_cons_succ, List.set_cons_zero]
  go_wp2_with fail
  go_ret
  exact ⟨rfl, b5⟩
theorem bsW_app (a : List UInt8) (c : UInt8) : bsW a ++ (⟨#[c]⟩ : ByteArray) = bsW (a ++ [c]) := by
  apply ByteArray.ext
  simp [bsW, ByteArray.data_append]
theorem rdig_nat : ∀ (n : Nat), n < 9223372036854775808 → ∀ w : World,
    Calls Tryd.prog 17 #[.int .i64 n] w fun e w' => e = .returned (.string (bsW (Lib.decDigits n))) ∧ Below w.heap.size w w' := by
  intro n
  induction n using Nat.strongRecOn with
  | ind n ih =>
    intro hn w
    by_cases h : n < 10
    · exact rdig_low n h w
    · have := rdig_high n (by omega) hn w (bsW (Lib.decDigits (n / 10))) (by rw [bsW_size]; have := Lib.itoa_length_le ((n / 10 : Nat) : Int) (by omega) (by omega); unfold Lib.itoa at this; rw [if_neg (by omega), Int.toNat_natCast] at this; omega) (UInt8.ofNat (48 + n % 10)) (by simp [UInt8.toNat_ofNat']; omega) (fun wx => by
        have h1 := ih (n / 10) (by omega) (by omega) wx
        rw [show ((n / 10 : Nat) : Int) = (n : Int) / 10 by omega] at h1
        exact h1)
      rw [dig_step h, ← bsW_app]
      exact this
theorem bsW_cons (c : UInt8) (l : List UInt8) : (⟨#[c]⟩ : ByteArray) ++ bsW l = bsW (c :: l) := by
  apply ByteArray.ext
  simp [bsW, ByteArray.data_append]
set_option maxRecDepth 100000 in
theorem rdigits_any (n : Int) (h1 : -9223372036854775808 ≤ n) (h2 : n ≤ 9223372036854775807) (w : World) :
    Calls Tryd.prog 17 #[.int .i64 n] w fun e w' => e = .returned (.string (bsW (Lib.itoa n))) ∧ Below w.heap.size w w' := by
  by_cases hm : n = -9223372036854775808
  · subst hm
    rw [itoa_min]
    unfold bsW
    have h5 : ((-9223372036854775808 : Int) == -9223372036854775808) = true := by decide
    go_enter Tryd.func17, Tryd.ntmps17
    go_wp2_with fail
    go_ret
    exact ⟨rfl, Below.refl _ _⟩
  · by_cases hneg : n < 0
    · have HD := Lib.hid (rdig_nat n.natAbs (by omega) w)
      have hi : Lib.itoa n = 45 :: Lib.decDigits n.natAbs := by unfold Lib.itoa; rw [if_pos hneg]
      rw [hi, ← bsW_cons]
      have hz : (bsW (Lib.decDigits n.natAbs)).size ≤ 1000 := by
        rw [bsW_size]
        have := Lib.itoa_length_le n (by omega) (by omega)
        rw [hi] at this
        simp only [List.length_cons] at this
        omega
      obtain ⟨r, hr⟩ : ∃ r, r = bsW (Lib.decDigits n.natAbs) := ⟨_, rfl⟩
      rw [← hr] at hz
      have hz2 : ¬ 9223372036854775807 < (⟨#[45]⟩ : ByteArray).size + r.size := by show ¬ 9223372036854775807 < 1 + r.size; omega
      have hz3 : (⟨#[45]⟩ : ByteArray).size = 1 := rfl
      have hw : IntKind.i64.wrap (-n) = -n := IntWalk.i64_in _ ⟨by omega, by omega⟩
      rw [← hr] at HD ⊢
      rw [show ((n.natAbs : Nat) : Int) = -n by omega] at HD
      have h5 : (n == -9223372036854775808) = false := by simp [hm]
      have h6 : -9223372036854775808 < n := by omega
      clear hi hr hm
      go_enter Tryd.func17, Tryd.ntmps17
      go_wp2_with fail
      refine HD.out.mono ?_
      rintro _ w1 ⟨rfl, b1⟩
      go_wp2_with fail
      go_ret
      exact ⟨rfl, b1⟩
    · obtain ⟨u, rfl⟩ := Int.eq_ofNat_of_zero_le (show 0 ≤ n by omega)
      have := rdig_nat u (by omega) w
      unfold Lib.itoa
      rw [if_neg hneg, Int.toNat_natCast]
      exact this
end Go.Proofs.YtfbnigikofidoaaDoor
