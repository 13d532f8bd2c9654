/-
  CONTRACT OF seesawref12.Show: an event's text, by the same plain function as package event's. Conditions: as they stand.
-/
import Derived.Test.YtfbnigikofidoaaDoorYc
import Derived.Deep.DeepCutAuto
import Derived.Deep.CutBlock
namespace Go.Proofs.YtfbnigikofidoaaDoor
set_option maxRecDepth 100000
open Go.RowKit
set_option linter.unusedVariables false
section
variable {a : Act} {w : World} {K : Act → World → Prop} {Q : Exit → Act → World → Prop} {o : Oper}
theorem v_addsp (x : Nat) {s : ByteArray} (hs : s.size ≤ 1000) (ho : o.op = .binOp .add 9 (.tmp x) (.const (.string ⟨#[32]⟩)) 9) (hx : a.tmps[x]?.getD undef = .string s) (hK : K (a.put o.dst (.string (s ++ ⟨#[32]⟩))) w) : Oper.wp Tryd.prog o a w K Q := by
  obtain ⟨dst, op, type, pos, after, guard⟩ := o
  have ho' : op = _ := ho
  subst ho'
  clear ho
  have e3 : (⟨#[32]⟩ : ByteArray).size = 1 := rfl
  have e2 : ¬ 9223372036854775807 < s.size + (⟨#[32]⟩ : ByteArray).size := by omega
  have e4 : ¬ 9223372036854775807 < s.size + 1 := by omega
  go_simp
  exact hK
end
theorem sp_size (s : ByteArray) (hs : s.size ≤ 900) : (s ++ (⟨#[32]⟩ : ByteArray)).size ≤ 1000 := by
  rw [ByteArray.size_append]
  show s.size + 1 ≤ 1000
  omega
noncomputable def regS3R_ops : Array Oper := opsW Tryd.f6 3
def regS3R_ds : List Nat := [10, 11, 12, 13, 14, 15, 16, 17, 4]
set_option maxRecDepth 100000 in
set_option maxHeartbeats 4000000 in
theorem regS3R {id : Nat} {ops : Array Oper} (hops : ops = regS3R_ops) (T0 : Array Value) (hsz : 18 ≤ T0.size) (W : World) (g : Nat) (kd th tx pl v x why : Int) (d1 nm : ByteArray) (hd1 : d1.size ≤ 900) (hn1 : nm.size ≤ 900) (hg : ∀ wx, Below W.heap.size W wx → wx.heap[g]? = some (.cells #[.int .u8 kd, .int .i64 th, .int .i64 tx, .int .i64 pl, .int .i64 v, .int .i64 x, .int .u8 why] 23 (0, 0))) (H1 : ∀ wx, Below W.heap.size W wx → Calls Tryd.prog 17 #[.int .i64 th] wx fun r w' => r = .returned (.string d1) ∧ Below wx.heap.size wx w') (H2 : ∀ wx, Below W.heap.size W wx → Calls Tryd.prog 18 #[.int .u8 kd] wx fun r w' => r = .returned (.string nm) ∧ Below wx.heap.size wx w') (h1 : T0[1]? = some (.pointer (some ⟨g, 0, none⟩))) {Q : Exit → Act → World → Prop}
    (hend : ∀ (us : List Value) (w : World), us.length = 9 → Below W.heap.size W w → us.getD 8 undef = .string (d1 ++ ⟨#[32]⟩ ++ nm) → Q .normal ⟨putAll T0 regS3R_ds us, []⟩ w) : (Code.region id ops true).wp Tryd.prog Q ⟨T0, []⟩ W := by
  subst hops
  have hos : regS3R_ops.size = 9 := by kernel_rfl
  have hga : (List.range 9).all (fun i => match regS3R_ops[i]? with | some o => o.guard == ([none, none, none, none, none, none, none, none, none] : List (Option (Nat × Bool))).getD i none | none => false) = true := by kernel_rfl
  refine wp_region_vals3 ([.pointer (some ⟨g, 1, none⟩), .int .i64 th, .string d1, .string (d1 ++ ⟨#[32]⟩), .pointer (some ⟨g, 0, none⟩), .int .u8 kd, .string nm, .string (d1 ++ ⟨#[32]⟩ ++ nm), .string (d1 ++ ⟨#[32]⟩ ++ nm)] : List Value) [true, true, true, true, true, true, true, true, true] regS3R_ds W T0 (by decide) (fun x hx => ?_) (by kernel_rfl) (by kernel_rfl) (fun i o j want ho hg => ?_) ?_ ?_
  · have hall : (regS3R_ds.all fun d => decide (d < 18)) = true := by decide
    have := List.all_eq_true.1 hall x hx
    simp only [decide_eq_true_eq] at this
    omega
  · have hi : i < 9 := by rw [← hos]; exact (Array.getElem?_eq_some_iff.1 ho).1
    have h1 := List.all_eq_true.1 hga i (by simpa using hi)
    rw [ho] at h1
    simp only [hg, beq_iff_eq] at h1
    match i, hi with
    | 0, _ => cases h1
    | 1, _ => cases h1
    | 2, _ => cases h1
    | 3, _ => cases h1
    | 4, _ => cases h1
    | 5, _ => cases h1
    | 6, _ => cases h1
    | 7, _ => cases h1
    | 8, _ => cases h1
    | i + 9, h => exact absurd (show i + 9 < 9 from h) (by omega)
  · intro i o ho hi hon a w hT hU hb K hK
    have hT0 : ∀ t v, t ∉ regS3R_ds → T0[t]? = some v → a.tmps[t]?.getD undef = v := fun t v ht hv => by rw [hT t ht, hv]; rfl
    match i, hi with
    | 0, _ => exact v_field1 1 (opAtW ho (by kernel_rfl)) (hT0 1 _ (by decide) h1) (hK _ (Below.refl _ _))
    | 1, _ => exact s_loadI 10 (opAtW ho (by kernel_rfl)) (hU 0 (by kernel_rfl) rfl) (cell_of_row w g 1 _ _ _ (hg w hb)) (hK _ (Below.refl _ _))
    | 2, _ => exact d_call 11 (opAtW ho (by kernel_rfl)) (hU 1 (by kernel_rfl) rfl) (H1 w hb) (fun w' hb' => hK w' hb')
    | 3, _ => exact v_addsp 12 (by omega) (opAtW ho (by kernel_rfl)) (hU 2 (by kernel_rfl) rfl) (hK _ (Below.refl _ _))
    | 4, _ => exact v_field0 1 (opAtW ho (by kernel_rfl)) (hT0 1 _ (by decide) h1) (hK _ (Below.refl _ _))
    | 5, _ => exact v_loadB 14 (opAtW ho (by kernel_rfl)) (hU 4 (by kernel_rfl) rfl) (cell_of_row w g 0 _ _ _ (hg w hb)) (hK _ (Below.refl _ _))
    | 6, _ => exact v_nameR 15 (opAtW ho (by kernel_rfl)) (hU 5 (by kernel_rfl) rfl) (H2 w hb) (fun w' hb' => hK w' hb')
    | 7, _ => exact d_adds 13 16 (sp_size d1 hd1) (by omega) (opAtW ho (by kernel_rfl)) (hU 3 (by kernel_rfl) rfl) (hU 6 (by kernel_rfl) rfl) (hK _ (Below.refl _ _))
    | 8, _ => exact v_assign 17 (opAtW ho (by kernel_rfl)) (hU 7 (by kernel_rfl) rfl) (hK _ (Below.refl _ _))
    | i + 9, h => exact absurd (show i + 9 < 9 from h) (by omega)
  · intro us w hu hb hv
    exact hend us w hu hb (hv 8 (by decide) rfl)
theorem join_two (a b : List UInt8) : bsW a ++ (⟨#[32]⟩ : ByteArray) ++ bsW b = bsW (Lib.join [a, b] [32]) := by
  rw [bsW_app]
  apply ByteArray.ext
  simp [bsW, ByteArray.data_append, Lib.join]
theorem join_snocW (l : List (List UInt8)) (hl : l ≠ []) (x : List UInt8) : Lib.join (l ++ [x]) [32] = Lib.join l [32] ++ 32 :: x := by
  induction l with
  | nil => exact absurd rfl hl
  | cons a r ih =>
    cases r with
    | nil => simp [Lib.join]
    | cons b t =>
      have h1 : ∀ (y : List (List UInt8)), y ≠ [] → Lib.join (a :: y) [32] = a ++ 32 :: Lib.join y [32] := fun y hy => by
        cases y with
        | nil => exact absurd rfl hy
        | cons p q => simp [Lib.join, List.intercalate, List.intersperse]
      rw [List.cons_append, h1 _ (by simp), h1 _ (by simp), ih (by simp)]
      simp
theorem app_sp (A x : List UInt8) : bsW A ++ (⟨#[32]⟩ : ByteArray) ++ bsW x = bsW (A ++ 32 :: x) := by
  rw [bsW_app]
  apply ByteArray.ext
  simp [bsW, ByteArray.data_append]
/-- The numbers that a Kind's text tells. -/
def numsF (k : Nat) (c : Nat → Int) : List Int := (partsK k 32 32).map fun p => c p.wh
def textK (th : Int) (k : Nat) (l : List Int) : List UInt8 := Lib.join (Lib.itoa th :: nmL k :: l.map Lib.itoa) [32]
theorem textK_snoc (th : Int) (k : Nat) (l : List Int) (n : Int) : textK th k (l ++ [n]) = textK th k l ++ 32 :: Lib.itoa n := by
  unfold textK
  rw [List.map_append]
  exact join_snocW (Lib.itoa th :: nmL k :: l.map Lib.itoa) (by simp) (Lib.itoa n)
theorem rshow_no (e : Ev) (ok : EvOk e) (h : mayB e 6 32 32 = false) (w : World) (he : Er w) :
    Calls Tryd.prog 6 #[evV e] w fun r w' => r = .returned (showR e) ∧ Below w.heap.size w w' := by
  have HM : Hid (∀ w1, Below w.heap.size w w1 → Calls Tryd.prog 16 #[evV e, .int .i64 6, .int .i64 32, .int .i64 32] w1 fun r w' => r = .returned (.bool false) ∧ Below w1.heap.size w1 w') := fun w1 hb => h ▸ rmay_any e ok 6 32 32 w1 (he.below hb)
  rw [show showR e = .tuple #[.string ⟨#[]⟩, .int .i64 4] by unfold showR; rw [if_neg (by simp [h])]]
  clear he h ok
  obtain ⟨kd, th, tx, pl, v, x, why⟩ := e
  unfold evV at HM ⊢
  simp only at HM ⊢
  go_enter Tryd.func6, Tryd.ntmps6
  go_wp2_with fail
  have hb : Below w.heap.size w (w.alloc (.cells #[.int .u8 kd, .int .i64 th, .int .i64 tx, .int .i64 pl, .int .i64 v, .int .i64 x, .int .u8 why] 23)) := (Below.refl _ _).alloc (Nat.le_refl _) _
  refine (HM.out _ hb).mono ?_
  rintro _ w1 ⟨rfl, b1⟩
  have B1 : Hid (Below w.heap.size w w1) := hb.trans (b1.mono hb.size)
  clear b1 hb HM
  go_wp2_with fail
  go_ret2
  exact ⟨rfl, B1.out⟩
set_option maxHeartbeats 4000000 in
theorem rshow_yes (e : Ev) (ok : EvOk e) (h : mayB e 6 32 32 = true) (w : World) (he : Er w) :
    Calls Tryd.prog 6 #[evV e] w fun r w' => r = .returned (.tuple #[.string (bsW (showF e)), .int .i64 0]) ∧ Below w.heap.size w w' := by
  have HM : Hid (∀ w1, Below w.heap.size w w1 → Calls Tryd.prog 16 #[evV e, .int .i64 6, .int .i64 32, .int .i64 32] w1 fun r w' => r = .returned (.bool true) ∧ Below w1.heap.size w1 w') := fun w1 hb => h ▸ rmay_any e ok 6 32 32 w1 (he.below hb)
  have HDG : Hid (∀ n w1, -9223372036854775808 ≤ n → n ≤ 9223372036854775807 → Calls Tryd.prog 17 #[.int .i64 n] w1 fun r w' => r = .returned (.string (bsW (Lib.itoa n))) ∧ Below w1.heap.size w1 w') := fun n w1 a b => rdigits_any n a b w1
  have hn := may_need h
  obtain ⟨kn, hkn⟩ : ∃ k : Nat, e.kd = k := ⟨e.kd.toNat, by omega⟩
  have HNM : Hid (∀ w1, Below w.heap.size w w1 → Calls Tryd.prog 18 #[.int .u8 e.kd] w1 fun r w' => r = .returned (.string (bsW (nmL kn))) ∧ Below w1.heap.size w1 w') := fun w1 hb => by
    rw [hkn]
    exact (rname_any kn (by omega) w1 (he.below hb)).mono fun r w' ⟨h1, h2⟩ => ⟨h1, h2 ▸ Below.refl _ _⟩
  have HK := Lib.hid hkn
  have hk1 := hn.2.1
  have ht := hn.2.2.1
  obtain ⟨u, hu⟩ : ∃ u, u = showF e := ⟨_, rfl⟩
  rw [← hu]
  have HU := Lib.hid hu
  have HWL := Lib.hid (words_len h)
  have HI := Lib.hid (may_i64 h)
  clear he hn hu hkn h
  obtain ⟨kd, th, tx, pl, v, x, why⟩ := e
  unfold evV at HM ⊢
  simp only at HM HNM HK hk1 ht ⊢
  go_enter Tryd.func6, Tryd.ntmps6
  go_wp2_with fail
  obtain ⟨W0, hW0⟩ : ∃ W0, W0 = w.alloc (.cells #[.int .u8 kd, .int .i64 th, .int .i64 tx, .int .i64 pl, .int .i64 v, .int .i64 x, .int .u8 why] 23) := ⟨_, rfl⟩
  obtain ⟨g, hg⟩ : ∃ g, g = w.heap.size := ⟨_, rfl⟩
  have hr : W0.heap[g]? = some (.cells #[.int .u8 kd, .int .i64 th, .int .i64 tx, .int .i64 pl, .int .i64 v, .int .i64 x, .int .u8 why] 23 (0, 0)) := by rw [hW0, hg]; exact heap_alloc_new w _
  have hb : Below w.heap.size w W0 := by rw [hW0]; exact (Below.refl _ _).alloc (Nat.le_refl _) _
  have HR := Lib.hid hr
  have HB0 := Lib.hid hb
  rw [← hW0, ← hg]
  clear hW0 hg hr hb
  refine (HM.out W0 HB0.out).mono ?_
  rintro _ w1 ⟨rfl, c1⟩
  have B1 := Lib.hid c1
  clear c1 HM
  go_wp2_with fail
  refine regS3R rfl _ (by simp) w1 g kd th tx pl v x why (bsW (Lib.itoa th)) (bsW (nmL kn)) (by rw [bsW_size]; have := Lib.itoa_length_le th (by omega) (by omega); omega) (by rw [bsW_size]; have := HWL.out (nmL kn) (by have := HK.out; simp [wordsF, this]); omega) (fun wx h => row_stays HR.out (B1.out.trans (h.mono B1.out.size))) (fun wx h => HDG.out th wx (by omega) (by omega)) (fun wx h => HNM.out wx (HB0.out.trans ((B1.out.trans (h.mono B1.out.size)).mono HB0.out.size))) rfl ?_
  intro us w5 hu b5 h8
  obtain ⟨z0, z1, z2, z3, z4, z5, z6, z7, z8, rfl⟩ : ∃ z0 z1 z2 z3 z4 z5 z6 z7 z8 : Value, us = [z0, z1, z2, z3, z4, z5, z6, z7, z8] := by
    obtain ⟨z0, r0, rfl, hl0⟩ := cons_ofW hu
    obtain ⟨z1, r1, rfl, hl1⟩ := cons_ofW hl0
    obtain ⟨z2, r2, rfl, hl2⟩ := cons_ofW hl1
    obtain ⟨z3, r3, rfl, hl3⟩ := cons_ofW hl2
    obtain ⟨z4, r4, rfl, hl4⟩ := cons_ofW hl3
    obtain ⟨z5, r5, rfl, hl5⟩ := cons_ofW hl4
    obtain ⟨z6, r6, rfl, hl6⟩ := cons_ofW hl5
    obtain ⟨z7, r7, rfl, hl7⟩ := cons_ofW hl6
    obtain ⟨z8, r8, rfl, hl8⟩ := cons_ofW hl7
    obtain rfl := List.length_eq_zero_iff.1 hl8
    exact ⟨z0, z1, z2, z3, z4, z5, z6, z7, z8, rfl⟩
  obtain rfl : z8 = _ := h8
  have B5 : Hid (Below W0.heap.size W0 w5) := B1.out.trans (b5.mono B1.out.size)
  obtain ⟨x0, x1, x2, x3, x4, x5, x6⟩ := evat (row_stays HR.out B5.out)
  clear hu b5 HNM
  simp only [regS3R_ds, putAll, List.setIfInBounds_toArray, List.set_cons_succ, List.set_cons_zero]
  rw [join_two, show Lib.join [Lib.itoa th, nmL kn] [32] = textK th kn [] from rfl]
  obtain ⟨xs, hxs⟩ : ∃ xs, xs = numsF kn (numC ⟨kd, th, tx, pl, v, x, why⟩) := ⟨_, rfl⟩
  have HXS := Lib.hid hxs
  clear hxs
  go_upto_block 0 with fail
  go_cut [5] (fun lv wx => ∃ A : Option Addr, lv = .slice A xs.length xs.length ∧ Hid (Below W0.heap.size W0 wx ∧ ∀ k : Nat, k < xs.length → ∃ gl : Nat, A = some ⟨gl, 0, none⟩ ∧ wx.heap[gl]? = some (.cells (xs.map (Value.int .i64)).toArray 2 (0, 0))))
  case first =>
    have hkk : kn = 1 ∨ kn = 2 ∨ kn = 3 ∨ kn = 4 ∨ kn = 5 ∨ kn = 6 ∨ kn = 7 ∨ kn = 8 ∨ kn = 9 ∨ kn = 10 ∨ kn = 11 ∨ kn = 12 ∨ kn = 13 := by have := HK.out; omega
    have i1 := ok.w0
    have i2 := ok.w1
    have i3 : wrap64 why = why := by simp only at i1 i2; unfold wrap64; omega
    clear HDG HWL HI ok
    rcases hkk with rfl | rfl | rfl | rfl | rfl | rfl | rfl | rfl | rfl | rfl | rfl | rfl | rfl
    iterate 11
      · obtain rfl := HK.out
        obtain rfl := HXS.out
        go_wp2_with fail
        go_meet
        exact ⟨_, rfl, B5.out.alloc B5.out.size _, fun k _ => ⟨_, rfl, heap_alloc_new w5 _⟩⟩
    iterate 2
      · obtain rfl := HK.out
        obtain rfl := HXS.out
        go_wp2_with fail
        go_meet
        exact ⟨_, rfl, B5.out, fun k hk => absurd hk (Nat.not_lt_zero _)⟩
  case rest =>
    obtain ⟨A, rfl, bc, hrows⟩ := hcut
    have BC := Lib.hid bc
    have HRW := Lib.hid hrows
    clear bc hrows x0 x1 x2 x3 x4 x5 x6
    have HXI : Hid (∀ n ∈ xs, -9223372036854775808 ≤ n ∧ n ≤ 9223372036854775807) := fun n hn => by
      rw [HXS.out] at hn
      obtain ⟨q, _, rfl⟩ := List.mem_map.1 hn
      exact HI.out q.wh
    have HL2 : Hid (xs.length ≤ 2) := by
      show xs.length ≤ 2
      rw [HXS.out]
      unfold numsF
      rw [List.length_map]
      unfold partsK
      split <;> simp
    have HSZ : Hid (∀ k, k ≤ xs.length → (bsW (textK th kn (xs.take k))).size ≤ 200) := fun k hk => by
      have hl := HL2.out
      rw [bsW_size]
      unfold textK
      have hj := join_len (Lib.itoa th :: nmL kn :: (xs.take k).map Lib.itoa) (fun y hy => by
        rcases List.mem_cons.1 hy with rfl | hy
        · exact Lib.itoa_length_le th (by omega) (by omega)
        · rcases List.mem_cons.1 hy with rfl | hy
          · unfold nmL
            split <;> simp
          · obtain ⟨n, hn, rfl⟩ := List.mem_map.1 hy
            have := HXI.out n (List.mem_of_mem_take hn)
            exact Lib.itoa_length_le n this.1 this.2)
      simp only [List.length_cons, List.length_map, List.length_take] at hj
      omega
    have HEND : Hid (u = textK th kn xs) := by
      show u = _
      rw [HU.out, HXS.out]
      unfold showF wordsF textK numsF partW
      simp only [HK.out, Int.toNat_natCast, List.map_map]
      rw [show Lib.itoa th = Lib.decDigits th.toNat by unfold Lib.itoa; rw [if_neg (by omega)]]
      rfl
    clear HU HXS HWL HI ok HR HK
    go_wp2_with fail
    go_loopw [4, 6] (fun sv iv wr => ∃ k : Nat, k ≤ xs.length ∧ iv = .int .i64 k ∧ sv = .string (bsW (textK th kn (xs.take k))) ∧ Hid (Below wc.heap.size wc wr)) (fun _ iv _ => xs.length - (intOf iv).toNat)
    case atStart => exact ⟨0, by omega, rfl, rfl, Below.refl _ _⟩
    case round =>
      obtain ⟨k, hk, rfl, rfl, hB⟩ := hrel
      by_cases hlt : k < xs.length
      · obtain ⟨gl, rfl, hrow⟩ := HRW.out k hlt
        obtain ⟨n, hn⟩ : ∃ n, xs[k]? = some n := ⟨_, List.getElem?_eq_getElem hlt⟩
        have x0 : wr.cell? ⟨gl, k, none⟩ = some (.int .i64 n) := (cell_of_row wr gl k _ _ _ (row_stays hrow hB.out)).trans (by simp [hn])
        have hni := HXI.out n (List.mem_of_getElem? hn)
        have hl2 := HL2.out
        have i2 : (k : Int) < 2 := by omega
        have HD := Lib.hid (HDG.out n)
        have i1 : (k : Int) < (xs.length : Int) := by omega
        have hz := HSZ.out k hk
        have HT : Hid (bsW (textK th kn (xs.take k)) ++ ⟨#[32]⟩ ++ bsW (Lib.itoa n) = bsW (textK th kn (xs.take (k + 1)))) := by
          show _ = _
          rw [app_sp, List.take_add_one, hn]
          exact congrArg bsW (textK_snoc th kn _ n).symm
        obtain ⟨s, hs⟩ : ∃ s, s = bsW (textK th kn (xs.take k)) := ⟨_, rfl⟩
        obtain ⟨d, hd⟩ : ∃ d, d = bsW (Lib.itoa n) := ⟨_, rfl⟩
        have hdz : d.size ≤ 100 := by rw [hd, bsW_size]; have := Lib.itoa_length_le n hni.1 hni.2; omega
        rw [← hs, ← hd] at HT
        rw [← hs] at hz
        rw [← hd] at HD
        rw [← hs]
        have e3 : (⟨#[32]⟩ : ByteArray).size = 1 := rfl
        have e5 : (s ++ (⟨#[32]⟩ : ByteArray)).size = s.size + 1 := ByteArray.size_append
        clear hs hd hrow hn
        go_wp2_with fail
        refine (HD.out wr hni.1 hni.2).mono ?_
        rintro _ w6 ⟨rfl, b6⟩
        have B6 : Hid (Below wc.heap.size wc w6) := hB.out.trans (b6.mono hB.out.size)
        clear b6 x0
        go_wp2_with fail
        refine ⟨?_, ?measure⟩
        · exact ⟨k + 1, by omega, by go_num, by rw [HT.out], B6⟩
        case measure => simp [intOf]; omega
      · obtain rfl : k = xs.length := by omega
        have HT : Hid (bsW (textK th kn (xs.take xs.length)) = bsW u) := by
          show _ = _
          rw [List.take_length, HEND.out]
        rw [HT.out]
        go_wp2_with fail
        go_ret2
        exact ⟨rfl, HB0.out.trans ((BC.out.trans (hB.out.mono BC.out.size)).mono HB0.out.size)⟩
theorem rshow_any (e : Ev) (ok : EvOk e) (w : World) (he : Er w) :
    Calls Tryd.prog 6 #[evV e] w fun r w' => r = .returned (showR e) ∧ Below w.heap.size w w' := by
  cases h : mayB e 6 32 32 with
  | false => exact rshow_no e ok h w he
  | true => rw [showR_yes (showF e) h rfl]; exact rshow_yes e ok h w he
end Go.Proofs.YtfbnigikofidoaaDoor
