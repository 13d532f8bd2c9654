/-
  FrameAdded (P3.6): of three texts, as long as one another, put together byte by byte (exclusive or), the sum is what their sums, put together, are: the statement holds for every input. Conditions: none beyond the statement's own (texts of at most 20000 bytes).
-/
import Derived.Test.YtianpbgnfdkpmaaFk
import Derived.Test.YtianpbgnfdkpmaaFw
import Derived.Test.YtianpbgnfdkpmaaLift
import Derived.WalkLawsBesides
import Derived.RegionTactic
import Derived.Deep.RegionWith
import Derived.Deep.DeepCutAuto
import Derived.Deep.CutBlock
namespace Go.Proofs.Ytianpbgnfdkpmaa
open Go.ChangeShapes Go.WideShapes Go.ChangeAt Go.RowKit Go.ChangeMaps
set_option linter.unusedVariables false

set_option maxRecDepth 100000 in
theorem added_long (a b c : ByteArray) (h : 20000 < a.size ∨ 20000 < b.size ∨ 20000 < c.size) (w : World) :
    Calls Try.prog 7 #[.string a, .string b, .string c] w fun e w' => e = .returned (.bool true) ∧ Below w.heap.size w w' := by
  rcases (by omega : 20000 < a.size ∨ (a.size ≤ 20000 ∧ 20000 < b.size) ∨ (a.size ≤ 20000 ∧ b.size ≤ 20000 ∧ 20000 < c.size)) with h1 | ⟨h1, h2⟩ | ⟨h1, h2, h3⟩
  all_goals
    clear h
    go_enter Try.func7, Try.ntmps7
    go_wp2_with fail
    refine (works_any _).mono ?_
    rintro e w1 ⟨rfl, b1⟩
    go_wp2_with fail
    refine (works_any _).mono ?_
    rintro e w2 ⟨rfl, b2⟩
    go_wp2_with fail
    go_ret
    exact ⟨rfl, b1.trans (b2.mono b1.size)⟩

theorem below_drew' {w w3 : World} (h : Below w.drew.heap.size w.drew w3) : Below w.heap.size w w3 := ((Below.refl _ _).drew).trans (h.mono (by simp))
/-- k bytes are put together. -/
def addL (a b c : ByteArray) (n k : Nat) : List UInt8 := (List.range n).map fun j => if j < k then (bytes a).getD j 0 ^^^ (bytes b).getD j 0 ^^^ (bytes c).getD j 0 else 0
theorem addL_length (a b c : ByteArray) (n k : Nat) : (addL a b c n k).length = n := by simp [addL]
theorem addL_zero (a b c : ByteArray) (n : Nat) : addL a b c n 0 = List.replicate n 0 := by
  apply List.ext_getElem (by simp [addL])
  intro j h1 h2
  simp [addL]
theorem getD_at (a : ByteArray) (k : Nat) (h : k < a.size) : (bytes a).getD k 0 = a[k] := by
  have h' : k < (bytes a).length := by rw [bytes_length]; exact h
  rw [List.getD_eq_getElem?_getD, List.getElem?_eq_getElem h']
  rfl
theorem addL_step (a b c : ByteArray) (n k : Nat) (ha : k < a.size) (hb : k < b.size) (hc : k < c.size) (hn : k < n) :
    (addL a b c n k).set k (a[k] ^^^ b[k] ^^^ c[k]) = addL a b c n (k + 1) := by
  apply List.ext_getElem (by simp [addL])
  intro j h1 h2
  rw [List.getElem_set]
  by_cases e : k = j
  · subst e
    rw [if_pos rfl, ← getD_at a k ha, ← getD_at b k hb, ← getD_at c k hc]
    simp only [addL, List.getElem_map, List.getElem_range]
    rw [if_pos (by omega)]
  · rw [if_neg e]
    simp only [addL, List.getElem_map, List.getElem_range]
    by_cases hj : j < k
    · rw [if_pos hj, if_pos (by omega)]
    · rw [if_neg hj, if_neg (by omega)]
theorem xor_three (x y z : UInt8) : bits .xor .u8 (bits .xor .u8 (x.toNat : Int) (y.toNat : Int)) (z.toNat : Int) = ((x ^^^ y ^^^ z).toNat : Int) := by
  rw [u8_xor_nat _ _ x.toNat_lt y.toNat_lt, ← UInt8.toNat_xor, u8_xor_nat _ _ (x ^^^ y).toNat_lt z.toNat_lt, ← UInt8.toNat_xor]

theorem nats_extract (a : ByteArray) (k : Nat) (h : k ≤ a.size) : nats (a.extract 0 k) = (List.range k).map fun j => ((bytes a).getD j 0).toNat := by
  apply List.ext_getElem
  · rw [nats_length, ByteArray.size_extract, List.length_map, List.length_range]
    omega
  intro j h1 h2
  have hj : j < k := by simpa using h2
  simp only [nats_bytes, bytes_extract, List.drop_zero, List.getElem_map, List.getElem_take, List.getElem_range]
  rw [List.getD_eq_getElem?_getD, List.getElem?_eq_getElem (by rw [bytes_length]; omega)]
  rfl
theorem sums_added (a b c : ByteArray) (k : Nat) (ha : k ≤ a.size) (hb : k ≤ b.size) (hc : k ≤ c.size) :
    Fm.sum (nats ⟨(addL a b c k k).toArray⟩) = Fm.sum (nats (a.extract 0 k)) ^^^ Fm.sum (nats (b.extract 0 k)) ^^^ Fm.sum (nats (c.extract 0 k)) := by
  rw [nats_extract a k ha, nats_extract b k hb, nats_extract c k hc, ← Fm.sum_three _ _ _ (by simp) (by simp)]
  congr 1
  apply List.ext_getElem (by simp [nats, addL, Fm.zip2])
  intro j h1 h2
  have hj : j < k := by simpa [nats, addL] using h1
  simp [nats, addL, Fm.zip2, hj]

set_option maxRecDepth 100000 in
set_option maxHeartbeats 4000000 in
theorem added_short (a b c : ByteArray) (h1 : a.size ≤ 20000) (h2 : b.size ≤ 20000) (h3 : c.size ≤ 20000) (w : World) :
    Calls Try.prog 7 #[.string a, .string b, .string c] w fun e w' => e = .returned (.bool true) ∧ Below w.heap.size w w' := by
  go_enter Try.func7, Try.ntmps7
  go_wp2_with fail
  refine (works_any _).mono ?_
  rintro e w1 ⟨rfl, b1⟩
  go_upto_region 3 with fail
  go_cut [7] (fun v wx => ∃ n : Nat, v = .int .i64 n ∧ n ≤ a.size ∧ n ≤ b.size ∧ n ≤ c.size ∧ wx = w1)
  case first =>
    go_wp2_with fail
    · go_meet
      exact ⟨_, rfl, by omega, by omega, by omega, rfl⟩
    · go_meet
      exact ⟨_, rfl, by omega, by omega, by omega, rfl⟩
    · go_meet
      exact ⟨_, rfl, by omega, by omega, by omega, rfl⟩
  obtain ⟨n, rfl, n1, n2, n3, rfl⟩ := hcut
  obtain ⟨M, HM, HB⟩ := make_bytes n (by omega)
  have HB2 := Lib.hid HB
  clear HB
  go_wp2_with fail
  have r0 := HB2.out wc
  rw [← addL_zero a b c n] at r0
  have b0 : Below w.heap.size w (wc.alloc (.cells M 5)) := b1.alloc b1.size _
  have z0 : wc.heap.size < (wc.alloc (.cells M 5)).heap.size := by simp
  have hB := b1.size
  obtain ⟨g, hg⟩ : ∃ g, g = wc.heap.size := ⟨_, rfl⟩
  obtain ⟨W, hW⟩ : ∃ W, W = wc.alloc (.cells M 5) := ⟨_, rfl⟩
  rw [← hg] at r0 z0 hB ⊢
  rw [← hW] at r0 b0 z0 ⊢
  clear hW hg HM HB2 b1
  go_loopw [9] (fun i wr => ∃ k : Nat, k ≤ n ∧ i = .int .i64 k ∧ BRow wr g (addL a b c n k) ∧ Below w.heap.size w wr ∧ g < wr.heap.size) (fun i _ => n - (intOf i).toNat)
  case atStart => exact ⟨0, by omega, rfl, r0, b0, z0⟩
  case round =>
    obtain ⟨k, hk, rfl, hr, hb, hz⟩ := hrel
    by_cases hlt : k < n
    · have hl3 : k < (addL a b c n k).length := by rw [addL_length]; exact hlt
      obtain ⟨v0, hcell⟩ : ∃ v0, wr.cell? ⟨g, k, none⟩ = some v0 := ⟨_, (hr k hl3).1⟩
      have hfz := (hr k hl3).2
      have hka : k < a.size := by omega
      have hkb : k < b.size := by omega
      have hkc : k < c.size := by omega
      have g1 : (0 : Int) ≤ (k : Int) := by omega
      have g2 : (k : Int) < (n : Int) := by omega
      have g3 : (k : Int) < (a.size : Int) := by omega
      have g4 : (k : Int) < (b.size : Int) := by omega
      have g5 : (k : Int) < (c.size : Int) := by omega
      have hst := Lib.hid (addL_step a b c n k hka hkb hkc hlt)
      have HR := Lib.hid hr
      clear hr hl3
      go_wp2
      go_region
      have hs2 := HR.out.store k (a[k] ^^^ b[k] ^^^ c[k]) _ (by rw [addL_length]; exact hlt) (xor_three a[k] b[k] c[k])
      rw [hst.out] at hs2
      go_wp2
      go_roundw
      case rel => exact ⟨k + 1, by omega, by go_num, hs2, (hb.setCell hB _).drew, by simpa using hz⟩
      case measure => simp [intOf]; omega
    · obtain rfl : k = n := by omega
      have HC := hr.text (P := Try.prog) 27 9 5 k k u_bytes u_byte u_string (by rw [addL_length])
      have HC2 := hr.drew.text (P := Try.prog) 27 9 5 k k u_bytes u_byte u_string (by rw [addL_length])
      have HD := Lib.hid (Sum_any ⟨(addL a b c k k).toArray⟩ (by show (addL a b c k k).toArray.size ≤ _; rw [List.size_toArray, addL_length]; omega))
      have HA := Lib.hid (Sum_any (a.extract 0 k) (by rw [ByteArray.size_extract]; omega))
      have HBB := Lib.hid (Sum_any (b.extract 0 k) (by rw [ByteArray.size_extract]; omega))
      have HCC := Lib.hid (Sum_any (c.extract 0 k) (by rw [ByteArray.size_extract]; omega))
      have hsum := sums_added a b c k n1 n2 n3
      obtain ⟨sd, hsd⟩ : ∃ sd, sd = Fm.sum (nats ⟨(addL a b c k k).toArray⟩) := ⟨_, rfl⟩
      obtain ⟨sa, hsa⟩ : ∃ sa, sa = Fm.sum (nats (a.extract 0 k)) := ⟨_, rfl⟩
      obtain ⟨sb, hsb⟩ : ∃ sb, sb = Fm.sum (nats (b.extract 0 k)) := ⟨_, rfl⟩
      obtain ⟨sc, hsc⟩ : ∃ sc, sc = Fm.sum (nats (c.extract 0 k)) := ⟨_, rfl⟩
      have la : sa < 4294967296 := by rw [hsa]; exact sum_lt _ (nats_lt _)
      have lb : sb < 4294967296 := by rw [hsb]; exact sum_lt _ (nats_lt _)
      have lc : sc < 4294967296 := by rw [hsc]; exact sum_lt _ (nats_lt _)
      rw [← hsd] at HD hsum
      rw [← hsa] at HA hsum
      rw [← hsb] at HBB hsum
      rw [← hsc] at HCC hsum
      clear hsa hsb hsc hsd hr
      have e1 : bits .xor .u32 (sa : Int) (sb : Int) = ((sa ^^^ sb : Nat) : Int) := u32_xor_nat sa sb la lb
      have e2 : bits .xor .u32 ((sa ^^^ sb : Nat) : Int) (sc : Int) = (sd : Int) := by
        rw [u32_xor_nat _ _ (Nat.xor_lt_two_pow (n := 32) la lb) lc, hsum]
      clear hsum
      go_upto_region 9 with fail
      have g1 : (0 : Int) ≤ (k : Int) := by omega
      have g3 : (k : Int) ≤ (a.size : Int) := by omega
      have g4 : (k : Int) ≤ (b.size : Int) := by omega
      have g5 : (k : Int) ≤ (c.size : Int) := by omega
      clear hlt hk
      go_region_with (first
        | (go_at_call 13; (with_reducible refine (HD.out _).mono ?_); rintro e wd ⟨rfl, bd⟩)
        | (go_at_call 13; (with_reducible refine (HA.out _).mono ?_); rintro e wa ⟨rfl, ba⟩)
        | (go_at_call 13; (with_reducible refine (HBB.out _).mono ?_); rintro e wb ⟨rfl, bb⟩)
        | (go_at_call 13; (with_reducible refine (HCC.out _).mono ?_); rintro e wx ⟨rfl, bx⟩))
      have c1 := hb.trans ((below_drew' bd).mono hb.size)
      have c2 := c1.trans (ba.mono c1.size)
      have c3 := c2.trans (bb.mono c2.size)
      have c4 := c3.trans (bx.mono c3.size)
      clear bd ba bb bx c1 c2 c3
      go_wp2
      go_ret
      exact ⟨rfl, c4⟩

theorem FrameAdded_walk (a b c : ByteArray) (h1 : a.size ≤ maxLen) (h2 : b.size ≤ maxLen) (h3 : c.size ≤ maxLen) (w : World) :
    Calls Try.prog 7 #[.string a, .string b, .string c] w fun e w' => e = .returned (.bool true) ∧ Below w.heap.size w w' := by
  by_cases h : 20000 < a.size ∨ 20000 < b.size ∨ 20000 < c.size
  · exact added_long a b c h w
  · exact added_short a b c (by omega) (by omega) (by omega) w

set_option maxRecDepth 100000 in
theorem FrameAdded_lifted (os : Os) (started : os.Started) (H : Type) (enc : TypeId × Value → H) :
    ReturnsInHanded {} Try.checked os 7 .any (Rows.frameAddedSpec.pre6 enc Try.prog Try.f7 Rows.frameAddedRow.domain false) (Rows.frameAddedSpec.post enc Try.prog Try.f7 false true false false) := by
  refine returnsInHanded_of_change (C := Try.checked) lift_own started (by kernel_rfl) Try.func7
    (ChangeSpec.witness6 (enc := enc) (C := Try.checked) false ⟨#[], #[.string ⟨#[]⟩, .string ⟨#[]⟩, .string ⟨#[]⟩], []⟩ 8 (by kernel_rfl) (by kernel_rfl) (by kernel_rfl) (by kernel_rfl)) ?_
  intro W base args ds gs before hval0 hW hcnd _
  have hval : ∀ (j : Nat) t v, Try.f7.params[j]? = some t → args[j]? = some v → Value.okWide Try.prog W .any base t v := hval0
  have hW' := hW
  obtain ⟨p, q, hA0, hV, rfl, hfz, hnd⟩ := hW
  have hA : DataW.TrodAll enc Try.prog W 0 (fun _ => true) true Try.f7.params.toList args.toList ds p := hA0
  rw [Try.params7] at hA hval
  obtain ⟨v0, vs0, d0, ds0, p0, q0, hargs, rfl, rfl, h0, r0⟩ := trodAll_cons hA
  obtain ⟨v1, vs1, d1, ds1, p1, q1, rfl, rfl, rfl, h1, r1⟩ := trodAll_cons r0
  obtain ⟨v2, vs2, d2, ds2, p2, q2, rfl, rfl, rfl, h2, r2⟩ := trodAll_cons r1
  obtain ⟨rfl, rfl, rfl⟩ := trodAll_nil r2
  obtain rfl : args = #[v0, v1, v2] := by cases args; simp_all
  obtain ⟨rfl, rfl⟩ := trodVars_none hV
  obtain ⟨a0, rfl, rfl, rfl, w0⟩ := open_string Try.underlying9 (hval 0 9 v0 rfl rfl) h0
  obtain ⟨a1, rfl, rfl, rfl, w1⟩ := open_string Try.underlying9 (hval 1 9 v1 rfl rfl) h1
  obtain ⟨a2, rfl, rfl, rfl, w2⟩ := open_string Try.underlying9 (hval 2 9 v2 rfl rfl) h2
  clear hA0 hval0
  simp only [List.append_nil] at hW'
  refine (FrameAdded_walk a0 a1 a2 w0 w1 w2 W).mono fun e W' ⟨he, hg⟩ => ?_
  subst he
  exact ⟨_, rfl, lift_post (pa := []) (pv := []) hW' (fun _ _ _ => (trodAll_cons_mk (shut_bool Try.underlying4 _) trodAll_mk0)) (fun sp _ => (trodAll_cons_mk (shut_string Try.underlying9 w0) (trodAll_cons_mk (shut_string Try.underlying9 w1) (trodAll_cons_mk (shut_string Try.underlying9 w2) trodAll_mk0)))) (fun _ _ => rfl) rfl
    hg (ok_one (by kernel_rfl) rfl (okWide_bool_mk Try.underlying4 _))⟩

/-- THE STATEMENT of FrameAdded: for every input the call returns true, and each argument reads behind it as before. -/
theorem FrameAdded_holds : Rows.FrameAddedSaid :=
  OpenClaim.holds_of_wide 7 Try.f7 rfl rfl rfl rfl rfl rfl rfl ⟨rfl, rfl, rfl, rfl, rfl⟩ rfl rfl rfl rfl rfl (by kernel_rfl) Try.func7 (by kernel_rfl)
    (of_decide_eq_true (by kernel_rfl)) (by unfold Func.isWrapper; first | (rw [if_pos (by decide +kernel)]; kernel_rfl) | (rw [if_neg (by decide +kernel)]; exact ⟨rfl, rfl⟩))
    (fun os started H enc _ => FrameAdded_lifted os started H enc)
end Go.Proofs.Ytianpbgnfdkpmaa
