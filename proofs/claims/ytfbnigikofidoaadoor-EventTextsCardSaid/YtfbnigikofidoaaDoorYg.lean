/-
  CONTRACT OF seesawref12.number: a word's number, and whether the word is just its text. Laid by gen/gen_yg.py. Conditions: at most 1000 letters.
-/
import Derived.Test.YtfbnigikofidoaaDoorYf
namespace Go.Proofs.YtfbnigikofidoaaDoor
set_option maxRecDepth 100000
open Go.RowKit
set_option linter.unusedVariables false
def NumPost (l : List UInt8) (w : World) (e : Ending) (w' : World) : Prop := ∃ x b, e = .returned (.tuple #[.int .i64 x, .bool b]) ∧ NumOk l x b ∧ Below w.heap.size w w'
theorem emptyW (t : ByteArray) : t.toList.isEmpty = decide (t.size = 0) := by
  rw [ByteArray.toList_eq]
  have h : t.data.toList.length = t.size := by rw [Array.length_toList]; rfl
  cases h2 : t.data.toList with
  | nil => rw [h2] at h; simp at h; simp [← h]
  | cons a r => rw [h2] at h; simp at h; simp [← h]
set_option maxHeartbeats 4000000 in
theorem rnumber_low (s : ByteArray) (hs : s.size ≤ 1000) (h0 : 0 < s.size) (h45 : s[0] = 45) (w : World) :
    Calls Tryd.prog 22 #[.string s] w (NumPost s.data.toList w) := by
  have hl : s.data.toList.length = s.size := by rw [Array.length_toList]; rfl
  have hd : s.data.toList.head? = some s[0] := by rw [List.head?_eq_getElem?, List.getElem?_eq_getElem (by omega)]; rfl
  have i0 : (0 : Int) < (s.size : Int) := by omega
  have hlow : lowF s.data.toList = true := by unfold lowF; rw [hd, h45]; rfl
  have e0 : ((s[0].toNat : Int) == 45) = true := by rw [h45]; rfl
  obtain ⟨t, ht⟩ : ∃ t, t = s.extract 1 s.size := ⟨_, rfl⟩
  have htl : t.data.toList = numT s.data.toList := by
    unfold numT
    rw [hlow, if_pos rfl, ht, extract_bsW, bsW_list, show s.data.toList.take s.size = s.data.toList from List.take_of_length_le (by omega)]
  have hts : t.size = s.size - 1 := by rw [ht, ByteArray.size_extract]; omega
  have HTE := Lib.hid ht
  have HLOW := Lib.hid hlow
  have HTL := Lib.hid htl
  have HS0 := Lib.hid hs
  have hb0 : (s[0].toNat : Int) < 256 := by have := s[0].toNat_lt; omega
  have htz : t.data.toList.length = t.size := by rw [Array.length_toList]; rfl
  clear ht hlow htl hd hl
  by_cases hz : t.size = 0
  · have HN : Hid (NumOk s.data.toList 0 false) := num_empty (by rw [← HTL.out]; exact List.length_eq_zero_iff.1 (by omega))
    have q1 : t.toList.isEmpty = true := by rw [emptyW, decide_eq_true hz]
    clear htz hz
    obtain rfl := HTE.out.symm
    go_enter Tryd.func22, Tryd.ntmps22
    go_wp2_with fail
    go_ret2
    exact ⟨0, false, rfl, HN.out, Below.refl _ _⟩
  · have q1 : t.toList.isEmpty = false := by rw [emptyW, decide_eq_false hz]
    by_cases h19 : 19 < t.size
    · have HN : Hid (NumOk s.data.toList 0 false) := num_long (by rw [← HTL.out]; omega)
      have i19 : (19 : Int) < ((s.size - 1 : Nat) : Int) := by omega
      clear htz hz h19
      obtain rfl := HTE.out.symm
      go_enter Tryd.func22, Tryd.ntmps22
      go_wp2_with fail
      go_ret2
      exact ⟨0, false, rfl, HN.out, Below.refl _ _⟩
    · have i19 : ((s.size - 1 : Nat) : Int) ≤ 19 := by omega
      have HTZ := Lib.hid htz
      have hzz : 0 < t.size := by omega
      clear htz hz h19
      obtain rfl := HTE.out.symm
      go_enter Tryd.func22, Tryd.ntmps22
      go_wp2_with fail
      obtain ⟨t, ht⟩ : ∃ t, t = s.extract 1 s.size := ⟨_, rfl⟩
      rw [← ht] at q1 HTZ hzz hts HTL ⊢
      rw [← hts] at i19
      clear ht HTE
      go_loopw [6, 7] (fun nv iv wr => ∃ k : Nat, k ≤ t.size ∧ iv = .int .i64 k ∧ nv = .int .u64 (valD 0 (t.data.toList.take k) : Nat) ∧ Hid (Digs (t.data.toList.take k)) ∧ wr = w) (fun _ iv _ => t.size - (intOf iv).toNat)
      case atStart => exact ⟨0, by omega, rfl, rfl, (fun c hc => by simp at hc), rfl⟩
      case round =>
        obtain ⟨k, hk, rfl, rfl, hdg, rfl⟩ := hrel
        by_cases hlt : k < t.size
        · have hc : t.data.toList[k]? = some t[k] := by rw [List.getElem?_eq_getElem (by rw [HTZ.out]; exact hlt)]; rfl
          have hb1 : (t[k].toNat : Int) < 256 := by have := t[k].toNat_lt; omega
          by_cases h48 : t[k].toNat < 48
          · have HN : Hid (NumOk s.data.toList 0 false) := num_letter (c := t[k]) (by rw [← HTL.out]; exact List.mem_of_getElem? hc) (by omega)
            have j1 : (t[k].toNat : Int) < 48 := by omega
            clear hc h48
            go_wp2_with fail
            go_ret2
            exact ⟨0, false, rfl, HN.out, Below.refl _ _⟩
          · by_cases h57 : 57 < t[k].toNat
            · have HN : Hid (NumOk s.data.toList 0 false) := num_letter (c := t[k]) (by rw [← HTL.out]; exact List.mem_of_getElem? hc) (by omega)
              have j1 : 57 < (t[k].toNat : Int) := by omega
              have j2 : 48 ≤ (t[k].toNat : Int) := by omega
              clear hc h48 h57
              go_wp2_with fail
              go_ret2
              exact ⟨0, false, rfl, HN.out, Below.refl _ _⟩
            · have j1 : (t[k].toNat : Int) ≤ 57 := by omega
              have j2 : 48 ≤ (t[k].toNat : Int) := by omega
              have hv := valD_lt (t.data.toList.take k) hdg.out 0
              have hp : 10 ^ (t.data.toList.take k).length ≤ 10 ^ 18 := Nat.pow_le_pow_right (by omega) (by rw [List.length_take]; omega)
              have hv2 : valD 0 (t.data.toList.take k) < 1000000000000000000 := by omega
              have HV : Hid ((valD 0 (t.data.toList.take k) : Int) * 10 + ((t[k].toNat : Int) - 48) = (valD 0 (t.data.toList.take (k + 1)) : Nat)) := by
                show _ = _
                rw [valD_next hc]
                omega
              have HD : Hid (Digs (t.data.toList.take (k + 1))) := fun c hc2 => by
                rw [take_next hc] at hc2
                rcases List.mem_append.1 hc2 with h | h
                · exact hdg.out c h
                · rw [List.mem_singleton] at h
                  subst h
                  omega
              obtain ⟨n, hn⟩ : ∃ n, n = valD 0 (t.data.toList.take k) := ⟨_, rfl⟩
              rw [← hn] at HV hv2 ⊢
              have j3 : (n : Int) < 1000000000000000000 := by omega
              have e48 : decide ((t[k].toNat : Int) < 48) = false := decide_eq_false (by omega)
              have e57 : decide (57 < (t[k].toNat : Int)) = false := decide_eq_false (by omega)
              have x1 : IntKind.u8.wrap ((t[k].toNat : Int) - 48) = (t[k].toNat : Int) - 48 := IntWalk.u8_in _ (by omega)
              have x2 : IntKind.u64.wrap ((n : Int) * 10) = (n : Int) * 10 := IntWalk.u64_in _ (by omega)
              have x3 : IntKind.u64.wrap ((t[k].toNat : Int) - 48) = (t[k].toNat : Int) - 48 := IntWalk.u64_in _ (by omega)
              have x4 : IntKind.u64.wrap ((n : Int) * 10 + ((t[k].toNat : Int) - 48)) = (n : Int) * 10 + ((t[k].toNat : Int) - 48) := IntWalk.u64_in _ (by omega)
              clear hc h48 h57 hv hp hn hv2 j1 j2 j3
              go_wp2_with fail
              refine ⟨?_, ?measure⟩
              · exact ⟨k + 1, by omega, by go_num, by rw [HV.out], HD, trivial⟩
              case measure => simp [intOf]; omega
        · obtain rfl : k = t.size := by omega
          have HX : Hid (numX s.data.toList = w64 (-(w64 (valD 0 (t.data.toList.take t.size) : Nat)))) := by
            show _ = _
            unfold numX
            rw [HLOW.out, ← HTL.out, if_pos rfl, show t.data.toList.take t.size = t.data.toList from List.take_of_length_le (by rw [HTZ.out]; exact Nat.le_refl _)]
          have HE : Hid (NumOk s.data.toList (numX s.data.toList) (Lib.itoa (numX s.data.toList) == s.data.toList)) := num_end
          obtain ⟨v, hv⟩ : ∃ v, v = valD 0 (t.data.toList.take t.size) := ⟨_, rfl⟩
          obtain ⟨X, hX⟩ : ∃ X, X = numX s.data.toList := ⟨_, rfl⟩
          rw [← hv, ← hX] at HX
          rw [← hX] at HE
          rw [← hv]
          have HR : Hid (∀ w1, Calls Tryd.prog 17 #[.int .i64 X] w1 fun r w' => r = .returned (.string (bsW (Lib.itoa X))) ∧ Below w1.heap.size w1 w') := fun w1 => rdigits_any X HE.out.rng.1 HE.out.rng.2 w1
          obtain ⟨Y, hY⟩ : ∃ Y, Y = w64 (v : Int) := ⟨_, rfl⟩
          have hYr : -9223372036854775808 ≤ Y ∧ Y ≤ 9223372036854775807 := by rw [hY]; unfold w64; omega
          rw [← hY] at HX
          have x5 : IntKind.i64.wrap (v : Int) = Y := by rw [IntKind.wrap_i64, hY]; unfold w64; omega
          have x5' : wrap64 (v : Int) = Y := by rw [hY]; unfold wrap64 w64; omega
          have x6 : IntKind.i64.wrap (-Y) = X := by rw [IntKind.wrap_i64, HX.out]; unfold w64; omega
          have x6' : wrap64 (-Y) = X := by rw [HX.out]; unfold wrap64 w64; omega
          clear hY
          have ht : ((bsW (Lib.itoa X)).toList == s.toList) = (Lib.itoa X == s.data.toList) := testW _ _
          obtain ⟨d, hd⟩ : ∃ d, d = bsW (Lib.itoa X) := ⟨_, rfl⟩
          obtain ⟨b, hb⟩ : ∃ b, b = (Lib.itoa X == s.data.toList) := ⟨_, rfl⟩
          rw [← hb] at ht HE
          rw [← hd] at ht HR
          clear hv hX hd hb HTL HTZ HLOW hdg HX
          go_wp2_with fail
          refine (HR.out _).mono ?_
          rintro _ w1 ⟨rfl, b1⟩
          have B1 := Lib.hid b1
          clear b1
          go_wp2_with fail
          go_ret2
          exact ⟨X, b, rfl, HE.out, B1.out⟩
set_option maxHeartbeats 4000000 in
theorem rnumber_up (s : ByteArray) (hs : s.size ≤ 1000) (h0 : 0 < s.size) (h45 : s[0] ≠ 45) (w : World) :
    Calls Tryd.prog 22 #[.string s] w (NumPost s.data.toList w) := by
  have hl : s.data.toList.length = s.size := by rw [Array.length_toList]; rfl
  have hd : s.data.toList.head? = some s[0] := by rw [List.head?_eq_getElem?, List.getElem?_eq_getElem (by omega)]; rfl
  have i0 : (0 : Int) < (s.size : Int) := by omega
  have hlow : lowF s.data.toList = false := by unfold lowF; rw [hd]; simpa using h45
  have e0 : ((s[0].toNat : Int) == 45) = false := by
    have : s[0].toNat ≠ 45 := fun h => h45 (by apply UInt8.toNat_inj.1; rw [h]; rfl)
    simp
    omega
  obtain ⟨t, ht⟩ : ∃ t, t = s := ⟨_, rfl⟩
  have htl : t.data.toList = numT s.data.toList := by
    unfold numT
    rw [hlow, if_neg (by decide), ht]
  have hts : t.size = s.size := by rw [ht]
  have HTE := Lib.hid ht
  have HLOW := Lib.hid hlow
  have HTL := Lib.hid htl
  have HS0 := Lib.hid hs
  have hb0 : (s[0].toNat : Int) < 256 := by have := s[0].toNat_lt; omega
  have htz : t.data.toList.length = t.size := by rw [Array.length_toList]; rfl
  clear ht hlow htl hd hl
  by_cases hz : t.size = 0
  · have HN : Hid (NumOk s.data.toList 0 false) := num_empty (by rw [← HTL.out]; exact List.length_eq_zero_iff.1 (by omega))
    have q1 : t.toList.isEmpty = true := by rw [emptyW, decide_eq_true hz]
    clear htz hz
    obtain rfl := HTE.out.symm
    go_enter Tryd.func22, Tryd.ntmps22
    go_wp2_with fail
    go_ret2
    exact ⟨0, false, rfl, HN.out, Below.refl _ _⟩
  · have q1 : t.toList.isEmpty = false := by rw [emptyW, decide_eq_false hz]
    by_cases h19 : 19 < t.size
    · have HN : Hid (NumOk s.data.toList 0 false) := num_long (by rw [← HTL.out]; omega)
      have i19 : (19 : Int) < ((s.size : Nat) : Int) := by omega
      clear htz hz h19
      obtain rfl := HTE.out.symm
      go_enter Tryd.func22, Tryd.ntmps22
      go_wp2_with fail
      go_ret2
      exact ⟨0, false, rfl, HN.out, Below.refl _ _⟩
    · have i19 : ((s.size : Nat) : Int) ≤ 19 := by omega
      have HTZ := Lib.hid htz
      have hzz : 0 < t.size := by omega
      clear htz hz h19
      obtain rfl := HTE.out.symm
      go_enter Tryd.func22, Tryd.ntmps22
      go_wp2_with fail
      go_loopw [6, 7] (fun nv iv wr => ∃ k : Nat, k ≤ s.size ∧ iv = .int .i64 k ∧ nv = .int .u64 (valD 0 (s.data.toList.take k) : Nat) ∧ Hid (Digs (s.data.toList.take k)) ∧ wr = w) (fun _ iv _ => s.size - (intOf iv).toNat)
      case atStart => exact ⟨0, by omega, rfl, rfl, (fun c hc => by simp at hc), rfl⟩
      case round =>
        obtain ⟨k, hk, rfl, rfl, hdg, rfl⟩ := hrel
        by_cases hlt : k < s.size
        · have hc : s.data.toList[k]? = some s[k] := by rw [List.getElem?_eq_getElem (by rw [HTZ.out]; exact hlt)]; rfl
          have hb1 : (s[k].toNat : Int) < 256 := by have := s[k].toNat_lt; omega
          by_cases h48 : s[k].toNat < 48
          · have HN : Hid (NumOk s.data.toList 0 false) := num_letter (c := s[k]) (by rw [← HTL.out]; exact List.mem_of_getElem? hc) (by omega)
            have j1 : (s[k].toNat : Int) < 48 := by omega
            clear hc h48
            go_wp2_with fail
            go_ret2
            exact ⟨0, false, rfl, HN.out, Below.refl _ _⟩
          · by_cases h57 : 57 < s[k].toNat
            · have HN : Hid (NumOk s.data.toList 0 false) := num_letter (c := s[k]) (by rw [← HTL.out]; exact List.mem_of_getElem? hc) (by omega)
              have j1 : 57 < (s[k].toNat : Int) := by omega
              have j2 : 48 ≤ (s[k].toNat : Int) := by omega
              clear hc h48 h57
              go_wp2_with fail
              go_ret2
              exact ⟨0, false, rfl, HN.out, Below.refl _ _⟩
            · have j1 : (s[k].toNat : Int) ≤ 57 := by omega
              have j2 : 48 ≤ (s[k].toNat : Int) := by omega
              have hv := valD_lt (s.data.toList.take k) hdg.out 0
              have hp : 10 ^ (s.data.toList.take k).length ≤ 10 ^ 18 := Nat.pow_le_pow_right (by omega) (by rw [List.length_take]; omega)
              have hv2 : valD 0 (s.data.toList.take k) < 1000000000000000000 := by omega
              have HV : Hid ((valD 0 (s.data.toList.take k) : Int) * 10 + ((s[k].toNat : Int) - 48) = (valD 0 (s.data.toList.take (k + 1)) : Nat)) := by
                show _ = _
                rw [valD_next hc]
                omega
              have HD : Hid (Digs (s.data.toList.take (k + 1))) := fun c hc2 => by
                rw [take_next hc] at hc2
                rcases List.mem_append.1 hc2 with h | h
                · exact hdg.out c h
                · rw [List.mem_singleton] at h
                  subst h
                  omega
              obtain ⟨n, hn⟩ : ∃ n, n = valD 0 (s.data.toList.take k) := ⟨_, rfl⟩
              rw [← hn] at HV hv2 ⊢
              have j3 : (n : Int) < 1000000000000000000 := by omega
              have e48 : decide ((s[k].toNat : Int) < 48) = false := decide_eq_false (by omega)
              have e57 : decide (57 < (s[k].toNat : Int)) = false := decide_eq_false (by omega)
              have x1 : IntKind.u8.wrap ((s[k].toNat : Int) - 48) = (s[k].toNat : Int) - 48 := IntWalk.u8_in _ (by omega)
              have x2 : IntKind.u64.wrap ((n : Int) * 10) = (n : Int) * 10 := IntWalk.u64_in _ (by omega)
              have x3 : IntKind.u64.wrap ((s[k].toNat : Int) - 48) = (s[k].toNat : Int) - 48 := IntWalk.u64_in _ (by omega)
              have x4 : IntKind.u64.wrap ((n : Int) * 10 + ((s[k].toNat : Int) - 48)) = (n : Int) * 10 + ((s[k].toNat : Int) - 48) := IntWalk.u64_in _ (by omega)
              clear hc h48 h57 hv hp hn hv2 j1 j2 j3
              go_wp2_with fail
              refine ⟨?_, ?measure⟩
              · exact ⟨k + 1, by omega, by go_num, by rw [HV.out], HD, trivial⟩
              case measure => simp [intOf]; omega
        · obtain rfl : k = s.size := by omega
          have HX : Hid (numX s.data.toList = w64 (valD 0 (s.data.toList.take s.size) : Nat)) := by
            show _ = _
            unfold numX
            rw [HLOW.out, ← HTL.out, if_neg (by decide), show s.data.toList.take s.size = s.data.toList from List.take_of_length_le (by rw [HTZ.out]; exact Nat.le_refl _)]
          have HE : Hid (NumOk s.data.toList (numX s.data.toList) (Lib.itoa (numX s.data.toList) == s.data.toList)) := num_end
          obtain ⟨v, hv⟩ : ∃ v, v = valD 0 (s.data.toList.take s.size) := ⟨_, rfl⟩
          obtain ⟨X, hX⟩ : ∃ X, X = numX s.data.toList := ⟨_, rfl⟩
          rw [← hv, ← hX] at HX
          rw [← hX] at HE
          rw [← hv]
          have HR : Hid (∀ w1, Calls Tryd.prog 17 #[.int .i64 X] w1 fun r w' => r = .returned (.string (bsW (Lib.itoa X))) ∧ Below w1.heap.size w1 w') := fun w1 => rdigits_any X HE.out.rng.1 HE.out.rng.2 w1
          have x5 : IntKind.i64.wrap (v : Int) = X := by rw [IntKind.wrap_i64, HX.out]; unfold w64; omega
          have x5' : wrap64 (v : Int) = X := by rw [HX.out]; unfold wrap64 w64; omega
          have ht : ((bsW (Lib.itoa X)).toList == s.toList) = (Lib.itoa X == s.data.toList) := testW _ _
          obtain ⟨d, hd⟩ : ∃ d, d = bsW (Lib.itoa X) := ⟨_, rfl⟩
          obtain ⟨b, hb⟩ : ∃ b, b = (Lib.itoa X == s.data.toList) := ⟨_, rfl⟩
          rw [← hb] at ht HE
          rw [← hd] at ht HR
          clear hv hX hd hb HTL HTZ HLOW hdg HX
          go_wp2_with fail
          refine (HR.out _).mono ?_
          rintro _ w1 ⟨rfl, b1⟩
          have B1 := Lib.hid b1
          clear b1
          go_wp2_with fail
          go_ret2
          exact ⟨X, b, rfl, HE.out, B1.out⟩
set_option maxHeartbeats 1000000 in
theorem rnumber_nil (s : ByteArray) (h0 : s.size = 0) (w : World) :
    Calls Tryd.prog 22 #[.string s] w (NumPost s.data.toList w) := by
  have hl : s.data.toList.length = s.size := by rw [Array.length_toList]; rfl
  have hn : s.data.toList = [] := List.length_eq_zero_iff.1 (by omega)
  have HN : Hid (NumOk s.data.toList 0 false) := num_empty (by rw [hn]; rfl)
  obtain rfl : s = ⟨#[]⟩ := by rw [← bsW_of s, hn]; rfl
  clear hl hn h0
  go_enter Tryd.func22, Tryd.ntmps22
  go_wp2_with fail
  go_ret2
  exact ⟨0, false, rfl, HN.out, Below.refl _ _⟩
theorem rnumber_any (s : ByteArray) (hs : s.size ≤ 1000) (w : World) :
    Calls Tryd.prog 22 #[.string s] w (NumPost s.data.toList w) := by
  by_cases h0 : s.size = 0
  · exact rnumber_nil s h0 w
  · by_cases h : s[0] = 45
    · exact rnumber_low s hs (by omega) h w
    · exact rnumber_up s hs (by omega) h w
end Go.Proofs.YtfbnigikofidoaaDoor
