/-
  BytesBack (P2.3, the stage's theorem): what was written is read, one behind the other; then nothing is left: the statement holds for every input. Conditions: none beyond the statement's own (at most 300 steps, texts of at most 1000 bytes).
-/
import Derived.Test.YtieaacenobgdjaaBv
import Derived.Test.YtieaacenobgdjaaLift
import Derived.Deep.DeepCutAuto
import Derived.Deep.CutBlock
namespace Go.Proofs.Ytieaacenobgdjaa
open Go.ChangeShapes Go.WideShapes Go.ChangeAt Go.RowKit Go.ChangeMaps
set_option linter.unusedVariables false

/-- The bytes of the first k steps. -/
def encTo (L : List StepV) : Nat → List UInt8
  | 0 => []
  | k + 1 => encTo L k ++ encS (nth L k)
theorem toL_len0 (s : ByteArray) : s.data.toList.length = s.size := by rw [Array.length_toList]; rfl
theorem encS_len (st : StepV) (h : st.s.size ≤ 1000) : (encS st).length ≤ 1000 := by
  unfold encS
  split
  · simp
  · split
    · have := Vm.put_len st.n; omega
    · split
      · have := Vm.put_len (zigV st.x).toNat; omega
      · rw [Array.length_toList]; exact h
theorem encTo_len (L : List StepV) (hL : Small L) : ∀ k, k ≤ L.length → (encTo L k).length ≤ 1000 * k := by
  intro k
  induction k with
  | zero => intro _; simp [encTo]
  | succ k ih =>
    intro hk
    have h1 := ih (by omega)
    have h2 := encS_len (nth L k) (hL.2 k (by omega))
    rw [encTo, List.length_append]
    omega
theorem encTo_more (L : List StepV) (k : Nat) : ∀ m, ∃ r, encTo L (k + m) = encTo L k ++ r := by
  intro m
  induction m with
  | zero => exact ⟨[], by simp⟩
  | succ m ih =>
    obtain ⟨r, hr⟩ := ih
    exact ⟨r ++ encS (nth L (k + m)), by rw [← Nat.add_assoc, encTo, hr, List.append_assoc]⟩
theorem encTo_drop (L : List StepV) (k n : Nat) (h : k < n) : ∃ r, (encTo L n).drop (encTo L k).length = encS (nth L k) ++ r := by
  obtain ⟨r, hr⟩ := encTo_more L (k + 1) (n - (k + 1))
  rw [show k + 1 + (n - (k + 1)) = n by omega, encTo, List.append_assoc] at hr
  exact ⟨r, by rw [hr]; simp⟩

theorem back_byte {T r : List UInt8} {a : Nat} {st : StepV} (h : T.drop a = encS st ++ r) (hk : st.kind = 0) : rByte (bs T) a 0 = ((st.n : Int) % 256, 0, a + (encS st).length, 0) := by
  have e : encS st = [UInt8.ofNat (st.n % 256)] := by unfold encS; rw [if_pos hk]
  unfold rByte
  rw [bs_bytes, h, e]
  have e2 : tByte ([UInt8.ofNat (st.n % 256)] ++ r) = ((st.n : Int) % 256, 1, 0) := by
    show ((((UInt8.ofNat (st.n % 256)).toNat : Nat) : Int), 1, (0 : Int)) = _
    have : (UInt8.ofNat (st.n % 256)).toNat = st.n % 256 := by simp
    rw [this]
    congr 1
  rw [e2, rd_k rfl]
  rfl
theorem back_num {T r : List UInt8} {a : Nat} {st : StepV} (h : T.drop a = encS st ++ r) (hok : st.Ok) (hk : st.kind = 1) : rNum (st.n : Int) (bs T) a 0 = ((st.n : Int), 0, a + (encS st).length, 0) := by
  have e : encS st = Vm.put st.n := by unfold encS; rw [if_neg (by omega), if_pos hk]
  unfold rNum
  rw [bs_bytes, h, e]
  have e2 : tNum (st.n : Int) (Vm.put st.n ++ r) = ((st.n : Int), (Vm.put st.n).length, 0) := by
    unfold tNum
    rw [Vm.get_put' st.n hok.n]
    simp
  rw [e2, rd_k rfl]
theorem back_int {T r : List UInt8} {a : Nat} {st : StepV} (h : T.drop a = encS st ++ r) (hok : st.Ok) (hk : st.kind = 2) : rInt (bs T) a 0 = (st.x, 0, a + (encS st).length, 0) := by
  have e : encS st = Vm.put (zigV st.x).toNat := by unfold encS; rw [if_neg (by omega), if_neg (by omega), if_pos hk]
  have h0 := hok.x0
  have h1 := hok.x1
  have hz : 0 ≤ zigV st.x ∧ zigV st.x < 18446744073709551616 := by unfold zigV; split <;> omega
  have hb : zagV (zigV st.x) = st.x := by unfold zagV zigV; split <;> split <;> omega
  unfold rInt
  rw [bs_bytes, h, e]
  have e2 : tInt (Vm.put (zigV st.x).toNat ++ r) = (st.x, (Vm.put (zigV st.x).toNat).length, 0) := by
    unfold tInt
    rw [Vm.get_put' _ (by omega)]
    simp only [if_true]
    rw [Int.toNat_of_nonneg hz.1, hb]
  rw [e2, rd_k rfl]
theorem back_raw {T r : List UInt8} {a : Nat} {st : StepV} (h : T.drop a = encS st ++ r) (k0 : st.kind ≠ 0) (k1 : st.kind ≠ 1) (k2 : st.kind ≠ 2) : rRaw (st.s.size : Int) (bs T) a 0 = (st.s, 0, a + (encS st).length, 0) := by
  have e : encS st = st.s.data.toList := by unfold encS; rw [if_neg k0, if_neg k1, if_neg k2]
  unfold rRaw
  have hl := toL_len0 st.s
  rw [bs_bytes, h, e]
  have e2 : tRaw (st.s.size : Int) (st.s.data.toList ++ r) = (st.s, st.s.size, 0) := by
    unfold tRaw
    rw [if_neg (by omega), if_neg (by rw [List.length_append]; omega), Int.toNat_natCast]
    rw [← hl, List.take_left' rfl, bs_of]
  rw [e2, rd_k rfl, hl]
theorem Wr.kp_rd {w w' : World} {g B gw : Nat} {s : ByteArray} {a : Nat} {wr most : Int} {l : List UInt8} (h : Wr w B gw most l) (o : Rd w g s a wr) (k : Kp g none w w') : Wr w' B gw most l := by
  obtain ⟨v, hv⟩ := h
  exact ⟨v, hv.same (k.block gw hv.1.lt (hv.1.unlike o.1 (by decide)) (by simp)) fun r hr => k.block r (hv.row_lt r hr).2 (fun e => o.1.unlike_row hv.2.1 (by decide) (by rw [hr, e])) (by simp)⟩

theorem e_end (s : ByteArray) (g : Nat) (w : World) (at_ : Nat) (wr : Int) (h : Rd w g s at_ wr) (x er : Int) (a : Nat) (wr' : Int) (e : rEnd s at_ wr = (x, er, a, wr')) :
    Calls Try.prog 36 #[.pointer (some ⟨g, 0, none⟩)] w (EndPost er g s a wr' w) := by
  have := rEnd_any g s at_ wr w h
  rw [e] at this
  exact this
theorem back_big (A : Option Addr) (c : Nat) (L : List StepV) (w : World) (hl : L.length ≤ 9223372036854775807) (hs : Steps w w.heap.size A L) (h : ¬ Small L) :
    Calls Try.prog 6 #[.slice A L.length c] w fun e w' => e = .returned (.bool true) ∧ Below w.heap.size w w' := by
  go_enter Try.func6, Try.ntmps6
  go_wp2_with fail
  refine (large_of A c _ L w hs hl h).mono ?_
  rintro e w' ⟨rfl, rfl⟩
  go_wp2_with fail
  refine (awake_any _).mono ?_
  rintro e w1 ⟨rfl, b1⟩
  go_wp2_with fail
  go_ret
  exact ⟨rfl, b1⟩

theorem write_w (B g : Nat) (most : Int) (l : List UInt8) (st : StepV) (hok : st.Ok) (w : World) (h : Wr w B g most l) (hB : B ≤ w.heap.size) (l' : List UInt8) (er : Int) (h1 : rawL most l (encS st) = l') (h2 : rawE most l (encS st) = er) :
    Calls Try.prog 43 #[.pointer (some ⟨g, 0, none⟩), stepAgg st] w (WPost B g most l' er w) := by
  obtain ⟨v, hv⟩ := h
  subst h1; subst h2
  exact (write_any B g most l v st hok w hv hB).mono fun e w' hp => wpost_of hv hp
theorem fits (most : Int) (l t : List UInt8) (h : (l.length : Int) + t.length ≤ most) : rawL most l t = l ++ t ∧ rawE most l t = 0 := by
  unfold rawL rawE
  rw [if_pos h, if_pos h]
  exact ⟨rfl, rfl⟩

set_option maxRecDepth 100000 in
theorem back_small (A : Option Addr) (c : Nat) (L : List StepV) (w : World) (hs : Steps w w.heap.size A L) (hL : Small L) :
    Calls Try.prog 6 #[.slice A L.length c] w fun e w' => e = .returned (.bool true) ∧ Below w.heap.size w w' := by
  obtain ⟨B0, hB0⟩ : ∃ B0, B0 = w.heap.size := ⟨_, rfl⟩
  rw [← hB0] at hs ⊢
  have e0 : B0 ≤ w.heap.size := by omega
  have HS := Lib.hid hs
  have HL := Lib.hid hL
  have hL1 : L.length ≤ 300 := hL.1
  have Hlarge := Lib.hid (large_no A c _ L w hs hL.1 hL.2)
  clear hB0 hs hL
  go_enter Try.func6, Try.ntmps6
  go_wp2_with fail
  refine Hlarge.out.mono ?_
  rintro e w' ⟨rfl, rfl⟩
  clear Hlarge
  go_wp2_with fail
  refine (awake_any _).mono ?_
  rintro e w1 ⟨rfl, b1⟩
  have c1 : Below B0 w w1 := b1.mono e0
  have e1 := Nat.le_trans e0 b1.size
  clear b1
  go_wp2_with fail
  refine (new_writer 16777216 (by omega) (by omega) _).mono ?_
  rintro e w2 ⟨rfl, h⟩
  have rw2 := wr_new 16777216 (by omega) (by omega) w1
  have b2 := alloc_below w1 (.cells #[.int .i64 16777216, .slice none 0 0] 69)
  have z2 := size_alloc1 w1 (.cells #[.int .i64 16777216, .slice none 0 0] 69)
  rw [← h] at rw2 b2 z2
  have c2 : Below B0 w w2 := c1.trans (b2.mono e1)
  have q2 : w1.heap.size + 1 ≤ w2.heap.size := by omega
  clear h z2 c1 b2
  go_wp2_with fail
  go_loopw [5] (fun i wr => ∃ k : Nat, k ≤ L.length ∧ i = .int .i64 k ∧ Wr wr (w1.heap.size + 1) w1.heap.size 16777216 (encTo L k) ∧ Below B0 w wr ∧ w1.heap.size + 1 ≤ wr.heap.size) (fun i _ => L.length - (intOf i).toNat)
  case atStart => exact ⟨0, by omega, rfl, rw2, c2, q2⟩
  case round =>
    obtain ⟨k, hk, rfl, r1, r2, r3⟩ := hrel
    by_cases hlt : k < L.length
    · obtain ⟨a, rfl, ha, hst0⟩ := HS.out k hlt
      have hst := hst0.below r2 (by rw [add_block]; exact ha)
      obtain ⟨d0, d1, d2, d3, d4, dok⟩ := hst
      go_wp2_with fail
      have hlen := encTo_len L HL.out (k + 1) (by omega)
      have hfit := fits 16777216 (encTo L k) (encS (nth L k)) (by rw [← Int.natCast_add, ← List.length_append]; rw [encTo] at hlen; omega)
      rw [show encTo L k ++ encS (nth L k) = encTo L (k + 1) from rfl] at hfit
      have HF := Lib.hid hfit
      clear hfit hlen
      refine (write_w _ _ _ _ (nth L k) dok _ r1 r3 _ _ HF.out.1 HF.out.2).mono ?_
      rintro e W2 ⟨rfl, q3, q4⟩
      have r2' := r2.trans (q4.below (B0 := B0) (by omega) e1 (Nat.le_trans e0 r2.size))
      have r3' := Nat.le_trans r3 q4.size
      clear r1 r2 r3 q4 d0 d1 d2 d3 d4 dok HF hst0
      go_wp2_with fail
      go_roundw
      case rel => exact ⟨k + 1, by omega, by go_num, q3, r2', r3'⟩
      case measure => simp [intOf]; omega
    · obtain rfl : k = L.length := by omega
      have hTl := encTo_len L HL.out L.length (Nat.le_refl _)
      obtain ⟨T, hT⟩ : ∃ T, T = encTo L L.length := ⟨_, rfl⟩
      rw [← hT] at r1 hTl
      have HT := Lib.hid hT
      have hTs : (bs T).size ≤ 16777216 := by rw [bs_size]; omega
      have er := Nat.le_trans e0 r2.size
      clear hT
      go_wp2_with fail
      refine (text_w _ _ _ _ _ r1 (bs T) rfl).mono ?_
      rintro e w' ⟨rfl, rfl⟩
      go_wp2_with fail
      refine (new_reader (bs T) hTs _).mono ?_
      rintro e w3 ⟨rfl, h⟩
      have rr := rd_new (bs T) hTs wr
      have b3 := alloc_below wr (.cells #[.string (bs T), .int .i64 0, .int .i64 0] 73)
      rw [← h] at rr b3
      have r1 := r1.below b3 (Nat.le_refl _)
      have c3 : Below B0 w w3 := r2.trans (b3.mono er)
      clear h r2 b3
      go_wp2_with fail
      go_loopw [7] (fun i wr' => ∃ k : Nat, k ≤ L.length ∧ i = .int .i64 k ∧ Rd wr' wr.heap.size (bs T) (encTo L k).length 0 ∧ Wr wr' (w1.heap.size + 1) w1.heap.size 16777216 T ∧ Below B0 w wr') (fun i _ => L.length - (intOf i).toNat)
      case atStart => exact ⟨0, by omega, rfl, rr, r1, c3⟩
      case round =>
        rename_i wx _
        clear rr r1 c3 r3
        obtain ⟨k, hk, rfl, rd, r1, r2⟩ := hrel
        by_cases hlt : k < L.length
        · obtain ⟨a, rfl, ha, hst0⟩ := HS.out k hlt
          have hst := hst0.below r2 (by rw [add_block]; exact ha)
          obtain ⟨d0, d1, d2, d3, d4, dok⟩ := hst
          obtain ⟨r, hr⟩ := encTo_drop L k L.length hlt
          rw [← HT.out] at hr
          have hnext : (encTo L (k + 1)).length = (encTo L k).length + (encS (nth L k)).length := by rw [encTo, List.length_append]
          have hs1 := HL.out.2 k hlt
          by_cases k0 : (nth L k).kind = 0
          · have k0' : ((nth L k).kind : Int) = 0 := by omega
            rw [k0'] at d0
            have hv := back_byte hr k0
            rw [← hnext] at hv
            have HV := Lib.hid hv
            clear hv hr
            go_wp2_with fail
            refine (e_byte _ _ _ _ _ rd _ _ _ _ HV.out).mono ?_
            rintro e W1 ⟨rfl, q1, q2⟩
            have r1' := r1.kp_rd rd q2
            have r2' := r2.trans (q2.below0 (B0 := B0) er (Nat.le_trans e0 r2.size))
            obtain ⟨f0, f1, f2, f3, f4, _⟩ := hst0.below r2' (by rw [add_block]; exact ha)
            clear q2 r1 r2 rd d0 d1 d2 d3 d4
            go_wp2_with fail
            go_roundw
            case rel => exact ⟨k + 1, by omega, by go_num, q1, r1', r2'⟩
            case measure => simp [intOf]; omega
          · have e0' : (((nth L k).kind : Int) == 0) = false := by simp; omega
            by_cases k1 : (nth L k).kind = 1
            · have k1' : ((nth L k).kind : Int) = 1 := by omega
              rw [k1'] at d0
              clear e0'
              have hv := back_num hr dok k1
              rw [← hnext] at hv
              have HV := Lib.hid hv
              clear hv hr
              go_wp2_with fail
              refine (e_num _ _ _ _ _ _ rd _ _ _ _ HV.out).mono ?_
              rintro e W1 ⟨rfl, q1, q2⟩
              have r1' := r1.kp_rd rd q2
              have r2' := r2.trans (q2.below0 (B0 := B0) er (Nat.le_trans e0 r2.size))
              obtain ⟨f0, f1, f2, f3, f4, _⟩ := hst0.below r2' (by rw [add_block]; exact ha)
              clear q2 r1 r2 rd d0 d1 d2 d3 d4
              go_wp2_with fail
              go_roundw
              case rel => exact ⟨k + 1, by omega, by go_num, q1, r1', r2'⟩
              case measure => simp [intOf]; omega
            · have e1' : (((nth L k).kind : Int) == 1) = false := by simp; omega
              by_cases k2 : (nth L k).kind = 2
              · have k2' : ((nth L k).kind : Int) = 2 := by omega
                rw [k2'] at d0
                clear e0' e1'
                have hv := back_int hr dok k2
                rw [← hnext] at hv
                have HV := Lib.hid hv
                clear hv hr
                go_wp2_with fail
                refine (e_int _ _ _ _ _ rd _ _ _ _ HV.out).mono ?_
                rintro e W1 ⟨rfl, q1, q2⟩
                have r1' := r1.kp_rd rd q2
                have r2' := r2.trans (q2.below0 (B0 := B0) er (Nat.le_trans e0 r2.size))
                obtain ⟨f0, f1, f2, f3, f4, _⟩ := hst0.below r2' (by rw [add_block]; exact ha)
                clear q2 r1 r2 rd d0 d1 d2 d3 d4
                go_wp2_with fail
                go_roundw
                case rel => exact ⟨k + 1, by omega, by go_num, q1, r1', r2'⟩
                case measure => simp [intOf]; omega
              · have e2' : (((nth L k).kind : Int) == 2) = false := by simp; omega
                have hv := back_raw hr k0 k1 k2
                rw [← hnext] at hv
                have HV := Lib.hid hv
                clear hv hr
                go_wp2_with fail
                refine (e_raw _ _ _ _ _ _ rd _ _ _ _ HV.out).mono ?_
                rintro e W1 ⟨rfl, q1, q2⟩
                have r1' := r1.kp_rd rd q2
                have r2' := r2.trans (q2.below0 (B0 := B0) er (Nat.le_trans e0 r2.size))
                obtain ⟨f0, f1, f2, f3, f4, _⟩ := hst0.below r2' (by rw [add_block]; exact ha)
                clear q2 r1 r2 rd d0 d1 d2 d3 d4
                go_wp2_with fail
                go_roundw
                case rel => exact ⟨k + 1, by omega, by go_num, q1, r1', r2'⟩
                case measure => simp [intOf]; omega
        · obtain rfl : k = L.length := by omega
          rw [← HT.out] at rd
          have hend : rEnd (bs T) T.length 0 = (0, 0, T.length, 0) := by
            unfold rEnd
            rw [bs_bytes, List.drop_length]
            rfl
          have hleft : (bs T).size - T.length = 0 := by rw [bs_size]; omega
          have HE := Lib.hid hend
          have Hl := Lib.hid hleft
          clear hend hleft
          go_wp2_with fail
          refine (e_end _ _ _ _ _ rd _ _ _ _ HE.out).mono ?_
          rintro e W1 ⟨rfl, q1, q2⟩
          have r1' := r1.kp_rd rd q2
          have r2' := r2.trans (q2.below0 (B0 := B0) er (Nat.le_trans e0 r2.size))
          clear q2 r1 r2 rd
          go_wp2_with fail
          refine (left_any _ _ _ _ _ q1).mono ?_
          rintro e w' ⟨rfl, n, rfl⟩
          rw [Hl.out]
          go_wp2_with fail
          refine (at_any _ _ _ _ _ (rd_drew q1 n)).mono ?_
          rintro e w' ⟨rfl, rfl⟩
          go_wp2_with fail
          refine (len_w _ _ _ T _ (r1'.below (drewN_below W1 n) (Nat.le_refl _))).mono ?_
          rintro e w' ⟨rfl, rfl⟩
          go_wp2_with fail
          go_ret
          exact ⟨rfl, r2'.trans ((drewN_below W1 n).mono (Nat.le_trans e0 r2'.size))⟩

theorem BytesBack_walk (A : Option Addr) (c : Nat) (L : List StepV) (hl : L.length ≤ 9223372036854775807) (w : World) (hs : Steps w w.heap.size A L) :
    Calls Try.prog 6 #[.slice A L.length c] w fun e w' => e = .returned (.bool true) ∧ Below w.heap.size w w' := by
  by_cases h : Small L
  · exact back_small A c L w hs h
  · exact back_big A c L w hl hs h

theorem BytesBack_laid : laidOutB Try.prog = true := by kernel_rfl
set_option maxRecDepth 100000 in
theorem BytesBack_lifted (os : Os) (started : os.Started) (H : Type) (enc : TypeId × Value → H) :
    ReturnsInHanded {} Try.checked os 6 .any (Rows.bytesBackSpec.pre6 enc Try.prog Try.f6 Rows.bytesBackRow.domain false) (Rows.bytesBackSpec.post enc Try.prog Try.f6 false true false false) := by
  refine returnsInHanded_of_change (C := Try.checked) lift_own started (by kernel_rfl) Try.func6
    (ChangeSpec.witness6 (enc := enc) (C := Try.checked) false ⟨#[], #[.slice none 0 0], []⟩ 8 (by kernel_rfl) (by kernel_rfl) (by kernel_rfl) (by kernel_rfl)) ?_
  intro W base args ds gs before hval0 hW hcnd _
  have hval : ∀ (j : Nat) t v, Try.f6.params[j]? = some t → args[j]? = some v → Value.okWide Try.prog W .any base t v := hval0
  have hW' := hW
  obtain ⟨p, q, hA0, hV, rfl, hfz, hnd⟩ := hW
  have hA : DataW.TrodAll enc Try.prog W 0 (fun _ => true) true Try.f6.params.toList args.toList ds p := hA0
  rw [Try.params6] at hA hval
  obtain ⟨v0, vs0, d0, ds0, p0, q0, hargs, rfl, rfl, h0, r0⟩ := trodAll_cons hA
  obtain ⟨rfl, rfl, rfl⟩ := trodAll_nil r0
  obtain rfl : args = #[v0] := by cases args; simp_all
  obtain ⟨rfl, rfl⟩ := trodVars_none hV
  obtain ⟨A0, c0, L0, rfl, wl0, ws0⟩ := open_steps (hval 0 22 v0 rfl rfl) h0
  clear hA0 hval0
  simp only [List.append_nil] at hW'
  refine (BytesBack_walk A0 c0 L0 wl0 W ws0).mono fun e W' ⟨he, hg⟩ => ?_
  subst he
  exact ⟨_, rfl, lift_post (pv := []) hW' (fun _ _ _ => (trodAll_cons_mk (shut_bool Try.underlying4 _) trodAll_mk0)) (fun sp hsp => (trodAll_cons_mk (WideElems.Trod_stays BytesBack_laid (by kernel_rfl) (of_decide_eq_true (by kernel_rfl)) h0 (fun x hx => hg.same (hW'.lt x (by simp [hx]))) (fun x hx => hsp x (by simp [hx]))) trodAll_mk0)) (fun _ _ => rfl) (by simp)
    hg (ok_one (by kernel_rfl) rfl (okWide_bool_mk Try.underlying4 _))⟩

/-- THE STATEMENT of BytesBack: for every input the call returns true, and each argument reads behind it as before. -/
theorem BytesBack_holds : Rows.BytesBackSaid :=
  OpenClaim.holds_of_wide 6 Try.f6 rfl rfl rfl rfl rfl rfl rfl ⟨rfl, rfl, rfl, rfl, rfl⟩ rfl rfl rfl rfl rfl (by kernel_rfl) Try.func6 (by kernel_rfl)
    (of_decide_eq_true (by kernel_rfl)) (by unfold Func.isWrapper; first | (rw [if_pos (by decide +kernel)]; kernel_rfl) | (rw [if_neg (by decide +kernel)]; exact ⟨rfl, rfl⟩))
    (fun os started H enc _ => BytesBack_lifted os started H enc)

end Go.Proofs.Ytieaacenobgdjaa
