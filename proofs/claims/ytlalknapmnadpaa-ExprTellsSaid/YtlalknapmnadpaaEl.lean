/-
  CONTRACTS OF THE STATEMENTS' OWN GUARDS (layer 4): much, large: whether a tree is more than a statement goes over; the memory that was there stays as it was. Conditions: as they stand.
-/
import Derived.Test.YtlalknapmnadpaaEr
namespace Go.Proofs.Ytlalknapmnadpaa
open Go.RowKit
set_option linter.unusedVariables false
def muchV (o : Option Nat) : Value := .tuple #[.int .i64 (o.getD 0 : Nat), .bool o.isNone]
theorem muchL_drop (f : Ex → Option Nat) (l : List Ex) (k n : Nat) (h : k < l.length) : muchL f (l.drop k) n = match f l[k] with
    | none => none
    | some j => if 400 < n + j then none else muchL f (l.drop (k + 1)) (n + j) := by
  rw [List.drop_eq_getElem_cons h]
  rfl
theorem ret_much {o : Option Nat} {v : Value} (h : v = muchV o) : Ending.returned v = .returned (muchV o) := by rw [h]

set_option maxRecDepth 100000 in
theorem much_any (d : Nat) : ∀ (e : Ex) (v : Value) (lo hi deep : Nat) (w : World), At w lo hi d v e → hi ≤ w.heap.size → deep ≤ 1000 →
    Calls Try.prog 31 #[v, .int .i64 deep] w fun r w' => r = .returned (muchV (muchF d e deep)) ∧ Below w.heap.size w w' := by
  induction d with
  | zero => intro e v lo hi deep w h; exact h.elim
  | succ d ih =>
    intro e v lo hi deep w h hhi hdp
    obtain ⟨op, n, args⟩ := e
    obtain ⟨q1, q2, q3, q4, A, c, rfl, hk⟩ := h.open_
    have b0 : Below w.heap.size w (w.alloc (.cells #[.int .u8 op, .int .i64 n, .slice A args.length c] 24)) := by go_grown
    have HZ0 : Hid (w.heap.size < (w.alloc (.cells #[.int .u8 op, .int .i64 n, .slice A args.length c] 24)).heap.size) := by show _ < _; simp
    have HK := Lib.hid (Kids.below hk b0 hhi)
    have IH := Lib.hid ih
    have HBX := Lib.hid (Boxed.new w (.int .u8 op) (.int .i64 n) (.slice A args.length c))
    have HB0 := Lib.hid b0
    have hlen : args.length ≤ 9223372036854775807 := q4
    clear hk ih h b0 q4
    by_cases hc1 : 30 < deep
    · have HV : Hid (muchF (d + 1) (.node op n args) deep = none) := by show muchF _ _ _ = _; rw [muchF, if_pos (Or.inl hc1)]
      go_enter Try.func31, Try.ntmps31
      go_wp2_with fail
      go_ret2
      exact ⟨by rw [HV.out]; rfl, HB0.out⟩
    · by_cases hc2 : 10 < args.length
      · have HV : Hid (muchF (d + 1) (.node op n args) deep = none) := by show muchF _ _ _ = _; rw [muchF, if_pos (Or.inr hc2)]
        go_enter Try.func31, Try.ntmps31
        go_wp2_with fail
        go_ret2
        exact ⟨by rw [HV.out]; rfl, HB0.out⟩
      · have HV : Hid (muchF (d + 1) (.node op n args) deep = muchL (fun e => muchF d e (deep + 1)) args 1) := by show muchF _ _ _ = _; rw [muchF, if_neg (by omega)]
        go_enter Try.func31, Try.ntmps31
        go_wp2_with fail
        have b0 := HB0.out
        have z0 := HZ0.out
        obtain ⟨W, hW⟩ : ∃ W, W = w.alloc (.cells #[.int .u8 op, .int .i64 n, .slice A args.length c] 24) := ⟨_, rfl⟩
        rw [← hW] at b0 z0 HK HBX ⊢
        clear hW HB0 HZ0
        go_loopw [6, 7] (fun a i wr => ∃ k m : Nat, k ≤ args.length ∧ m ≤ 400 ∧ i = .int .i64 k ∧ a = .int .i64 m ∧ Hid (muchL (fun e => muchF d e (deep + 1)) args 1 = muchL (fun e => muchF d e (deep + 1)) (args.drop k) m) ∧ Below W.heap.size W wr) (fun _ i _ => args.length - (intOf i).toNat)
        case atStart => exact ⟨0, 1, by omega, by omega, rfl, rfl, rfl, Below.refl _ _⟩
        case round =>
          obtain ⟨k, m, hk, hm, rfl, rfl, hall, hb⟩ := hrel
          have f2 := (HBX.out.below hb z0).c2
          by_cases hlt : k < args.length
          · obtain ⟨a, x, y, z, rfl, m1, m2, g0, g1, g2, hA⟩ := HK.out.below hb (by omega) k hlt
            have HI := Lib.hid (IH.out args[k] _ _ _ (deep + 1) wr hA (by have := hb.size; omega) (by omega))
            have hd := muchL_drop (fun e => muchF d e (deep + 1)) args k m hlt
            rw [hd] at hall
            clear hA hd
            cases hj : muchF d args[k] (deep + 1) with
            | none =>
              rw [hj] at HI hall
              have HA2 : Hid (muchL (fun e => muchF d e (deep + 1)) args 1 = none) := hall
              clear hj hall
              go_wp2_with fail
              refine HI.out.mono ?_
              rintro r w5 ⟨rfl, b5⟩
              unfold muchV
              go_wp2_with fail
              go_ret2
              exact ⟨by rw [HV.out, HA2.out]; rfl, b0.trans ((hb.trans (b5.mono hb.size)).mono b0.size)⟩
            | some j =>
              have hj4 := (muchF_cnt d _ _ _ hj).2
              rw [hj] at HI hall
              clear hj
              by_cases hbig : 400 < m + j
              · have HA2 : Hid (muchL (fun e => muchF d e (deep + 1)) args 1 = none) := hall.out.trans (if_pos hbig)
                clear hall
                go_wp2_with fail
                refine HI.out.mono ?_
                rintro r w5 ⟨rfl, b5⟩
                unfold muchV
                go_wp2_with fail
                go_ret2
                exact ⟨by rw [HV.out, HA2.out]; rfl, b0.trans ((hb.trans (b5.mono hb.size)).mono b0.size)⟩
              · have HA2 : Hid (muchL (fun e => muchF d e (deep + 1)) args 1 = muchL (fun e => muchF d e (deep + 1)) (args.drop (k + 1)) (m + j)) := hall.out.trans (if_neg hbig)
                clear hall
                go_wp2_with fail
                refine HI.out.mono ?_
                rintro r w5 ⟨rfl, b5⟩
                unfold muchV
                go_wp2_with fail
                go_roundw
                case rel => exact ⟨k + 1, m + j, by omega, by omega, by go_num, by go_num, HA2, hb.trans (b5.mono hb.size)⟩
                case measure => simp [intOf]; omega
          · go_wp2_with fail
            go_ret2
            refine ⟨?_, b0.trans (hb.mono b0.size)⟩
            rw [HV.out, hall.out, List.drop_eq_nil_of_le (by omega)]
            rfl

/-- large: no, or yes. -/
theorem large_any (d : Nat) (e : Ex) (v : Value) (lo hi : Nat) (w : World) (h : At w lo hi d v e) (hhi : hi ≤ w.heap.size) :
    Calls Try.prog 10 #[v] w fun r w' => r = .returned (.bool (muchF d e 0).isNone) ∧ Below w.heap.size w w' := by
  obtain ⟨d, rfl⟩ : ∃ q, d = q + 1 := by
    cases d with
    | zero => exact h.elim
    | succ q => exact ⟨q, rfl⟩
  obtain ⟨op, n, args⟩ := e
  have hh := h
  obtain ⟨q1, q2, q3, q4, A, c, rfl, hk⟩ := h.open_
  have b0 : Below w.heap.size w (w.alloc (.cells #[.int .u8 op, .int .i64 n, .slice A args.length c] 24)) := by go_grown
  have HM := Lib.hid (much_any (d + 1) _ _ lo hi 0 _ (hh.below b0 hhi) (by simp; omega) (by omega))
  have HB0 := Lib.hid b0
  clear hk hh h b0
  go_enter Try.func10, Try.ntmps10
  go_wp2_with fail
  refine HM.out.mono ?_
  rintro r w5 ⟨rfl, b5⟩
  have b0 := HB0.out
  obtain ⟨o, ho⟩ : ∃ o, o = muchF (d + 1) (.node op n args) 0 := ⟨_, rfl⟩
  rw [← ho]
  have HO := Lib.hid ho
  clear ho
  unfold muchV
  go_wp2_with fail
  go_ret
  exact ⟨by rw [← HO.out]; rfl, b0.trans (b5.mono b0.size)⟩
end Go.Proofs.Ytlalknapmnadpaa
