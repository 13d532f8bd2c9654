/-
  LAYER 7's WRITER: an expression (expr). Conditions: what is written fits; expressions that are whole.
-/
import Derived.Test.YtpgkhodofhnpnaaDoorPo
namespace Go.Proofs.YtpgkhodofhnpnaaDoor
set_option maxRecDepth 100000
open Go.RowKit
set_option linter.unusedVariables false
def leafB (op : Nat) (n : Int) : List UInt8 := if op = 1 then Vm.put (zigW n) else if op = 2 ∨ op = 3 then Vm.put n.toNat else []
theorem prAll_app {α : Type} (f : α → List UInt8) : ∀ (l m : List α), prAll f (l ++ m) = prAll f l ++ prAll f m := by
  intro l
  induction l with
  | nil => intro m; rfl
  | cons x r ih => intro m; rw [List.cons_append, prAll, prAll, ih, List.append_assoc]
theorem prAll_take {α : Type} (f : α → List UInt8) (l : List α) (k : Nat) (h : k < l.length) : prAll f (l.take (k + 1)) = prAll f (l.take k) ++ f l[k] := by
  rw [List.take_succ_eq_append_getElem h, prAll_app]
  show _ ++ (f l[k] ++ []) = _
  rw [List.append_nil]
theorem prAll_le {α : Type} (f : α → List UInt8) (l : List α) (k : Nat) : (prAll f (l.take k)).length ≤ (prAll f l).length := by
  have : prAll f l = prAll f (l.take k) ++ prAll f (l.drop k) := by rw [← prAll_app, List.take_append_drop]
  rw [this, List.length_append]
  omega
theorem At.xyz {w : World} {lo hi d : Nat} {x y z : Value} {e : Ex} (h : At w lo hi d (.agg #[x, y, z]) e) : ∃ (o : Nat) (m : Int) (A : Option Addr) (l c : Nat), x = .int .u8 o ∧ y = .int .i64 m ∧ z = .slice A l c := by
  cases d with
  | zero => exact h.elim
  | succ d =>
    obtain ⟨op, n, args⟩ := e
    obtain ⟨q1, q2, q3, q4, A, c, hv, hk⟩ := h.open_
    simp only [Value.agg.injEq, Array.mk.injEq, List.cons.injEq, and_true] at hv
    obtain ⟨rfl, rfl, rfl⟩ := hv
    exact ⟨_, _, _, _, _, rfl, rfl, rfl⟩
theorem whole_parts {m op : Nat} {n : Int} {args : List Ex} (h : wholeF (m + 1) (.node op n args) = true) :
    (op = 1 ∧ args = [] ∨ (op = 2 ∨ op = 3) ∧ args = [] ∧ 0 ≤ n ∧ n < 8 ∨ (4 ≤ op ∧ op ≤ 8) ∧ args.length = 2) ∧ (∀ k (hk : k < args.length), wholeF m args[k] = true) ∧ prE (m + 1) (.node op n args) = Vm.put op ++ (leafB op n ++ prAll (prE m) args) := by
  rw [wholeF] at h
  unfold leafB
  by_cases h1 : op = 1
  · rw [if_pos h1] at h
    have h0 := List.eq_nil_of_length_eq_zero (of_decide_eq_true h)
    subst h0
    refine ⟨.inl ⟨h1, rfl⟩, fun k hk => absurd hk (by simp), ?_⟩
    rw [prE, if_pos h1]
    all_goals simp [prAll]
  · rw [if_neg h1] at h
    by_cases h2 : op = 2
    · rw [if_pos h2] at h
      obtain ⟨h0, h3, h4⟩ := of_decide_eq_true h
      have h0 := List.eq_nil_of_length_eq_zero h0
      subst h0
      refine ⟨.inr (.inl ⟨.inl h2, rfl, h3, h4⟩), fun k hk => absurd hk (by simp), ?_⟩
      rw [prE, if_neg h1, if_pos (.inl h2)]
      all_goals simp [prAll]
    · rw [if_neg h2] at h
      by_cases h5 : op = 3
      · rw [if_pos h5] at h
        obtain ⟨h0, h3, h4⟩ := of_decide_eq_true h
        have h0 := List.eq_nil_of_length_eq_zero h0
        subst h0
        refine ⟨.inr (.inl ⟨.inr h5, rfl, h3, by omega⟩), fun k hk => absurd hk (by simp), ?_⟩
        rw [prE, if_neg h1, if_pos (.inr h5)]
        all_goals simp [prAll]
      · rw [if_neg h5] at h
        by_cases h4 : 4 ≤ op ∧ op ≤ 8
        · rw [if_pos h4, Bool.and_eq_true] at h
          by_cases hl : args.length = 2
          · match args, hl with
            | [a, b], _ =>
              have h3 := h.2
              simp only [both, Bool.and_eq_true] at h3
              refine ⟨.inr (.inr ⟨h4, rfl⟩), fun k hk => ?_, ?_⟩
              · have hk2 : k = 0 ∨ k = 1 := by simp at hk; omega
                rcases hk2 with rfl | rfl
                · exact h3.1
                · exact h3.2
              · rw [prE, if_neg h1, if_neg (by omega), if_neg h1, if_neg (by omega)]
                simp [prAll]
          · rw [both_no _ _ hl] at h
            cases h.2
        · rw [if_neg h4] at h
          cases h
set_option maxRecDepth 100000 in
set_option maxHeartbeats 4000000 in
theorem wexpr_any (m : Nat) : ∀ (d : Nat) (e : Ex) (v : Value) (lo hi : Nat) (B g : Nat) (most : Int) (l : List UInt8) (w : World), At w lo hi d v e → wholeF m e = true → hi ≤ B → hi ≤ g → Wr w B g most l → B ≤ w.heap.size → (l.length : Int) + (prE m e).length ≤ most →
    Calls Tryd.prog 57 #[.agg #[.pointer (some ⟨g, 0, none⟩)], v] w (Wp B g most (l ++ prE m e) w) := by
  induction m with
  | zero => intro d e v lo hi B g most l w h hw; cases hw
  | succ m ih =>
    intro d e v lo hi B g most l w h hw hhi hg hwr hB hf
    cases d with
    | zero => exact h.elim
    | succ d =>
    obtain ⟨op, n, args⟩ := e
    obtain ⟨q1, q2, q3, q4, A, c, rfl, hk⟩ := h.open_
    obtain ⟨hc, hwa, hpr⟩ := whole_parts hw
    rw [hpr] at hf ⊢
    obtain ⟨L, hL⟩ : ∃ L, L = args.length := ⟨_, rfl⟩
    have HL := Lib.hid hL
    have hgl := hwr.lt
    have hS := WE.start w B g op n A args.length c
    rw [← hL] at hS
    have hb0 : Below w.heap.size w ((wrB w g).alloc (.cells #[.int .u8 op, .int .i64 n, .slice A L c] 25)) := (wrB_below w g).alloc (by simp [wrB]) _
    simp only [List.length_append] at hf
    have HNUM := Lib.hid (wnum_any B g most l op (by omega) _ (hwr.more hb0) (Nat.le_trans hB hb0.size) (by omega))
    have HS := Lib.hid hS
    have HK := Lib.hid hk
    have HWA := Lib.hid hwa
    have IH := Lib.hid ih
    have HF : Hid ((l.length : Int) + ((Vm.put op).length + ((leafB op n).length + (prAll (prE m) args).length) : Nat) ≤ most) := hf
    have HB : Hid (B ≤ w.heap.size ∧ hi ≤ B ∧ hi ≤ g ∧ g < w.heap.size) := ⟨hB, hhi, hg, hgl⟩
    have hop0 : (0 : Int) ≤ op := by omega
    have hop9 : (op : Int) < 256 := by omega
    rw [← hL] at q4 ⊢
    have hL2 : L ≤ 2 := by
      rcases hc with ⟨_, rfl⟩ | ⟨_, rfl, _⟩ | ⟨_, h2⟩
      · simp at hL; omega
      · simp at hL; omega
      · omega
    have HC : Hid (op = 1 ∧ L = 0 ∨ (op = 2 ∨ op = 3) ∧ L = 0 ∧ 0 ≤ n ∧ n < 8 ∨ 4 ≤ op ∧ op ≤ 8) := by
      rcases hc with ⟨h1, rfl⟩ | ⟨h1, rfl, h2⟩ | ⟨h1, h2⟩
      · exact .inl ⟨h1, hL⟩
      · exact .inr (.inl ⟨h1, hL, h2⟩)
      · exact .inr (.inr h1)
    have hz0 : Hid ((w.alloc (.cells #[.pointer (some ⟨g, 0, none⟩)] 49)).alloc (.cells #[.int .u8 op, .int .i64 n, .slice A L c] 25) = (wrB w g).alloc (.cells #[.int .u8 op, .int .i64 n, .slice A L c] 25)) := rfl
    unfold wrB at HNUM
    clear h hw hwr hk ih hf hS hb0 hwa hpr hc hL hgl hB hhi hg q4
    go_enter Tryd.func57, Tryd.ntmps57
    go_wp2_with fail
    refine HNUM.out.mono ?_
    rintro _ w1 ⟨rfl, hw1, hf1⟩
    have hs1 := HS.out.next (W' := w1) (by rw [hz0.out] at hf1; exact hf1) HB.out.2.2.2
    have HW1 := Lib.hid hw1
    have HS1 := Lib.hid hs1
    have bb0 := HS1.out.bw.cell 0
    have be0 := HS1.out.be.cell 0
    have be1 := HS1.out.be.cell 1
    have be2 := HS1.out.be.cell 2
    simp at bb0 be0 be1 be2
    clear hw1 hf1 hs1
    by_cases h1 : op = 1
    · obtain rfl := h1
      have hlf : leafB 1 n = Vm.put (zigW n) := rfl
      have HINT := Lib.hid (wint_any B g most _ n q2 q3 w1 HW1.out (by have := HS1.out.sz; have := HB.out; omega) (by have h1 := HF.out; rw [hlf] at h1; simp only [List.length_append]; omega))
      have z1 := HS1.out.sz
      go_wp2_with fail
      refine HINT.out.mono ?_
      rintro _ w2 ⟨rfl, hw2, hf2⟩
      have HS2 := Lib.hid (HS1.out.next hf2 HB.out.2.2.2)
      have HW2 := Lib.hid hw2
      clear bb0 be0 be1 be2 hw2 hf2
      have bb0 := HS2.out.bw.cell 0
      have be0 := HS2.out.be.cell 0
      have be1 := HS2.out.be.cell 1
      have be2 := HS2.out.be.cell 2
      simp at bb0 be0 be1 be2
      go_wp2_with fail
      go_loopw [30] (fun i wr => ∃ k : Nat, k ≤ L ∧ i = .int .i64 k ∧ Hid (WE w B g 1 n A L c wr) ∧ Hid (Wr wr B g most (l ++ (Vm.put 1 ++ (leafB 1 n ++ prAll (prE m) (args.take k)))))) (fun i _ => L - (intOf i).toNat)
      case atStart => exact ⟨0, by omega, by go_num, HS2.out, by show Wr _ _ _ _ _; rw [List.take_zero]; simpa [prAll, hlf] using HW2.out⟩
      case round =>
        obtain ⟨k, hk, rfl, HSR, HWR⟩ := hrel
        by_cases hlt : k < L
        · have hk2 : k < args.length := by have := HL.out; omega
          obtain ⟨a, x, y, z, rfl, m1, m2, g0, g1, g2, hA⟩ := HK.out k hk2
          obtain ⟨xo, xm, xA, xl, xc, rfl, rfl, rfl⟩ := hA.xyz
          have hkk : ∀ j, wr.cell? ⟨a.block, j, none⟩ = w.cell? ⟨a.block, j, none⟩ := fun j => World.cell?_of_block (a := ⟨a.block, j, none⟩) (HSR.out.wf.fr.block a.block (by have := HB.out; omega) (by have := HB.out; omega) (by have := HB.out; omega))
          have hcl : ∀ p : Addr, p.block = a.block → wr.cell? p = w.cell? p := fun p hp => World.cell?_of_block (HSR.out.wf.fr.block p.block (by have := HB.out; omega) (by have := HB.out; omega) (by have := HB.out; omega))
          have G0 := (hcl (a.add (k * 3)) (ad_block _ _)).trans g0
          have G1 := (hcl ⟨(a.add (k * 3)).block, (a.add (k * 3)).off + 1, none⟩ (ad_block _ _)).trans g1
          have G2 := (hcl ⟨(a.add (k * 3)).block, (a.add (k * 3)).off + 2, none⟩ (ad_block _ _)).trans g2
          have hb5 : Below wr.heap.size wr (wr.alloc (.cells #[.int .u8 xo, .int .i64 xm, .slice xA xl xc] 25)) := (Below.refl _ _).alloc (Nat.le_refl _) _
          have hpt := prAll_take (prE m) args k hk2
          have hple := prAll_le (prE m) args (k + 1)
          have hsz := HSR.out.sz
          have HIH := Lib.hid (IH.out d args[k] (.agg #[.int .u8 xo, .int .i64 xm, .slice xA xl xc]) lo hi B g most _ _ ((hA.wf HSR.out.wf HB.out.2.1 HB.out.2.2.1 HB.out.1).below hb5 (by have := HB.out; omega)) (HWA.out k hk2) HB.out.2.1 HB.out.2.2.1 (HWR.out.more hb5) (by have := HB.out; have := hb5.size; omega) (by
            have h1 := HF.out
            rw [hpt, List.length_append] at hple
            simp only [List.length_append]
            omega))
          have HPT := Lib.hid hpt
          have HB5 := Lib.hid hb5
          have bw := (HSR.out.bw.same (heap_alloc_old wr (.cells #[.int .u8 xo, .int .i64 xm, .slice xA xl xc] 25) HSR.out.bw.lt)).cell 0
          simp at bw
          have ik : (k : Int) < (L : Int) := by omega
          clear hA hb5 hpt hple g0 g1 g2 hkk hcl
          go_wp2_with fail
          refine HIH.out.mono ?_
          rintro _ w5 ⟨rfl, hw5, hf5⟩
          have HW5 := Lib.hid hw5
          have HS5 := Lib.hid (HSR.out.next ((Wf.of_below HB5.out).trans hf5) HB.out.2.2.2)
          clear hw5 hf5 HIH
          go_wp2_with fail
          go_roundw
          case rel => exact ⟨k + 1, by omega, by go_num, HS5.out, by show Wr _ _ _ _ _; rw [HPT.out]; simpa using HW5.out⟩
          case measure => simp [intOf]; omega
        · obtain rfl : k = L := by omega
          have hkl : k = args.length := HL.out
          have HE := HWR.out
          rw [hkl, List.take_length] at HE
          have HEE := Lib.hid HE
          clear HE
          go_wp2_with fail
          go_end0
          exact ⟨rfl, HEE.out, HSR.out.wf⟩
    by_cases h23 : op = 2 ∨ op = 3
    · have hn : 0 ≤ n ∧ n < 8 := by
        rcases HC.out with h | h | h
        · omega
        · exact h.2.2
        · omega
      obtain ⟨nn, rfl⟩ := Int.eq_ofNat_of_zero_le hn.1
      have hlf : leafB op nn = Vm.put nn := by unfold leafB; rw [if_neg h1, if_pos h23, Int.toNat_natCast]
      have HINT := Lib.hid (wnum_any B g most _ nn (by omega) w1 HW1.out (by have := HS1.out.sz; have := HB.out; omega) (by have h1 := HF.out; rw [hlf] at h1; simp only [List.length_append]; omega))
      have z1 := HS1.out.sz
      have n1 : ((op : Int) == 1) = false := by simp; omega
      have nn0 : (0 : Int) ≤ nn := by omega
      have nn8 : (nn : Int) < 8 := by omega
      have HLF := Lib.hid hlf
      clear hlf hn q2 q3
      rcases h23 with h23 | h23
      · obtain rfl := h23
        go_wp2_with fail
        refine HINT.out.mono ?_
        rintro _ w2 ⟨rfl, hw2, hf2⟩
        have HS2 := Lib.hid (HS1.out.next hf2 HB.out.2.2.2)
        have HW2 := Lib.hid hw2
        clear bb0 be0 be1 be2 hw2 hf2
        have bb0 := HS2.out.bw.cell 0
        have be0 := HS2.out.be.cell 0
        have be1 := HS2.out.be.cell 1
        have be2 := HS2.out.be.cell 2
        simp at bb0 be0 be1 be2
        go_wp2_with fail
        go_loopw [30] (fun i wr => ∃ k : Nat, k ≤ L ∧ i = .int .i64 k ∧ Hid (WE w B g 2 nn A L c wr) ∧ Hid (Wr wr B g most (l ++ (Vm.put 2 ++ (leafB 2 nn ++ prAll (prE m) (args.take k)))))) (fun i _ => L - (intOf i).toNat)
        case atStart => exact ⟨0, by omega, by go_num, HS2.out, by show Wr _ _ _ _ _; rw [List.take_zero]; simpa [prAll, HLF.out] using HW2.out⟩
        case round =>
          obtain ⟨k, hk, rfl, HSR, HWR⟩ := hrel
          by_cases hlt : k < L
          · have hk2 : k < args.length := by have := HL.out; omega
            obtain ⟨a, x, y, z, rfl, m1, m2, g0, g1, g2, hA⟩ := HK.out k hk2
            obtain ⟨xo, xm, xA, xl, xc, rfl, rfl, rfl⟩ := hA.xyz
            have hkk : ∀ j, wr.cell? ⟨a.block, j, none⟩ = w.cell? ⟨a.block, j, none⟩ := fun j => World.cell?_of_block (a := ⟨a.block, j, none⟩) (HSR.out.wf.fr.block a.block (by have := HB.out; omega) (by have := HB.out; omega) (by have := HB.out; omega))
            have hcl : ∀ p : Addr, p.block = a.block → wr.cell? p = w.cell? p := fun p hp => World.cell?_of_block (HSR.out.wf.fr.block p.block (by have := HB.out; omega) (by have := HB.out; omega) (by have := HB.out; omega))
            have G0 := (hcl (a.add (k * 3)) (ad_block _ _)).trans g0
            have G1 := (hcl ⟨(a.add (k * 3)).block, (a.add (k * 3)).off + 1, none⟩ (ad_block _ _)).trans g1
            have G2 := (hcl ⟨(a.add (k * 3)).block, (a.add (k * 3)).off + 2, none⟩ (ad_block _ _)).trans g2
            have hb5 : Below wr.heap.size wr (wr.alloc (.cells #[.int .u8 xo, .int .i64 xm, .slice xA xl xc] 25)) := (Below.refl _ _).alloc (Nat.le_refl _) _
            have hpt := prAll_take (prE m) args k hk2
            have hple := prAll_le (prE m) args (k + 1)
            have hsz := HSR.out.sz
            have HIH := Lib.hid (IH.out d args[k] (.agg #[.int .u8 xo, .int .i64 xm, .slice xA xl xc]) lo hi B g most _ _ ((hA.wf HSR.out.wf HB.out.2.1 HB.out.2.2.1 HB.out.1).below hb5 (by have := HB.out; omega)) (HWA.out k hk2) HB.out.2.1 HB.out.2.2.1 (HWR.out.more hb5) (by have := HB.out; have := hb5.size; omega) (by
              have h1 := HF.out
              rw [hpt, List.length_append] at hple
              simp only [List.length_append]
              omega))
            have HPT := Lib.hid hpt
            have HB5 := Lib.hid hb5
            have bw := (HSR.out.bw.same (heap_alloc_old wr (.cells #[.int .u8 xo, .int .i64 xm, .slice xA xl xc] 25) HSR.out.bw.lt)).cell 0
            simp at bw
            have ik : (k : Int) < (L : Int) := by omega
            clear hA hb5 hpt hple g0 g1 g2 hkk hcl
            go_wp2_with fail
            refine HIH.out.mono ?_
            rintro _ w5 ⟨rfl, hw5, hf5⟩
            have HW5 := Lib.hid hw5
            have HS5 := Lib.hid (HSR.out.next ((Wf.of_below HB5.out).trans hf5) HB.out.2.2.2)
            clear hw5 hf5 HIH
            go_wp2_with fail
            go_roundw
            case rel => exact ⟨k + 1, by omega, by go_num, HS5.out, by show Wr _ _ _ _ _; rw [HPT.out]; simpa using HW5.out⟩
            case measure => simp [intOf]; omega
          · obtain rfl : k = L := by omega
            have hkl : k = args.length := HL.out
            have HE := HWR.out
            rw [hkl, List.take_length] at HE
            have HEE := Lib.hid HE
            clear HE
            go_wp2_with fail
            go_end0
            exact ⟨rfl, HEE.out, HSR.out.wf⟩
      · obtain rfl := h23
        go_wp2_with fail
        refine HINT.out.mono ?_
        rintro _ w2 ⟨rfl, hw2, hf2⟩
        have HS2 := Lib.hid (HS1.out.next hf2 HB.out.2.2.2)
        have HW2 := Lib.hid hw2
        clear bb0 be0 be1 be2 hw2 hf2
        have bb0 := HS2.out.bw.cell 0
        have be0 := HS2.out.be.cell 0
        have be1 := HS2.out.be.cell 1
        have be2 := HS2.out.be.cell 2
        simp at bb0 be0 be1 be2
        go_wp2_with fail
        go_loopw [30] (fun i wr => ∃ k : Nat, k ≤ L ∧ i = .int .i64 k ∧ Hid (WE w B g 3 nn A L c wr) ∧ Hid (Wr wr B g most (l ++ (Vm.put 3 ++ (leafB 3 nn ++ prAll (prE m) (args.take k)))))) (fun i _ => L - (intOf i).toNat)
        case atStart => exact ⟨0, by omega, by go_num, HS2.out, by show Wr _ _ _ _ _; rw [List.take_zero]; simpa [prAll, HLF.out] using HW2.out⟩
        case round =>
          obtain ⟨k, hk, rfl, HSR, HWR⟩ := hrel
          by_cases hlt : k < L
          · have hk2 : k < args.length := by have := HL.out; omega
            obtain ⟨a, x, y, z, rfl, m1, m2, g0, g1, g2, hA⟩ := HK.out k hk2
            obtain ⟨xo, xm, xA, xl, xc, rfl, rfl, rfl⟩ := hA.xyz
            have hkk : ∀ j, wr.cell? ⟨a.block, j, none⟩ = w.cell? ⟨a.block, j, none⟩ := fun j => World.cell?_of_block (a := ⟨a.block, j, none⟩) (HSR.out.wf.fr.block a.block (by have := HB.out; omega) (by have := HB.out; omega) (by have := HB.out; omega))
            have hcl : ∀ p : Addr, p.block = a.block → wr.cell? p = w.cell? p := fun p hp => World.cell?_of_block (HSR.out.wf.fr.block p.block (by have := HB.out; omega) (by have := HB.out; omega) (by have := HB.out; omega))
            have G0 := (hcl (a.add (k * 3)) (ad_block _ _)).trans g0
            have G1 := (hcl ⟨(a.add (k * 3)).block, (a.add (k * 3)).off + 1, none⟩ (ad_block _ _)).trans g1
            have G2 := (hcl ⟨(a.add (k * 3)).block, (a.add (k * 3)).off + 2, none⟩ (ad_block _ _)).trans g2
            have hb5 : Below wr.heap.size wr (wr.alloc (.cells #[.int .u8 xo, .int .i64 xm, .slice xA xl xc] 25)) := (Below.refl _ _).alloc (Nat.le_refl _) _
            have hpt := prAll_take (prE m) args k hk2
            have hple := prAll_le (prE m) args (k + 1)
            have hsz := HSR.out.sz
            have HIH := Lib.hid (IH.out d args[k] (.agg #[.int .u8 xo, .int .i64 xm, .slice xA xl xc]) lo hi B g most _ _ ((hA.wf HSR.out.wf HB.out.2.1 HB.out.2.2.1 HB.out.1).below hb5 (by have := HB.out; omega)) (HWA.out k hk2) HB.out.2.1 HB.out.2.2.1 (HWR.out.more hb5) (by have := HB.out; have := hb5.size; omega) (by
              have h1 := HF.out
              rw [hpt, List.length_append] at hple
              simp only [List.length_append]
              omega))
            have HPT := Lib.hid hpt
            have HB5 := Lib.hid hb5
            have bw := (HSR.out.bw.same (heap_alloc_old wr (.cells #[.int .u8 xo, .int .i64 xm, .slice xA xl xc] 25) HSR.out.bw.lt)).cell 0
            simp at bw
            have ik : (k : Int) < (L : Int) := by omega
            clear hA hb5 hpt hple g0 g1 g2 hkk hcl
            go_wp2_with fail
            refine HIH.out.mono ?_
            rintro _ w5 ⟨rfl, hw5, hf5⟩
            have HW5 := Lib.hid hw5
            have HS5 := Lib.hid (HSR.out.next ((Wf.of_below HB5.out).trans hf5) HB.out.2.2.2)
            clear hw5 hf5 HIH
            go_wp2_with fail
            go_roundw
            case rel => exact ⟨k + 1, by omega, by go_num, HS5.out, by show Wr _ _ _ _ _; rw [HPT.out]; simpa using HW5.out⟩
            case measure => simp [intOf]; omega
          · obtain rfl : k = L := by omega
            have hkl : k = args.length := HL.out
            have HE := HWR.out
            rw [hkl, List.take_length] at HE
            have HEE := Lib.hid HE
            clear HE
            go_wp2_with fail
            go_end0
            exact ⟨rfl, HEE.out, HSR.out.wf⟩
    · have hlf : leafB op n = [] := by unfold leafB; rw [if_neg h1, if_neg h23]
      have n1 : ((op : Int) == 1) = false := by simp; omega
      have n2 : ((op : Int) == 2) = false := by simp; omega
      have n3 : ((op : Int) == 3) = false := by simp; omega
      have z1 := HS1.out.sz
      go_wp2_with fail
      go_loopw [30] (fun i wr => ∃ k : Nat, k ≤ L ∧ i = .int .i64 k ∧ Hid (WE w B g op n A L c wr) ∧ Hid (Wr wr B g most (l ++ (Vm.put op ++ (leafB op n ++ prAll (prE m) (args.take k)))))) (fun i _ => L - (intOf i).toNat)
      case atStart => exact ⟨0, by omega, by go_num, HS1.out, by show Wr _ _ _ _ _; rw [List.take_zero]; simpa [prAll, hlf] using HW1.out⟩
      case round =>
        obtain ⟨k, hk, rfl, HSR, HWR⟩ := hrel
        by_cases hlt : k < L
        · have hk2 : k < args.length := by have := HL.out; omega
          obtain ⟨a, x, y, z, rfl, m1, m2, g0, g1, g2, hA⟩ := HK.out k hk2
          obtain ⟨xo, xm, xA, xl, xc, rfl, rfl, rfl⟩ := hA.xyz
          have hkk : ∀ j, wr.cell? ⟨a.block, j, none⟩ = w.cell? ⟨a.block, j, none⟩ := fun j => World.cell?_of_block (a := ⟨a.block, j, none⟩) (HSR.out.wf.fr.block a.block (by have := HB.out; omega) (by have := HB.out; omega) (by have := HB.out; omega))
          have hcl : ∀ p : Addr, p.block = a.block → wr.cell? p = w.cell? p := fun p hp => World.cell?_of_block (HSR.out.wf.fr.block p.block (by have := HB.out; omega) (by have := HB.out; omega) (by have := HB.out; omega))
          have G0 := (hcl (a.add (k * 3)) (ad_block _ _)).trans g0
          have G1 := (hcl ⟨(a.add (k * 3)).block, (a.add (k * 3)).off + 1, none⟩ (ad_block _ _)).trans g1
          have G2 := (hcl ⟨(a.add (k * 3)).block, (a.add (k * 3)).off + 2, none⟩ (ad_block _ _)).trans g2
          have hb5 : Below wr.heap.size wr (wr.alloc (.cells #[.int .u8 xo, .int .i64 xm, .slice xA xl xc] 25)) := (Below.refl _ _).alloc (Nat.le_refl _) _
          have hpt := prAll_take (prE m) args k hk2
          have hple := prAll_le (prE m) args (k + 1)
          have hsz := HSR.out.sz
          have HIH := Lib.hid (IH.out d args[k] (.agg #[.int .u8 xo, .int .i64 xm, .slice xA xl xc]) lo hi B g most _ _ ((hA.wf HSR.out.wf HB.out.2.1 HB.out.2.2.1 HB.out.1).below hb5 (by have := HB.out; omega)) (HWA.out k hk2) HB.out.2.1 HB.out.2.2.1 (HWR.out.more hb5) (by have := HB.out; have := hb5.size; omega) (by
            have h1 := HF.out
            rw [hpt, List.length_append] at hple
            simp only [List.length_append]
            omega))
          have HPT := Lib.hid hpt
          have HB5 := Lib.hid hb5
          have bw := (HSR.out.bw.same (heap_alloc_old wr (.cells #[.int .u8 xo, .int .i64 xm, .slice xA xl xc] 25) HSR.out.bw.lt)).cell 0
          simp at bw
          have ik : (k : Int) < (L : Int) := by omega
          clear hA hb5 hpt hple g0 g1 g2 hkk hcl
          go_wp2_with fail
          refine HIH.out.mono ?_
          rintro _ w5 ⟨rfl, hw5, hf5⟩
          have HW5 := Lib.hid hw5
          have HS5 := Lib.hid (HSR.out.next ((Wf.of_below HB5.out).trans hf5) HB.out.2.2.2)
          clear hw5 hf5 HIH
          go_wp2_with fail
          go_roundw
          case rel => exact ⟨k + 1, by omega, by go_num, HS5.out, by show Wr _ _ _ _ _; rw [HPT.out]; simpa using HW5.out⟩
          case measure => simp [intOf]; omega
        · obtain rfl : k = L := by omega
          have hkl : k = args.length := HL.out
          have HE := HWR.out
          rw [hkl, List.take_length] at HE
          have HEE := Lib.hid HE
          clear HE
          go_wp2_with fail
          go_end0
          exact ⟨rfl, HEE.out, HSR.out.wf⟩
end Go.Proofs.YtpgkhodofhnpnaaDoor
