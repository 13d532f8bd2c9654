/-
  SetupEach (P6.3, the stage's theorem): any setup may be just if its numbers may, and each of its transactions, alone, behind as many others as there are ahead; none costs more than is told: the statement holds, and its card. Condition: code's table lies as its initialiser lays it, which the card ties to the program's text.
-/
import Derived.Test.YtnkdaehmdcpafaaDoorUd
import Derived.Test.YtnkdaehmdcpafaaDoorUf
import Derived.Test.YtnkdaehmdcpafaaDoorUi
import Derived.Test.YtnkdaehmdcpafaaDoorUo
import Derived.Test.YtnkdaehmdcpafaaDoorUk
import Derived.Deep.DeepCutAuto
import Derived.Deep.CutBlock
namespace Go.Proofs.YtnkdaehmdcpafaaDoor
open Go.ChangeShapes Go.WideShapes Go.ChangeAt Go.RowKit Go.WideElems Go.WideMaps
set_option linter.unusedVariables false
theorem costs_may {d : Nat} {l : List (List St)} : ∀ (n : Nat), txsF d l n = true → costT d l ≤ 2000 := by
  have key : ∀ (l : List (List St)) (n m : Nat), m ≤ 2000 → txsF d l n = true → mostL (costX d) l m ≤ 2000 := by
    intro l
    induction l with
    | nil => intro n m h _; exact h
    | cons x r ih =>
      intro n m h ht
      rw [txsF, Bool.and_eq_true] at ht
      refine ih (n + 1) _ ?_ ht.2
      have : costX d x ≤ 2000 := by
        have h1 := ht.1
        unfold mayF at h1
        simp only [Bool.and_eq_true] at h1
        exact of_decide_eq_true h1.2.2.2
      omega
  intro n h
  exact key l n 0 (by omega) h
theorem cost_may {d : Nat} {T : List (List (List St))} (h : thrF d T = true) : costA d T ≤ 2000 := by
  have key : ∀ (T : List (List (List St))) (m : Nat), m ≤ 2000 → thrF d T = true → mostL (costT d) T m ≤ 2000 := by
    intro T
    induction T with
    | nil => intro m h _; exact h
    | cons x r ih =>
      intro m h ht
      rw [thrF, Bool.and_eq_true, Bool.and_eq_true] at ht
      have := costs_may 0 ht.2.1
      exact ih _ (by omega) ht.2.2
  exact key T 0 (by omega) h
set_option maxRecDepth 100000 in
set_option maxHeartbeats 8000000 in
theorem SetupEach_walk {W : World} (v : Value) (d : Nat) (s : Su) (h : SetAt W 0 W.heap.size d v s) (hkd : Kd W) :
    Calls Tryd.prog 6 #[v] W fun e w' => e = .returned (.bool true) ∧ Below W.heap.size W w' := by
  obtain ⟨I, c, T, c', rfl, h⟩ := h
  obtain ⟨w, hw⟩ : ∃ w, w = W := ⟨_, rfl⟩
  rw [← hw] at h hkd ⊢
  have b0 := sfive_below w s.st s.cl s.tr I s.init.length c T s.thr.length c'
  have hS := h.below b0 (Nat.le_refl _)
  have HLG := Lib.hid (large_any6 d s I T c c' 0 w.heap.size _ hS (by simp))
  have HF5 := Lib.hid (fun W' (h' : Below (w.heap.size + 1) (w.alloc (.cells #[.int .i64 s.st, .int .i64 s.cl, .int .i64 s.tr, .slice I s.init.length c, .slice T s.thr.length c'] 25)) W') => (SFive.new w s.st s.cl s.tr I s.init.length c T s.thr.length c').below h' (by omega))
  have HB := Lib.hid b0
  have HA := Lib.hid awake_any
  have l1 := h.ini.len
  have l2 := h.len
  have HZ0 : Hid ((w.alloc (.cells #[.int .i64 s.st, .int .i64 s.cl, .int .i64 s.tr, .slice I s.init.length c, .slice T s.thr.length c'] 25)).heap.size = w.heap.size + 1) := by show _ = _; simp
  cases hlg : largeF d s with
  | true =>
    rw [hlg] at HLG
    obtain ⟨st, cl, tr, ini, thr⟩ := s
    dsimp only at *
    clear h hkd b0 hS hlg hw HF5
    go_enter Tryd.func6, Tryd.ntmps6
    go_wp2_with fail
    refine HLG.out.mono ?_
    rintro _ w1 ⟨rfl, b1⟩
    have B1 : Hid (Below w.heap.size w w1) := HB.out.trans (b1.mono (by have := HZ0.out; omega))
    clear b1
    go_wp2_with fail
    refine (HA.out w1).mono ?_
    rintro _ w2 ⟨rfl, b2⟩
    have B2 : Hid (Below w.heap.size w w2) := B1.out.trans (b2.mono B1.out.size)
    clear b2
    go_wp2_with fail
    go_ret
    exact ⟨rfl, B2.out⟩
  | false =>
    obtain ⟨h42, hfew⟩ := h.fit hlg
    rw [hlg] at HLG
    have HT := Lib.hid (fun W' (h' : Below w.heap.size w W') => h42.thr.below h' (Nat.le_refl _))
    have HCH := Lib.hid (fun W' (h' : Below w.heap.size w W') => check_any 42 s I T c c' 0 w.heap.size W' (hkd.below h' (Nat.le_refl _)) (h42.below h' (Nat.le_refl _)) h'.size (by omega))
    have HCO := Lib.hid (fun W' (h' : Below w.heap.size w W') => cost_any6 42 s I T c c' 0 w.heap.size W' (h42.below h' (Nat.le_refl _)) h'.size)
    have HKD := Lib.hid (fun W' (h' : Below w.heap.size w W') => hkd.below h' (Nat.le_refl _))
    have HOKF : Hid (okF 42 s = ((numF s.st s.cl s.tr s.init.length && decide (s.thr.length ≤ 6)) && thrF 42 s.thr)) := by show _ = _; unfold okF; rw [Bool.and_assoc]
    have HCA := Lib.hid (costA_le 42 s.thr)
    have HEND : Hid (thrF 42 (s.thr.drop s.thr.length) = true ∧ ∀ m, mostL (costT 42) (s.thr.drop s.thr.length) m = m) := by
      rw [List.drop_length]
      exact ⟨rfl, fun _ => rfl⟩
    have HD1 := Lib.hid (fun k h => thrF_drop 42 s.thr k h)
    have HD2 := Lib.hid (fun k m h => mostL_drop (costT 42) s.thr k m h)
    have HCM := Lib.hid (fun h => cost_may (d := 42) (T := s.thr) h)
    obtain ⟨st, cl, tr, ini, thr⟩ := s
    dsimp only at *
    have HST0 : Hid (thrF 42 thr = thrF 42 (thr.drop 0) ∧ costA 42 thr = mostL (costT 42) (thr.drop 0) 0) := ⟨rfl, rfl⟩
    obtain ⟨M, hM⟩ : ∃ M, M = thr.length := ⟨_, rfl⟩
    have HM := Lib.hid hM
    obtain ⟨n, hn⟩ : ∃ n, n = ini.length := ⟨_, rfl⟩
    obtain ⟨OK, hOK⟩ : ∃ b, b = (numF st cl tr n && decide (M ≤ 6)) := ⟨_, rfl⟩
    rw [← hM] at HLG HF5 HB HZ0 HCH HCO HOKF HEND l2
    rw [← hn] at HLG HF5 HB HZ0 HCH HCO HOKF l1
    rw [← hM, ← hn]
    rw [← hOK] at HOKF
    have HOK := Lib.hid hOK
    obtain ⟨F, hF⟩ : ∃ F, F = okF 42 ⟨st, cl, tr, ini, thr⟩ := ⟨_, rfl⟩
    obtain ⟨CA, hCA⟩ : ∃ C, C = costA 42 thr := ⟨_, rfl⟩
    rw [← hF] at HCH HOKF
    rw [← hCA] at HCO HCA HST0 HCM
    obtain ⟨W0, hW0⟩ : ∃ W, W = w.alloc (.cells #[.int .i64 st, .int .i64 cl, .int .i64 tr, .slice I n c, .slice T M c'] 25) := ⟨_, rfl⟩
    rw [← hW0] at HF5 HB HZ0 HLG
    have HW0 := Lib.hid hW0
    clear h hkd b0 hS hlg hw hfew h42 hM hn hOK hF hCA hW0
    go_enter Tryd.func6, Tryd.ntmps6
    go_wp2_with fail
    rw [← HW0.out]
    refine HLG.out.mono ?_
    rintro _ w1 ⟨rfl, b1⟩
    have B1 : Hid (Below (w.heap.size + 1) W0 w1) := b1.mono (by have := HZ0.out; omega)
    clear b1
    go_wp2_with fail
    refine (HA.out w1).mono ?_
    rintro _ w2 ⟨rfl, b2⟩
    have B2 : Hid (Below (w.heap.size + 1) W0 w2) := B1.out.trans (b2.mono (by have := B1.out.size; have := HZ0.out; omega))
    have c0 := (HF5.out w2 B2.out).c0
    have c1 := (HF5.out w2 B2.out).c1
    have c2 := (HF5.out w2 B2.out).c2
    have c3 := (HF5.out w2 B2.out).c3
    have c4 := (HF5.out w2 B2.out).c4
    clear b2
    go_upto_region 3 with fail
    go_cut [3] (fun o wc => o = .bool OK ∧ wc = w2)
    case first =>
      by_cases q0 : (1 : Int) ≤ (n : Int)
      case neg =>
        have HO : Hid (OK = false) := by
          show _ = _
          rw [HOK.out]
          cases hb : (numF st cl tr n && decide (M ≤ 6)) with
          | false => rfl
          | true =>
            simp only [numF, inF, Bool.and_eq_true, decide_eq_true_eq] at hb
            omega
        clear l1 l2
        go_wp2_with fail
        go_meet
        exact ⟨by rw [HO.out], rfl⟩
      by_cases q1 : (n : Int) ≤ 32
      case neg =>
        have HO : Hid (OK = false) := by
          show _ = _
          rw [HOK.out]
          cases hb : (numF st cl tr n && decide (M ≤ 6)) with
          | false => rfl
          | true =>
            simp only [numF, inF, Bool.and_eq_true, decide_eq_true_eq] at hb
            omega
        clear l1 l2
        go_wp2_with fail
        go_meet
        exact ⟨by rw [HO.out], rfl⟩
      by_cases q2 : (1 : Int) ≤ st
      case neg =>
        have HO : Hid (OK = false) := by
          show _ = _
          rw [HOK.out]
          cases hb : (numF st cl tr n && decide (M ≤ 6)) with
          | false => rfl
          | true =>
            simp only [numF, inF, Bool.and_eq_true, decide_eq_true_eq] at hb
            omega
        clear l1 l2
        go_wp2_with fail
        go_meet
        exact ⟨by rw [HO.out], rfl⟩
      by_cases q3 : st ≤ (n : Int)
      case neg =>
        have HO : Hid (OK = false) := by
          show _ = _
          rw [HOK.out]
          cases hb : (numF st cl tr n && decide (M ≤ 6)) with
          | false => rfl
          | true =>
            simp only [numF, inF, Bool.and_eq_true, decide_eq_true_eq] at hb
            omega
        clear l1 l2
        go_wp2_with fail
        go_meet
        exact ⟨by rw [HO.out], rfl⟩
      by_cases q4 : (0 : Int) ≤ cl
      case neg =>
        have HO : Hid (OK = false) := by
          show _ = _
          rw [HOK.out]
          cases hb : (numF st cl tr n && decide (M ≤ 6)) with
          | false => rfl
          | true =>
            simp only [numF, inF, Bool.and_eq_true, decide_eq_true_eq] at hb
            omega
        clear l1 l2
        go_wp2_with fail
        go_meet
        exact ⟨by rw [HO.out], rfl⟩
      by_cases q5 : cl ≤ 1099511627776
      case neg =>
        have HO : Hid (OK = false) := by
          show _ = _
          rw [HOK.out]
          cases hb : (numF st cl tr n && decide (M ≤ 6)) with
          | false => rfl
          | true =>
            simp only [numF, inF, Bool.and_eq_true, decide_eq_true_eq] at hb
            omega
        clear l1 l2
        go_wp2_with fail
        go_meet
        exact ⟨by rw [HO.out], rfl⟩
      by_cases q6 : (1 : Int) ≤ tr
      case neg =>
        have HO : Hid (OK = false) := by
          show _ = _
          rw [HOK.out]
          cases hb : (numF st cl tr n && decide (M ≤ 6)) with
          | false => rfl
          | true =>
            simp only [numF, inF, Bool.and_eq_true, decide_eq_true_eq] at hb
            omega
        clear l1 l2
        go_wp2_with fail
        go_meet
        exact ⟨by rw [HO.out], rfl⟩
      by_cases q7 : tr ≤ 1000
      case neg =>
        have HO : Hid (OK = false) := by
          show _ = _
          rw [HOK.out]
          cases hb : (numF st cl tr n && decide (M ≤ 6)) with
          | false => rfl
          | true =>
            simp only [numF, inF, Bool.and_eq_true, decide_eq_true_eq] at hb
            omega
        clear l1 l2
        go_wp2_with fail
        go_meet
        exact ⟨by rw [HO.out], rfl⟩
      by_cases q8 : (M : Int) ≤ 6
      case neg =>
        have HO : Hid (OK = false) := by
          show _ = _
          rw [HOK.out]
          cases hb : (numF st cl tr n && decide (M ≤ 6)) with
          | false => rfl
          | true =>
            simp only [numF, inF, Bool.and_eq_true, decide_eq_true_eq] at hb
            omega
        clear l1 l2
        go_wp2_with fail
        go_meet
        exact ⟨by rw [HO.out], rfl⟩
      have HO : Hid (OK = true) := by
        show _ = _
        rw [HOK.out]
        simp only [numF, inF, Bool.and_eq_true, decide_eq_true_eq]
        omega
      clear l1 l2
      go_wp2_with fail
      go_meet
      exact ⟨by rw [HO.out], rfl⟩
    case rest =>
      obtain ⟨rfl, rfl⟩ := hcut
      have HST : Hid ((OK && thrF 42 thr) = (OK && thrF 42 (thr.drop 0)) ∧ CA = mostL (costT 42) (thr.drop 0) 0) := ⟨by rw [← HST0.out.1], HST0.out.2⟩
      clear c0 c1 c2 c3 c4 HST0 HOK l1
      go_wp2_with fail
      go_loopw [3, 4, 5] (fun o a i wr => ∃ (k m : Nat) (b : Bool), k ≤ M ∧ m ≤ 2001 ∧ i = .int .i64 k ∧ a = .int .i64 m ∧ o = .bool b ∧ Hid ((OK && thrF 42 thr) = (b && thrF 42 (thr.drop k)) ∧ CA = mostL (costT 42) (thr.drop k) m) ∧ Hid (Below (w.heap.size + 1) W0 wr)) (fun _ _ i _ => M - (intOf i).toNat)
      case atStart => exact ⟨0, 0, _, by omega, by omega, by go_num, by go_num, rfl, HST, B2⟩
      case round =>
        obtain ⟨k, m, b, hk, hm, rfl, rfl, rfl, HW, HX⟩ := hrel
        have f4 := (HF5.out wr HX.out).c4
        have hB0 : Below w.heap.size w wr := HB.out.trans (HX.out.mono (by omega))
        by_cases hlt : k < M
        · obtain ⟨p, B, c2, rfl, m1, m2, g0, l3, hX⟩ := HT.out w (Below.refl _ _) k (by have := HM.out; omega)
          have g1 := (hB0.cell (p := p.add k) (by rw [ad_block]; omega)).trans g0
          obtain ⟨l, hl⟩ : ∃ l, l = thr[k]'(by have := HM.out; omega) := ⟨_, rfl⟩
          have hD1 := HD1.out k (by have := HM.out; omega)
          have hD2 := HD2.out k m (by have := HM.out; omega)
          rw [← hl] at g1 l3 hX hD1 hD2 g0
          have HG0 := Lib.hid (And.intro g0 m2)
          have HXX := Lib.hid (fun W' (h' : Below w.heap.size w W') => hX.below h' (Nat.le_refl _))
          have HDX := Lib.hid (fun k h => txsF_drop 42 l k h)
          have HDM := Lib.hid (fun k m h => mostL_drop (costX 42) l k m h)
          have HENDX : Hid (∀ j, txsF 42 (l.drop l.length) j = true ∧ ∀ m, mostL (costX 42) (l.drop l.length) m = m) := fun j => by
            rw [List.drop_length]
            exact ⟨rfl, fun _ => rfl⟩
          have HIN : Hid ((OK && thrF 42 thr) = ((b && decide (l.length ≤ 6)) && (txsF 42 (l.drop 0) 0 && thrF 42 (thr.drop (k + 1)))) ∧ CA = mostL (costT 42) (thr.drop (k + 1)) (mostL (costX 42) (l.drop 0) m)) := by
            refine ⟨?_, ?_⟩
            · rw [HW.out.1, hD1, Bool.and_assoc]; rfl
            · rw [HW.out.2, hD2, show l.drop 0 = l from rfl, mostL_max (costX 42) l m]; rfl
          obtain ⟨J, hJ⟩ : ∃ J, J = l.length := ⟨_, rfl⟩
          have HJ := Lib.hid hJ
          rw [← hJ] at g1 l3 HENDX HIN HG0
          clear hl hD1 hD2 hX hJ m1 m2 g0 HW
          have k1 : (k : Int) < (M : Int) := by omega
          go_upto_region 8 with fail
          go_cut [3] (fun o wc => o = .bool (b && decide (J ≤ 6)) ∧ wc = wr)
          case first =>
            cases b with
            | false =>
              go_wp2_with fail
              go_meet
              exact ⟨rfl, rfl⟩
            | true =>
              by_cases q : (J : Int) ≤ 6
              · have q2 : decide (J ≤ 6) = true := decide_eq_true (by omega)
                have Q2 := Lib.hid q2
                clear q2
                go_wp2_with fail
                go_meet
                exact ⟨by rw [Q2.out]; rfl, rfl⟩
              · have q2 : decide (J ≤ 6) = false := decide_eq_false (by omega)
                have Q2 := Lib.hid q2
                clear q2
                go_wp2_with fail
                go_meet
                exact ⟨by rw [Q2.out]; rfl, rfl⟩
          case rest =>
            obtain ⟨rfl, rfl⟩ := hcut
            obtain ⟨b2, hb2⟩ : ∃ b2, b2 = (b && decide (J ≤ 6)) := ⟨_, rfl⟩
            rw [← hb2] at HIN ⊢
            clear hb2 hB0
            go_wp2_with fail
            go_loopw [3, 4, 6] (fun o a i wr => ∃ (j m : Nat) (b : Bool), j ≤ J ∧ m ≤ 2001 ∧ i = .int .i64 j ∧ a = .int .i64 m ∧ o = .bool b ∧ Hid ((OK && thrF 42 thr) = (b && (txsF 42 (l.drop j) j && thrF 42 (thr.drop (k + 1)))) ∧ CA = mostL (costT 42) (thr.drop (k + 1)) (mostL (costX 42) (l.drop j) m)) ∧ Hid (Below (w.heap.size + 1) W0 wr)) (fun _ _ i _ => J - (intOf i).toNat)
            case atStart => exact ⟨0, m, b2, by omega, hm, by go_num, by go_num, rfl, HIN, HX⟩
            case round =>
              obtain ⟨j, mm, bb, hj, hmm, rfl, rfl, rfl, HW, HX⟩ := hrel
              have f4 := (HF5.out wr HX.out).c4
              have hB0 : Below w.heap.size w wr := HB.out.trans (HX.out.mono (by omega))
              have g1 := (hB0.cell (p := p.add k) (by rw [ad_block]; have := HG0.out.2; omega)).trans HG0.out.1
              by_cases hlj : j < J
              · obtain ⟨p2, B2', c3, rfl, m1, m2, g0, l4, hS⟩ := HXX.out w (Below.refl _ _) j (by have := HJ.out; omega)
                have g2 := (hB0.cell (p := p2.add j) (by rw [ad_block]; omega)).trans g0
                obtain ⟨x, hx⟩ : ∃ x, x = l[j]'(by have := HJ.out; omega) := ⟨_, rfl⟩
                have hD1 := HDX.out j (by have := HJ.out; omega)
                have hD2 := HDM.out j mm (by have := HJ.out; omega)
                rw [← hx] at g2 l4 hS hD1 hD2 g0
                have HG2 := Lib.hid (And.intro g0 m2)
                have HMAY := Lib.hid (codemay_of 42 B2' c3 x (j : Int) (by omega) (by omega) 0 w.heap.size wr (HKD.out wr hB0) (hS.below hB0 (Nat.le_refl _)) hB0.size l4 (by omega))
                have HCX : Hid (∀ W', Below w.heap.size w W' → Calls Tryd.prog 26 #[.slice B2' x.length c3] W' fun e w' => e = .returned (.int .i64 (costX 42 x : Nat)) ∧ Below W'.heap.size W' w') := fun W' h' => cost_of 42 B2' c3 x 0 w.heap.size W' (hS.below h' (Nat.le_refl _)) h'.size l4
                have hle := costX_le 42 x
                obtain ⟨bm, hbm⟩ : ∃ bm, bm = mayF 42 x (j : Int) := ⟨_, rfl⟩
                obtain ⟨y, hy⟩ : ∃ y, y = costX 42 x := ⟨_, rfl⟩
                rw [← hbm] at HMAY hD1
                rw [← hy] at HCX hD2 hle
                obtain ⟨q, hq⟩ : ∃ q, q = x.length := ⟨_, rfl⟩
                rw [← hq] at HMAY HCX g2 HG2
                have HNX : Hid ((OK && thrF 42 thr) = ((bb && bm) && (txsF 42 (l.drop (j + 1)) (j + 1) && thrF 42 (thr.drop (k + 1)))) ∧ CA = mostL (costT 42) (thr.drop (k + 1)) (mostL (costX 42) (l.drop (j + 1)) (max mm y))) := by
                  refine ⟨?_, ?_⟩
                  · rw [HW.out.1, hD1]
                    cases bb <;> cases bm <;> simp
                  · rw [HW.out.2, hD2]
                have hmx := max_intv mm y
                have hmx2 := max_int mm y
                have HME : Hid (max mm y ≤ 2001) := by show _ ≤ _; omega
                obtain ⟨z, hz⟩ : ∃ z, z = max mm y := ⟨_, rfl⟩
                rw [← hz] at hmx hmx2 HNX HME
                clear hx hD1 hD2 hS hbm hy hq hz m1 m2 l4 HW g0 hB0
                have k2 : (j : Int) < (J : Int) := by omega
                go_upto_region 12 with fail
                go_cut [3] (fun o wc => o = .bool (bb && bm) ∧ Hid (Below (w.heap.size + 1) W0 wc))
                case first =>
                  clear hmx hmx2
                  cases bb with
                  | false =>
                    go_wp2_with fail
                    go_meet
                    exact ⟨rfl, HX⟩
                  | true =>
                    go_wp2_with fail
                    refine HMAY.out.mono ?_
                    rintro _ w5 ⟨rfl, b5⟩
                    have B5 : Hid (Below (w.heap.size + 1) W0 w5) := HX.out.trans (b5.mono (by have := HX.out.size; have := HZ0.out; omega))
                    clear b5
                    cases bm with
                    | false =>
                      go_wp2_with fail
                      go_meet
                      exact ⟨rfl, B5⟩
                    | true =>
                      go_wp2_with fail
                      go_meet
                      exact ⟨rfl, B5⟩
                case rest =>
                  obtain ⟨rfl, HX2⟩ := hcut
                  clear f4 g1 g2 HMAY HX
                  have f4 := (HF5.out wc HX2.out).c4
                  have hB0 : Below w.heap.size w wc := HB.out.trans (HX2.out.mono (by omega))
                  have g1 := (hB0.cell (p := p.add k) (by rw [ad_block]; have := HG0.out.2; omega)).trans HG0.out.1
                  have g2 := (hB0.cell (p := p2.add j) (by rw [ad_block]; have := HG2.out.2; omega)).trans HG2.out.1
                  have HC := Lib.hid (HCX.out wc hB0)
                  clear hB0
                  obtain ⟨b3, hb3⟩ : ∃ b3, b3 = (bb && bm) := ⟨_, rfl⟩
                  rw [← hb3] at HNX ⊢
                  clear hb3
                  go_wp2_with fail
                  refine HC.out.mono ?_
                  rintro _ w5 ⟨rfl, b5⟩
                  have B5 : Hid (Below (w.heap.size + 1) W0 w5) := HX2.out.trans (b5.mono (by have := HX2.out.size; have := HZ0.out; omega))
                  clear b5 f4 g1 g2
                  go_wp2_with fail
                  go_roundw
                  case rel => exact ⟨j + 1, z, b3, by omega, HME.out, by go_num, by go_num, rfl, HNX, B5⟩
                  case measure => simp [intOf]; omega
              · have HN : Hid ((OK && thrF 42 thr) = (bb && thrF 42 (thr.drop (k + 1))) ∧ CA = mostL (costT 42) (thr.drop (k + 1)) mm) := by
                  have hj' : j = J := by omega
                  refine ⟨?_, ?_⟩
                  · rw [HW.out.1, hj', (HENDX.out J).1]; rfl
                  · rw [HW.out.2, hj', (HENDX.out J).2]
                clear HW hB0
                go_wp2_with fail
                go_roundw
                case rel => exact ⟨k + 1, mm, bb, by omega, hmm, by go_num, by go_num, rfl, HN, HX⟩
                case measure => simp [intOf]; omega
        · have HN : Hid (F = b ∧ CA = m ∧ (b = true → m ≤ 2000)) := by
            have hk' : k = M := by omega
            have h1 : CA = m := by rw [HW.out.2, hk', HEND.out.2]
            have h2 : F = b := by
              show F = b
              rw [HOKF.out, HW.out.1, hk', HEND.out.1, Bool.and_true]
            refine ⟨h2, h1, fun hb => ?_⟩
            rw [← h1]
            apply HCM.out
            have h3 := HOKF.out
            rw [h2, hb] at h3
            cases ht : thrF 42 thr with
            | true => rfl
            | false => rw [ht] at h3; cases OK <;> cases h3
          obtain ⟨rfl, rfl, hb2⟩ := HN.out
          have e0 := (HF5.out wr HX.out).c0
          have e1 := (HF5.out wr HX.out).c1
          have e2 := (HF5.out wr HX.out).c2
          have e3 := (HF5.out wr HX.out).c3
          have HCK := Lib.hid (HCH.out wr hB0)
          have HCOO := Lib.hid (fun W' (h' : Below wr.heap.size wr W') => HCO.out W' (hB0.trans (h'.mono hB0.size)))
          have HCELL := Lib.hid (fun W' (h' : Below wr.heap.size wr W') => HF5.out W' (HX.out.trans (h'.mono (by have := HX.out.size; have := HZ0.out; omega))))
          have HBB := Lib.hid hB0
          clear HN HW hB0 HCH HCO
          have hFv : ∀ b, errF b = 0 ↔ b = true := fun b => by cases b <;> simp [errF]
          cases F with
          | true =>
            have HCK1 : Hid (Calls Tryd.prog 14 #[.agg #[.int .i64 st, .int .i64 cl, .int .i64 tr, .slice I n c, .slice T M c']] wr fun e w' => e = .returned (.int .i64 0) ∧ Below wr.heap.size wr w') := HCK.out
            have hb3 : (CA : Int) ≤ 2000 := by have := hb2 rfl; omega
            clear HCK hFv hb2
            go_wp2_with fail
            refine HCK1.out.mono ?_
            rintro _ w5 ⟨rfl, b5⟩
            have e0 := (HCELL.out w5 b5).c0
            have e1 := (HCELL.out w5 b5).c1
            have e2 := (HCELL.out w5 b5).c2
            have e3 := (HCELL.out w5 b5).c3
            have e4 := (HCELL.out w5 b5).c4
            have B5 := Lib.hid b5
            clear b5
            go_wp2_with fail
            refine (HCOO.out w5 B5.out).mono ?_
            rintro _ w6 ⟨rfl, b6⟩
            have B6 : Hid (Below w.heap.size w w6) := HBB.out.trans ((B5.out.trans (b6.mono B5.out.size)).mono HBB.out.size)
            clear b6 e0 e1 e2 e3 e4
            go_wp2_with fail
            go_ret
            exact ⟨rfl, B6.out⟩
          | false =>
            have HCK1 : Hid (Calls Tryd.prog 14 #[.agg #[.int .i64 st, .int .i64 cl, .int .i64 tr, .slice I n c, .slice T M c']] wr fun e w' => e = .returned (.int .i64 4) ∧ Below wr.heap.size wr w') := HCK.out
            clear HCK hFv hb2
            go_wp2_with fail
            refine HCK1.out.mono ?_
            rintro _ w5 ⟨rfl, b5⟩
            have e0 := (HCELL.out w5 b5).c0
            have e1 := (HCELL.out w5 b5).c1
            have e2 := (HCELL.out w5 b5).c2
            have e3 := (HCELL.out w5 b5).c3
            have e4 := (HCELL.out w5 b5).c4
            have B5 := Lib.hid b5
            clear b5
            go_wp2_with fail
            refine (HCOO.out w5 B5.out).mono ?_
            rintro _ w6 ⟨rfl, b6⟩
            have B6 : Hid (Below w.heap.size w w6) := HBB.out.trans ((B5.out.trans (b6.mono B5.out.size)).mono HBB.out.size)
            clear b6 e0 e1 e2 e3 e4
            go_wp2_with fail
            go_ret
            exact ⟨rfl, B6.out⟩
theorem SetupEach_laid : laidOutB Tryd.prog = true := by kernel_rfl
set_option maxRecDepth 100000 in
theorem SetupEach_lifted (os : Os) (started : os.Started) (H : Type) (enc : TypeId × Value → H) :
    ReturnsInHanded {} Tryd.checked os 6 .any (fun w args => (Rows.setupEachSpec.pre enc Tryd.prog Tryd.f6 [] false w args ∧ laidMetH Tryd.prog [("seesaw/code.kinds", Rows.laid_seesaw_code_kinds)] w) ∧ sizedMet enc Tryd.prog Tryd.f6 (OpenSpec.ofChange Rows.setupEachSpec) false w args)
      (Rows.setupEachSpec.post enc Tryd.prog Tryd.f6 false true false false) := by
  refine returnsInHanded_of_change_and (C := Tryd.checked) (X := fun w _ => laidMetH Tryd.prog [("seesaw/code.kinds", Rows.laid_seesaw_code_kinds)] w) (fun _ _ _ hh h => h.of_heap hh) lift_own started (by kernel_rfl) Tryd.func6
    (ChangeSpec.witness_shaped (enc := enc) (C := Tryd.checked) (os := os) (X := fun w _ => laidMetH Tryd.prog [("seesaw/code.kinds", Rows.laid_seesaw_code_kinds)] w) false (World.doorLaid Tryd.prog 400 os) #[.agg #[.int .i64 0, .int .i64 0, .int .i64 0, .slice none 0 0, .slice none 0 0]] 8 rfl (World.shaped_of_RefB (by kernel_rfl) (by kernel_rfl)) (by kernel_rfl) (by kernel_rfl) (by kernel_rfl) (door_met os _)) ?_
  intro W base args ds gs before hval0 hW _ _ hL _
  have hval : ∀ (j : Nat) t v, Tryd.f6.params[j]? = some t → args[j]? = some v → Value.okWide Tryd.prog W .any base t v := hval0
  have hW' := hW
  obtain ⟨p, q, hA0, hV, rfl, hfz, hnd⟩ := hW
  have hA : DataW.TrodAll enc Tryd.prog W 0 (fun _ => true) true Tryd.f6.params.toList args.toList ds p := hA0
  rw [Tryd.params6] at hA hval
  obtain ⟨v0, vs0, d0, ds0, p0, q0, hargs, rfl, rfl, h0, r0⟩ := trodAll_cons hA
  obtain ⟨rfl, rfl, rfl⟩ := trodAll_nil r0
  obtain rfl : args = #[v0] := by cases args; simp_all
  obtain ⟨rfl, rfl⟩ := trodVars_none hV
  obtain ⟨n0, su0, hE0⟩ := open_setup (hval 0 25 v0 rfl rfl) h0
  clear hA0 hval0
  simp only [List.append_nil] at hW'
  try simp only [List.nil_append] at hW'
  refine (SetupEach_walk v0 n0 su0 hE0 (kd_of_laid hL)).mono fun e W' ⟨he, hg⟩ => ?_
  subst he
  exact ⟨_, rfl, lift_post (pv := []) hW' (fun _ _ _ => (trodAll_cons_mk (shut_bool Tryd.underlying4 _) trodAll_mk0)) (fun sp hsp => (trodAll_cons_mk (WideElems.Trod_stays SetupEach_laid (by kernel_rfl) (of_decide_eq_true (by kernel_rfl)) h0 (fun x hx => hg.same (hW'.lt x (by simp [hx]))) (fun x hx => hsp x (by simp [hx]))) trodAll_mk0)) (fun _ _ => rfl) (by simp)
    hg (ok_one (by kernel_rfl) rfl (okWide_bool_mk Tryd.underlying4 _))⟩
/-- THE STATEMENT of SetupEach: for every input the call returns true, and each argument reads behind it as before. -/
theorem SetupEach_holds : Rows.SetupEachSaid :=
  OpenClaim.holds_of_wide 6 Tryd.f6 rfl rfl rfl rfl rfl rfl rfl ⟨rfl, rfl, rfl, rfl, rfl⟩ rfl rfl rfl rfl rfl (by kernel_rfl) Tryd.func6 (by kernel_rfl)
    (of_decide_eq_true (by kernel_rfl)) (by unfold Func.isWrapper; first | (rw [if_pos (by decide +kernel)]; kernel_rfl) | (rw [if_neg (by decide +kernel)]; exact ⟨rfl, rfl⟩))
    (fun os started H enc _ => SetupEach_lifted os started H enc)
/-- THE TIED CARD of SetupEach. -/
theorem SetupEachCard_holds : Rows.SetupEachCardSaid :=
  Claim7.holds_tied_plain_at .later [] [.data] true Rows.setupEachCard.stood.harness false
    SetupEach_holds (fun _ h => by cases h) (by kernel_rfl) (fun _ h => by cases h) setupEach_row_tie rfl ⟨rfl, rfl⟩ (by kernel_rfl) rfl
    (fun f fn hf hfn => by
      obtain rfl : f = 6 := Option.some.inj ((show Tryd.prog.funcNamed "seesaw/seesawlaw06.SetupEach" = some 6 by kernel_rfl).symm.trans hf) |>.symm
      obtain rfl : fn = Tryd.f6 := (Option.some.inj (Tryd.func6.symm.trans hfn)).symm
      exact ⟨by kernel_rfl, fun j t ht => by
        rw [Tryd.params6] at ht
        have hm : t ∈ [25] := by simpa using Array.mem_of_getElem? ht
        have hall : ([25].all fun u => !Tryd.prog.wantsStandIn u) = true := by kernel_rfl
        exact (show Tryd.prog.wantsStandIn t = false by simpa using List.all_eq_true.1 hall t hm)⟩)
    (by kernel_rfl)
end Go.Proofs.YtnkdaehmdcpafaaDoor
