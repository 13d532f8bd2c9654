/-
  CONTRACTS OF seesawref13's Owner, bumped, Clock, Version: what is kept behind any events. Laid by gen/gen_ol.py. Conditions: at most 2000 events.
-/
import Derived.Test.YtjennlkindbpoaaDoorOe
import Derived.BigQuiet
import Derived.Deep.QuietTactic
import Derived.StillTailTactics
namespace Go.Proofs.YtjennlkindbpoaaDoor
set_option maxRecDepth 100000
open Go.RowKit
set_option linter.unusedVariables false
theorem own_next (S s : Int) (q : Sh) (e : Ev) : (stepS S q e).own s = if e.pl = s then (if e.kd = 4 then e.th else if e.kd = 9 ∨ e.kd = 11 then -1 else q.own s) else q.own s := by
  simp only [stepS]
  by_cases h : e.pl = s
  · subst h
    rw [if_pos rfl]
    split
    · rw [updF_same]
    · split
      · rw [updF_same]
      · rfl
  · rw [if_neg h]
    split
    · rw [updF_other (Ne.symm h)]
    · split
      · rw [updF_other (Ne.symm h)]
      · rfl
theorem bmp_next (S t : Int) (q : Sh) (e : Ev) : (stepS S q e).bmp t = if e.kd = 5 ∧ e.th = t then e.v else q.bmp t := by
  simp only [stepS]
  by_cases h : e.kd = 5
  · rw [if_pos h]
    by_cases ht : e.th = t
    · subst ht
      rw [if_pos ⟨h, rfl⟩, updF_same]
    · rw [if_neg (fun x => ht x.2), updF_other (Ne.symm ht)]
  · rw [if_neg h, if_neg (fun x => h x.1)]
theorem ver_next (S s : Int) (q : Sh) (e : Ev) : (stepS S q e).ver s = if e.pl = s ∧ e.kd = 2 then e.v else if e.pl = s ∧ e.kd = 9 then q.bmp e.th else q.ver s := by
  by_cases h : s = e.pl
  · subst h
    by_cases h2 : e.kd = 2
    · simp [stepS, updF, h2]
    · by_cases h9 : e.kd = 9 <;> simp [stepS, updF, h2, h9]
  · have h' : ¬ e.pl = s := fun x => h x.symm
    by_cases h2 : e.kd = 2
    · simp [stepS, updF, h2, h, h']
    · by_cases h9 : e.kd = 9 <;> simp [stepS, updF, h2, h9, h, h']
theorem clk_next (S : Int) (q : Sh) (e : Ev) : (stepS S q e).clk = if e.kd = 1 ∨ e.kd = 5 then e.v else q.clk := rfl
theorem behind_zero (S : Int) (L : List Ev) : behind S (L.take 0) = sh0 := rfl
theorem behind_all (S : Int) (L : List Ev) : behind S (L.take L.length) = behind S L := by rw [List.take_length]
set_option maxHeartbeats 4000000 in
theorem rowner_any (S : Int) (w : World) (A : Option Addr) (L : List Ev) (c : Nat) (s : Int) (hl : L.length ≤ 2000) (he : EvsAt w w.heap.size A L) :
    Calls Tryd.prog 45 #[.slice A L.length c, .int .i64 s] w fun r w' => r = .returned (.int .i64 ((behind S L).own s)) ∧ Below w.heap.size w w' := by
  obtain ⟨R, hR⟩ : ∃ R, R = (behind S L).own s := ⟨_, rfl⟩
  obtain ⟨n, hn⟩ : ∃ n, n = L.length := ⟨_, rfl⟩
  have HE := Lib.hid he
  have HN := Lib.hid hn
  rw [← hR]
  have HR : Hid ((behind S (L.take n)).own s = R) := by
    show _ = _
    rw [hR, hn, behind_all]
  have i1 : (n : Int) ≤ 2000 := by omega
  have z1 : (0 : Int) ≤ n := by omega
  rw [← hn] at hl ⊢
  clear hR he hn
  go_enter Tryd.func45, Tryd.ntmps45
  go_wp2_with fail
  go_loopw [5] (fun iv wr => ∃ k : Nat, k ≤ n ∧ iv = .int .i64 ((k : Int) - 1) ∧ Hid ((behind S (L.take k)).own s = R) ∧ Hid (Below w.heap.size w wr)) (fun iv _ => (intOf iv + 1).toNat)
  case atStart => exact ⟨n, Nat.le_refl _, rfl, HR, Below.refl _ _⟩
  case round =>
    obtain ⟨k, hk, rfl, hr, hB⟩ := hrel
    cases k with
    | zero =>
      have h0 : -1 = R := hr.out
      subst h0
      go_wp2_with fail
      go_ret
      exact ⟨rfl, hB.out⟩
    | succ j =>
      have hj : j < n := by omega
      rw [show (((j + 1 : Nat) : Int) - 1) = (j : Int) by omega]
      obtain ⟨a, rfl, ha, hev⟩ := HE.out j (by rw [← HN.out]; exact hj)
      have hev := hev.below hB.out (by rw [add_blockO]; exact ha)
      have hnx := behind_next (S := S) (nthE_of (L := L) (i := j) (by rw [← HN.out]; exact hj))
      have hr2 := hr.out
      rw [hnx, own_next] at hr2
      have HB := Lib.hid hB.out
      obtain ⟨q, hq⟩ : ∃ q, q = behind S (L.take j) := ⟨_, rfl⟩
      rw [← hq] at hr2
      have HQ := Lib.hid hq
      obtain ⟨c0, c1, c2, c3, c4, c5, c6, _⟩ := hev
      generalize nthE L j = e at *
      obtain ⟨kd, th, tx, pl, v, x, why⟩ := e
      simp only at c0 c1 c2 c3 c4 c5 c6 hr2
      have hjn : (j : Int) < (n : Int) := by omega
      have hj0 : (0 : Int) ≤ (j : Int) := by omega
      clear hnx hq ha hr hB
      by_cases hp : pl = s
      · subst hp
        rw [if_pos rfl] at hr2
        by_cases h4 : kd = 4
        · subst h4
          rw [if_pos rfl] at hr2
          subst hr2
          go_wp2_with fail
          go_ret
          exact ⟨rfl, HB.out.alloc HB.out.size _⟩
        · rw [if_neg h4] at hr2
          have q4 : (kd == 4) = false := beq_eq_false_iff_ne.2 h4
          by_cases h9 : kd = 9
          · subst h9
            rw [if_pos (.inl rfl)] at hr2
            subst hr2
            clear q4
            go_wp2_with fail
            go_ret
            exact ⟨rfl, HB.out.alloc HB.out.size _⟩
          · have q9 : (kd == 9) = false := beq_eq_false_iff_ne.2 h9
            by_cases h11 : kd = 11
            · subst h11
              rw [if_pos (.inr rfl)] at hr2
              subst hr2
              clear q4 q9
              go_wp2_with fail
              go_ret
              exact ⟨rfl, HB.out.alloc HB.out.size _⟩
            · have q11 : (kd == 11) = false := beq_eq_false_iff_ne.2 h11
              rw [if_neg (by omega)] at hr2
              clear h4 h9 h11
              go_wp2_with fail
              refine ⟨?_, ?measure⟩
              · exact ⟨j, by omega, rfl, by rw [← HQ.out]; exact hr2, HB.out.alloc HB.out.size _⟩
              case measure => first | (simp [intOf]; done) | (simp [intOf]; omega)
      · rw [if_neg hp] at hr2
        have qp : (pl == s) = false := beq_eq_false_iff_ne.2 hp
        have qp2 : (pl != s) = true := by rw [bne, qp]; rfl
        clear hp
        go_wp2_with fail
        refine ⟨?_, ?measure⟩
        · exact ⟨j, by omega, rfl, by rw [← HQ.out]; exact hr2, HB.out.alloc HB.out.size _⟩
        case measure => first | (simp [intOf]; done) | (simp [intOf]; omega)
set_option maxHeartbeats 4000000 in
theorem rbumped_any (S : Int) (w : World) (A : Option Addr) (L : List Ev) (c : Nat) (t : Int) (hl : L.length ≤ 2000) (he : EvsAt w w.heap.size A L) :
    Calls Tryd.prog 78 #[.slice A L.length c, .int .i64 t] w fun r w' => r = .returned (.int .i64 ((behind S L).bmp t)) ∧ w = w' := by
  obtain ⟨R, hR⟩ : ∃ R, R = (behind S L).bmp t := ⟨_, rfl⟩
  obtain ⟨n, hn⟩ : ∃ n, n = L.length := ⟨_, rfl⟩
  have HE := Lib.hid he
  have HN := Lib.hid hn
  rw [← hR]
  have HR : Hid ((behind S (L.take n)).bmp t = R) := by
    show _ = _
    rw [hR, hn, behind_all]
  have i1 : (n : Int) ≤ 2000 := by omega
  have z1 : (0 : Int) ≤ n := by omega
  rw [← hn] at hl ⊢
  clear hR he hn
  go_enter Tryd.func78, Tryd.ntmps78
  go_wp2_with fail
  go_loopw [5] (fun iv wr => ∃ k : Nat, k ≤ n ∧ iv = .int .i64 ((k : Int) - 1) ∧ Hid ((behind S (L.take k)).bmp t = R) ∧ wr = w) (fun iv _ => (intOf iv + 1).toNat)
  case atStart => exact ⟨n, Nat.le_refl _, rfl, HR, rfl⟩
  case round =>
    obtain ⟨k, hk, rfl, hr, rfl⟩ := hrel
    cases k with
    | zero =>
      have h0 : 0 = R := hr.out
      subst h0
      go_wp2_with fail
      go_ret
      exact ⟨rfl, rfl⟩
    | succ j =>
      have hj : j < n := by omega
      rw [show (((j + 1 : Nat) : Int) - 1) = (j : Int) by omega]
      obtain ⟨a, rfl, ha, hev⟩ := HE.out j (by rw [← HN.out]; exact hj)
      have hnx := behind_next (S := S) (nthE_of (L := L) (i := j) (by rw [← HN.out]; exact hj))
      have hr2 := hr.out
      rw [hnx, bmp_next] at hr2
      obtain ⟨q, hq⟩ : ∃ q, q = behind S (L.take j) := ⟨_, rfl⟩
      rw [← hq] at hr2
      have HQ := Lib.hid hq
      obtain ⟨c0, c1, c2, c3, c4, c5, c6, _⟩ := hev
      generalize nthE L j = e at *
      obtain ⟨kd, th, tx, pl, v, x, why⟩ := e
      simp only at c0 c1 c2 c3 c4 c5 c6 hr2
      have hjn : (j : Int) < (n : Int) := by omega
      have hj0 : (0 : Int) ≤ (j : Int) := by omega
      clear hnx hq ha hr
      by_cases h5 : kd = 5 ∧ th = t
      · obtain ⟨rfl, rfl⟩ := h5
        rw [if_pos ⟨rfl, rfl⟩] at hr2
        subst hr2
        go_wp2_with fail
        go_ret
        exact ⟨rfl, rfl⟩
      · rw [if_neg h5] at hr2
        by_cases hk5 : kd = 5
        · subst hk5
          have qt : (th == t) = false := beq_eq_false_iff_ne.2 (fun h => h5 ⟨rfl, h⟩)
          clear h5
          go_wp2_with fail
          refine ⟨?_, ?measure⟩
          · exact ⟨j, by omega, rfl, by rw [← HQ.out]; exact hr2, trivial⟩
          case measure => first | (simp [intOf]; done) | (simp [intOf]; omega)
        · have q5 : (kd == 5) = false := beq_eq_false_iff_ne.2 hk5
          clear h5 hk5
          go_wp2_with fail
          refine ⟨?_, ?measure⟩
          · exact ⟨j, by omega, rfl, by rw [← HQ.out]; exact hr2, trivial⟩
          case measure => first | (simp [intOf]; done) | (simp [intOf]; omega)
set_option maxHeartbeats 4000000 in
theorem rclock_any (S : Int) (w : World) (A : Option Addr) (L : List Ev) (c : Nat) (hl : L.length ≤ 2000) (he : EvsAt w w.heap.size A L) :
    Calls Tryd.prog 44 #[.slice A L.length c] w fun r w' => r = .returned (.int .i64 ((behind S L).clk)) ∧ w = w' := by
  obtain ⟨R, hR⟩ : ∃ R, R = (behind S L).clk := ⟨_, rfl⟩
  obtain ⟨n, hn⟩ : ∃ n, n = L.length := ⟨_, rfl⟩
  have HE := Lib.hid he
  have HN := Lib.hid hn
  rw [← hR]
  have HR : Hid ((behind S (L.take n)).clk = R) := by
    show _ = _
    rw [hR, hn, behind_all]
  have i1 : (n : Int) ≤ 2000 := by omega
  have z1 : (0 : Int) ≤ n := by omega
  rw [← hn] at hl ⊢
  clear hR he hn
  go_enter Tryd.func44, Tryd.ntmps44
  go_wp2_with fail
  go_loopw [3] (fun iv wr => ∃ k : Nat, k ≤ n ∧ iv = .int .i64 ((k : Int) - 1) ∧ Hid ((behind S (L.take k)).clk = R) ∧ wr = w) (fun iv _ => (intOf iv + 1).toNat)
  case atStart => exact ⟨n, Nat.le_refl _, rfl, HR, rfl⟩
  case round =>
    obtain ⟨k, hk, rfl, hr, rfl⟩ := hrel
    cases k with
    | zero =>
      have h0 : 0 = R := hr.out
      subst h0
      go_wp2_with fail
      go_ret
      exact ⟨rfl, rfl⟩
    | succ j =>
      have hj : j < n := by omega
      rw [show (((j + 1 : Nat) : Int) - 1) = (j : Int) by omega]
      obtain ⟨a, rfl, ha, hev⟩ := HE.out j (by rw [← HN.out]; exact hj)
      have hnx := behind_next (S := S) (nthE_of (L := L) (i := j) (by rw [← HN.out]; exact hj))
      have hr2 := hr.out
      rw [hnx, clk_next] at hr2
      obtain ⟨q, hq⟩ : ∃ q, q = behind S (L.take j) := ⟨_, rfl⟩
      rw [← hq] at hr2
      have HQ := Lib.hid hq
      obtain ⟨c0, c1, c2, c3, c4, c5, c6, _⟩ := hev
      generalize nthE L j = e at *
      obtain ⟨kd, th, tx, pl, v, x, why⟩ := e
      simp only at c0 c1 c2 c3 c4 c5 c6 hr2
      have hjn : (j : Int) < (n : Int) := by omega
      have hj0 : (0 : Int) ≤ (j : Int) := by omega
      clear hnx hq ha hr
      by_cases h1 : kd = 1
      · subst h1
        rw [if_pos (.inl rfl)] at hr2
        subst hr2
        go_wp2_with fail
        go_ret
        exact ⟨rfl, rfl⟩
      · have q1 : (kd == 1) = false := beq_eq_false_iff_ne.2 h1
        by_cases h5 : kd = 5
        · subst h5
          rw [if_pos (.inr rfl)] at hr2
          subst hr2
          clear q1
          go_wp2_with fail
          go_ret
          exact ⟨rfl, rfl⟩
        · have q5 : (kd == 5) = false := beq_eq_false_iff_ne.2 h5
          rw [if_neg (by omega)] at hr2
          clear h1 h5
          go_wp2_with fail
          refine ⟨?_, ?measure⟩
          · exact ⟨j, by omega, rfl, by rw [← HQ.out]; exact hr2, trivial⟩
          case measure => first | (simp [intOf]; done) | (simp [intOf]; omega)
set_option maxHeartbeats 4000000 in
theorem rversion_any (S : Int) (w : World) (A : Option Addr) (L : List Ev) (c : Nat) (s : Int) (hl : L.length ≤ 2000) (hc : L.length ≤ c) (he : EvsAt w w.heap.size A L) :
    Calls Tryd.prog 46 #[.slice A L.length c, .int .i64 s] w fun r w' => r = .returned (.int .i64 ((behind S L).ver s)) ∧ Below w.heap.size w w' := by
  obtain ⟨R, hR⟩ : ∃ R, R = (behind S L).ver s := ⟨_, rfl⟩
  obtain ⟨n, hn⟩ : ∃ n, n = L.length := ⟨_, rfl⟩
  have HE := Lib.hid he
  have HN := Lib.hid hn
  rw [← hR]
  have HR : Hid ((behind S (L.take n)).ver s = R) := by
    show _ = _
    rw [hR, hn, behind_all]
  have i1 : (n : Int) ≤ 2000 := by omega
  have z1 : (0 : Int) ≤ n := by omega
  rw [← hn] at hl hc ⊢
  clear hR he hn
  go_enter Tryd.func46, Tryd.ntmps46
  go_wp2_with fail
  go_loopw [5] (fun iv wr => ∃ k : Nat, k ≤ n ∧ iv = .int .i64 ((k : Int) - 1) ∧ Hid ((behind S (L.take k)).ver s = R) ∧ Hid (Below w.heap.size w wr)) (fun iv _ => (intOf iv + 1).toNat)
  case atStart => exact ⟨n, Nat.le_refl _, rfl, HR, Below.refl _ _⟩
  case round =>
    obtain ⟨k, hk, rfl, hr, hB⟩ := hrel
    cases k with
    | zero =>
      have h0 : 0 = R := hr.out
      subst h0
      go_wp2_with fail
      go_ret
      exact ⟨rfl, hB.out⟩
    | succ j =>
      have hj : j < n := by omega
      rw [show (((j + 1 : Nat) : Int) - 1) = (j : Int) by omega]
      obtain ⟨a, rfl, ha, hev⟩ := HE.out j (by rw [← HN.out]; exact hj)
      have hev := hev.below hB.out (by rw [add_blockO]; exact ha)
      have hnx := behind_next (S := S) (nthE_of (L := L) (i := j) (by rw [← HN.out]; exact hj))
      have hr2 := hr.out
      rw [hnx, ver_next] at hr2
      have HB := Lib.hid hB.out
      obtain ⟨q, hq⟩ : ∃ q, q = behind S (L.take j) := ⟨_, rfl⟩
      rw [← hq] at hr2
      have HQ := Lib.hid hq
      obtain ⟨c0, c1, c2, c3, c4, c5, c6, _⟩ := hev
      generalize nthE L j = e at *
      obtain ⟨kd, th, tx, pl, v, x, why⟩ := e
      simp only at c0 c1 c2 c3 c4 c5 c6 hr2
      have hjn : (j : Int) < (n : Int) := by omega
      have hj0 : (0 : Int) ≤ (j : Int) := by omega
      clear hnx hq ha hr hB
      by_cases hp : pl = s
      · subst hp
        by_cases h2 : kd = 2
        · subst h2
          rw [if_pos ⟨rfl, rfl⟩] at hr2
          subst hr2
          go_wp2_with fail
          go_ret
          exact ⟨rfl, HB.out⟩
        · have q2 : (kd == 2) = false := beq_eq_false_iff_ne.2 h2
          rw [if_neg (fun h => h2 h.2)] at hr2
          by_cases h9 : kd = 9
          · subst h9
            rw [if_pos ⟨rfl, rfl⟩] at hr2
            subst hr2
            have HBM : Hid (∀ k, Calls Tryd.prog 78 #[.slice (some a) j c, .int .i64 th] (wr.drewN k) fun r w' => r = .returned (.int .i64 (q.bmp th)) ∧ w' = wr.drewN k) := fun k => by
              have hb : Below w.heap.size w (wr.drewN k) := HB.out.trans ((drewN_belowW wr k).mono HB.out.size)
              have := rbumped_any S (wr.drewN k) (some a) (L.take j) c th (by rw [List.length_take]; omega) (((HE.out.take j).below hb (Nat.le_refl _)).mono hb.size)
              rw [← HQ.out, show (L.take j).length = j by rw [List.length_take, ← HN.out]; omega] at this
              exact this.mono fun r w' ⟨h1, h2⟩ => ⟨h1, h2.symm⟩
            have hjc : (j : Int) ≤ (c : Int) := by omega
            clear q2 h2
            go_wp2_with fail
            go_quiet ((go_at_call 78; exact Calls.quiet_of_same (HBM.out _)))
            go_wp2_with fail
            go_ret
            exact ⟨rfl, HB.out.trans ((drewN_belowW wr _).mono HB.out.size)⟩
          · have q9 : (kd == 9) = false := beq_eq_false_iff_ne.2 h9
            rw [if_neg (fun h => h9 h.2)] at hr2
            clear h2 h9
            go_wp2_with fail
            refine ⟨?_, ?measure⟩
            · exact ⟨j, by omega, rfl, by rw [← HQ.out]; exact hr2, HB.out⟩
            case measure => first | (simp [intOf]; done) | (simp [intOf]; omega)
      · rw [if_neg (fun h => hp h.1), if_neg (fun h => hp h.1)] at hr2
        have qp : (pl == s) = false := beq_eq_false_iff_ne.2 hp
        clear hp
        go_wp2_with fail
        refine ⟨?_, ?measure⟩
        · exact ⟨j, by omega, rfl, by rw [← HQ.out]; exact hr2, HB.out⟩
        case measure => first | (simp [intOf]; done) | (simp [intOf]; omega)
end Go.Proofs.YtjennlkindbpoaaDoor
