/-
  CONTRACTS OF THE STATEMENTS' OWN GUARDS (layer 6): sides, parts, large: whether a setup is more than a statement goes over; the memory that was there stays as it was. Conditions: as they stand.
-/
import Derived.Test.YtnkdaehmdcpafaaDoorUg
import Derived.Test.YtnkdaehmdcpafaaDoorEr
import Derived.Test.YtnkdaehmdcpafaaDoorZb
namespace Go.Proofs.YtnkdaehmdcpafaaDoor
open Go.RowKit
set_option linter.unusedVariables false
def sideV (o : Option Nat) : Value := .tuple #[.int .i64 (o.getD 0 : Nat), .bool o.isNone]
theorem ret_side {o : Option Nat} {v : Value} (h : v = sideV o) : Ending.returned v = .returned (sideV o) := by rw [h]

set_option maxRecDepth 100000 in
theorem sides_any (d : Nat) : ∀ (e : Ex) (v : Value) (lo hi deep : Nat) (w : World), At w lo hi d v e → hi ≤ w.heap.size → deep ≤ 1000 →
    Calls Tryd.prog 48 #[v, .int .i64 deep] w fun r w' => r = .returned (sideV (sideF d e deep)) ∧ Below w.heap.size w w' := by
  induction d with
  | zero => intro e v lo hi deep w h; exact h.elim
  | succ d ih =>
    intro e v lo hi deep w h hhi hdp
    obtain ⟨op, n, args⟩ := e
    obtain ⟨q1, q2, q3, q4, A, c, rfl, hk⟩ := h.open_
    have b0 : Below w.heap.size w (w.alloc (.cells #[.int .u8 op, .int .i64 n, .slice A args.length c] 37)) := by go_grown
    have HZ0 : Hid (w.heap.size < (w.alloc (.cells #[.int .u8 op, .int .i64 n, .slice A args.length c] 37)).heap.size) := by show _ < _; simp
    have HK := Lib.hid (Kids.below hk b0 hhi)
    have IH := Lib.hid ih
    have HBX := Lib.hid (Boxed.new w (.int .u8 op) (.int .i64 n) (.slice A args.length c))
    have HB0 := Lib.hid b0
    have hlen : args.length ≤ 9223372036854775807 := q4
    clear hk ih h b0 q4
    by_cases hc1 : 20 < deep
    · have HV : Hid (sideF (d + 1) (.node op n args) deep = none) := by show sideF _ _ _ = _; rw [sideF, if_pos (Or.inl hc1)]
      go_enter Tryd.func48, Tryd.ntmps48
      go_wp2_with fail
      go_ret2
      exact ⟨by rw [HV.out]; rfl, HB0.out⟩
    · by_cases hc2 : 10 < args.length
      · have HV : Hid (sideF (d + 1) (.node op n args) deep = none) := by show sideF _ _ _ = _; rw [sideF, if_pos (Or.inr hc2)]
        go_enter Tryd.func48, Tryd.ntmps48
        go_wp2_with fail
        go_ret2
        exact ⟨by rw [HV.out]; rfl, HB0.out⟩
      · have HV : Hid (sideF (d + 1) (.node op n args) deep = sideL (fun e => sideF d e (deep + 1)) args 1) := by show sideF _ _ _ = _; rw [sideF, if_neg (by omega)]
        go_enter Tryd.func48, Tryd.ntmps48
        go_wp2_with fail
        have b0 := HB0.out
        have z0 := HZ0.out
        obtain ⟨W, hW⟩ : ∃ W, W = w.alloc (.cells #[.int .u8 op, .int .i64 n, .slice A args.length c] 37) := ⟨_, rfl⟩
        rw [← hW] at b0 z0 HK HBX ⊢
        clear hW HB0 HZ0
        go_loopw [6, 7] (fun a i wr => ∃ k m : Nat, k ≤ args.length ∧ m ≤ 1000 ∧ i = .int .i64 k ∧ a = .int .i64 m ∧ Hid (sideL (fun e => sideF d e (deep + 1)) args 1 = sideL (fun e => sideF d e (deep + 1)) (args.drop k) m) ∧ Below W.heap.size W wr) (fun _ i _ => args.length - (intOf i).toNat)
        case atStart => exact ⟨0, 1, by omega, by omega, rfl, rfl, rfl, Below.refl _ _⟩
        case round =>
          obtain ⟨k, m, hk, hm, rfl, rfl, hall, hb⟩ := hrel
          have f2 := (HBX.out.below hb z0).c2
          by_cases hlt : k < args.length
          · obtain ⟨a, x, y, z, rfl, m1, m2, g0, g1, g2, hA⟩ := HK.out.below hb (by omega) k hlt
            have HI := Lib.hid (IH.out args[k] _ _ _ (deep + 1) wr hA (by have := hb.size; omega) (by omega))
            have hd := sideL_drop (fun e => sideF d e (deep + 1)) args k m hlt
            rw [hd] at hall
            clear hA hd
            cases hj : sideF d args[k] (deep + 1) with
            | none =>
              rw [hj] at HI hall
              have HA2 : Hid (sideL (fun e => sideF d e (deep + 1)) args 1 = none) := hall
              clear hj hall
              go_wp2_with fail
              refine HI.out.mono ?_
              rintro r w5 ⟨rfl, b5⟩
              unfold sideV
              go_wp2_with fail
              go_ret2
              exact ⟨by rw [HV.out, HA2.out]; rfl, b0.trans ((hb.trans (b5.mono hb.size)).mono b0.size)⟩
            | some j =>
              have hj4 := (sideF_cnt d _ _ _ hj).1
              rw [hj] at HI hall
              clear hj
              by_cases hbig : 1000 < m + j
              · have HA2 : Hid (sideL (fun e => sideF d e (deep + 1)) args 1 = none) := hall.out.trans (if_pos hbig)
                clear hall
                go_wp2_with fail
                refine HI.out.mono ?_
                rintro r w5 ⟨rfl, b5⟩
                unfold sideV
                go_wp2_with fail
                go_ret2
                exact ⟨by rw [HV.out, HA2.out]; rfl, b0.trans ((hb.trans (b5.mono hb.size)).mono b0.size)⟩
              · have HA2 : Hid (sideL (fun e => sideF d e (deep + 1)) args 1 = sideL (fun e => sideF d e (deep + 1)) (args.drop (k + 1)) (m + j)) := hall.out.trans (if_neg hbig)
                clear hall
                go_wp2_with fail
                refine HI.out.mono ?_
                rintro r w5 ⟨rfl, b5⟩
                unfold sideV
                go_wp2_with fail
                go_roundw
                case rel => exact ⟨k + 1, m + j, by omega, by omega, by go_num, by go_num, HA2, hb.trans (b5.mono hb.size)⟩
                case measure => simp [intOf]; omega
          · go_wp2_with fail
            go_ret2
            refine ⟨?_, b0.trans (hb.mono b0.size)⟩
            rw [HV.out, hall.out, List.drop_eq_nil_of_le (by omega)]
            rfl

def nextL (m : Nat) (f : Nat → Option Nat) : Option Nat → Option Nat
  | none => none
  | some j => if 3000 < m + j then none else f (m + j)
theorem partL_next (f : St → Option Nat) (l : List St) (k n : Nat) (h : k < l.length) : partL f (l.drop k) n = nextL n (partL f (l.drop (k + 1))) (f l[k]) := by
  rw [partL_drop f l k n h]
  cases f l[k] <;> rfl
theorem partL_le (f : St → Option Nat) (l : List St) (n m : Nat) (hn : n ≤ 3000) (h : partL f l n = some m) : m ≤ 3000 := (partL_sum f (fun _ => 0) l n m (fun _ _ _ _ => Nat.zero_le _) hn h).2.1
theorem partB_le {f : Nat → St → Option Nat} {deep m : Nat} {l : List St} (h : partB f deep l = some m) : m ≤ 3000 := partL_le _ _ _ _ (by omega) (partB_some h).2.2
/-- What a statement's four parts come to. -/
theorem opt4_cases (o1 o2 o3 o4 : Option Nat) : (opt4 o1 o2 o3 o4 = none ∧ (o1.isNone || (o2.isNone || (o3.isNone || o4.isNone))) = true) ∨ (opt4 o1 o2 o3 o4 = some (1 + o1.getD 0 + o2.getD 0 + o3.getD 0 + o4.getD 0) ∧ o1.isNone = false ∧ o2.isNone = false ∧ o3.isNone = false ∧ o4.isNone = false) := by
  cases o1 <;> cases o2 <;> cases o3 <;> cases o4 <;> simp [opt4]
theorem get_le {o : Option Nat} {b : Nat} (h : ∀ m, o = some m → m ≤ b) : o.getD 0 ≤ b := by
  cases o with
  | none => exact Nat.zero_le _
  | some m => exact h m rfl
set_option maxRecDepth 100000 in
set_option maxHeartbeats 8000000 in
theorem parts_any (d : Nat) : ∀ (A : Option Addr) (c : Nat) (tx : List St) (lo hi deep : Nat) (w : World), SKids w lo hi d A tx → hi ≤ w.heap.size → tx.length ≤ 9223372036854775807 → deep ≤ 1000 →
    Calls Tryd.prog 27 #[.slice A tx.length c, .int .i64 deep] w fun z w' => z = .returned (sideV (partB (partF d) deep tx)) ∧ Below w.heap.size w w' := by
  induction d using Nat.strongRecOn with
  | _ d ih =>
  intro A c tx lo hi deep w hk hhi hl hdp
  have HK := Lib.hid hk
  have IH := Lib.hid ih
  clear hk ih
  by_cases hc1 : 20 < deep
  · have HV : Hid (partB (partF d) deep tx = none) := by show _ = _; unfold partB; rw [if_pos (Or.inl hc1)]
    go_enter Tryd.func27, Tryd.ntmps27
    go_wp2_with fail
    go_ret2
    exact ⟨by rw [HV.out]; rfl, Below.refl _ _⟩
  by_cases hc2 : 500 < tx.length
  · have HV : Hid (partB (partF d) deep tx = none) := by show _ = _; unfold partB; rw [if_pos (Or.inr hc2)]
    go_enter Tryd.func27, Tryd.ntmps27
    go_wp2_with fail
    go_ret2
    exact ⟨by rw [HV.out]; rfl, Below.refl _ _⟩
  have HV : Hid (partB (partF d) deep tx = partL (partF d deep) tx 0) := by show _ = _; unfold partB; rw [if_neg (by omega)]
  have HD := Lib.hid (fun k n h => partL_next (partF d deep) tx k n h)
  have HEND : Hid (∀ n, partL (partF d deep) (tx.drop tx.length) n = some n) := fun n => by rw [List.drop_length]; rfl
  obtain ⟨L, hL⟩ : ∃ L, L = tx.length := ⟨_, rfl⟩
  have HL := Lib.hid hL
  rw [← hL] at hl hc2 HEND ⊢
  clear hL
  go_enter Tryd.func27, Tryd.ntmps27
  go_wp2_with fail
  go_loopw [6, 7] (fun a i wr => ∃ k m : Nat, k ≤ L ∧ m ≤ 3000 ∧ i = .int .i64 k ∧ a = .int .i64 m ∧ Hid (partB (partF d) deep tx = partL (partF d deep) (tx.drop k) m) ∧ Hid (Below w.heap.size w wr)) (fun _ i _ => L - (intOf i).toNat)
  case atStart => exact ⟨0, 0, by omega, by omega, by go_num, by go_num, HV, Below.refl _ _⟩
  case round =>
    obtain ⟨k, m, hk, hm, rfl, rfl, HW, HB⟩ := hrel
    by_cases hlt : k < L
    · have hlt2 : k < tx.length := by have := HL.out; omega
      obtain ⟨p, r, rfl, m1, m2, ht, hs⟩ := HK.out.below HB.out (by omega) k hlt2
      obtain ⟨q, rfl⟩ := hs.pos
      obtain ⟨s, hsx⟩ : ∃ s, s = tx[k] := ⟨_, rfl⟩
      have hD := HD.out k m hlt2
      rw [← hsx] at hs hD
      obtain ⟨kk, t, a, b, y, e⟩ := s
      obtain ⟨⟨e1, e2, e3, e4⟩, ⟨q1, q2, q3, q4, q5⟩, ha, hbb, hy, he⟩ := hs.open_
      have hzr := HB.out.size
      have HY := Lib.hid (fun W' (h' : Below wr.heap.size wr W') (c : Nat) => IH.out q (by omega) r.yA c y lo hi (deep + 1) W' (hy.below h' (by omega)) (by have := h'.size; omega) q4 (by omega))
      have HE := Lib.hid (fun W' (h' : Below wr.heap.size wr W') (c : Nat) => IH.out q (by omega) r.eA c e lo hi (deep + 1) W' (he.below h' (by omega)) (by have := h'.size; omega) q5 (by omega))
      have HA := Lib.hid (fun W' (h' : Below wr.heap.size wr W') => sides_any q a r.va lo hi 0 W' (ha.below h' (by omega)) (by have := h'.size; omega) (by omega))
      have HBB := Lib.hid (fun W' (h' : Below wr.heap.size wr W') => sides_any q b r.vb lo hi 0 W' (hbb.below h' (by omega)) (by have := h'.size; omega) (by omega))
      have HT := Lib.hid (fun W' (h' : Below wr.heap.size wr W') => ht.below h' (by rw [ad_block]; omega))
      have hp : partF (q + 1) deep (.node kk t a b y e) = opt4 (sideF q a 0) (sideF q b 0) (partB (partF q) (deep + 1) y) (partB (partF q) (deep + 1) e) := rfl
      rw [hp] at hD
      have b1 : (sideF q a 0).getD 0 ≤ 1000 := get_le fun m h => (sideF_cnt _ _ _ _ h).1
      have b2 : (sideF q b 0).getD 0 ≤ 1000 := get_le fun m h => (sideF_cnt _ _ _ _ h).1
      have b3 : (partB (partF q) (deep + 1) y).getD 0 ≤ 3000 := get_le fun m h => partB_le h
      have b4 : (partB (partF q) (deep + 1) e).getD 0 ≤ 3000 := get_le fun m h => partB_le h
      have hO := opt4_cases (sideF q a 0) (sideF q b 0) (partB (partF q) (deep + 1) y) (partB (partF q) (deep + 1) e)
      obtain ⟨o, ho⟩ : ∃ o, o = opt4 (sideF q a 0) (sideF q b 0) (partB (partF q) (deep + 1) y) (partB (partF q) (deep + 1) e) := ⟨_, rfl⟩
      rw [← ho] at hD hO
      unfold sideV at HY HE HA HBB
      obtain ⟨o1, ho1⟩ : ∃ o, o = sideF q a 0 := ⟨_, rfl⟩
      obtain ⟨o2, ho2⟩ : ∃ o, o = sideF q b 0 := ⟨_, rfl⟩
      obtain ⟨o3, ho3⟩ : ∃ o, o = partB (partF q) (deep + 1) y := ⟨_, rfl⟩
      obtain ⟨o4, ho4⟩ : ∃ o, o = partB (partF q) (deep + 1) e := ⟨_, rfl⟩
      rw [← ho1] at HA b1 hO
      rw [← ho2] at HBB b2 hO
      rw [← ho3] at HY b3 hO
      rw [← ho4] at HE b4 hO
      obtain ⟨x1, hx1⟩ : ∃ x, x = o1.getD 0 := ⟨_, rfl⟩
      obtain ⟨x2, hx2⟩ : ∃ x, x = o2.getD 0 := ⟨_, rfl⟩
      obtain ⟨x3, hx3⟩ : ∃ x, x = o3.getD 0 := ⟨_, rfl⟩
      obtain ⟨x4, hx4⟩ : ∃ x, x = o4.getD 0 := ⟨_, rfl⟩
      obtain ⟨t1, ht1⟩ : ∃ x, x = o1.isNone := ⟨_, rfl⟩
      obtain ⟨t2, ht2⟩ : ∃ x, x = o2.isNone := ⟨_, rfl⟩
      obtain ⟨t3, ht3⟩ : ∃ x, x = o3.isNone := ⟨_, rfl⟩
      obtain ⟨t4, ht4⟩ : ∃ x, x = o4.isNone := ⟨_, rfl⟩
      rw [← hx1, ← ht1] at HA
      rw [← hx2, ← ht2] at HBB
      rw [← hx3, ← ht3] at HY
      rw [← hx4, ← ht4] at HE
      rw [← hx1, ← hx2, ← hx3, ← hx4, ← ht1, ← ht2, ← ht3, ← ht4] at hO
      rw [← hx1] at b1
      rw [← hx2] at b2
      rw [← hx3] at b3
      rw [← hx4] at b4
      have HO := Lib.hid hO
      have HD2 : Hid (partB (partF (q + 1)) deep tx = nextL m (partL (partF (q + 1) deep) (tx.drop (k + 1))) o) := HW.out.trans hD
      have g2 := ht.c2
      have g3 := ht.c3
      have g4 := ht.c4
      obtain ⟨rk, rt, rao, ran, raA, ral, rac, rbo, rbn, rbA, rbl, rbc, ryA, ryl, ryc, reA, rel, r9c⟩ := r
      dsimp only [Raw.va, Raw.vb] at *
      subst e1 e2 e3 e4
      clear hO hD hp ho ho1 ho2 ho3 ho4 hx1 hx2 hx3 hx4 ht1 ht2 ht3 ht4 ht hs hsx hy he ha hbb m1 m2 hzr HD HW
      go_wp2_with fail
      refine (HA.out wr (Below.refl _ _)).mono ?_
      rintro _ w5 ⟨rfl, b5⟩
      have B5 := Lib.hid b5
      have g5 := (HT.out w5 b5).c5
      have g6 := (HT.out w5 b5).c6
      have g7 := (HT.out w5 b5).c7
      dsimp only at g5 g6 g7
      clear g2 g3 g4 b5
      go_wp2_with fail
      refine (HBB.out w5 B5.out).mono ?_
      rintro _ w6 ⟨rfl, b6⟩
      have B6 := Lib.hid (B5.out.trans (b6.mono B5.out.size))
      have g8 := (HT.out w6 B6.out).c8
      dsimp only at g8
      clear g5 g6 g7 b6
      go_wp2_with fail
      refine (HY.out w6 B6.out _).mono ?_
      rintro _ w7 ⟨rfl, b7⟩
      have B7 := Lib.hid (B6.out.trans (b7.mono B6.out.size))
      have g9 := (HT.out w7 B7.out).c9
      dsimp only at g9
      clear g8 b7
      go_wp2_with fail
      refine (HE.out w7 B7.out _).mono ?_
      rintro _ w8 ⟨rfl, b8⟩
      have B8 : Hid (Below w.heap.size w w8) := HB.out.trans ((B7.out.trans (b8.mono B7.out.size)).mono HB.out.size)
      clear g9 b8
      clear HY HE HA HBB HT HK IH
      by_cases hno : (t1 || (t2 || (t3 || t4))) = true
      · have HF : Hid (partB (partF (q + 1)) deep tx = none) := by
          show _ = _
          rw [HD2.out]
          rcases HO.out with ⟨h, _⟩ | ⟨_, h⟩
          · rw [h]; rfl
          · simp [h] at hno
        clear HO HD2
        cases t1 with
        | true =>
          clear hno
          go_wp2_with fail
          go_ret2
          exact ⟨by rw [HF.out]; rfl, B8.out⟩
        | false =>
          cases t2 with
          | true =>
            clear hno
            go_wp2_with fail
            go_ret2
            exact ⟨by rw [HF.out]; rfl, B8.out⟩
          | false =>
            cases t3 with
            | true =>
              clear hno
              go_wp2_with fail
              go_ret2
              exact ⟨by rw [HF.out]; rfl, B8.out⟩
            | false =>
              cases t4 with
              | true =>
                clear hno
                go_wp2_with fail
                go_ret2
                exact ⟨by rw [HF.out]; rfl, B8.out⟩
              | false => simp at hno
      · obtain ⟨rfl, rfl, rfl, rfl⟩ : t1 = false ∧ t2 = false ∧ t3 = false ∧ t4 = false := by simpa using hno
        have HS : Hid (o = some (1 + x1 + x2 + x3 + x4)) := by
          rcases HO.out with ⟨_, h⟩ | ⟨h, _⟩
          · simp at h
          · exact h
        clear HO hno
        by_cases hbig : 3000 < m + (1 + x1 + x2 + x3 + x4)
        · have HF : Hid (partB (partF (q + 1)) deep tx = none) := by
            show _ = _
            rw [HD2.out, HS.out]
            exact if_pos hbig
          have i5 : (3000 : Int) < (m : Int) + 1 + (x1 : Int) + (x2 : Int) + (x3 : Int) + (x4 : Int) := by omega
          clear hbig HD2 HS
          go_wp2_with fail
          go_ret2
          exact ⟨by rw [HF.out]; rfl, B8.out⟩
        · have HF : Hid (partB (partF (q + 1)) deep tx = partL (partF (q + 1) deep) (tx.drop (k + 1)) (m + (1 + x1 + x2 + x3 + x4))) := by
            show _ = _
            rw [HD2.out, HS.out]
            exact if_neg hbig
          have i5 : ¬ (3000 : Int) < (m : Int) + 1 + (x1 : Int) + (x2 : Int) + (x3 : Int) + (x4 : Int) := by omega
          have HM3 : Hid (m + (1 + x1 + x2 + x3 + x4) ≤ 3000) := by show _ ≤ _; omega
          clear hbig HD2 HS
          go_wp2_with fail
          go_roundw
          case rel => exact ⟨k + 1, m + (1 + x1 + x2 + x3 + x4), by omega, HM3.out, by go_num, by go_num, HF, B8⟩
          case measure => simp [intOf]; omega
    · have HF : Hid (partB (partF d) deep tx = some m) := by show _ = _; rw [HW.out, show k = L by omega]; exact HEND.out m
      go_wp2_with fail
      go_ret2
      exact ⟨by rw [HF.out]; rfl, HB.out⟩
end Go.Proofs.YtnkdaehmdcpafaaDoor
