/-
  FOR DeltaSmall (layer 14): the walk. Conditions: the table of names lies.
-/
import Derived.Test.YtcomhnenfdoklaaDoorDlu
namespace Go.Proofs.YtcomhnenfdoklaaDoor
set_option maxRecDepth 100000
open Go.RowKit Go.Deep
set_option linter.unusedVariables false
set_option linter.unusedSimpArgs false
theorem know_sizes (q : Cd) (most : Int) (l : List UInt8) (e : Ev) : (wrQ q most l e).T = q.T ∧ (wrQ q most l e).V = q.V ∧ (wrQ q most l e).S = q.S := by
  unfold wrQ
  split <;> exact ⟨rfl, rfl, rfl⟩
theorem wrL_len {q : Cd} (hq : CdOk q) (most : Int) (l : List UInt8) (e : Ev) : (wrL q most l e).length ≤ l.length + 12 := by
  unfold wrL rawL
  split
  · rename_i h
    have := (evB_small hq h).2
    split
    · rw [List.length_append]
      omega
    · omega
  · omega
theorem load_told {q : Cd} (hq : CdOk q) (hT : q.T = 6) (hV : q.V = 32) {t v : Int} (ht : 0 ≤ t ∧ t < 6) (hv : 0 ≤ v ∧ v < 32) : mayT q ⟨3, t, 0, v, 0, 9, 0⟩ = true :=
  told_mk (sizes_q hq) (by simp only; omega) (.inr (.inr (.inl ⟨.inl rfl, rfl, ⟨hv.1, by simp only; omega⟩, rfl, ⟨by simp only; omega, by simp only; omega⟩, rfl⟩))) (fun x => by simp at x) (fun x => by simp at x) (fun x => by simp at x) (fun x => by simp at x)
theorem free_told {q : Cd} (hq : CdOk q) (hT : q.T = 6) (hS : q.S = 32) {t v : Int} (ht : 0 ≤ t ∧ t < 6) (hv : 0 ≤ v ∧ v < 32) : mayT q ⟨9, t, 0, v, 0, 0, 0⟩ = true :=
  told_mk (sizes_q hq) (by simp only; omega) (.inr (.inr (.inr (.inl ⟨.inr (.inr (.inl rfl)), rfl, ⟨hv.1, by simp only; omega⟩, rfl, rfl, rfl⟩)))) (fun x => by simp at x) (fun x => by simp at x) (fun x => by simp at x) (fun x => by simp at x)
theorem load_three {q : Cd} (hT : q.T = 6) {t v : Int} (ht : 0 ≤ t ∧ t < 6) (hv : 0 ≤ v ∧ v < 32) (hl : q.last = t) (hx : q.xs v.toNat = 9) : (evB q ⟨3, t, 0, v, 0, 9, 0⟩).length = 3 := by
  have e0 : whoN q ⟨3, t, 0, v, 0, 9, 0⟩ = 12 := by
    unfold whoN
    simp only
    rw [hT, hl, show t - t + 6 = 6 by omega]
    rfl
  have e1 : restN q ⟨3, t, 0, v, 0, 9, 0⟩ = [v, 0] := by
    unfold restN
    simp only
    rw [if_neg (by decide), if_neg (by decide), if_pos (by decide), hx]
    rfl
  rw [evB_cons, e0, e1, putsL_two, List.length_append, List.length_append, put1 hv.1 (by omega), put1 (by decide) (by decide), put1 (by decide) (by decide)]
theorem free_two {q : Cd} (hT : q.T = 6) {t v : Int} (ht : 0 ≤ t ∧ t < 6) (hv : 0 ≤ v ∧ v < 32) (hl : q.last = t) : (evB q ⟨9, t, 0, v, 0, 0, 0⟩).length = 2 := by
  have e0 : whoN q ⟨9, t, 0, v, 0, 0, 0⟩ = 48 := by
    unfold whoN
    simp only
    rw [hT, hl, show t - t + 6 = 6 by omega]
    rfl
  have e1 : restN q ⟨9, t, 0, v, 0, 0, 0⟩ = [v] := by
    unfold restN
    simp only
    rw [if_neg (by decide), if_neg (by decide), if_neg (by decide), if_pos (by decide)]
  rw [evB_cons, e0, e1, putsL_one, List.length_append, put1 hv.1 (by omega), put1 (by decide) (by decide)]
theorem EvO.stays_write {B gw gc : Nat} {w w' : World} {g : Nat} {e : Ev} {q : Cd} {most : Int} {l : List UInt8} (h : EvO w g e) (hc : CodAt w gc q) (hw : Wr w B gw most l) (f : FrT B gw gc w w') : EvO w' g e := by
  obtain ⟨v, hw⟩ := hw
  exact f.cells h (by decide) (Obj.unlike (w := w) (g := g) (t := 41) h hw.1 (by decide)) (Obj.unlike (w := w) (g := g) (t := 41) h hc (by decide))
theorem ev_okT {t v : Int} (ht : 0 ≤ t ∧ t < 6) (hv : 0 ≤ v ∧ v < 32) : EvOk ⟨3, t, 0, v, 0, 9, 0⟩ := by constructor <;> simp only <;> omega
theorem ev_okF {t v : Int} (ht : 0 ≤ t ∧ t < 6) (hv : 0 ≤ v ∧ v < 32) : EvOk ⟨9, t, 0, v, 0, 0, 0⟩ := by constructor <;> simp only <;> omega
theorem know_load {q : Cd} {t v : Int} : (knowQ q ⟨3, t, 0, v, 0, 9, 0⟩).last = t ∧ (knowQ q ⟨3, t, 0, v, 0, 9, 0⟩).xs v.toNat = 9 := ⟨rfl, by
  unfold knowQ put
  simp⟩
theorem raw_fits {most : Int} {l b : List UInt8} (h : (l.length : Int) + b.length ≤ most) : rawE most l b = 0 ∧ rawL most l b = l ++ b := by
  unfold rawE rawL
  rw [if_pos h, if_pos h]
  exact ⟨rfl, rfl⟩
theorem written {q : Cd} {l : List UInt8} {e : Ev} (h : mayT q e = true) (hf : (l.length : Int) + (evB q e).length ≤ 16777216) : wrE q 16777216 l e = 0 ∧ wrL q 16777216 l e = l ++ evB q e ∧ wrQ q 16777216 l e = knowQ q e := by
  obtain ⟨a, b⟩ := raw_fits hf
  unfold wrE wrL wrQ
  rw [if_pos h, if_pos h, if_pos ⟨h, a⟩, a, b]
  exact ⟨rfl, rfl, rfl⟩
set_option maxHeartbeats 4000000 in
theorem small_walk (w : World) (hek : Ek w) (A : Option Addr) (L : List Ev) (c : Nat) (n m : Int) (hn : -9223372036854775808 ≤ n ∧ n ≤ 9223372036854775807) (hm : -9223372036854775808 ≤ m ∧ m ≤ 9223372036854775807) (hl : L.length ≤ 9223372036854775807) (he : EvsAt w w.heap.size A L) :
    Calls Tryd.prog 8 #[.slice A L.length c, .int .i64 n, .int .i64 m] w fun r w' => r = .returned (.bool true) ∧ Below w.heap.size w w' := by
  obtain ⟨N, hN⟩ : ∃ N, N = L.length := ⟨_, rfl⟩
  have HNL := Lib.hid hN
  have HE := Lib.hid he
  have HAW := Lib.hid (fun w' (hb : Below w.heap.size w w') => awake_any14 w' (hek.below hb))
  have HAW0 := Lib.hid (awake_any14 w hek)
  have HEK := Lib.hid hek
  rw [← hN] at hl ⊢
  clear hN he hek
  by_cases hlt : 400 < (N : Int)
  · go_enter Tryd.func8, Tryd.ntmps8
    go_wp2_with fail
    refine HAW0.out.mono ?_
    rintro _ w1 ⟨rfl, b1⟩
    go_wp2_with fail
    go_ret
    exact ⟨rfl, b1⟩
  have hlt : (N : Int) ≤ 400 := by omega
  go_enter Tryd.func8, Tryd.ntmps8
  go_wp2_with fail
  refine HAW0.out.mono ?_
  rintro _ w0 ⟨rfl, b0⟩
  have B0 := Lib.hid b0
  clear b0
  obtain ⟨w1, hw1⟩ : ∃ w1, w0.alloc (.cells (rowC 49 (cellD (newQ 6 32 32))) 78) = w1 := ⟨_, rfl⟩
  have hb1 : Below w0.heap.size w0 w1 := by rw [← hw1]; exact (Below.refl _ _).alloc (Nat.le_refl _) _
  have hc1 : CodAt w1 w0.heap.size (newQ 6 32 32) := by rw [← hw1]; exact heap_alloc_new w0 _
  have HN := Lib.hid (new_yesD 6 32 32 (by decide) w0)
  rw [hw1] at HN
  obtain ⟨w2, hw2⟩ : ∃ w2, w1.alloc (.cells #[.int .i64 16777216, .slice none 0 0] 84) = w2 := ⟨_, rfl⟩
  have hb2 : Below w1.heap.size w1 w2 := by rw [← hw2]; exact (Below.refl _ _).alloc (Nat.le_refl _) _
  have hwr : Wr w2 (w1.heap.size + 1) w1.heap.size 16777216 [] := by rw [← hw2]; exact wr_new 16777216 (by decide) (by decide) w1
  have HNW := Lib.hid (new_writer 16777216 (by decide) (by decide) w1)
  rw [hw2] at HNW
  have hsz : w1.heap.size + 1 ≤ w2.heap.size := by rw [← hw2]; simp
  have CW0 := Lib.hid (⟨hc1.below hb2, hwr, hsz, (B0.out.trans (hb1.mono B0.out.size)).trans (hb2.mono (Nat.le_trans B0.out.size hb1.size)), newQ_ok (by decide), B0.out.size, Nat.le_trans B0.out.size hb1.size, Nat.le_trans (Nat.le_trans B0.out.size hb1.size) (Nat.le_succ _)⟩ : CW w w0.heap.size w1.heap.size (w1.heap.size + 1) 16777216 (newQ 6 32 32) [] w2)
  obtain ⟨gc, hgc⟩ : ∃ g, g = w0.heap.size := ⟨_, rfl⟩
  obtain ⟨gw, hgw⟩ : ∃ g, g = w1.heap.size := ⟨_, rfl⟩
  rw [← hgc, ← hgw] at CW0
  rw [← hgc] at HN
  rw [← hgw] at HNW
  clear hw1 hb1 hc1 hw2 hb2 hwr hsz hgc hgw B0
  go_wp2_with fail
  refine HN.out.mono ?_
  rintro _ w9 ⟨rfl, rfl⟩
  go_wp2_with fail
  refine HNW.out.mono ?_
  rintro _ w9 ⟨rfl, rfl⟩
  go_wp2_with fail
  go_loopw [11] (fun iv wr => ∃ (k : Nat) (q : Cd) (l : List UInt8), k ≤ N ∧ iv = .int .i64 k ∧ Hid (CW w gc gw (gw + 1) 16777216 q l wr) ∧ Hid (l.length ≤ 12 * k) ∧ Hid (q.T = 6 ∧ q.V = 32 ∧ q.S = 32)) (fun iv _ => N - (intOf iv).toNat)
  case atStart => exact ⟨0, _, [], by omega, rfl, CW0, by show _ ≤ _; simp, ⟨rfl, rfl, rfl⟩⟩
  case round =>
    obtain ⟨k, q, l, hk, rfl, hC, hlen, hsz⟩ := hrel
    by_cases hkk : k < N
    · obtain ⟨p, rfl, hp, hev⟩ := HE.out k (by rw [← HNL.out]; exact hkk)
      have hev := hev.below hC.out.bel (by rw [add_blockO]; exact hp)
      obtain ⟨c0, c1, c2, c3, c4, c5, c6, ok⟩ := hev
      have hW := write_cw HEK.out hC.out (nthE L k) ok
      have hl2 := wrL_len hC.out.ok 16777216 l (nthE L k)
      have hs2 := know_sizes q 16777216 l (nthE L k)
      generalize nthE L k = e at *
      have HL2 : Hid ((wrL q 16777216 l e).length ≤ 12 * (k + 1)) := by show _ ≤ _; have := hlen.out; omega
      have HS2 : Hid ((wrQ q 16777216 l e).T = 6 ∧ (wrQ q 16777216 l e).V = 32 ∧ (wrQ q 16777216 l e).S = 32) := by obtain ⟨a1, a2, a3⟩ := hsz.out; show _ ∧ _; rw [hs2.1, hs2.2.1, hs2.2.2]; exact ⟨a1, a2, a3⟩
      have HEV : Hid (evV e = .agg #[.int .u8 e.kd, .int .i64 e.th, .int .i64 e.tx, .int .i64 e.pl, .int .i64 e.v, .int .i64 e.x, .int .u8 e.why]) := rfl
      rw [HEV.out] at hW
      have HW := Lib.hid hW
      have i1 : (k : Int) < (N : Int) := by omega
      have i2 : (0 : Int) ≤ (k : Int) := by omega
      clear hW hl2 hs2 hp ok
      go_wp2_with fail
      refine HW.out.mono ?_
      rintro _ w3 ⟨rfl, h3, _⟩
      have C3 := Lib.hid h3
      clear h3
      go_wp2_with fail
      refine ⟨?_, ?measure⟩
      · exact ⟨k + 1, _, _, by omega, by go_num, C3, HL2, HS2⟩
      case measure => simp [intOf]; omega
    · obtain rfl : k = N := by omega
      clear hkk HE HNL
      obtain ⟨n1, hn1⟩ : ∃ a, IntKind.u64.wrap n = a := ⟨_, rfl⟩
      obtain ⟨m1, hm1⟩ : ∃ a, IntKind.u64.wrap m = a := ⟨_, rfl⟩
      have hn0 : 0 ≤ n1 := by rw [← hn1, IntKind.wrap_u64]; omega
      have hm0 : 0 ≤ m1 := by rw [← hm1, IntKind.wrap_u64]; omega
      obtain ⟨t, ht⟩ : ∃ t, n1.tmod 6 = t := ⟨_, rfl⟩
      obtain ⟨v, hv⟩ : ∃ t, m1.tmod 32 = t := ⟨_, rfl⟩
      have ht6 : 0 ≤ t ∧ t < 6 := by rw [← ht, tmod_id hn0]; omega
      have hv32 : 0 ≤ v ∧ v < 32 := by rw [← hv, tmod_id hm0]; omega
      have htw : IntKind.i64.wrap t = t := IntWalk.i64_in _ ⟨by omega, by omega⟩
      have hvw : IntKind.i64.wrap v = v := IntWalk.i64_in _ ⟨by omega, by omega⟩
      go_wp2_with fail
      have hbx : Below wr.heap.size wr (wr.alloc (.cells #[.int .u8 3, .int .i64 t, .int .i64 0, .int .i64 v, .int .i64 0, .int .i64 9, .int .u8 0] 41)) := (Below.refl _ _).alloc (Nat.le_refl _) _
      have hex : EvO (wr.alloc (.cells #[.int .u8 3, .int .i64 t, .int .i64 0, .int .i64 v, .int .i64 0, .int .i64 9, .int .u8 0] 41)) wr.heap.size ⟨3, t, 0, v, 0, 9, 0⟩ := heap_alloc_new wr _
      have CX := Lib.hid (hC.out.below hbx)
      have EX := Lib.hid hex
      have HN400 := Lib.hid hlt
      clear hbx hex hC hn1 hm1 hn0 hm0 ht hv htw hvw hlt
      generalize wr.alloc (.cells #[.int .u8 3, .int .i64 t, .int .i64 0, .int .i64 v, .int .i64 0, .int .i64 9, .int .u8 0] 41) = wx at CX EX ⊢
      generalize wr.heap.size = ge at EX ⊢
      go_loopw [13] (fun iv wy => ∃ (j : Nat) (q : Cd) (l : List UInt8), j ≤ 2 ∧ iv = .int .i64 j ∧ Hid (CW w gc gw (gw + 1) 16777216 q l wy) ∧ Hid (EvO wy ge ⟨3, t, 0, v, 0, 9, 0⟩) ∧ Hid (l.length ≤ 12 * k + 12 * j) ∧ Hid (q.T = 6 ∧ q.V = 32 ∧ q.S = 32) ∧ Hid (1 ≤ j → q.last = t ∧ q.xs v.toNat = 9)) (fun iv _ => 2 - (intOf iv).toNat)
      case atStart => exact ⟨0, _, _, by omega, rfl, CX, EX, hlen, hsz, fun h => absurd h (by omega)⟩
      case round =>
        obtain ⟨j, q2, l2, hj, rfl, C2, E2, len2, sz2, kn2⟩ := hrel
        have HLT := Lib.hid (len_w (gw + 1) gw 16777216 l2 _ C2.out.wr)
        by_cases hj2 : j < 2
        · have hmay := load_told C2.out.ok sz2.out.1 sz2.out.2.1 ht6 hv32
          have hsm := evB_small C2.out.ok hmay
          have hwt := written (l := l2) hmay (by have := len2.out; have := HN400.out; omega)
          have hW := write_cw HEK.out C2.out ⟨3, t, 0, v, 0, 9, 0⟩ (ev_okT ht6 hv32)
          have HEV : Hid (evV ⟨3, t, 0, v, 0, 9, 0⟩ = .agg #[.int .u8 3, .int .i64 t, .int .i64 0, .int .i64 v, .int .i64 0, .int .i64 9, .int .u8 0]) := rfl
          rw [hwt.1, hwt.2.1, hwt.2.2, HEV.out] at hW
          have HW := Lib.hid hW
          have HSM := Lib.hid hsm
          have HB3 : Hid (1 ≤ j → (evB q2 ⟨3, t, 0, v, 0, 9, 0⟩).length = 3) := fun h => load_three sz2.out.1 ht6 hv32 (kn2.out h).1 (kn2.out h).2
          obtain ⟨x0, x1, x2, x3, x4, x5, x6⟩ := evsix E2.out
          clear hmay hsm hwt hW
          go_wp2_with fail
          refine HLT.out.mono ?_
          rintro _ w5 ⟨rfl, rfl⟩
          go_wp2_with fail
          refine HW.out.mono ?_
          rintro _ w5 ⟨rfl, h3, f3⟩
          have C3 := Lib.hid h3
          have E3 := Lib.hid (E2.out.stays_write C2.out.cod C2.out.wr f3)
          have HL3 := Lib.hid (len_w (gw + 1) gw 16777216 _ _ h3.wr)
          obtain ⟨b, hb⟩ : ∃ b, b = (evB q2 ⟨3, t, 0, v, 0, 9, 0⟩).length := ⟨_, rfl⟩
          have hbl : (l2 ++ evB q2 ⟨3, t, 0, v, 0, 9, 0⟩).length = l2.length + b := by rw [List.length_append, hb]
          rw [hbl] at HL3
          have hb12 : b ≤ 12 := by rw [hb]; exact HSM.out.2
          have hb3 : 1 ≤ j → b = 3 := fun h => by rw [hb]; exact HB3.out h
          obtain ⟨ln, hln⟩ : ∃ ln, ln = l2.length := ⟨_, rfl⟩
          have hln2 : ln ≤ 12 * k + 12 * j := by rw [hln]; exact len2.out
          have HLL : Hid ((l2 ++ evB q2 ⟨3, t, 0, v, 0, 9, 0⟩).length ≤ 12 * k + 12 * (j + 1)) := by show _ ≤ _; rw [hbl]; omega
          rw [← hln] at HL3 hbl HLT ⊢
          have hN4 := HN400.out
          have HKN : Hid ((knowQ q2 ⟨3, t, 0, v, 0, 9, 0⟩).T = 6 ∧ (knowQ q2 ⟨3, t, 0, v, 0, 9, 0⟩).V = 32 ∧ (knowQ q2 ⟨3, t, 0, v, 0, 9, 0⟩).S = 32) := sz2.out
          clear h3 f3 hb hbl hln HSM HB3 x0 x1 x2 x3 x4 x5 x6 E2 C2 len2 sz2
          have i5 : (j : Int) < 2 := by omega
          have i6 : ((ln + b : Nat) : Int) = (ln : Int) + (b : Int) := by omega
          rw [i6] at HL3
          have i7 : (ln : Int) + (b : Int) ≤ (ln : Int) + 16 := by omega
          have i8 : (ln : Int) ≤ 5000 := by omega
          have i9 : (b : Int) ≤ 12 := by omega
          by_cases hj1 : j = 1
          · have e3 := hb3 (by omega)
            have q1 : ((j : Int) == 1) = true := by simpa using (by omega : (j : Int) = 1)
            have i10 : (ln : Int) + (b : Int) ≤ (ln : Int) + 3 := by omega
            clear hb3 hb12 hln2 hN4 i6 hj1
            go_wp2_with fail
            refine HL3.out.mono ?_
            rintro _ w6 ⟨rfl, rfl⟩
            go_wp2_with fail
            refine HL3.out.mono ?_
            rintro _ w6 ⟨rfl, rfl⟩
            go_wp2_with fail
            refine ⟨?_, ?measure⟩
            · exact ⟨j + 1, _, _, by omega, by go_num, C3, E3, HLL, HKN, fun _ => know_load⟩
            case measure => simp [intOf]; omega
          · have q1 : ((j : Int) == 1) = false := beq_eq_false_iff_ne.2 (by omega)
            clear hb3 hb12 hln2 hN4 i6 hj1
            go_wp2_with fail
            refine HL3.out.mono ?_
            rintro _ w6 ⟨rfl, rfl⟩
            go_wp2_with fail
            refine ⟨?_, ?measure⟩
            · exact ⟨j + 1, _, _, by omega, by go_num, C3, E3, HLL, HKN, fun _ => know_load⟩
            case measure => simp [intOf]; omega
        · obtain rfl : j = 2 := by omega
          have hmay := free_told C2.out.ok sz2.out.1 sz2.out.2.2 ht6 hv32
          have h2b := free_two sz2.out.1 ht6 hv32 (kn2.out (by omega)).1
          have hwt := written (l := l2) hmay (by have := len2.out; have := HN400.out; omega)
          have hW := write_cw HEK.out C2.out ⟨9, t, 0, v, 0, 0, 0⟩ (ev_okF ht6 hv32)
          have HEV : Hid (evV ⟨9, t, 0, v, 0, 0, 0⟩ = .agg #[.int .u8 9, .int .i64 t, .int .i64 0, .int .i64 v, .int .i64 0, .int .i64 0, .int .u8 0]) := rfl
          rw [hwt.1, hwt.2.1, hwt.2.2, HEV.out] at hW
          have HW := Lib.hid hW
          have hbl : (l2 ++ evB q2 ⟨9, t, 0, v, 0, 0, 0⟩).length = l2.length + 2 := by rw [List.length_append, h2b]
          have HBL := Lib.hid hbl
          have hln2 := len2.out
          have hN4 := HN400.out
          have i8 : (l2.length : Int) ≤ 5000 := by omega
          obtain ⟨ln, hln⟩ : ∃ ln, ln = l2.length := ⟨_, rfl⟩
          rw [← hln] at HLT HBL i8
          have HLN := Lib.hid hln
          clear hmay h2b hwt hW hbl hln2 hN4 hln
          go_wp2_with fail
          refine HLT.out.mono ?_
          rintro _ w5 ⟨rfl, rfl⟩
          go_wp2_with fail
          refine HW.out.mono ?_
          rintro _ w5 ⟨rfl, h3, f3⟩
          have HL3 := Lib.hid (len_w (gw + 1) gw 16777216 _ _ h3.wr)
          rw [HBL.out] at HL3
          have i6 : ((ln + 2 : Nat) : Int) = (ln : Int) + 2 := by omega
          rw [i6] at HL3
          have BE := Lib.hid h3.bel
          clear h3 f3 i6
          go_wp2_with fail
          refine HL3.out.mono ?_
          rintro _ w6 ⟨rfl, rfl⟩
          go_wp2_with fail
          go_ret
          exact ⟨rfl, BE.out⟩
end Go.Proofs.YtcomhnenfdoklaaDoor
