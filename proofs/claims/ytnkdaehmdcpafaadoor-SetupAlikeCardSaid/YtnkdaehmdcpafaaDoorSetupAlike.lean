/-
  SetupAlike (P6.5): a copy is the same, and may be as the first may; with something another one it is not: the statement holds, and its card. Condition: code's table lies as its initialiser lays it, which the card ties to the program's text.
-/
import Derived.Test.YtnkdaehmdcpafaaDoorUn
import Derived.Test.YtnkdaehmdcpafaaDoorUaa
import Derived.Test.YtnkdaehmdcpafaaDoorZb
import Derived.Test.YtnkdaehmdcpafaaDoorUr
import Derived.Test.YtnkdaehmdcpafaaDoorUi
import Derived.Test.YtnkdaehmdcpafaaDoorUo
import Derived.Test.YtnkdaehmdcpafaaDoorUk
import Derived.Deep.RegionHeld3
import Derived.StillTailTactics
namespace Go.Proofs.YtnkdaehmdcpafaaDoor
open Go.ChangeShapes Go.WideShapes Go.ChangeAt Go.RowKit Go.WideElems Go.WideMaps
set_option linter.unusedVariables false
theorem CopiedC.lies {d : Nat} {s : Su} {e : Ending} {w w' : World} (h : CopiedC w d s e w') : ∃ I c T c' mid, e = .returned (.agg #[.int .i64 s.st, .int .i64 s.cl, .int .i64 s.tr, .slice I s.init.length c, .slice T s.thr.length c']) ∧ Lies6 d s w.heap.size w'.heap.size mid I c T c' w' ∧ Below w.heap.size w w' := by
  obtain ⟨I, c, T, c', mid, a, hs, e, h1, h2, h3, h4, h5⟩ := h
  exact ⟨I, c, T, c', mid, e, ⟨⟨a, h1⟩, h2, ⟨hs, h3⟩, h5, rfl⟩, h4⟩
theorem Lies6.su {d : Nat} {s : Su} {lo hi mid : Nat} {I : Option Addr} {c : Nat} {T : Option Addr} {c' : Nat} {w0 w : World} (h : Lies6 d s lo hi mid I c T c' w0) (hk : Agree lo hi w0 w) (hf : FewS s) (hr : ∃ w1 l1 h1 I1 T1, SuAt w1 l1 h1 d I1 T1 s) : SuAt w lo w.heap.size d I T s := by
  obtain ⟨a, ha⟩ := h.at hk
  obtain ⟨w1, l1, h1, I1, T1, hr⟩ := hr
  exact ha.suAt rfl rfl hf.thr hr.st0 hr.st1 hr.cl0 hr.cl1 hr.tr0 hr.tr1
theorem xor1_ne (x : Int) : bits .xor .i64 x 1 ≠ x := by
  show IntKind.i64.wrap ((BitVec.ofInt 64 x ^^^ BitVec.ofInt 64 1).toNat : Int) ≠ x
  intro h
  have hw : (BitVec.ofInt 64 x ^^^ BitVec.ofInt 64 1).toNat = (BitVec.ofInt 64 x).toNat := by
    have h1 := (BitVec.ofInt 64 x ^^^ BitVec.ofInt 64 1).isLt
    rw [BitVec.toNat_ofInt]
    generalize (BitVec.ofInt 64 x ^^^ BitVec.ofInt 64 1).toNat = y at h h1 ⊢
    simp [IntKind.wrap, IntKind.bits, IntKind.signed] at h
    omega
  have he := BitVec.eq_of_toNat_eq hw
  have h2 : BitVec.ofInt 64 x ^^^ (BitVec.ofInt 64 x ^^^ BitVec.ofInt 64 1) = BitVec.ofInt 64 x ^^^ BitVec.ofInt 64 x := congrArg (BitVec.ofInt 64 x ^^^ ·) he
  rw [← BitVec.xor_assoc, BitVec.xor_self, BitVec.zero_xor] at h2
  exact absurd h2 (by decide)
theorem ints_set {w : World} {hi g : Nat} {L : List Int} {cur : Array Value} (h : Ints w hi (some ⟨g, 0, none⟩) L) (hr : w.heap[g]? = some (.cells cur 2 (0, 0))) {t : Nat} {v : Int} (ht : t < L.length) : Ints (w.setCell ⟨g, t, none⟩ (.int .i64 v)).drew hi (some ⟨g, 0, none⟩) (L.set t v) := by
  have hs := heap_set_same w g t (.int .i64 v) _ _ hr
  refine ⟨by rw [List.length_set]; exact h.len, fun k hk => ?_⟩
  rw [List.length_set] at hk
  obtain ⟨p, e, b, c1⟩ := h.cell k hk
  cases e
  refine ⟨_, rfl, b, ?_⟩
  rw [row_add] at c1 ⊢
  have hc := cell_of_row w g k _ _ (0, 0) hr
  rw [c1] at hc
  refine (cell_of_row (w.setCell ⟨g, t, none⟩ (.int .i64 v)) g k _ _ (0, 0) hs).trans ?_
  by_cases hkt : k = t
  · subst hkt
    have hlt : k < cur.size := by
      rcases Nat.lt_or_ge k cur.size with h1 | h1
      · exact h1
      · rw [Array.getElem?_eq_none h1] at hc; cases hc
    rw [Array.getElem?_setIfInBounds_self_of_lt hlt, List.getElem_set_self]
  · rw [Array.getElem?_setIfInBounds_ne (by omega), List.getElem_set_ne (by omega)]
    exact hc.symm
theorem own_low {w : World} {base base' n size : Nat} {t : TypeId} {v : Value} {xs : List Value} (h : w.ownsRow base t size v n xs) (hb : base' ≤ base) : w.ownsRow base' t size v n xs :=
  ⟨h.1, h.2.imp id fun ⟨g, cap, cur, e1, e2, r⟩ => ⟨g, cap, cur, e1, Nat.le_trans hb e2, r⟩⟩
theorem grown_keep {wx w1 : World} {o : Obj} {r : Option Nat} (h : (wx.alloc o).grownBy w1 r) : wx.heap.size ≤ w1.heap.size ∧ ∀ b, b < wx.heap.size → some b ≠ r → w1.heap[b]? = wx.heap[b]? := by
  have hz := h.size
  simp at hz
  exact ⟨by omega, fun b hb hn => (h.block b (by simp; omega) hn).trans (heap_alloc_old wx o hb)⟩
set_option maxRecDepth 100000 in
set_option maxHeartbeats 16000000 in
set_option pp.maxSteps 200000 in
set_option pp.deepTerms true in
theorem SetupAlike_walk {W : World} (v : Value) (d : Nat) (s : Su) (h : SetAt W 0 W.heap.size d v s) (x : Int) (x0 : -9223372036854775808 ≤ x) (x1 : x < 9223372036854775808) (hkd : Kd W) :
    Calls Tryd.prog 8 #[v, .int .i64 x] W fun e w' => e = .returned (.bool true) ∧ Below W.heap.size W w' := by
  obtain ⟨I, c, T, c', rfl, h⟩ := h
  obtain ⟨w, hw⟩ : ∃ w, w = W := ⟨_, rfl⟩
  rw [← hw] at h hkd ⊢
  have b0 := sfive_below w s.st s.cl s.tr I s.init.length c T s.thr.length c'
  have hS := h.below b0 (Nat.le_refl _)
  have HLG := Lib.hid (large_any6 d s I T c c' 0 w.heap.size _ hS (by simp))
  have HF5 := Lib.hid (fun W' (h' : Below (w.heap.size + 1) (w.alloc (.cells #[.int .i64 s.st, .int .i64 s.cl, .int .i64 s.tr, .slice I s.init.length c, .slice T s.thr.length c'] 25)) W') => (SFive.new w s.st s.cl s.tr I s.init.length c T s.thr.length c').below h' (by omega))
  have HB := Lib.hid b0
  have HA := Lib.hid awake_any
  have l1 := h.ini.len
  have l2 := h.len
  have HZ0 : Hid ((w.alloc (.cells #[.int .i64 s.st, .int .i64 s.cl, .int .i64 s.tr, .slice I s.init.length c, .slice T s.thr.length c'] 25)).heap.size = w.heap.size + 1) := by show _ = _; simp
  cases hlg : largeF d s with
  | true =>
    rw [hlg] at HLG
    obtain ⟨st, cl, tr, ini, thr⟩ := s
    dsimp only at *
    clear h hkd b0 hS hlg hw HF5
    go_enter Tryd.func8, Tryd.ntmps8
    go_wp2_with fail
    refine HLG.out.mono ?_
    rintro _ w1 ⟨rfl, b1⟩
    have B1 : Hid (Below w.heap.size w w1) := HB.out.trans (b1.mono (by have := HZ0.out; omega))
    clear b1
    go_wp2_with fail
    refine (HA.out w1).mono ?_
    rintro _ w2 ⟨rfl, b2⟩
    have B2 : Hid (Below w.heap.size w w2) := B1.out.trans (b2.mono B1.out.size)
    clear b2
    go_wp2_with fail
    go_ret
    exact ⟨rfl, B2.out⟩
  | false =>
    obtain ⟨h42, hfew⟩ := h.fit hlg
    rw [hlg] at HLG
    have HREFL := Lib.hid h42.same_refl
    have HKD := Lib.hid (fun W' (h' : Below w.heap.size w W') => hkd.below h' (Nat.le_refl _))
    have HSU := Lib.hid (fun W' (h' : Below w.heap.size w W') => h42.below h' (Nat.le_refl _))
    have HFEW := Lib.hid hfew
    have HRG : Hid (∃ w1 l1 h1 I1 T1, SuAt w1 l1 h1 42 I1 T1 s) := ⟨_, _, _, _, _, h42⟩
    have HCP := Lib.hid (fun W' (h' : Below w.heap.size w W') => copy6_any 42 s I T c c' 0 w.heap.size W' (h42.below h' (Nat.le_refl _)) h'.size hfew)
    have HSV := Lib.hid (rfl : s = s)
    obtain ⟨st, cl, tr, ini, thr⟩ := s
    dsimp only at HLG HF5 HB HZ0 HSU HCP HREFL l1 l2 ⊢
    obtain ⟨M, hM⟩ : ∃ M, M = thr.length := ⟨_, rfl⟩
    have HM := Lib.hid hM
    obtain ⟨n, hn⟩ : ∃ n, n = ini.length := ⟨_, rfl⟩
    have HN := Lib.hid hn
    rw [← hM] at HLG HF5 HB HZ0 HCP l2
    rw [← hn] at HLG HF5 HB HZ0 HCP l1
    rw [← hM, ← hn]
    have hn100 : n ≤ 100 := by have := hfew.ini; dsimp only at this; omega
    have hM20 : M ≤ 20 := by have := hfew.thr; dsimp only at this; omega
    obtain ⟨E, hE⟩ : ∃ E, E = errF (okF 42 ⟨st, cl, tr, ini, thr⟩) := ⟨_, rfl⟩
    have HE := Lib.hid hE
    obtain ⟨W0, hW0⟩ : ∃ W, W = w.alloc (.cells #[.int .i64 st, .int .i64 cl, .int .i64 tr, .slice I n c, .slice T M c'] 25) := ⟨_, rfl⟩
    rw [← hW0] at HF5 HB HZ0 HLG
    have HW0 := Lib.hid hW0
    clear h hkd b0 hS hlg hw hfew h42 hM hn hE hW0 HSV
    go_enter Tryd.func8, Tryd.ntmps8
    go_wp2_with fail
    rw [← HW0.out]
    refine HLG.out.mono ?_
    rintro _ w1 ⟨rfl, b1⟩
    have B1 : Hid (Below (w.heap.size + 1) W0 w1) := b1.mono (by have := HZ0.out; omega)
    clear b1
    go_wp2_with fail
    refine (HA.out w1).mono ?_
    rintro _ w2 ⟨rfl, b2⟩
    have B2 : Hid (Below (w.heap.size + 1) W0 w2) := B1.out.trans (b2.mono (by have := B1.out.size; have := HZ0.out; omega))
    have c0 := (HF5.out w2 B2.out).c0
    have c1 := (HF5.out w2 B2.out).c1
    have c2 := (HF5.out w2 B2.out).c2
    have c3 := (HF5.out w2 B2.out).c3
    have c4 := (HF5.out w2 B2.out).c4
    clear b2
    have D2 : Hid (Below w.heap.size w w2) := HB.out.trans (B2.out.mono (by omega))
    go_wp2_with fail
    refine (HCP.out w2 D2.out).mono ?_
    rintro _ w3 hcop
    obtain ⟨Ic, cc, Tc, ctc, midc, rfl, hLc, b3⟩ := hcop.lies
    dsimp only
    rw [← HN.out, ← HM.out]
    have HLC := Lib.hid hLc
    have B3 : Hid (Below (w.heap.size + 1) W0 w3) := B2.out.trans (b3.mono (by have := B2.out.size; have := HZ0.out; omega))
    have HZ3 := Lib.hid (And.intro b3.size (And.intro B2.out.size HZ0.out))
    clear b3 hcop hLc c0 c1 c2 c3 c4
    go_upto_region 4 with fail
    obtain ⟨W4, hW4⟩ : ∃ W, W = w3.alloc (.cells #[.int .i64 st, .int .i64 cl, .int .i64 tr, .slice Ic n cc, .slice Tc M ctc] 25) := ⟨_, rfl⟩
    rw [← hW4]
    have hz4 : W4.heap.size = w3.heap.size + 1 := by rw [hW4]; simp
    have b34 : Below w3.heap.size w3 W4 := by rw [hW4]; exact (Below.refl _ _).alloc (Nat.le_refl _) _
    have hfc : SFive W4 w3.heap.size st cl tr Ic n cc Tc M ctc := by rw [hW4]; exact SFive.new w3 st cl tr Ic n cc Tc M ctc
    have HFC := Lib.hid (fun W' (h' : Below W4.heap.size W4 W') => hfc.below h' (by omega))
    have B4 : Hid (Below (w.heap.size + 1) W0 W4) := B3.out.trans (b34.mono (by have := B3.out.size; have := HZ0.out; omega))
    have D4 : Hid (Below w.heap.size w W4) := HB.out.trans (B4.out.mono (by omega))
    have HAG : Hid (∀ W', Below W4.heap.size W4 W' → Agree w2.heap.size w3.heap.size w3 W') := fun W' h' => (Agree.low b34 (Nat.le_refl _) (Nat.le_refl _)).trans (Agree.low h' (by omega) (by omega))
    have HZ4 := Lib.hid (And.intro hz4 b34)
    have HCS : Hid (∀ W', Below W4.heap.size W4 W' → SuAt W' w2.heap.size W'.heap.size 42 Ic Tc ⟨st, cl, tr, ini, thr⟩) := fun W' h' => HLC.out.su (HAG.out W' h') HFEW.out HRG.out
    have DD : Hid (∀ W', Below W4.heap.size W4 W' → Below w.heap.size w W') := fun W' h' => D4.out.trans (h'.mono D4.out.size)
    have KS1 : Hid (∀ W', Below W4.heap.size W4 W' → Calls Tryd.prog 16 #[.agg #[.int .i64 st, .int .i64 cl, .int .i64 tr, .slice I n c, .slice T M c'], .agg #[.int .i64 st, .int .i64 cl, .int .i64 tr, .slice Ic n cc, .slice Tc M ctc]] W' fun e w' => e = .returned (.bool true) ∧ Below W4.heap.size W4 w') := fun W' h' => by
      have := same_any6 42 ⟨st, cl, tr, ini, thr⟩ ⟨st, cl, tr, ini, thr⟩ I T Ic Tc c c' cc ctc _ _ _ _ W' (HSU.out W' (DD.out W' h')) (HCS.out W' h') (DD.out W' h').size (Nat.le_refl _)
      rw [HREFL.out] at this
      dsimp only at this
      rw [← HN.out, ← HM.out] at this
      exact this.mono fun e w' ⟨h1, h2⟩ => ⟨h1, h'.trans (h2.mono h'.size)⟩
    have KS2 : Hid (∀ W', Below W4.heap.size W4 W' → Calls Tryd.prog 16 #[.agg #[.int .i64 st, .int .i64 cl, .int .i64 tr, .slice Ic n cc, .slice Tc M ctc], .agg #[.int .i64 st, .int .i64 cl, .int .i64 tr, .slice I n c, .slice T M c']] W' fun e w' => e = .returned (.bool true) ∧ Below W4.heap.size W4 w') := fun W' h' => by
      have := same_any6 42 ⟨st, cl, tr, ini, thr⟩ ⟨st, cl, tr, ini, thr⟩ Ic Tc I T cc ctc c c' _ _ _ _ W' (HCS.out W' h') (HSU.out W' (DD.out W' h')) (Nat.le_refl _) (DD.out W' h').size
      rw [HREFL.out] at this
      dsimp only at this
      rw [← HN.out, ← HM.out] at this
      exact this.mono fun e w' ⟨h1, h2⟩ => ⟨h1, h'.trans (h2.mono h'.size)⟩
    have KC1 : Hid (∀ W', Below W4.heap.size W4 W' → Calls Tryd.prog 14 #[.agg #[.int .i64 st, .int .i64 cl, .int .i64 tr, .slice Ic n cc, .slice Tc M ctc]] W' fun e w' => e = .returned (.int .i64 E) ∧ Below W4.heap.size W4 w') := fun W' h' => by
      have := check_any 42 ⟨st, cl, tr, ini, thr⟩ Ic Tc cc ctc _ _ W' (HKD.out _ (DD.out W' h')) (HCS.out W' h') (Nat.le_refl _) (by omega)
      rw [← HE.out] at this
      dsimp only at this
      rw [← HN.out, ← HM.out] at this
      exact this.mono fun e w' ⟨h1, h2⟩ => ⟨h1, h'.trans (h2.mono h'.size)⟩
    have KC2 : Hid (∀ W', Below W4.heap.size W4 W' → Calls Tryd.prog 14 #[.agg #[.int .i64 st, .int .i64 cl, .int .i64 tr, .slice I n c, .slice T M c']] W' fun e w' => e = .returned (.int .i64 E) ∧ Below W4.heap.size W4 w') := fun W' h' => by
      have := check_any 42 ⟨st, cl, tr, ini, thr⟩ I T c c' _ _ W' (HKD.out _ (DD.out W' h')) (HSU.out W' (DD.out W' h')) (DD.out W' h').size (by omega)
      rw [← HE.out] at this
      dsimp only at this
      rw [← HN.out, ← HM.out] at this
      exact this.mono fun e w' ⟨h1, h2⟩ => ⟨h1, h'.trans (h2.mono h'.size)⟩
    have hS4 : Hid (∀ W', Below W4.heap.size W4 W' → (W'.cell? ⟨w.heap.size, 0, none⟩ = some (.int .i64 st) ∧ W'.cell? ⟨w.heap.size, 1, none⟩ = some (.int .i64 cl) ∧ W'.cell? ⟨w.heap.size, 2, none⟩ = some (.int .i64 tr) ∧ W'.cell? ⟨w.heap.size, 3, none⟩ = some (.slice I n c) ∧ W'.cell? ⟨w.heap.size, 4, none⟩ = some (.slice T M c') ∧ W'.cell? ⟨w3.heap.size, 0, none⟩ = some (.int .i64 st) ∧ W'.cell? ⟨w3.heap.size, 1, none⟩ = some (.int .i64 cl) ∧ W'.cell? ⟨w3.heap.size, 2, none⟩ = some (.int .i64 tr) ∧ W'.cell? ⟨w3.heap.size, 3, none⟩ = some (.slice Ic n cc) ∧ W'.cell? ⟨w3.heap.size, 4, none⟩ = some (.slice Tc M ctc))) := fun W' h' => by
      have a1 := HF5.out W' (B4.out.trans (h'.mono (by have := B4.out.size; have := HZ0.out; omega)))
      have a2 := HFC.out W' h'
      exact ⟨a1.c0, a1.c1, a1.c2, a1.c3, a1.c4, a2.c0, a2.c1, a2.c2, a2.c3, a2.c4⟩
    have E0 := Lib.hid (hS4.out W4 (Below.refl _ _))
    have E1 := Lib.hid (hS4.out W4.drew (Below.refl _ _).drew)
    have ee : (E != E) = false := bne_eq_false_iff_eq.2 rfl
    clear hW4 hz4 b34 hfc
    go_region_held3 (fun w' => w'.cell? ⟨w.heap.size, 0, none⟩ = some (.int .i64 st) ∧ w'.cell? ⟨w.heap.size, 1, none⟩ = some (.int .i64 cl) ∧ w'.cell? ⟨w.heap.size, 2, none⟩ = some (.int .i64 tr) ∧ w'.cell? ⟨w.heap.size, 3, none⟩ = some (.slice I n c) ∧ w'.cell? ⟨w.heap.size, 4, none⟩ = some (.slice T M c') ∧ w'.cell? ⟨w3.heap.size, 0, none⟩ = some (.int .i64 st) ∧ w'.cell? ⟨w3.heap.size, 1, none⟩ = some (.int .i64 cl) ∧ w'.cell? ⟨w3.heap.size, 2, none⟩ = some (.int .i64 tr) ∧ w'.cell? ⟨w3.heap.size, 3, none⟩ = some (.slice Ic n cc) ∧ w'.cell? ⟨w3.heap.size, 4, none⟩ = some (.slice Tc M ctc))
      (first | exact E0.out | exact E1.out | exact hS4.out _ b8 | exact hS4.out _ b7 | exact hS4.out _ b6 | exact hS4.out _ b5 | go_keep)
      (first
        | (go_at_call 14; refine (KC2.out w7 b7).mono ?_; rintro z w8 ⟨rfl, b8⟩)
        | (go_at_call 14; refine (KC1.out w6 b6).mono ?_; rintro z w7 ⟨rfl, b7⟩)
        | (go_at_call 16; refine (KS2.out w5 b5).mono ?_; rintro z w6 ⟨rfl, b6⟩)
        | (go_at_call 16; refine (KS1.out W4.drew (Below.refl _ _).drew).mono ?_; rintro z w5 ⟨rfl, b5⟩)
        | fail)
    go_upto_region 6 with fail
    have D8 : Hid (Below w.heap.size w w8) := DD.out w8 b8
    have B8 : Hid (Below W4.heap.size W4 w8) := b8
    have hbx : ∀ w', Below w8.heap.size w8 w' → SFive w' w.heap.size st cl tr I ini.length c T thr.length c' := fun w' hb => by
      have := HF5.out w' (B4.out.trans ((b8.trans (hb.mono b8.size)).mono (by have := B4.out.size; have := HZ0.out; omega)))
      rw [HN.out, HM.out] at this
      exact this
    have hsu8 := HSU.out w8 D8.out
    have hsz8 := D8.out.size
    clear KS1 KS2 KC1 KC2 hS4 E0 E1 ee
    refine regA (by kernel_rfl) _ (by show 90 ≤ 90; decide) w8 w.heap.size 42 c c' _ _ I T ⟨st, cl, tr, ini, thr⟩ rfl hbx hsu8 hsz8 HFEW.out ?_
    intro ga gb gd la ha ma lb hb mb ld hd md Ia ca Ta cta Ib cb Tb ctb Id cd Td ctd wa wb wd w9 P9 va vb vd hva hvb hvd
    have HP9 := Lib.hid P9
    subst hva
    subst hvb
    subst hvd
    have B9 : Hid (Below W4.heap.size W4 w9) := B8.out.trans (P9.low.mono B8.out.size)
    have HV9 := Lib.hid (HF5.out w9 (B4.out.trans (B9.out.mono (by have := B4.out.size; have := HZ0.out; omega))))
    have d1 := HV9.out.c1
    have e1 : w9.cell? ⟨ga, 1, none⟩ = some (.int .i64 cl) := cell_of_row w9 ga 1 _ _ (0, 0) P9.ba
    have e2 : w9.frozen? ⟨ga, 1, none⟩ = false := by simp [World.frozen?, P9.ba, box6]
    clear hbx hsu8 hsz8 P9 b8
    simp only [putAll, List.setIfInBounds_toArray, List.set_cons_zero, List.set_cons_succ]
    rw [← HN.out, ← HM.out]
    go_upto_region 8 with fail
    obtain ⟨X, hX⟩ : ∃ X, X = bits .xor .i64 cl 1 := ⟨_, rfl⟩
    rw [← hX]
    have HX : Hid (X ≠ cl) := by show _ ≠ _; rw [hX]; exact xor1_ne cl
    obtain ⟨w10, hw10⟩ : ∃ w', w' = w9.setCell ⟨ga, 1, none⟩ (.int .i64 X) := ⟨_, rfl⟩
    rw [← hw10]
    obtain ⟨lo1, lo2, lo3, lo4, lo5, lo6⟩ := HP9.out.lo
    have mb1 := HP9.out.b.mids
    have md1 := HP9.out.d.mids
    have z48 := B8.out.size
    have kk10 : Hid (∀ b, b ≠ ga → w10.heap[b]? = w9.heap[b]?) := fun b hb => by rw [hw10]; exact heap_set_other w9 ga 1 _ b hb
    have hz10 : w10.heap.size = w9.heap.size := by rw [hw10]; simp
    have ra10 : Hid (w10.heap[ga]? = some (.cells #[.int .i64 st, .int .i64 X, .int .i64 tr, .slice Ia n ca, .slice Ta M cta] 25 (0, 0))) := by
      show _ = _
      rw [hw10, HN.out, HM.out]
      exact heap_set_same w9 ga 1 (.int .i64 X) _ _ HP9.out.ba
    have B10 : Hid (Below W4.heap.size W4 w10) := by
      show Below _ _ _
      rw [hw10]
      exact B9.out.setCell (p := ⟨ga, 1, none⟩) (by show _ ≤ ga; omega) _
    have agz := And.intro HP9.out.aw.1 (And.intro HP9.out.bw.1 HP9.out.dw.1)
    have ltg : ga < w9.heap.size ∧ gb < w9.heap.size ∧ gd < w9.heap.size := ⟨lt_of_block HP9.out.ba, lt_of_block HP9.out.bb, lt_of_block HP9.out.bd⟩
    have HNUM := Lib.hid (And.intro HP9.out.lo (And.intro HP9.out.gg (And.intro HP9.out.ga (And.intro HP9.out.gb (And.intro HP9.out.gd (And.intro HP9.out.ab (And.intro HP9.out.ad (And.intro HP9.out.bd2 (And.intro mb1 (And.intro md1 (And.intro z48 (And.intro agz (And.intro ltg (And.intro hz10 HP9.out.a.mids))))))))))))))
    have HOB : Hid (∀ b, (Value.slice Ib n cb).ownBlock = some b → lb ≤ b ∧ b < mb) := fun b hb => by
      have h1 := HP9.out.b.ownI.lt b (by rw [← HN.out]; exact hb)
      cases hI : Ib with
      | none => rw [hI] at hb; cases hb
      | some p =>
        have h2 := HP9.out.b.inm p hI
        rw [hI] at hb
        have h3 : p.block = b := by simpa [Value.ownBlock] using hb
        omega
    have HOWB : Hid (w10.ownsRow W4.heap.size 2 1 (.slice Ib n cb) n (ini.map (Value.int .i64 ·))) := by
      have h1 := HP9.out.b.rowI (w := w10) ((HP9.out.bw.sub (Nat.le_refl _) mb1.2).trans ⟨by omega, fun b h1 h2 => kk10.out b (by have := HP9.out.ga.2.1; omega)⟩)
      rw [← HN.out] at h1
      exact own_low h1 (by omega)
    have f3 : w10.cell? ⟨gb, 3, none⟩ = some (.slice Ib n cb) := by
      rw [HN.out]
      exact cell_of_row w10 gb 3 _ _ (0, 0) ((kk10.out gb HP9.out.gg.1.symm).trans HP9.out.bb)
    have hb10 := B10.out.size
    clear hX hw10 lo1 lo2 lo3 lo4 lo5 lo6 mb1 md1 z48 hz10 agz ltg d1 e1 e2
    go_upto_region 9 with (first
      | (at_builtin; refine append_i64 (wx := w10) (v := 5) HOWB.out hb10 (by omega) rfl (.tmp 46) (.tmp 47) rfl rfl rfl ?_; intro g8 cap8 w11 hown hgrow hat hgl
         have K11 := Lib.hid (grown_keep hgrow)
         have rb11 := (K11.out.2 gb (by have := HNUM.out.2.2.2.2.2.2.2.2.2.2.2.2; omega) (fun hc => by have := HOB.out gb hc.symm; have := HNUM.out.2.2.2.1.2.1; have := HNUM.out.2.2.2.2.2.2.2.2.1; omega)).trans ((kk10.out gb HP9.out.gg.1.symm).trans HP9.out.bb)
         have f4 := cell_of_row w11 gb 3 _ _ (0, 0) rb11
         have f5 : w11.frozen? ⟨gb, 3, none⟩ = false := by simp [World.frozen?, rb11, box6])
      | fail)
    obtain ⟨w12, hw12⟩ : ∃ w', w' = w11.setCell ⟨gb, 3, none⟩ (.slice (some ⟨g8, 0, none⟩) (n + 1) cap8) := ⟨_, rfl⟩
    rw [← hw12]
    have hz12 : w12.heap.size = w11.heap.size := by rw [hw12]; simp
    obtain ⟨⟨lo1, lo2, lo3, lo4, lo5, lo6⟩, ⟨gg1, gg2, gg3⟩, ⟨oa1, oa2, oa3⟩, ⟨ob1, ob2, ob3⟩, ⟨od1, od2, od3⟩, ab, ad, bd2, ⟨mb1, mb2⟩, ⟨md1, md2⟩, z48, ⟨ag1, ag2, ag3⟩, ⟨lt1, lt2, lt3⟩, hz10, ⟨ma1, ma2⟩⟩ := HNUM.out
    have k12 : ∀ b, b < w10.heap.size → ¬ (lb ≤ b ∧ b < mb) → b ≠ gb → w12.heap[b]? = w10.heap[b]? := fun b h1 h2 h3 => by
      rw [hw12, heap_set_other w11 gb 3 _ b h3]
      exact K11.out.2 b h1 (fun hc => h2 (HOB.out b hc.symm))
    have K12 := Lib.hid k12
    have g8w : (lb ≤ g8 ∧ g8 < mb) ∨ g8 = w10.heap.size + 1 := hat.imp (fun h => HOB.out g8 h) id
    have HG8 := Lib.hid (And.intro g8w hgl)
    have own12 : w12.ownsRow W4.heap.size 2 1 (.slice (some ⟨g8, 0, none⟩) (n + 1) cap8) (n + 1) (ini.map (Value.int .i64 ·) ++ [.int .i64 5]) :=
      own_keep hown fun b h1 h2 h3 => by
        have : g8 = b := by simpa [Value.ownBlock] using h3
        rw [hw12]
        exact heap_set_other w11 gb 3 _ b (by omega)
    have HOW12 := Lib.hid own12
    have rb12 : Hid (w12.heap[gb]? = some (.cells #[.int .i64 st, .int .i64 cl, .int .i64 tr, .slice (some ⟨g8, 0, none⟩) (n + 1) cap8, .slice Tb M ctb] 25 (0, 0))) := by
      show _ = _
      rw [hw12, HM.out]
      exact heap_set_same w11 gb 3 _ _ _ rb11
    have B12 : Hid (Below W4.heap.size W4 w12) := by
      show Below _ _ _
      rw [hw12]
      exact (grown_below HOWB.out B10.out hb10 hgrow).setCell (p := ⟨gb, 3, none⟩) (by show _ ≤ gb; omega) _
    have HZ12 := Lib.hid (And.intro hz12 K11.out.1)
    obtain ⟨hsd, hrd⟩ := HP9.out.d.rowT (w := w12) ((HP9.out.dw.sub md1 (Nat.le_refl _)).trans ⟨by have := K11.out.1; omega, fun b h1 h2 => (k12 b (by omega) (by omega) (by omega)).trans (kk10.out b (by omega))⟩)
    rw [← HM.out] at hrd
    have HOD : Hid (∀ b, (Value.slice Td M ctd).ownBlock = some b → md ≤ b ∧ b < hd) := fun b hb => by
      obtain ⟨hs, ho⟩ := HP9.out.d.ownT
      have h1 := ho.lt b (by rw [← HM.out]; exact hb)
      have h2 := HP9.out.d.size
      omega
    have HOWD : Hid (w12.ownsRow W4.heap.size 33 1 (.slice Td M ctd) M hsd) := own_low hrd (by omega)
    have rd12 : Hid (w12.heap[gd]? = some (.cells #[.int .i64 st, .int .i64 cl, .int .i64 tr, .slice Id n cd, .slice Td M ctd] 25 (0, 0))) := by
      show _ = _
      rw [HN.out, HM.out]
      exact (k12 gd (by omega) (by omega) gg3.symm).trans ((kk10.out gd gg2.symm).trans HP9.out.bd)
    have f6 : w12.cell? ⟨gd, 4, none⟩ = some (.slice Td M ctd) := cell_of_row w12 gd 4 _ _ (0, 0) rd12.out
    have hb12 := B12.out.size
    clear hw12 k12 own12 hown hgrow hat hgl rb11 f4 f5 hz12 g8w hrd f3 hb10 lo1 lo2 lo3 lo4 lo5 lo6 gg1 gg2 gg3 oa1 oa2 oa3 ob1 ob2 ob3 od1 od2 od3 ab ad bd2 mb1 mb2 md1 md2 z48 ag1 ag2 ag3 lt1 lt2 lt3 hz10 ma1 ma2
    go_upto_region 10 with (first
      | (at_builtin; refine append_one (wx := w12) (v := .slice none 0 0) Tryd.underlying23 txs_info HOWD.out hb12 (by omega) rfl (.tmp 51) (.tmp 52) rfl rfl rfl rfl ?_; intro g9 cap9 w13 hown hgrow hat hgl
         have K13 := Lib.hid (grown_keep hgrow)
         have rd13 := (K13.out.2 gd (lt_of_block rd12.out) (fun hc => by have := HOD.out gd hc.symm; have := HNUM.out.2.2.2.2.1.2.2; have := HNUM.out.2.2.2.2.2.2.2.2.2.1; omega)).trans rd12.out
         have f4 := cell_of_row w13 gd 4 _ _ (0, 0) rd13
         have f5 : w13.frozen? ⟨gd, 4, none⟩ = false := by simp [World.frozen?, rd13])
      | fail)
    obtain ⟨w14, hw14⟩ : ∃ w', w' = w13.setCell ⟨gd, 4, none⟩ (.slice (some ⟨g9, 0, none⟩) (M + 1) cap9) := ⟨_, rfl⟩
    rw [← hw14]
    have hz14 : w14.heap.size = w13.heap.size := by rw [hw14]; simp
    have hz13 := K13.out.1
    have hz12 := HZ12.out
    obtain ⟨⟨lo1, lo2, lo3, lo4, lo5, lo6⟩, ⟨gg1, gg2, gg3⟩, ⟨oa1, oa2, oa3⟩, ⟨ob1, ob2, ob3⟩, ⟨od1, od2, od3⟩, ab, ad, bd2, ⟨mb1, mb2⟩, ⟨md1, md2⟩, z48, ⟨ag1, ag2, ag3⟩, ⟨lt1, lt2, lt3⟩, hz10, ⟨ma1, ma2⟩⟩ := HNUM.out
    have k14 : ∀ b, b < w12.heap.size → ¬ (md ≤ b ∧ b < hd) → b ≠ gd → w14.heap[b]? = w12.heap[b]? := fun b h1 h2 h3 => by
      rw [hw14, heap_set_other w13 gd 4 _ b h3]
      exact K13.out.2 b h1 (fun hc => h2 (HOD.out b hc.symm))
    have B14 : Hid (Below W4.heap.size W4 w14) := by
      show Below _ _ _
      rw [hw14]
      exact (grown_below HOWD.out B12.out hb12 hgrow).setCell (p := ⟨gd, 4, none⟩) (by show _ ≤ gd; omega) _
    have ra14 : Hid (w14.heap[ga]? = some (.cells #[.int .i64 st, .int .i64 X, .int .i64 tr, .slice Ia n ca, .slice Ta M cta] 25 (0, 0))) :=
      (k14 ga (by omega) (by omega) gg2).trans ((K12.out ga (by omega) (by omega) gg1).trans ra10.out)
    have rb14 : Hid (w14.heap[gb]? = some (.cells #[.int .i64 st, .int .i64 cl, .int .i64 tr, .slice (some ⟨g8, 0, none⟩) (n + 1) cap8, .slice Tb M ctb] 25 (0, 0))) :=
      (k14 gb (by omega) (by omega) gg3).trans rb12.out
    have rd14 : Hid (w14.heap[gd]? = some (.cells #[.int .i64 st, .int .i64 cl, .int .i64 tr, .slice Id n cd, .slice (some ⟨g9, 0, none⟩) (M + 1) cap9] 25 (0, 0))) := by
      show _ = _
      rw [hw14]
      exact heap_set_same w13 gd 4 _ _ _ rd13
    have AGA : Hid (Agree la ha wa w14) := HP9.out.aw.trans ⟨by omega, fun b h1 h2 => (k14 b (by omega) (by omega) (by omega)).trans ((K12.out b (by omega) (by omega) (by omega)).trans (kk10.out b (by omega)))⟩
    have AGB : Hid (Agree mb hb wb w14) := (HP9.out.bw.sub mb1 (Nat.le_refl _)).trans ⟨by omega, fun b h1 h2 => (k14 b (by omega) (by omega) (by omega)).trans ((K12.out b (by omega) (by omega) (by omega)).trans (kk10.out b (by omega)))⟩
    have AGD : Hid (Agree ld md wd w14) := (HP9.out.dw.sub (Nat.le_refl _) md2).trans ⟨by omega, fun b h1 h2 => (k14 b (by omega) (by omega) (by omega)).trans ((K12.out b (by omega) (by omega) (by omega)).trans (kk10.out b (by omega)))⟩
    have hib : ∃ A c9, Value.slice (some ⟨g8, 0, none⟩) (n + 1) cap8 = .slice A (ini ++ [5]).length c9 ∧ Ints w14 w14.heap.size A (ini ++ [5]) := by
      have h1 : w14.ownsRow W4.heap.size 2 1 (.slice (some ⟨g8, 0, none⟩) (n + 1) cap8) (n + 1) ((ini ++ [5]).map (Value.int .i64 ·)) := by
        rw [List.map_append]
        exact own_keep HOW12.out fun b h1 h2 h3 => by
          have h4 : g8 = b := by simpa [Value.ownBlock] using h3
          have := HG8.out.1
          exact k14 b h2 (by omega) (by omega)
      exact Ints.of_own h1 (by rw [List.length_append, ← HN.out]; rfl) (by rw [List.length_append, ← HN.out]; simp; omega)
    obtain ⟨Ab, cab, hAb, hIb⟩ := hib
    rw [List.length_append, ← HN.out] at hAb
    have hAb1 : some ⟨g8, 0, none⟩ = Ab := by
      injection hAb with e1 e2 e3
    rw [← hAb1] at hIb
    have HIB := Lib.hid hIb
    have DS : Hid (∀ W', Below w14.heap.size w14 W' → Below w.heap.size w W') := fun W' h' => DD.out W' (B14.out.trans (h'.mono B14.out.size))
    have eqT : ∀ A cA lo hi B cB lo' hi' (Wx : World), Thr Wx lo hi 42 A thr → Thr Wx lo' hi' 42 B thr → hi ≤ Wx.heap.size → hi' ≤ Wx.heap.size → Calls Tryd.prog 37 #[.slice A M cA, .slice B M cB, .func (.func 38) #[] #[]] Wx fun e w' => e = .returned (.bool (sameA 42 thr thr)) ∧ Below Wx.heap.size Wx w' := fun A cA lo hi B cB lo' hi' Wx h1 h2 h3 h4 => by
      rw [HM.out]
      exact eq_thr 42 thr thr A B cA cB lo hi lo' hi' Wx h1 h2 h3 h4 (by rw [← HM.out]; omega) (by rw [← HM.out]; omega)
    have SA : Hid (∀ W', Below w14.heap.size w14 W' → Calls Tryd.prog 16 #[.agg #[.int .i64 st, .int .i64 X, .int .i64 tr, .slice Ia n ca, .slice Ta M cta], .agg #[.int .i64 st, .int .i64 cl, .int .i64 tr, .slice I n c, .slice T M c']] W' fun e w' => e = .returned (.bool false) ∧ Below w14.heap.size w14 w') := fun W' h' => by
      have hsame := same_of st X tr st cl tr Ia Ta I T n M n M ca cta c c' (decide (ini = ini)) (sameA 42 thr thr) W'
        (fun W2 h2 => by
          have hw2 := h'.trans (h2.mono h'.size)
          have h3 := HP9.out.a.ints ((AGA.out.sub (Nat.le_refl _) ma2).trans (Agree.low hw2 (by omega) (by omega)))
          have h4 := (HSU.out W2 (DS.out W2 hw2)).ini
          have := equal_ints ini ini Ia I ca c _ _ W2 h3 h4 (by have := hw2.size; omega) (DS.out W2 hw2).size
          rw [← HN.out] at this
          exact this)
        (fun W2 h2 => by
          have hw2 := h'.trans (h2.mono h'.size)
          exact eqT _ _ _ _ _ _ _ _ W2 (HP9.out.a.thr ((AGA.out.sub ma1 (Nat.le_refl _)).trans (Agree.low hw2 (by omega) (by omega)))) (HSU.out W2 (DS.out W2 hw2)).thr (by have := hw2.size; omega) (DS.out W2 hw2).size)
      rw [decide_eq_false HX.out, Bool.false_and, Bool.and_false] at hsame
      exact hsame.mono fun e w' ⟨h1, h2⟩ => ⟨h1, h'.trans (h2.mono h'.size)⟩
    have SB : Hid (∀ W', Below w14.heap.size w14 W' → Calls Tryd.prog 16 #[.agg #[.int .i64 st, .int .i64 cl, .int .i64 tr, .slice (some ⟨g8, 0, none⟩) (n + 1) cap8, .slice Tb M ctb], .agg #[.int .i64 st, .int .i64 cl, .int .i64 tr, .slice I n c, .slice T M c']] W' fun e w' => e = .returned (.bool false) ∧ Below w14.heap.size w14 w') := fun W' h' => by
      have hsame := same_of st cl tr st cl tr (some ⟨g8, 0, none⟩) Tb I T (n + 1) M n M cap8 ctb c c' (decide (ini ++ [5] = ini)) (sameA 42 thr thr) W'
        (fun W2 h2 => by
          have hw2 := h'.trans (h2.mono h'.size)
          have h4 := (HSU.out W2 (DS.out W2 hw2)).ini
          have := equal_ints (ini ++ [5]) ini (some ⟨g8, 0, none⟩) I cap8 c _ _ W2 (HIB.out.below hw2 (Nat.le_refl _)) h4 hw2.size (DS.out W2 hw2).size
          rw [List.length_append, ← HN.out] at this
          exact this)
        (fun W2 h2 => by
          have hw2 := h'.trans (h2.mono h'.size)
          exact eqT _ _ _ _ _ _ _ _ W2 (HP9.out.b.thr (AGB.out.trans (Agree.low hw2 (by omega) (by omega)))) (HSU.out W2 (DS.out W2 hw2)).thr (by have := hw2.size; omega) (DS.out W2 hw2).size)
      rw [decide_eq_false (by simp : ¬ ini ++ [5] = ini), Bool.false_and, Bool.and_false, Bool.and_false, Bool.and_false] at hsame
      exact hsame.mono fun e w' ⟨h1, h2⟩ => ⟨h1, h'.trans (h2.mono h'.size)⟩
    have SD : Hid (∀ W', Below w14.heap.size w14 W' → Calls Tryd.prog 16 #[.agg #[.int .i64 st, .int .i64 cl, .int .i64 tr, .slice Id n cd, .slice (some ⟨g9, 0, none⟩) (M + 1) cap9], .agg #[.int .i64 st, .int .i64 cl, .int .i64 tr, .slice I n c, .slice T M c']] W' fun e w' => e = .returned (.bool false) ∧ Below w14.heap.size w14 w') := fun W' h' => by
      have hsame := same_of st cl tr st cl tr Id (some ⟨g9, 0, none⟩) I T n (M + 1) n M cd cap9 c c' (decide (ini = ini)) false W'
        (fun W2 h2 => by
          have hw2 := h'.trans (h2.mono h'.size)
          have h3 := HP9.out.d.ints (AGD.out.trans (Agree.low hw2 (by omega) (by omega)))
          have h4 := (HSU.out W2 (DS.out W2 hw2)).ini
          have := equal_ints ini ini Id I cd c _ _ W2 h3 h4 (by have := hw2.size; omega) (DS.out W2 hw2).size
          rw [← HN.out] at this
          exact this)
        (fun W2 h2 => thr_short (M + 1) M cap9 c' (some ⟨g9, 0, none⟩) T (by omega) (by omega) (by omega) W2)
      rw [Bool.and_false, Bool.and_false, Bool.and_false, Bool.and_false] at hsame
      exact hsame.mono fun e w' ⟨h1, h2⟩ => ⟨h1, h'.trans (h2.mono h'.size)⟩
    have HBS : Hid (∀ W', Below w14.heap.size w14 W' → SFive W' w.heap.size st cl tr I n c T M c' ∧ SFive W' w3.heap.size st cl tr Ic n cc Tc M ctc ∧ SFive W' ga st X tr Ia n ca Ta M cta ∧ SFive W' gb st cl tr (some ⟨g8, 0, none⟩) (n + 1) cap8 Tb M ctb ∧ SFive W' gd st cl tr Id n cd (some ⟨g9, 0, none⟩) (M + 1) cap9) := fun W' h' => by
      have h0 := B14.out.trans (h'.mono B14.out.size)
      have qa := (h'.block ga (lt_of_block ra14.out)).trans ra14.out
      have qb := (h'.block gb (lt_of_block rb14.out)).trans rb14.out
      have qd := (h'.block gd (lt_of_block rd14.out)).trans rd14.out
      exact ⟨HF5.out W' (B4.out.trans (h0.mono (by have := B4.out.size; have := HZ0.out; omega))), HFC.out W' h0,
        ⟨cell_of_row W' ga 0 _ _ (0, 0) qa, cell_of_row W' ga 1 _ _ (0, 0) qa, cell_of_row W' ga 2 _ _ (0, 0) qa, cell_of_row W' ga 3 _ _ (0, 0) qa, cell_of_row W' ga 4 _ _ (0, 0) qa⟩,
        ⟨cell_of_row W' gb 0 _ _ (0, 0) qb, cell_of_row W' gb 1 _ _ (0, 0) qb, cell_of_row W' gb 2 _ _ (0, 0) qb, cell_of_row W' gb 3 _ _ (0, 0) qb, cell_of_row W' gb 4 _ _ (0, 0) qb⟩,
        ⟨cell_of_row W' gd 0 _ _ (0, 0) qd, cell_of_row W' gd 1 _ _ (0, 0) qd, cell_of_row W' gd 2 _ _ (0, 0) qd, cell_of_row W' gd 3 _ _ (0, 0) qd, cell_of_row W' gd 4 _ _ (0, 0) qd⟩⟩
    clear hw14 k14 hown hgrow hat hgl rd13 f4 f5 f6 hz12 hz13 hz14 hAb hAb1 hIb eqT hb12 lo1 lo2 lo3 lo4 lo5 lo6 gg1 gg2 gg3 oa1 oa2 oa3 ob1 ob2 ob3 od1 od2 od3 ab ad bd2 mb1 mb2 md1 md2 z48 ag1 ag2 ag3 lt1 lt2 lt3 hz10 ma1 ma2
    obtain ⟨s2, s3, sa, sb, sd⟩ := HBS.out w14 (Below.refl _ _)
    obtain ⟨s20, s21, s22, s23, s24⟩ := s2
    obtain ⟨sa0, sa1, sa2, sa3, sa4⟩ := sa
    clear s3 sb sd
    go_wp2_with fail
    refine (SA.out w14 (Below.refl _ _)).mono ?_
    rintro _ w15 ⟨rfl, b15⟩
    clear s20 s21 s22 s23 s24 sa0 sa1 sa2 sa3 sa4
    obtain ⟨s2, s3, sa, sb, sd⟩ := HBS.out w15 b15
    obtain ⟨s20, s21, s22, s23, s24⟩ := s2
    obtain ⟨sb0, sb1, sb2, sb3, sb4⟩ := sb
    have B15 := Lib.hid b15
    clear s3 sa sd b15
    go_wp2_with fail
    refine (SB.out w15 B15.out).mono ?_
    rintro _ w16 ⟨rfl, b16⟩
    clear s20 s21 s22 s23 s24 sb0 sb1 sb2 sb3 sb4
    obtain ⟨s2, s3, sa, sb, sd⟩ := HBS.out w16 b16
    obtain ⟨s20, s21, s22, s23, s24⟩ := s2
    obtain ⟨sd0, sd1, sd2, sd3, sd4⟩ := sd
    have B16 := Lib.hid b16
    clear s3 sa sb b16
    go_wp2_with fail
    refine (SD.out w16 B16.out).mono ?_
    rintro _ w17 ⟨rfl, b17⟩
    clear s20 s21 s22 s23 s24 sd0 sd1 sd2 sd3 sd4
    obtain ⟨s2, s3, sa, sb, sd⟩ := HBS.out w17 b17
    obtain ⟨s20, s21, s22, s23, s24⟩ := s2
    have B17 : Hid (Below W4.heap.size W4 w17) := B14.out.trans (b17.mono B14.out.size)
    have BB17 := Lib.hid b17
    obtain ⟨s30, s31, s32, s33, s34⟩ := s3
    clear sa sb sd b17
    by_cases hn0 : n = 0
    · subst hn0
      go_wp2_with fail
      go_ret
      exact ⟨rfl, DD.out w17 B17.out⟩
    have hnn : ((n : Int) == 0) = false := by rw [beq_eq_false_iff_ne]; omega
    obtain ⟨gi, hIc⟩ : ∃ g, Ic = some ⟨g, 0, none⟩ := by
      obtain ⟨g, cap, hv, _, _⟩ := HLC.out.ownI.form (by rw [← HN.out]; omega)
      injection hv with e1 e2 e3
      exact ⟨g, e1⟩
    subst hIc
    have gim := HLC.out.inm _ rfl
    have hmid := HLC.out.mids
    have rowc := HLC.out.rowI ((HAG.out w17 B17.out).sub (Nat.le_refl _) hmid.2)
    have intc := HLC.out.ints ((HAG.out w17 B17.out).sub (Nat.le_refl _) hmid.2)
    obtain ⟨hgc0, curc, hgc1⟩ : w2.heap.size ≤ gi ∧ ∃ cur, w17.heap[gi]? = some (.cells cur 2 (0, 0)) := by
      rcases rowc.2 with ⟨h1, h2⟩ | ⟨g, cap, cur, e1, e2, e3, _⟩
      · rw [← HN.out] at h2; omega
      · injection e1 with e1 _ _
        injection e1 with e1
        injection e1 with e1 _
        subst e1
        exact ⟨e2, cur, e3⟩
    dsimp only at gim hgc0 intc
    obtain ⟨m1, m2, m3⟩ := modU_wrap x (n : Int) (by omega) (by omega)
    have hnz := modU_nz (n : Int) (by omega) (by omega)
    obtain ⟨t, ht⟩ := Int.eq_ofNat_of_zero_le m2
    rw [ht] at m1 m3
    have m4 : wrap64 ((IntKind.u64.wrap x).tmod (n : Int)) = ((t : Nat) : Int) := by
      rw [IntWalk.u64_in (n : Int) ⟨by omega, by omega⟩] at m1
      exact m1
    have m5 : IntKind.i64.wrap ((IntKind.u64.wrap x).tmod (IntKind.u64.wrap (n : Int))) = ((t : Nat) : Int) := by
      rw [← m1]
      simp [IntKind.wrap, IntKind.bits, IntKind.signed, wrap64]
      try omega
    have htn : t < n := by omega
    have htl : t < ini.length := by rw [← HN.out]; exact htn
    obtain ⟨q, hq⟩ : ∃ q, q = ini[t] := ⟨_, rfl⟩
    have g4 : w17.cell? ⟨gi, t, none⟩ = some (.int .i64 q) := by
      obtain ⟨p, e, b, c1⟩ := intc.cell t htl
      cases e
      rw [row_add] at c1
      rw [hq]
      exact c1
    have g5 : w17.frozen? ⟨gi, t, none⟩ = false := by simp [World.frozen?, hgc1]
    have HC17 := Lib.hid (And.intro intc (And.intro hgc1 (And.intro gim (And.intro hmid (And.intro hgc0 htl)))))
    have HQ := Lib.hid hq
    clear rowc intc hgc1 gim hmid hgc0 hq m2 m3 ht
    have htn3 : (t : Int) < (n : Int) := by omega
    have htn2 : t ≤ n := by omega
    go_upto_region 14 with fail
    go_still_tail 14, (by kernel_rfl)
    change wpList _ _ _ _ _ w17.drew
    have k1 : w17.drew.cell? ⟨gi, t, none⟩ = some (.int .i64 q) := g4
    have k2 : w17.drew.frozen? ⟨gi, t, none⟩ = false := g5
    go_upto_region 15 with fail
    obtain ⟨w18, hw18⟩ : ∃ w', w' = (w17.setCell ⟨gi, t, none⟩ (.int .i64 (wrap64 (q + 1)))).drew := ⟨_, rfl⟩
    rw [← hw18]
    obtain ⟨intc, hgc1, gim, hmid, hgc0, _⟩ := HC17.out
    have k18 : ∀ b, b ≠ gi → w18.heap[b]? = w17.heap[b]? := fun b hb => by rw [hw18]; exact heap_set_other w17 gi t _ b hb
    have hz18 : w18.heap.size = w17.heap.size := by rw [hw18]; simp
    have hz0 := HZ0.out
    have hz2 := B2.out.size
    have hz3 := HZ4.out.1
    have hz17 := B17.out.size
    have B18 : Hid (Below (w.heap.size + 1) W0 w18) := by
      show Below _ _ _
      rw [hw18]
      exact ((B4.out.trans (B17.out.mono (by have := B4.out.size; omega))).setCell (p := ⟨gi, t, none⟩) (by show _ ≤ gi; omega) _).drew
    have D18 : Hid (Below w.heap.size w w18) := HB.out.trans (B18.out.mono (by omega))
    have ints18 : Ints w18 midc (some ⟨gi, 0, none⟩) (ini.set t (wrap64 (q + 1))) := by
      rw [hw18]
      exact ints_set intc hgc1 htl
    have thr18 := HLC.out.thr (w := w18) (((HAG.out w17 B17.out).sub hmid.1 (Nat.le_refl _)).trans ⟨by omega, fun b h1 h2 => k18 b (by omega)⟩)
    have hne : ¬ ini.set t (wrap64 (q + 1)) = ini := fun he => by
      have h1 : (ini.set t (wrap64 (q + 1)))[t]? = ini[t]? := by rw [he]
      rw [List.getElem?_set_self htl, List.getElem?_eq_getElem htl, ← HQ.out] at h1
      have h2 := Option.some.inj h1
      unfold wrap64 at h2
      omega
    have SC : Hid (Calls Tryd.prog 16 #[.agg #[.int .i64 st, .int .i64 cl, .int .i64 tr, .slice (some ⟨gi, 0, none⟩) n cc, .slice Tc M ctc], .agg #[.int .i64 st, .int .i64 cl, .int .i64 tr, .slice I n c, .slice T M c']] w18 fun e w' => e = .returned (.bool false) ∧ Below w18.heap.size w18 w') := by
      have hsame := same_of st cl tr st cl tr (some ⟨gi, 0, none⟩) Tc I T n M n M cc ctc c c' (decide (ini.set t (wrap64 (q + 1)) = ini)) (sameA 42 thr thr) w18
        (fun W2 h2 => by
          have h3 := ints18.below h2 (by omega)
          have h4 := (HSU.out W2 (D18.out.trans (h2.mono D18.out.size))).ini
          have := equal_ints (ini.set t (wrap64 (q + 1))) ini (some ⟨gi, 0, none⟩) I cc c _ _ W2 h3 h4 (by have := h2.size; omega) (by have := h2.size; omega)
          rw [List.length_set, ← HN.out] at this
          exact this)
        (fun W2 h2 => by
          have h4 := (HSU.out W2 (D18.out.trans (h2.mono D18.out.size))).thr
          have := eq_thr 42 thr thr Tc T ctc c' _ _ _ _ W2 (thr18.below h2 (by omega)) h4 (by have := h2.size; omega) (by have := h2.size; omega) (by rw [← HM.out]; omega) (by rw [← HM.out]; omega)
          rw [← HM.out] at this
          exact this)
      rw [decide_eq_false hne, Bool.false_and, Bool.and_false, Bool.and_false, Bool.and_false] at hsame
      exact hsame
    have hf := HF5.out w18 B18.out
    have p20 := hf.c0
    have p21 := hf.c1
    have p22 := hf.c2
    have p23 := hf.c3
    have p24 := hf.c4
    have kc : ∀ j, w18.cell? ⟨w3.heap.size, j, none⟩ = w17.cell? ⟨w3.heap.size, j, none⟩ := fun j => World.cell?_of_block (a := ⟨w3.heap.size, j, none⟩) (k18 w3.heap.size (by omega))
    have p30 := (kc 0).trans s30
    have p31 := (kc 1).trans s31
    have p32 := (kc 2).trans s32
    have p33 := (kc 3).trans s33
    have p34 := (kc 4).trans s34
    clear hw18 k18 hz18 hz0 hz2 hz3 hz17 ints18 thr18 hne hf kc s30 s31 s32 s33 s34 s20 s21 s22 s23 s24 k1 k2 g4 g5 intc hgc1 gim hmid hgc0 m1 m4 m5 hnz htn htn2 htn3 hnn
    go_wp2_with fail
    refine SC.out.mono ?_
    rintro _ w19 ⟨rfl, b19⟩
    go_wp2_with fail
    go_ret
    exact ⟨rfl, D18.out.trans (b19.mono D18.out.size)⟩
theorem SetupAlike_laid : laidOutB Tryd.prog = true := by kernel_rfl
set_option maxRecDepth 100000 in
theorem SetupAlike_lifted (os : Os) (started : os.Started) (H : Type) (enc : TypeId × Value → H) :
    ReturnsInHanded {} Tryd.checked os 8 .any (fun w args => (Rows.setupAlikeSpec.pre enc Tryd.prog Tryd.f8 [] false w args ∧ laidMetH Tryd.prog [("seesaw/code.kinds", Rows.laid_seesaw_code_kinds)] w) ∧ sizedMet enc Tryd.prog Tryd.f8 (OpenSpec.ofChange Rows.setupAlikeSpec) false w args)
      (Rows.setupAlikeSpec.post enc Tryd.prog Tryd.f8 false true false false) := by
  refine returnsInHanded_of_change_and (C := Tryd.checked) (X := fun w _ => laidMetH Tryd.prog [("seesaw/code.kinds", Rows.laid_seesaw_code_kinds)] w) (fun _ _ _ hh h => h.of_heap hh) lift_own started (by kernel_rfl) Tryd.func8
    (ChangeSpec.witness_shaped (enc := enc) (C := Tryd.checked) (os := os) (X := fun w _ => laidMetH Tryd.prog [("seesaw/code.kinds", Rows.laid_seesaw_code_kinds)] w) false (World.doorLaid Tryd.prog 400 os) #[.agg #[.int .i64 0, .int .i64 0, .int .i64 0, .slice none 0 0, .slice none 0 0], .int .i64 0] 8 rfl (World.shaped_of_RefB (by kernel_rfl) (by kernel_rfl)) (by kernel_rfl) (by kernel_rfl) (by kernel_rfl) (door_met os _)) ?_
  intro W base args ds gs before hval0 hW _ _ hL _
  have hval : ∀ (j : Nat) t v, Tryd.f8.params[j]? = some t → args[j]? = some v → Value.okWide Tryd.prog W .any base t v := hval0
  have hW' := hW
  obtain ⟨p, q, hA0, hV, rfl, hfz, hnd⟩ := hW
  have hA : DataW.TrodAll enc Tryd.prog W 0 (fun _ => true) true Tryd.f8.params.toList args.toList ds p := hA0
  rw [Tryd.params8] at hA hval
  obtain ⟨v0, vs0, d0, ds0, p0, q0, hargs, rfl, rfl, h0, r0⟩ := trodAll_cons hA
  obtain ⟨v1, vs1, d1, ds1, p1, q1, rfl, rfl, rfl, h1, r1⟩ := trodAll_cons r0
  obtain ⟨rfl, rfl, rfl⟩ := trodAll_nil r1
  obtain rfl : args = #[v0, v1] := by cases args; simp_all
  obtain ⟨rfl, rfl⟩ := trodVars_none hV
  obtain ⟨n0, su0, hE0⟩ := open_setup (hval 0 25 v0 rfl rfl) h0
  obtain ⟨a1, rfl, rfl, rfl, w1⟩ := open_int Tryd.underlying3 (hval 1 3 v1 rfl rfl) h1
  clear hA0 hval0
  simp only [List.append_nil] at hW'
  try simp only [List.nil_append] at hW'
  refine (SetupAlike_walk v0 n0 su0 hE0 a1 (lit_range w1).1 (lit_range w1).2 (kd_of_laid hL)).mono fun e W' ⟨he, hg⟩ => ?_
  subst he
  exact ⟨_, rfl, lift_post (pv := []) hW' (fun _ _ _ => (trodAll_cons_mk (shut_bool Tryd.underlying4 _) trodAll_mk0)) (fun sp hsp => (trodAll_cons_mk (WideElems.Trod_stays SetupAlike_laid (by kernel_rfl) (of_decide_eq_true (by kernel_rfl)) h0 (fun x hx => hg.same (hW'.lt x (by simp [hx]))) (fun x hx => hsp x (by simp [hx]))) (trodAll_cons_mk (shut_int Tryd.underlying3 w1) trodAll_mk0))) (fun _ _ => rfl) (by simp)
    hg (ok_one (by kernel_rfl) rfl (okWide_bool_mk Tryd.underlying4 _))⟩
/-- THE STATEMENT of SetupAlike: for every input the call returns true, and each argument reads behind it as before. -/
theorem SetupAlike_holds : Rows.SetupAlikeSaid :=
  OpenClaim.holds_of_wide 8 Tryd.f8 rfl rfl rfl rfl rfl rfl rfl ⟨rfl, rfl, rfl, rfl, rfl⟩ rfl rfl rfl rfl rfl (by kernel_rfl) Tryd.func8 (by kernel_rfl)
    (of_decide_eq_true (by kernel_rfl)) (by unfold Func.isWrapper; first | (rw [if_pos (by decide +kernel)]; kernel_rfl) | (rw [if_neg (by decide +kernel)]; exact ⟨rfl, rfl⟩))
    (fun os started H enc _ => SetupAlike_lifted os started H enc)
/-- THE TIED CARD of SetupAlike. -/
theorem SetupAlikeCard_holds : Rows.SetupAlikeCardSaid :=
  Claim7.holds_tied_plain_at .later [] [.data] true Rows.setupAlikeCard.stood.harness false
    SetupAlike_holds (fun _ h => by cases h) (by kernel_rfl) (fun _ h => by cases h) setupAlike_row_tie rfl ⟨rfl, rfl⟩ (by kernel_rfl) rfl
    (fun f fn hf hfn => by
      obtain rfl : f = 8 := Option.some.inj ((show Tryd.prog.funcNamed "seesaw/seesawlaw06.SetupAlike" = some 8 by kernel_rfl).symm.trans hf) |>.symm
      obtain rfl : fn = Tryd.f8 := (Option.some.inj (Tryd.func8.symm.trans hfn)).symm
      exact ⟨by kernel_rfl, fun j t ht => by
        rw [Tryd.params8] at ht
        have hm : t ∈ [25, 3] := by simpa using Array.mem_of_getElem? ht
        have hall : ([25, 3].all fun u => !Tryd.prog.wantsStandIn u) = true := by kernel_rfl
        exact (show Tryd.prog.wantsStandIn t = false by simpa using List.all_eq_true.1 hall t hm)⟩)
    (by kernel_rfl)
end Go.Proofs.YtnkdaehmdcpafaaDoor
