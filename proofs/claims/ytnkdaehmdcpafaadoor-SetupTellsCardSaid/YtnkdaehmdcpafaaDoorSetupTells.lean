/-
  SetupTells (P6.1): for any two setups whether they may be, the greatest cost, whether they are the same, and a copy, are the document's; they stay, and the copy lies in new memory: the statement holds, and its card. Condition: code's table lies as its initialiser lays it, which the card ties to the program's text.
-/
import Derived.Test.YtnkdaehmdcpafaaDoorZb
import Derived.Test.YtnkdaehmdcpafaaDoorUq
import Derived.Test.YtnkdaehmdcpafaaDoorUu
import Derived.Test.YtnkdaehmdcpafaaDoorUy
import Derived.Test.YtnkdaehmdcpafaaDoorUz
import Derived.Test.YtnkdaehmdcpafaaDoorUi
import Derived.Test.YtnkdaehmdcpafaaDoorUo
import Derived.Test.YtnkdaehmdcpafaaDoorUk
import Derived.Test.YtnkdaehmdcpafaaDoorUr
import Derived.Deep.RegionHeld3
namespace Go.Proofs.YtnkdaehmdcpafaaDoor
open Go.ChangeShapes Go.WideShapes Go.ChangeAt Go.RowKit Go.WideElems Go.WideMaps
set_option linter.unusedVariables false
theorem sameSL_refl (f : St → St → Bool) : ∀ l : List St, (∀ x ∈ l, f x x = true) → sameSL f l l = true := by
  intro l
  induction l with
  | nil => intro _; rfl
  | cons x r ih => intro h; rw [sameSL, h x (List.mem_cons_self ..), ih fun y hy => h y (List.mem_cons_of_mem _ hy)]; rfl
theorem sameG_refl {α : Type} (f : α → α → Bool) : ∀ l : List α, (∀ x ∈ l, f x x = true) → sameG f l l = true := by
  intro l
  induction l with
  | nil => intro _; rfl
  | cons x r ih => intro h; rw [sameG, h x (List.mem_cons_self ..), ih fun y hy => h y (List.mem_cons_of_mem _ hy)]; rfl
theorem sameS_refl {w : World} {lo hi : Nat} : ∀ (d : Nat) {r : Raw} {s : St}, SAt w lo hi d r s → sameS d s s = true := by
  intro d
  induction d with
  | zero => intro r s h; exact h.elim
  | succ d ih =>
    intro r s h
    obtain ⟨k, t, a, b, y, e⟩ := s
    obtain ⟨h1, h2, ha, hb, hy, he⟩ := h
    rw [sameS, decide_eq_true (rfl : k = k), decide_eq_true (rfl : t = t), sameF_refl d ha, sameF_refl d hb, sameSL_refl _ y fun s hs => ?_, sameSL_refl _ e fun s hs => ?_]
    · rfl
    · obtain ⟨j, hj, rfl⟩ := List.getElem_of_mem hs
      obtain ⟨p, q, _, _, _, _, h⟩ := he j hj
      exact ih h
    · obtain ⟨j, hj, rfl⟩ := List.getElem_of_mem hs
      obtain ⟨p, q, _, _, _, _, h⟩ := hy j hj
      exact ih h
theorem SuAt.same_refl {w : World} {lo hi d : Nat} {I T : Option Addr} {s : Su} (h : SuAt w lo hi d I T s) : sameU d s s = true := by
  unfold sameU
  rw [decide_eq_true (rfl : s.st = s.st), decide_eq_true (rfl : s.cl = s.cl), decide_eq_true (rfl : s.tr = s.tr), decide_eq_true (rfl : s.init = s.init), show sameA d s.thr s.thr = true from sameG_refl _ _ fun l hl => sameG_refl _ _ fun x hx => sameSL_refl _ _ fun st hst => ?_]
  · rfl
  · obtain ⟨k, hk, rfl⟩ := List.getElem_of_mem hl
    obtain ⟨p, B, c, _, _, _, _, _, h1⟩ := h.thr k hk
    obtain ⟨j, hj, rfl⟩ := List.getElem_of_mem hx
    obtain ⟨p, C, c, _, _, _, _, _, h2⟩ := h1 j hj
    obtain ⟨i, hi, rfl⟩ := List.getElem_of_mem hst
    obtain ⟨p, q, _, _, _, _, h3⟩ := h2 i hi
    exact sameS_refl d h3
theorem SuAt.agree {w : World} {lo hi d : Nat} {I T : Option Addr} {s : Su} (h : SuAt w lo hi d I T s) : thrG (rmayF d) s.thr = thrF d s.thr :=
  thrG_may d s.thr fun l hl x hx n => may_agree d x n fun st hst => by
    obtain ⟨k, hk, rfl⟩ := List.getElem_of_mem hl
    obtain ⟨p, B, c, _, _, _, _, _, h1⟩ := h.thr k hk
    obtain ⟨j, hj, rfl⟩ := List.getElem_of_mem hx
    obtain ⟨p, C, c, _, _, _, _, _, h2⟩ := h1 j hj
    obtain ⟨i, hi, rfl⟩ := List.getElem_of_mem hst
    obtain ⟨p, q, _, _, _, _, h3⟩ := h2 i hi
    exact h3.fitS d
theorem rcheck_as {w : World} {lo hi : Nat} {I T : Option Addr} {s : Su} {c c' : Nat} (h : SuAt w lo hi 42 I T s) (hhi : hi ≤ w.heap.size) (hf : FewS s) :
    Calls Tryd.prog 15 #[.agg #[.int .i64 s.st, .int .i64 s.cl, .int .i64 s.tr, .slice I s.init.length c, .slice T s.thr.length c']] w fun e w' => e = .returned (.int .i64 (errF (okF 42 s))) ∧ Below w.heap.size w w' := by
  have h1 := rcheck6_any 42 s I T c c' lo hi w h hhi (rmayF 42) (fun l hl x hx B cb n W' n0 n1 hk hh => by
    have hfx := hf.tx l hl x hx
    have hsum := hfx.sum 42
    have hlen := hfx.len
    exact rtmay_of 42 B cb x n n0 n1 lo hi W' hk hh (by omega) (by omega) (by omega) (by omega))
  rw [h.agree] at h1
  exact h1
/-- A thread of the copy, where it lies. -/
theorem Over.at {W9 : World} {lo Hc : Nat} {box : Array Value} {I : Option Addr} {n : Nat} {T : Option Addr} {M : Nat} {F : Nat → Value} {wr : World} (h : Over W9 lo Hc box I n T M F wr) {k : Nat} (hk : k < M) {B : Option Addr} {J c : Nat} (hF : F k = .slice B J c) :
    ∃ g, T = some ⟨g, 0, none⟩ ∧ wr.cell? ⟨g, k, none⟩ = some (.slice B J c) ∧ (J = 0 ∨ ∃ gB ys, B = some ⟨gB, 0, none⟩ ∧ lo ≤ gB ∧ wr.heap[gB]? = some (.cells ys 34 (0, 0)) ∧ J ≤ ys.size ∧ ∀ j, j < J → ∃ v, ys[j]? = some v ∧ gX wr lo v) := by
  obtain ⟨g, xs, e, g1, g2, g3, h1⟩ := h.thr k hk
  obtain ⟨B', n', c', e2, _, h2⟩ := h1
  rw [hF] at e2
  cases e2
  refine ⟨g, e, (cell_of_row wr g k _ _ (0, 0) g2).trans (g3.trans (by rw [hF])), h2⟩
set_option maxRecDepth 100000 in
set_option maxHeartbeats 16000000 in
theorem SetupTells_walk {W : World} (v : Value) (d : Nat) (s : Su) (h : SetAt W 0 W.heap.size d v s) (v' : Value) (d' : Nat) (t : Su) (h' : SetAt W 0 W.heap.size d' v' t) (hkd : Kd W) :
    Calls Tryd.prog 3 #[v, v'] W fun e w' => e = .returned (.bool true) ∧ Below W.heap.size W w' := by
  obtain ⟨I, c, T, c', rfl, h⟩ := h
  obtain ⟨I', b, T', b', rfl, h'⟩ := h'
  obtain ⟨w, hw⟩ : ∃ w, w = W := ⟨_, rfl⟩
  rw [← hw] at h h' hkd ⊢
  have HLS := Lib.hid (fun W' (hb : Below w.heap.size w W') => large_any6 d s I T c c' 0 w.heap.size W' (h.below hb (Nat.le_refl _)) hb.size)
  have HLT := Lib.hid (fun W' (hb : Below w.heap.size w W') => large_any6 d' t I' T' b b' 0 w.heap.size W' (h'.below hb (Nat.le_refl _)) hb.size)
  have HFS := Lib.hid (fun hl => h.fit hl)
  have HFT := Lib.hid (fun hl => h'.fit hl)
  have HA := Lib.hid awake_any
  have l1 := h.ini.len
  have l2 := h.len
  have l1' := h'.ini.len
  have l2' := h'.len
  obtain ⟨st, cl, tr, ini, thr⟩ := s
  obtain ⟨st', cl', tr', ini', thr'⟩ := t
  dsimp only at HLS HLT HFS HFT l1 l2 l1' l2' ⊢
  obtain ⟨M, hM⟩ : ∃ M, M = thr.length := ⟨_, rfl⟩
  obtain ⟨n, hn⟩ : ∃ n, n = ini.length := ⟨_, rfl⟩
  obtain ⟨M', hM'⟩ : ∃ M, M = thr'.length := ⟨_, rfl⟩
  obtain ⟨n', hn'⟩ : ∃ n, n = ini'.length := ⟨_, rfl⟩
  have HLEN := Lib.hid (And.intro hM (And.intro hn (And.intro hM' hn')))
  rw [← hM, ← hn] at HLS
  rw [← hM', ← hn'] at HLT
  rw [← hM, ← hn, ← hM', ← hn']
  rw [← hM] at l2
  rw [← hn] at l1
  rw [← hM'] at l2'
  rw [← hn'] at l1'
  have b0 := sfive_below w st cl tr I n c T M c'
  have n0 := SFive.new w st cl tr I n c T M c'
  have z0 : (w.alloc (.cells #[.int .i64 st, .int .i64 cl, .int .i64 tr, .slice I n c, .slice T M c'] 25)).heap.size = w.heap.size + 1 := by simp
  have b1 := sfive_below (w.alloc (.cells #[.int .i64 st, .int .i64 cl, .int .i64 tr, .slice I n c, .slice T M c'] 25)) st' cl' tr' I' n' b T' M' b'
  have n1 := SFive.new (w.alloc (.cells #[.int .i64 st, .int .i64 cl, .int .i64 tr, .slice I n c, .slice T M c'] 25)) st' cl' tr' I' n' b T' M' b'
  have n0' := n0.below b1 (by omega)
  have hb := b0.trans (b1.mono b0.size)
  obtain ⟨W0, hW0⟩ : ∃ W, W = (w.alloc (.cells #[.int .i64 st, .int .i64 cl, .int .i64 tr, .slice I n c, .slice T M c'] 25)).alloc (.cells #[.int .i64 st', .int .i64 cl', .int .i64 tr', .slice I' n' b, .slice T' M' b'] 25) := ⟨_, rfl⟩
  have z2 : W0.heap.size = w.heap.size + 2 := by rw [hW0]; simp
  rw [← hW0] at n0' n1 hb
  rw [z0] at n1
  have HBX := Lib.hid (fun W' (h1 : Below W0.heap.size W0 W') => And.intro (n0'.below h1 (by omega)) (n1.below h1 (by omega)))
  have HB := Lib.hid hb
  have HW0 := Lib.hid hW0
  have HKD := Lib.hid (fun W' (hb : Below w.heap.size w W') => hkd.below hb (Nat.le_refl _))
  have c0 := n0'.c0
  have c1 := n0'.c1
  have c2 := n0'.c2
  have c3 := n0'.c3
  have c4 := n0'.c4
  clear h h' hkd hw hM hn hM' hn' b0 n0 z0 b1 n1 n0' hb hW0 z2
  cases hls : largeF d ⟨st, cl, tr, ini, thr⟩ with
  | true =>
    rw [hls] at HLS
    clear hls HFS
    go_enter Tryd.func3, Tryd.ntmps3
    go_upto_region 1 with fail
    rw [← HW0.out]
    go_wp2_with fail
    refine (HLS.out W0 HB.out).mono ?_
    rintro _ w1 ⟨rfl, b1⟩
    have B1 : Hid (Below w.heap.size w w1) := HB.out.trans (b1.mono HB.out.size)
    clear b1
    go_wp2_with fail
    refine (HA.out w1).mono ?_
    rintro _ w2 ⟨rfl, b2⟩
    have B2 : Hid (Below w.heap.size w w2) := B1.out.trans (b2.mono B1.out.size)
    clear b2
    go_wp2_with fail
    go_ret
    exact ⟨rfl, B2.out⟩
  | false =>
    rw [hls] at HLS
    obtain ⟨hs42, hfs⟩ := HFS.out hls
    clear hls HFS
    cases hlt : largeF d' ⟨st', cl', tr', ini', thr'⟩ with
    | true =>
      rw [hlt] at HLT
      clear hlt HFT hs42 hfs
      go_enter Tryd.func3, Tryd.ntmps3
      go_upto_region 1 with fail
      rw [← HW0.out]
      go_wp2_with fail
      refine (HLS.out W0 HB.out).mono ?_
      rintro _ w1 ⟨rfl, b1⟩
      have B1 : Hid (Below w.heap.size w w1) := HB.out.trans (b1.mono HB.out.size)
      have d0 := (HBX.out w1 b1).2.c0
      have d1 := (HBX.out w1 b1).2.c1
      have d2 := (HBX.out w1 b1).2.c2
      have d3 := (HBX.out w1 b1).2.c3
      have d4 := (HBX.out w1 b1).2.c4
      clear b1 c0 c1 c2 c3 c4
      go_wp2_with fail
      refine (HLT.out w1 B1.out).mono ?_
      rintro _ w2 ⟨rfl, b2⟩
      have B2 : Hid (Below w.heap.size w w2) := B1.out.trans (b2.mono B1.out.size)
      clear b2 d0 d1 d2 d3 d4
      go_wp2_with fail
      refine (HA.out w2).mono ?_
      rintro _ w3 ⟨rfl, b3⟩
      have B3 : Hid (Below w.heap.size w w3) := B2.out.trans (b3.mono B2.out.size)
      clear b3
      go_wp2_with fail
      go_ret
      exact ⟨rfl, B3.out⟩
    | false =>
      rw [hlt] at HLT
      obtain ⟨ht42, hft⟩ := HFT.out hlt
      clear hlt HFT
      have hrefl := hs42.same_refl
      have HS := Lib.hid (fun W' (hb : Below w.heap.size w W') => hs42.below hb (Nat.le_refl _))
      have HT := Lib.hid (fun W' (hb : Below w.heap.size w W') => ht42.below hb (Nat.le_refl _))
      have HRG := Lib.hid hs42
      have HREFL := Lib.hid hrefl
      have HFW := Lib.hid hfs
      -- the calls
      obtain ⟨E, hE⟩ : ∃ E, E = errF (okF 42 ⟨st, cl, tr, ini, thr⟩) := ⟨_, rfl⟩
      obtain ⟨U, hU⟩ : ∃ U, U = sameU 42 ⟨st, cl, tr, ini, thr⟩ ⟨st', cl', tr', ini', thr'⟩ := ⟨_, rfl⟩
      obtain ⟨CA, hCA⟩ : ∃ C, C = costA 42 thr := ⟨_, rfl⟩
      have K1 : Hid (∀ W', Below w.heap.size w W' → Calls Tryd.prog 14 #[.agg #[.int .i64 st, .int .i64 cl, .int .i64 tr, .slice I n c, .slice T M c']] W' fun e w' => e = .returned (.int .i64 E) ∧ Below W'.heap.size W' w') := fun W' hb => by
        have := check_any 42 ⟨st, cl, tr, ini, thr⟩ I T c c' _ _ W' (HKD.out W' hb) (HS.out W' hb) hb.size (by omega)
        dsimp only at this
        rw [← HLEN.out.1, ← HLEN.out.2.1, ← hE] at this
        exact this
      have K2 : Hid (∀ W', Below w.heap.size w W' → Calls Tryd.prog 15 #[.agg #[.int .i64 st, .int .i64 cl, .int .i64 tr, .slice I n c, .slice T M c']] W' fun e w' => e = .returned (.int .i64 E) ∧ Below W'.heap.size W' w') := fun W' hb => by
        have := rcheck_as (c := c) (c' := c') (HS.out W' hb) hb.size HFW.out
        dsimp only at this
        rw [← HLEN.out.1, ← HLEN.out.2.1, ← hE] at this
        exact this
      have K3 : Hid (∀ W', Below w.heap.size w W' → Calls Tryd.prog 16 #[.agg #[.int .i64 st, .int .i64 cl, .int .i64 tr, .slice I n c, .slice T M c'], .agg #[.int .i64 st', .int .i64 cl', .int .i64 tr', .slice I' n' b, .slice T' M' b']] W' fun e w' => e = .returned (.bool U) ∧ Below W'.heap.size W' w') := fun W' hb => by
        have := same_any6 42 ⟨st, cl, tr, ini, thr⟩ ⟨st', cl', tr', ini', thr'⟩ I T I' T' c c' b b' _ _ _ _ W' (HS.out W' hb) (HT.out W' hb) hb.size hb.size
        dsimp only at this
        rw [← HLEN.out.1, ← HLEN.out.2.1, ← HLEN.out.2.2.1, ← HLEN.out.2.2.2, ← hU] at this
        exact this
      have K4 : Hid (∀ W', Below w.heap.size w W' → Calls Tryd.prog 17 #[.agg #[.int .i64 st, .int .i64 cl, .int .i64 tr, .slice I n c, .slice T M c'], .agg #[.int .i64 st', .int .i64 cl', .int .i64 tr', .slice I' n' b, .slice T' M' b']] W' fun e w' => e = .returned (.bool U) ∧ Below W'.heap.size W' w') := fun W' hb => by
        have := rsame6_any 42 ⟨st, cl, tr, ini, thr⟩ ⟨st', cl', tr', ini', thr'⟩ I T I' T' c c' b b' _ _ _ _ W' (HS.out W' hb) (HT.out W' hb) hb.size hb.size
        dsimp only at this
        rw [← HLEN.out.1, ← HLEN.out.2.1, ← HLEN.out.2.2.1, ← HLEN.out.2.2.2, ← hU] at this
        exact this
      have K6 : Hid (∀ W', Below w.heap.size w W' → Calls Tryd.prog 18 #[.agg #[.int .i64 st, .int .i64 cl, .int .i64 tr, .slice I n c, .slice T M c']] W' fun e w' => e = .returned (.int .i64 CA) ∧ Below W'.heap.size W' w') := fun W' hb => by
        have := cost_any6 42 ⟨st, cl, tr, ini, thr⟩ I T c c' _ _ W' (HS.out W' hb) hb.size
        dsimp only at this
        rw [← HLEN.out.1, ← HLEN.out.2.1, ← hCA] at this
        exact this
      have K7 : Hid (∀ W', Below w.heap.size w W' → Calls Tryd.prog 19 #[.agg #[.int .i64 st, .int .i64 cl, .int .i64 tr, .slice I n c, .slice T M c']] W' fun e w' => e = .returned (.int .i64 CA) ∧ Below W'.heap.size W' w') := fun W' hb => by
        have := rcost6_any 42 ⟨st, cl, tr, ini, thr⟩ I T c c' _ _ W' (HS.out W' hb) hb.size
        dsimp only at this
        rw [← HLEN.out.1, ← HLEN.out.2.1, ← hCA] at this
        exact this
      have KR := Lib.hid (fun W' (hb : Below w.heap.size w W') => rcopy6_any 42 ⟨st, cl, tr, ini, thr⟩ I T c c' 0 w.heap.size W' (HS.out W' hb) hb.size HFW.out)
      have KC := Lib.hid (fun W' (hb : Below w.heap.size w W') => copy6_any 42 ⟨st, cl, tr, ini, thr⟩ I T c c' 0 w.heap.size W' (HS.out W' hb) hb.size HFW.out)
      unfold Copied6 at KR
      unfold CopiedC at KC
      dsimp only at KR KC
      rw [← HLEN.out.1, ← HLEN.out.2.1] at KR KC
      clear hs42 hfs ht42 hft hrefl hE hU hCA
      go_enter Tryd.func3, Tryd.ntmps3
      go_upto_region 1 with fail
      rw [← HW0.out]
      go_wp2_with fail
      refine (HLS.out W0 HB.out).mono ?_
      rintro _ w1 ⟨rfl, b1⟩
      have B1 : Hid (Below W0.heap.size W0 w1) := b1
      have d0 := (HBX.out w1 b1).2.c0
      have d1 := (HBX.out w1 b1).2.c1
      have d2 := (HBX.out w1 b1).2.c2
      have d3 := (HBX.out w1 b1).2.c3
      have d4 := (HBX.out w1 b1).2.c4
      clear b1 c0 c1 c2 c3 c4
      go_wp2_with fail
      refine (HLT.out w1 (HB.out.trans (B1.out.mono HB.out.size))).mono ?_
      rintro _ w2 ⟨rfl, b2⟩
      have B2 : Hid (Below W0.heap.size W0 w2) := B1.out.trans (b2.mono B1.out.size)
      have c0 := (HBX.out w2 B2.out).1.c0
      have c1 := (HBX.out w2 B2.out).1.c1
      have c2 := (HBX.out w2 B2.out).1.c2
      have c3 := (HBX.out w2 B2.out).1.c3
      have c4 := (HBX.out w2 B2.out).1.c4
      clear b2 d0 d1 d2 d3 d4
      have D2 : Hid (Below w.heap.size w w2) := HB.out.trans (B2.out.mono HB.out.size)
      go_wp2_with fail
      refine (KR.out w2 D2.out).mono ?_
      rintro _ w3 ⟨Ik, ck, Tk, ctk, midk, ak, rfl, _, hsk, b3⟩
      have B3 : Hid (Below W0.heap.size W0 w3) := B2.out.trans (b3.mono B2.out.size)
      have HSK := Lib.hid hsk
      clear b3 hsk c0 c1 c2 c3 c4
      go_upto_region 4 with fail
      obtain ⟨W3, hW3⟩ : ∃ W, W = w3.alloc (.cells #[.int .i64 st, .int .i64 cl, .int .i64 tr, .slice Ik n ck, .slice Tk M ctk] 25) := ⟨_, rfl⟩
      rw [← hW3]
      have z3 : W3.heap.size = w3.heap.size + 1 := by rw [hW3]; simp
      have b33 : Below w3.heap.size w3 W3 := by rw [hW3]; exact (Below.refl _ _).alloc (Nat.le_refl _) _
      have nk : SFive W3 w3.heap.size st cl tr Ik n ck Tk M ctk := by rw [hW3]; exact SFive.new w3 st cl tr Ik n ck Tk M ctk
      have B33 : Hid (Below W0.heap.size W0 W3) := B3.out.trans (b33.mono B3.out.size)
      have D33 : Hid (Below w.heap.size w W3) := HB.out.trans (B33.out.mono HB.out.size)
      have HKB := Lib.hid (fun W' (hb : Below W3.heap.size W3 W') => nk.below hb (by omega))
      have HKS := Lib.hid (fun W' (hb : Below W3.heap.size W3 W') => (HSK.out.suAt (s' := ⟨st, cl, tr, ini, thr⟩) rfl rfl (HFW.out.thr) HRG.out.st0 HRG.out.st1 HRG.out.cl0 HRG.out.cl1 HRG.out.tr0 HRG.out.tr1).below (b33.trans (hb.mono b33.size)) (Nat.le_refl _))
      have c0 := (HBX.out W3 B33.out).1.c0
      have c1 := (HBX.out W3 B33.out).1.c1
      have c2 := (HBX.out W3 B33.out).1.c2
      have c3 := (HBX.out W3 B33.out).1.c3
      have c4 := (HBX.out W3 B33.out).1.c4
      have Z3 := Lib.hid (And.intro z3 b33.size)
      clear hW3 z3 b33 nk
      go_wp2_with fail
      refine (KC.out W3 D33.out).mono ?_
      rintro _ w4 ⟨Ic, cc, Tc, cTc, midc, ac, hsc, rfl, hsu, hoI, hoT, b4⟩
      have B4 : Hid (Below W3.heap.size W3 w4) := b4
      have HSU := Lib.hid (And.intro hsu hoI)
      clear b4 hsu hoI hoT c0 c1 c2 c3 c4
      go_upto_region 5 with fail
      obtain ⟨W4, hW4⟩ : ∃ W, W = w4.alloc (.cells #[.int .i64 st, .int .i64 cl, .int .i64 tr, .slice Ic n cc, .slice Tc M cTc] 25) := ⟨_, rfl⟩
      rw [← hW4]
      have z4 : W4.heap.size = w4.heap.size + 1 := by rw [hW4]; simp
      have b44 : Below w4.heap.size w4 W4 := by rw [hW4]; exact (Below.refl _ _).alloc (Nat.le_refl _) _
      have hbox : W4.heap[w4.heap.size]? = some (.cells #[.int .i64 st, .int .i64 cl, .int .i64 tr, .slice Ic n cc, .slice Tc M cTc] 25 (0, 0)) := by rw [hW4]; exact heap_alloc_new w4 _
      have B34 : Hid (Below W3.heap.size W3 W4) := B4.out.trans (b44.mono B4.out.size)
      have B04 : Hid (Below W0.heap.size W0 W4) := B33.out.trans (B34.out.mono B33.out.size)
      have D4 : Hid (Below w.heap.size w W4) := HB.out.trans (B04.out.mono HB.out.size)
      have hsuc := (HSU.out.1.suAt (s' := ⟨st, cl, tr, ini, thr⟩) rfl rfl (HFW.out.thr) HRG.out.st0 HRG.out.st1 HRG.out.cl0 HRG.out.cl1 HRG.out.tr0 HRG.out.tr1).below b44 (Nat.le_refl _)
      have L1 : Hid (∀ W', Below W4.heap.size W4 W' → Calls Tryd.prog 14 #[.agg #[.int .i64 st, .int .i64 cl, .int .i64 tr, .slice I n c, .slice T M c']] W' fun e w' => e = .returned (.int .i64 E) ∧ Below W4.heap.size W4 w') := fun W' hb => (K1.out W' (D4.out.trans (hb.mono D4.out.size))).mono fun e w' ⟨h1, h2⟩ => ⟨h1, hb.trans (h2.mono hb.size)⟩
      have L2 : Hid (∀ W', Below W4.heap.size W4 W' → Calls Tryd.prog 15 #[.agg #[.int .i64 st, .int .i64 cl, .int .i64 tr, .slice I n c, .slice T M c']] W' fun e w' => e = .returned (.int .i64 E) ∧ Below W4.heap.size W4 w') := fun W' hb => (K2.out W' (D4.out.trans (hb.mono D4.out.size))).mono fun e w' ⟨h1, h2⟩ => ⟨h1, hb.trans (h2.mono hb.size)⟩
      have L3 : Hid (∀ W', Below W4.heap.size W4 W' → Calls Tryd.prog 16 #[.agg #[.int .i64 st, .int .i64 cl, .int .i64 tr, .slice I n c, .slice T M c'], .agg #[.int .i64 st', .int .i64 cl', .int .i64 tr', .slice I' n' b, .slice T' M' b']] W' fun e w' => e = .returned (.bool U) ∧ Below W4.heap.size W4 w') := fun W' hb => (K3.out W' (D4.out.trans (hb.mono D4.out.size))).mono fun e w' ⟨h1, h2⟩ => ⟨h1, hb.trans (h2.mono hb.size)⟩
      have L4 : Hid (∀ W', Below W4.heap.size W4 W' → Calls Tryd.prog 17 #[.agg #[.int .i64 st, .int .i64 cl, .int .i64 tr, .slice I n c, .slice T M c'], .agg #[.int .i64 st', .int .i64 cl', .int .i64 tr', .slice I' n' b, .slice T' M' b']] W' fun e w' => e = .returned (.bool U) ∧ Below W4.heap.size W4 w') := fun W' hb => (K4.out W' (D4.out.trans (hb.mono D4.out.size))).mono fun e w' ⟨h1, h2⟩ => ⟨h1, hb.trans (h2.mono hb.size)⟩
      have L5 : Hid (∀ W', Below W4.heap.size W4 W' → Calls Tryd.prog 17 #[.agg #[.int .i64 st, .int .i64 cl, .int .i64 tr, .slice Ic n cc, .slice Tc M cTc], .agg #[.int .i64 st, .int .i64 cl, .int .i64 tr, .slice I n c, .slice T M c']] W' fun e w' => e = .returned (.bool true) ∧ Below W4.heap.size W4 w') := fun W' hb => by
        have := rsame6_any 42 ⟨st, cl, tr, ini, thr⟩ ⟨st, cl, tr, ini, thr⟩ Ic Tc I T cc cTc c c' _ _ _ _ W' (hsuc.below hb (by omega)) (HS.out W' (D4.out.trans (hb.mono D4.out.size))) (by have := hb.size; omega) (D4.out.trans (hb.mono D4.out.size)).size
        rw [HREFL.out] at this
        dsimp only at this
        rw [← HLEN.out.1, ← HLEN.out.2.1] at this
        exact this.mono fun e w' ⟨h1, h2⟩ => ⟨h1, hb.trans (h2.mono hb.size)⟩
      have L6 : Hid (∀ W', Below W4.heap.size W4 W' → Calls Tryd.prog 18 #[.agg #[.int .i64 st, .int .i64 cl, .int .i64 tr, .slice I n c, .slice T M c']] W' fun e w' => e = .returned (.int .i64 CA) ∧ Below W4.heap.size W4 w') := fun W' hb => (K6.out W' (D4.out.trans (hb.mono D4.out.size))).mono fun e w' ⟨h1, h2⟩ => ⟨h1, hb.trans (h2.mono hb.size)⟩
      have L7 : Hid (∀ W', Below W4.heap.size W4 W' → Calls Tryd.prog 19 #[.agg #[.int .i64 st, .int .i64 cl, .int .i64 tr, .slice I n c, .slice T M c']] W' fun e w' => e = .returned (.int .i64 CA) ∧ Below W4.heap.size W4 w') := fun W' hb => (K7.out W' (D4.out.trans (hb.mono D4.out.size))).mono fun e w' ⟨h1, h2⟩ => ⟨h1, hb.trans (h2.mono hb.size)⟩
      have hS : Hid (∀ W', Below W4.heap.size W4 W' → W'.cell? ⟨w.heap.size, 0, none⟩ = some (.int .i64 st) ∧ W'.cell? ⟨w.heap.size, 1, none⟩ = some (.int .i64 cl) ∧ W'.cell? ⟨w.heap.size, 2, none⟩ = some (.int .i64 tr) ∧ W'.cell? ⟨w.heap.size, 3, none⟩ = some (.slice I n c) ∧ W'.cell? ⟨w.heap.size, 4, none⟩ = some (.slice T M c') ∧ W'.cell? ⟨w.heap.size + 1, 0, none⟩ = some (.int .i64 st') ∧ W'.cell? ⟨w.heap.size + 1, 1, none⟩ = some (.int .i64 cl') ∧ W'.cell? ⟨w.heap.size + 1, 2, none⟩ = some (.int .i64 tr') ∧ W'.cell? ⟨w.heap.size + 1, 3, none⟩ = some (.slice I' n' b) ∧ W'.cell? ⟨w.heap.size + 1, 4, none⟩ = some (.slice T' M' b') ∧ W'.cell? ⟨w4.heap.size, 0, none⟩ = some (.int .i64 st) ∧ W'.cell? ⟨w4.heap.size, 1, none⟩ = some (.int .i64 cl) ∧ W'.cell? ⟨w4.heap.size, 2, none⟩ = some (.int .i64 tr) ∧ W'.cell? ⟨w4.heap.size, 3, none⟩ = some (.slice Ic n cc) ∧ W'.cell? ⟨w4.heap.size, 4, none⟩ = some (.slice Tc M cTc)) := fun W' hb => by
        obtain ⟨a1, a2⟩ := HBX.out W' (B04.out.trans (hb.mono B04.out.size))
        have a3 : W'.heap[w4.heap.size]? = some (.cells #[.int .i64 st, .int .i64 cl, .int .i64 tr, .slice Ic n cc, .slice Tc M cTc] 25 (0, 0)) := (hb.block _ (by omega)).trans hbox
        exact ⟨a1.c0, a1.c1, a1.c2, a1.c3, a1.c4, a2.c0, a2.c1, a2.c2, a2.c3, a2.c4, cell_of_row W' _ 0 _ _ (0, 0) a3, cell_of_row W' _ 1 _ _ (0, 0) a3, cell_of_row W' _ 2 _ _ (0, 0) a3, cell_of_row W' _ 3 _ _ (0, 0) a3, cell_of_row W' _ 4 _ _ (0, 0) a3⟩
      have HOV : Hid (∀ W', Below W4.heap.size W4 W' → ∃ F, Over W' W3.heap.size w4.heap.size #[.int .i64 st, .int .i64 cl, .int .i64 tr, .slice Ic n cc, .slice Tc M cTc] Ic n Tc M F W') := fun W' hb => by
        have k1 : Below w4.heap.size w4 W' := b44.trans (hb.mono b44.size)
        have h1 := HSU.out.1.keep k1.size (fun x _ hx => k1.block x hx)
        have h2 := own_keep HSU.out.2 (fun x _ hx _ => k1.block x hx)
        rw [HLEN.out.1, HLEN.out.2.1] at *
        exact over_start h1 h2 HFW.out ((hb.block _ (by omega)).trans hbox)
      have E0 := Lib.hid (hS.out W4 (Below.refl _ _))
      have E1 := Lib.hid (hS.out W4.drew (Below.refl _ _).drew)
      have i1 : (E != E) = false := bne_eq_false_iff_eq.2 rfl
      have i2 : (U != U) = false := bne_eq_false_iff_eq.2 rfl
      have i3 : ((CA : Int) != (CA : Int)) = false := bne_eq_false_iff_eq.2 rfl
      clear hW4 z4 b44 hbox hsuc
      go_region_held3 (fun w' => w'.cell? ⟨w.heap.size, 0, none⟩ = some (.int .i64 st) ∧ w'.cell? ⟨w.heap.size, 1, none⟩ = some (.int .i64 cl) ∧ w'.cell? ⟨w.heap.size, 2, none⟩ = some (.int .i64 tr) ∧ w'.cell? ⟨w.heap.size, 3, none⟩ = some (.slice I n c) ∧ w'.cell? ⟨w.heap.size, 4, none⟩ = some (.slice T M c') ∧ w'.cell? ⟨w.heap.size + 1, 0, none⟩ = some (.int .i64 st') ∧ w'.cell? ⟨w.heap.size + 1, 1, none⟩ = some (.int .i64 cl') ∧ w'.cell? ⟨w.heap.size + 1, 2, none⟩ = some (.int .i64 tr') ∧ w'.cell? ⟨w.heap.size + 1, 3, none⟩ = some (.slice I' n' b) ∧ w'.cell? ⟨w.heap.size + 1, 4, none⟩ = some (.slice T' M' b') ∧ w'.cell? ⟨w4.heap.size, 0, none⟩ = some (.int .i64 st) ∧ w'.cell? ⟨w4.heap.size, 1, none⟩ = some (.int .i64 cl) ∧ w'.cell? ⟨w4.heap.size, 2, none⟩ = some (.int .i64 tr) ∧ w'.cell? ⟨w4.heap.size, 3, none⟩ = some (.slice Ic n cc) ∧ w'.cell? ⟨w4.heap.size, 4, none⟩ = some (.slice Tc M cTc))
        (first | exact E0.out | exact E1.out | exact hS.out _ b17 | exact hS.out _ b16 | exact hS.out _ b15 | exact hS.out _ b14 | exact hS.out _ b13 | exact hS.out _ b12 | exact hS.out _ b11 | go_keep)
        (first
          | (go_at_call 19; refine (L7.out w16 b16).mono ?_; rintro z w17 ⟨rfl, b17⟩)
          | (go_at_call 18; refine (L6.out w15 b15).mono ?_; rintro z w16 ⟨rfl, b16⟩)
          | (go_at_call 17; refine (L5.out w14 b14).mono ?_; rintro z w15 ⟨rfl, b15⟩)
          | (go_at_call 17; refine (L4.out w13 b13).mono ?_; rintro z w14 ⟨rfl, b14⟩)
          | (go_at_call 16; refine (L3.out w12 b12).mono ?_; rintro z w13 ⟨rfl, b13⟩)
          | (go_at_call 15; refine (L2.out w11 b11).mono ?_; rintro z w12 ⟨rfl, b12⟩)
          | (go_at_call 14; refine (L1.out W4.drew (Below.refl _ _).drew).mono ?_; rintro z w11 ⟨rfl, b11⟩)
          | fail)
      obtain ⟨F, hF⟩ := HOV.out w17 b17
      have HOV0 : Hid (Over w17 W3.heap.size w4.heap.size #[.int .i64 st, .int .i64 cl, .int .i64 tr, .slice Ic n cc, .slice Tc M cTc] Ic n Tc M F w17) := hF
      have B17 : Hid (Below W4.heap.size W4 w17) := b17
      have hn7 : n ≤ 1000 := by have := HFW.out.ini; have := HLEN.out.2.1; dsimp only at *; omega
      have hM7 : M ≤ 20 := by have := HFW.out.thr; have := HLEN.out.1; dsimp only at *; omega
      clear b11 b12 b13 b14 b15 b16 b17 hF HOV i1 i2 i3 E0 E1 L1 L2 L3 L4 L5 L6 L7 K1 K2 K3 K6 K7 KR KC HLS HLT
      go_wp2_with fail
      go_loopw [7] (fun i wr => ∃ k : Nat, k ≤ n ∧ i = .int .i64 k ∧ Hid (Over w17 W3.heap.size w4.heap.size #[.int .i64 st, .int .i64 cl, .int .i64 tr, .slice Ic n cc, .slice Tc M cTc] Ic n Tc M F wr)) (fun i _ => n - (intOf i).toNat)
      case atStart => exact ⟨0, by omega, by go_num, HOV0⟩
      case round =>
        obtain ⟨k, hk, rfl, HO⟩ := hrel
        have f3 : wr.cell? ⟨w4.heap.size, 3, none⟩ = some (.slice Ic n cc) := cell_of_row wr _ 3 _ _ (0, 0) HO.out.box
        by_cases hlt : k < n
        · have k1 : (k : Int) < (n : Int) := by omega
          obtain ⟨g, xs, hIc, g1, g2, g3⟩ := HO.out.ini.resolve_left (by omega)
          have HN := Lib.hid (HO.out.int (i := k) (v := .int .i64 (-77)) g1 g2)
          obtain ⟨u, e1⟩ := row_cell (i := k) g2 (by omega)
          have e2 : wr.frozen? ⟨g, k, none⟩ = false := row_free g2
          clear g1 g2 g3
          have HIC := Lib.hid hIc
          rw [hIc] at f3
          clear hIc
          go_wp2_with fail
          go_roundw
          case rel => exact ⟨k + 1, by omega, by go_num, HN⟩
          case measure => simp [intOf]; omega
        · have HOW := HO
          go_wp2_with fail
          clear f3 hlt hk
          go_loopw [8] (fun i wr => ∃ k : Nat, k ≤ M ∧ i = .int .i64 k ∧ Hid (Over w17 W3.heap.size w4.heap.size #[.int .i64 st, .int .i64 cl, .int .i64 tr, .slice Ic n cc, .slice Tc M cTc] Ic n Tc M F wr)) (fun i _ => M - (intOf i).toNat)
          case atStart => exact ⟨0, by omega, by go_num, HOW⟩
          case round =>
            obtain ⟨k, hk, rfl, HO⟩ := hrel
            have f4 : wr.cell? ⟨w4.heap.size, 4, none⟩ = some (.slice Tc M cTc) := cell_of_row wr _ 4 _ _ (0, 0) HO.out.box
            by_cases hlt : k < M
            · have k1 : (k : Int) < (M : Int) := by omega
              obtain ⟨B, J, cB, hFk, hJ, _⟩ : ∃ B J cB, F k = .slice B J cB ∧ J ≤ 1000 ∧ True := by
                obtain ⟨g, xs, _, _, _, _, B, J, cB, e, hJ, _⟩ := HO.out.thr k hlt
                exact ⟨B, J, cB, e, hJ, trivial⟩
              have HFK := Lib.hid hFk
              have HLT2 := Lib.hid hlt
              clear hFk
              go_wp2_with fail
              clear f4
              go_loopw [9] (fun i wr => ∃ j : Nat, j ≤ J ∧ i = .int .i64 j ∧ Hid (Over w17 W3.heap.size w4.heap.size #[.int .i64 st, .int .i64 cl, .int .i64 tr, .slice Ic n cc, .slice Tc M cTc] Ic n Tc M F wr)) (fun i _ => J - (intOf i).toNat)
              case atStart => exact ⟨0, by omega, by go_num, HO⟩
              case round =>
                obtain ⟨j, hj, rfl, HO⟩ := hrel
                obtain ⟨gc, hTc, g1, hJr⟩ := HO.out.at HLT2.out HFK.out
                have f4 : wr.cell? ⟨w4.heap.size, 4, none⟩ = some (.slice (some ⟨gc, 0, none⟩) M cTc) := by
                  rw [← hTc]
                  exact cell_of_row wr _ 4 _ _ (0, 0) HO.out.box
                have HTC := Lib.hid hTc
                by_cases hlj : j < J
                · have k2 : (j : Int) < (J : Int) := by omega
                  obtain ⟨gB, ys, hB, g2, g3, g4, g5⟩ := hJr.resolve_left (by omega)
                  obtain ⟨v, hv, C, q, cC, hvC, hq, hX⟩ := g5 j hlj
                  subst hvC
                  subst hB
                  have g6 : wr.cell? ⟨gB, j, none⟩ = some (.slice C q cC) := (cell_of_row wr gB j _ _ (0, 0) g3).trans hv
                  have HIN : Hid (Over w17 W3.heap.size w4.heap.size #[.int .i64 st, .int .i64 cl, .int .i64 tr, .slice Ic n cc, .slice Tc M cTc] Ic n Tc M F wr ∧ wr.cell? ⟨gB, j, none⟩ = some (.slice C q cC) ∧ gX wr W3.heap.size (.slice C q cC)) := ⟨HO.out, g6, C, q, cC, rfl, hq, hX⟩
                  have HLJ := Lib.hid hlj
                  clear g2 g3 g4 g5 hv hX hTc hJr
                  go_wp2_with fail
                  clear f4 g1 g6
                  go_loopw [10] (fun i wr => ∃ m : Nat, m ≤ q ∧ i = .int .i64 m ∧ Hid (Over w17 W3.heap.size w4.heap.size #[.int .i64 st, .int .i64 cl, .int .i64 tr, .slice Ic n cc, .slice Tc M cTc] Ic n Tc M F wr ∧ wr.cell? ⟨gB, j, none⟩ = some (.slice C q cC) ∧ gX wr W3.heap.size (.slice C q cC))) (fun i _ => q - (intOf i).toNat)
                  case atStart => exact ⟨0, by omega, by go_num, HIN⟩
                  case round =>
                    obtain ⟨m, hm, rfl, HP⟩ := hrel
                    obtain ⟨gc2, hTc2, g1, hJr⟩ := HP.out.1.at HLT2.out HFK.out
                    have hgg : gc2 = gc := by
                      rw [HTC.out] at hTc2
                      cases hTc2
                      rfl
                    subst hgg
                    have f4 : wr.cell? ⟨w4.heap.size, 4, none⟩ = some (.slice (some ⟨gc2, 0, none⟩) M cTc) := by
                      rw [← hTc2]
                      exact cell_of_row wr _ 4 _ _ (0, 0) HP.out.1.box
                    have g6 := HP.out.2.1
                    obtain ⟨gB', ys, hB, g2, g3, g4, g5⟩ := hJr.resolve_left (by have := HLJ.out; omega)
                    cases hB
                    by_cases hmq : m < q
                    · have k3 : (m : Int) < (q : Int) := by omega
                      obtain ⟨C', n', c', e', hn', hR⟩ := HP.out.2.2
                      cases e'
                      obtain ⟨gC, zs, hC, r1, r2, r3⟩ := hR.resolve_left (by omega)
                      subst hC
                      have hne : gB ≠ gC := ty_ne g3 r2 (by decide)
                      obtain ⟨u, e1⟩ := row_cell (i := m * 10) r2 (by omega)
                      have e2 : wr.frozen? ⟨gC, m * 10, none⟩ = false := row_free r2
                      have HN : Hid (Over w17 W3.heap.size w4.heap.size #[.int .i64 st, .int .i64 cl, .int .i64 tr, .slice Ic n cc, .slice Tc M cTc] Ic n Tc M F (wr.setCell ⟨gC, m * 10, none⟩ (.int .u8 99)) ∧ (wr.setCell ⟨gC, m * 10, none⟩ (.int .u8 99)).cell? ⟨gB, j, none⟩ = some (.slice (some ⟨gC, 0, none⟩) q cC) ∧ gX (wr.setCell ⟨gC, m * 10, none⟩ (.int .u8 99)) W3.heap.size (.slice (some ⟨gC, 0, none⟩) q cC)) :=
                        ⟨HP.out.1.stmt r1 r2, (World.cell?_of_block (a := ⟨gB, j, none⟩) (heap_set_other wr gC (m * 10) _ gB hne)).trans g6, HP.out.2.2.stmt r2⟩
                      have hj2 : j < J := HLJ.out
                      clear g2 g3 g4 g5 r1 r2 r3 hR hJr hTc2 hne
                      go_wp2_with fail
                      go_roundw
                      case rel => exact ⟨m + 1, by omega, by go_num, HN⟩
                      case measure => simp [intOf]; omega
                    · have e1 := g6
                      have e2 : wr.frozen? ⟨gB, j, none⟩ = false := row_free g3
                      have HN := Lib.hid (HP.out.1.nil (i := j) g2 g3)
                      have hj2 : j < J := HLJ.out
                      clear g2 g3 g4 g5 hJr hTc2
                      go_wp2_with fail
                      go_roundw
                      case rel => exact ⟨j + 1, by omega, by go_num, HN⟩
                      case measure => simp [intOf]; omega
                · clear hJr hTc
                  go_wp2_with fail
                  go_roundw
                  case rel => exact ⟨k + 1, by have := HLT2.out; omega, by go_num, HO⟩
                  case measure => have := HLT2.out; simp [intOf]; omega
            · have hB1 : Below W0.heap.size W0 wr := (B33.out.trans (((B34.out.trans (B17.out.mono B34.out.size)).trans HO.out.low).mono B33.out.size))
              have hB3 : Below W3.heap.size W3 wr := (B34.out.trans (B17.out.mono B34.out.size)).trans HO.out.low
              have x0 := (HBX.out wr hB1).1.c0
              have x1 := (HBX.out wr hB1).1.c1
              have x2 := (HBX.out wr hB1).1.c2
              have x3 := (HBX.out wr hB1).1.c3
              have x4 := (HBX.out wr hB1).1.c4
              have y0 := (HKB.out wr hB3).c0
              have y1 := (HKB.out wr hB3).c1
              have y2 := (HKB.out wr hB3).c2
              have y3 := (HKB.out wr hB3).c3
              have y4 := (HKB.out wr hB3).c4
              have hD : Below w.heap.size w wr := HB.out.trans (hB1.mono HB.out.size)
              have KZ : Hid (Calls Tryd.prog 17 #[.agg #[.int .i64 st, .int .i64 cl, .int .i64 tr, .slice I n c, .slice T M c'], .agg #[.int .i64 st, .int .i64 cl, .int .i64 tr, .slice Ik n ck, .slice Tk M ctk]] wr fun e w' => e = .returned (.bool true) ∧ Below wr.heap.size wr w') := by
                have := rsame6_any 42 ⟨st, cl, tr, ini, thr⟩ ⟨st, cl, tr, ini, thr⟩ I T Ik Tk c c' ck ctk _ _ _ _ wr (HS.out wr hD) (HKS.out wr hB3) hD.size (by have := hB3.size; have := Z3.out.2; omega)
                rw [HREFL.out] at this
                dsimp only at this
                rw [← HLEN.out.1, ← HLEN.out.2.1] at this
                exact this
              have HDD := Lib.hid hD
              clear hB1 hB3 hD
              go_wp2_with fail
              refine KZ.out.mono ?_
              rintro _ w18 ⟨rfl, b18⟩
              have B18 : Hid (Below w.heap.size w w18) := HDD.out.trans (b18.mono HDD.out.size)
              clear b18 x0 x1 x2 x3 x4 y0 y1 y2 y3 y4
              go_wp2_with fail
              refine (HA.out w18).mono ?_
              rintro _ w19 ⟨rfl, b19⟩
              have B19 : Hid (Below w.heap.size w w19) := B18.out.trans (b19.mono B18.out.size)
              clear b19
              go_wp2_with fail
              go_ret
              exact ⟨rfl, B19.out⟩
theorem SetupTells_laid : laidOutB Tryd.prog = true := by kernel_rfl
set_option maxRecDepth 100000 in
theorem SetupTells_lifted (os : Os) (started : os.Started) (H : Type) (enc : TypeId × Value → H) :
    ReturnsInHanded {} Tryd.checked os 3 .any (fun w args => (Rows.setupTellsSpec.pre enc Tryd.prog Tryd.f3 [] false w args ∧ laidMetH Tryd.prog [("seesaw/code.kinds", Rows.laid_seesaw_code_kinds)] w) ∧ sizedMet enc Tryd.prog Tryd.f3 (OpenSpec.ofChange Rows.setupTellsSpec) false w args)
      (Rows.setupTellsSpec.post enc Tryd.prog Tryd.f3 false true false false) := by
  refine returnsInHanded_of_change_and (C := Tryd.checked) (X := fun w _ => laidMetH Tryd.prog [("seesaw/code.kinds", Rows.laid_seesaw_code_kinds)] w) (fun _ _ _ hh h => h.of_heap hh) lift_own started (by kernel_rfl) Tryd.func3
    (ChangeSpec.witness_shaped (enc := enc) (C := Tryd.checked) (os := os) (X := fun w _ => laidMetH Tryd.prog [("seesaw/code.kinds", Rows.laid_seesaw_code_kinds)] w) false (World.doorLaid Tryd.prog 400 os) #[.agg #[.int .i64 0, .int .i64 0, .int .i64 0, .slice none 0 0, .slice none 0 0], .agg #[.int .i64 0, .int .i64 0, .int .i64 0, .slice none 0 0, .slice none 0 0]] 8 rfl (World.shaped_of_RefB (by kernel_rfl) (by kernel_rfl)) (by kernel_rfl) (by kernel_rfl) (by kernel_rfl) (door_met os _)) ?_
  intro W base args ds gs before hval0 hW _ _ hL _
  have hval : ∀ (j : Nat) t v, Tryd.f3.params[j]? = some t → args[j]? = some v → Value.okWide Tryd.prog W .any base t v := hval0
  have hW' := hW
  obtain ⟨p, q, hA0, hV, rfl, hfz, hnd⟩ := hW
  have hA : DataW.TrodAll enc Tryd.prog W 0 (fun _ => true) true Tryd.f3.params.toList args.toList ds p := hA0
  rw [Tryd.params3] at hA hval
  obtain ⟨v0, vs0, d0, ds0, p0, q0, hargs, rfl, rfl, h0, r0⟩ := trodAll_cons hA
  obtain ⟨v1, vs1, d1, ds1, p1, q1, rfl, rfl, rfl, h1, r1⟩ := trodAll_cons r0
  obtain ⟨rfl, rfl, rfl⟩ := trodAll_nil r1
  obtain rfl : args = #[v0, v1] := by cases args; simp_all
  obtain ⟨rfl, rfl⟩ := trodVars_none hV
  obtain ⟨n0, su0, hE0⟩ := open_setup (hval 0 25 v0 rfl rfl) h0
  obtain ⟨n1, su1, hE1⟩ := open_setup (hval 1 25 v1 rfl rfl) h1
  clear hA0 hval0
  simp only [List.append_nil] at hW'
  try simp only [List.nil_append] at hW'
  refine (SetupTells_walk v0 n0 su0 hE0 v1 n1 su1 hE1 (kd_of_laid hL)).mono fun e W' ⟨he, hg⟩ => ?_
  subst he
  exact ⟨_, rfl, lift_post (pv := []) hW' (fun _ _ _ => (trodAll_cons_mk (shut_bool Tryd.underlying4 _) trodAll_mk0)) (fun sp hsp => (trodAll_cons_mk (WideElems.Trod_stays SetupTells_laid (by kernel_rfl) (of_decide_eq_true (by kernel_rfl)) h0 (fun x hx => hg.same (hW'.lt x (by simp [hx]))) (fun x hx => hsp x (by simp [hx]))) (trodAll_cons_mk (WideElems.Trod_stays SetupTells_laid (by kernel_rfl) (of_decide_eq_true (by kernel_rfl)) h1 (fun x hx => hg.same (hW'.lt x (by simp [hx]))) (fun x hx => hsp x (by simp [hx]))) trodAll_mk0))) (fun _ _ => rfl) (by simp)
    hg (ok_one (by kernel_rfl) rfl (okWide_bool_mk Tryd.underlying4 _))⟩
/-- THE STATEMENT of SetupTells: for every input the call returns true, and each argument reads behind it as before. -/
theorem SetupTells_holds : Rows.SetupTellsSaid :=
  OpenClaim.holds_of_wide 3 Tryd.f3 rfl rfl rfl rfl rfl rfl rfl ⟨rfl, rfl, rfl, rfl, rfl⟩ rfl rfl rfl rfl rfl (by kernel_rfl) Tryd.func3 (by kernel_rfl)
    (of_decide_eq_true (by kernel_rfl)) (by unfold Func.isWrapper; first | (rw [if_pos (by decide +kernel)]; kernel_rfl) | (rw [if_neg (by decide +kernel)]; exact ⟨rfl, rfl⟩))
    (fun os started H enc _ => SetupTells_lifted os started H enc)
/-- THE TIED CARD of SetupTells. -/
theorem SetupTellsCard_holds : Rows.SetupTellsCardSaid :=
  Claim7.holds_tied_plain_at .later [] [.data] true Rows.setupTellsCard.stood.harness false
    SetupTells_holds (fun _ h => by cases h) (by kernel_rfl) (fun _ h => by cases h) setupTells_row_tie rfl ⟨rfl, rfl⟩ (by kernel_rfl) rfl
    (fun f fn hf hfn => by
      obtain rfl : f = 3 := Option.some.inj ((show Tryd.prog.funcNamed "seesaw/seesawlaw06.SetupTells" = some 3 by kernel_rfl).symm.trans hf) |>.symm
      obtain rfl : fn = Tryd.f3 := (Option.some.inj (Tryd.func3.symm.trans hfn)).symm
      exact ⟨by kernel_rfl, fun j t ht => by
        rw [Tryd.params3] at ht
        have hm : t ∈ [25, 25] := by simpa using Array.mem_of_getElem? ht
        have hall : ([25, 25].all fun u => !Tryd.prog.wantsStandIn u) = true := by kernel_rfl
        exact (show Tryd.prog.wantsStandIn t = false by simpa using List.all_eq_true.1 hall t hm)⟩)
    (by kernel_rfl)
end Go.Proofs.YtnkdaehmdcpafaaDoor
