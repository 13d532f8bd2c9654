/-
  STAGE 7's LAWS: framed, bare, back, works. Conditions: code's and pack's tables lie as they are laid.
-/
import Derived.Test.YtpgkhodofhnpnaaDoorPx
import Derived.Test.YtpgkhodofhnpnaaDoorPw
import Derived.Test.YtpgkhodofhnpnaaDoorFx
import Derived.Test.YtpgkhodofhnpnaaDoorUz
import Derived.Test.YtpgkhodofhnpnaaDoorUaa
namespace Go.Proofs.YtpgkhodofhnpnaaDoor
set_option maxRecDepth 100000
open Go.RowKit
set_option linter.unusedVariables false
theorem rep_fits {s : List UInt8} : ∀ (m p : Nat) (xs : List Int) (q : Nat), pRep (pWhole s) m p = .ok (xs, q) → ∀ v ∈ xs, -9223372036854775808 ≤ v ∧ v < 9223372036854775808 := by
  intro m
  induction m with
  | zero =>
    intro p xs q h v hv
    cases h
    cases hv
  | succ m ih =>
    intro p xs q h v hv
    obtain ⟨x, p1, h1, h2⟩ := then_ok h
    obtain ⟨ys, p2, h3, h4⟩ := then_ok h2
    cases h4
    rcases List.mem_cons.1 hv with rfl | hv
    · obtain ⟨n, p3, h5, h6⟩ := then_ok h1
      cases h6
      exact zagW_fits n (by have := (num_ok h5).2.1; omega)
    · exact ih _ _ _ h3 v hv
theorem body_fits {s : List UInt8} {ok : Su → Bool} {x : Su} {p : Nat} (h : pBody s ok = .ok (x, p)) : ∀ v ∈ x.init, -9223372036854775808 ≤ v ∧ v < 9223372036854775808 := by
  obtain ⟨y, p1, h1, h2⟩ := then_ok h
  have hy : y = x := by
    split at h2
    · cases h2
    · split at h2
      · cases h2; rfl
      · cases h2
  subst hy
  unfold pSu at h1
  obtain ⟨a, q1, _, h1⟩ := then_ok h1
  obtain ⟨b, q2, h5, h1⟩ := then_ok h1
  obtain ⟨c, q3, _, h1⟩ := then_ok h1
  obtain ⟨d, q4, _, h1⟩ := then_ok h1
  obtain ⟨e, q5, _, h1⟩ := then_ok h1
  obtain ⟨f, q6, _, h1⟩ := then_ok h1
  obtain ⟨g, q7, _, h1⟩ := then_ok h1
  cases h1
  exact rep_fits _ _ _ _ h5
set_option maxRecDepth 100000 in
theorem framed_any (b : ByteArray) (h1 : b.size ≤ 16000000) (w : World) : Calls Tryd.prog 8 #[.string b] w fun e w' => e = .returned (.string (frameS b)) ∧ Below w.heap.size w w' := by
  have hz10 := numS_size b.size
  have hpl := Vm.put_len b.size
  have HW := Lib.hid (wrap_any b (by omega))
  clear hz10 hpl
  go_enter Tryd.func8, Tryd.ntmps8
  go_wp2_with fail
  refine (HW.out w).mono ?_
  rintro _ w1 ⟨rfl, b1⟩
  go_wp2_with fail
  go_ret
  exact ⟨rfl, b1⟩
def su0 : Su := ⟨1, 0, 1, [5], []⟩
def baW (w : World) : World := (seB w 1 0 1 (.slice (some ⟨w.heap.size + 1, 0, none⟩) 1 1) (.slice none 0 0)).alloc (.cells #[.int .i64 5] 2)
theorem baW_size (w : World) : (baW w).heap.size = w.heap.size + 2 := by simp [baW, seB]
theorem baW_below (w : World) : Below w.heap.size w (baW w) := (seB_below w _ _ _ _ _).alloc (by simp [seB]) _
theorem baW_obj (w : World) : Obj (baW w) w.heap.size 29 #[.int .i64 1, .int .i64 0, .int .i64 1, .slice (some ⟨w.heap.size + 1, 0, none⟩) 1 1, .slice none 0 0] := (Obj.made w _ _).more _
set_option maxRecDepth 100000 in
theorem bare_any (w : World) : Calls Tryd.prog 6 #[] w fun e w' => e = .returned (.agg #[.int .i64 1, .int .i64 0, .int .i64 1, .slice (some ⟨w.heap.size + 1, 0, none⟩) 1 1, .slice none 0 0]) ∧ w' = baW w := by
  have hO := baW_obj w
  go_enter Tryd.func6, Tryd.ntmps6
  go_wp2_with fail
  have hb : ((w.alloc (.cells #[.int .i64 1, .int .i64 0, .int .i64 1, .slice (some ⟨w.heap.size + 1, 0, none⟩) 1 1, .slice none 0 0] 29)).alloc (.cells #[.int .i64 5] 2)) = baW w := rfl
  rw [hb]
  generalize baW w = W at hO ⊢
  have e0 := hO.cell 0
  have e1 := hO.cell 1
  have e2 := hO.cell 2
  have e3 := hO.cell 3
  have e4 := hO.cell 4
  simp at e0 e1 e2 e3 e4
  exact bodyPost_ret (v := .agg #[.int .i64 1, .int .i64 0, .int .i64 1, .slice (some ⟨w.heap.size + 1, 0, none⟩) 1 1, .slice none 0 0]) (by simp [results, Tryd.results6, go_sem, e0, e1, e2, e3, e4]) rfl ⟨rfl, rfl⟩
theorem bare_at (w : World) : SuAt (baW w) w.heap.size (baW w).heap.size 14 (some ⟨w.heap.size + 1, 0, none⟩) none su0 := by
  refine ⟨⟨by decide, fun k hk => ?_⟩, fun k hk => absurd hk (by simp [su0]), by decide, by decide, by decide, by decide, by decide, by decide, by decide⟩
  obtain rfl : k = 0 := by simp [su0] at hk; omega
  refine ⟨⟨w.heap.size + 1, 0, none⟩, rfl, by rw [baW_size]; show w.heap.size + 1 < _; omega, ?_⟩
  have h1 : (seB w 1 0 1 (.slice (some ⟨w.heap.size + 1, 0, none⟩) 1 1) (.slice none 0 0)).heap.size = w.heap.size + 1 := by simp [seB]
  have := (Obj.made (seB w 1 0 1 (.slice (some ⟨w.heap.size + 1, 0, none⟩) 1 1) (.slice none 0 0)) 2 #[.int .i64 5]).cell 0
  rw [h1] at this
  rw [row_add]
  exact this
set_option maxRecDepth 100000 in
set_option maxHeartbeats 2000000 in
theorem back_any (x : Su) (I T : Option Addr) (c c' lo hi : Nat) (w : World) (hkd : Kd w) (hpt : Pt w) (h : SuAt w lo hi 14 I T x) (hhi : hi ≤ w.heap.size) (ho : okF 14 x = true) (hf : (prSu x).length ≤ 30000) (hini : ∀ v ∈ x.init, -9223372036854775808 ≤ v ∧ v < 9223372036854775808) (p : Nat) (hp : pBody (prSu x) (okF 14) = .ok (x, p)) :
    Calls Tryd.prog 9 #[.agg #[.int .i64 x.st, .int .i64 x.cl, .int .i64 x.tr, .slice I x.init.length c, .slice T x.thr.length c']] w fun e w' => e = .returned (.bool true) ∧ Below w.heap.size w w' := by
  have hsz : (bs (prSu x)).size ≤ 30000 := by rw [bs_size]; exact hf
  have hz10 := numS_size (bs (prSu x)).size
  have hpl := Vm.put_len (bs (prSu x)).size
  have hfs := frame_size (bs (prSu x))
  have hbb := seB_below w x.st x.cl x.tr (.slice I x.init.length c) (.slice T x.thr.length c')
  have HBB := Lib.hid hbb
  have HE := Lib.hid (encode_yes 14 (by omega) x I T c c' lo hi _ (hkd.below hbb (Nat.le_refl _)) (hpt.below hbb (Nat.le_refl _)) (h.below hbb hhi) (Nat.le_trans hhi hbb.size) (by omega) ho (by omega) hini)
  have HBX : Hid (Obj (seB w x.st x.cl x.tr (.slice I x.init.length c) (.slice T x.thr.length c')) w.heap.size 29 #[.int .i64 x.st, .int .i64 x.cl, .int .i64 x.tr, .slice I x.init.length c, .slice T x.thr.length c']) := Obj.made w _ _
  unfold seB at HE HBB HBX
  have HD := Lib.hid (fun (w1 : World) (b1 : Below w.heap.size w w1) => decode_any (frameS (bs (prSu x))) (bs (prSu x)) (by omega) (frame_back _ (by omega)) w1 (hkd.below b1 (Nat.le_refl _)) (hpt.below b1 (Nat.le_refl _)))
  have hD7 : Hid (∀ w1 e w2, Dec7 (bs (prSu x)) w1 e w2 → ∃ (I' T' : Option Addr) (d d' : Nat), e = .returned (.tuple #[.agg #[.int .i64 x.st, .int .i64 x.cl, .int .i64 x.tr, .slice I' x.init.length d, .slice T' x.thr.length d'], .int .i64 0, .int .i64 0]) ∧ SuAt w2 w1.heap.size w2.heap.size 14 I' T' x ∧ Below w1.heap.size w1 w2) := fun w1 e w2 hd => by
    obtain ⟨h1, h2⟩ := hd
    rw [bs_bytes, hp] at h2
    obtain ⟨I', T', d, d', e1, e2, _⟩ := h2
    exact ⟨I', T', d, d', e1, e2, h1⟩
  have HSM := Lib.hid (fun (I' T' : Option Addr) (d d' lo' hi' : Nat) (w2 : World) (b2 : Below w.heap.size w w2) (h' : SuAt w2 lo' hi' 14 I' T' x) (hh : hi' ≤ w2.heap.size) => rsame6_any 14 x x I T I' T' c c' d d' lo hi lo' hi' w2 (h.below b2 hhi) h' (Nat.le_trans hhi b2.size) hh)
  have hrefl : sameU 14 x x = true := h.same_refl
  rw [hrefl] at HSM
  obtain ⟨tx, htx⟩ : ∃ tx, tx = prSu x := ⟨_, rfl⟩
  rw [← htx] at HE HD hD7
  obtain ⟨st, cl, tr, ini, thr⟩ := x
  obtain ⟨L, hL⟩ : ∃ L, L = ini.length := ⟨_, rfl⟩
  obtain ⟨M, hM⟩ : ∃ M, M = thr.length := ⟨_, rfl⟩
  dsimp only at HE HSM hD7 HBB HBX ⊢
  rw [← hL, ← hM] at HE HSM hD7 HBB HBX ⊢
  clear hbb hkd hpt h ho hf hini hp hsz hz10 hpl hfs hL hM htx hrefl
  go_enter Tryd.func9, Tryd.ntmps9
  go_wp2_with fail
  refine HE.out.mono ?_
  rintro _ w1 ⟨rfl, b1⟩
  have HB1 := Lib.hid (HBB.out.trans (b1.mono HBB.out.size))
  have HX1 := Lib.hid (HBX.out.below b1 HBX.out.lt)
  clear b1
  go_wp2_with fail
  refine (HD.out w1 HB1.out).mono ?_
  intro e w2 hd
  obtain ⟨I', T', d, d', rfl, hat, b2⟩ := hD7.out _ _ _ hd
  have HB2 := Lib.hid (HB1.out.trans (b2.mono HB1.out.size))
  have HAT := Lib.hid hat
  have hx2 := HX1.out.below b2 HX1.out.lt
  have e0 := hx2.cell 0
  have e1 := hx2.cell 1
  have e2 := hx2.cell 2
  have e3 := hx2.cell 3
  have e4 := hx2.cell 4
  simp at e0 e1 e2 e3 e4
  have z2 := hx2.lt
  have hby := seB_below w2 st cl tr (.slice I' L d) (.slice T' M d')
  have HBY := Lib.hid hby
  have HSS := Lib.hid (HSM.out I' T' d d' _ _ _ (HB2.out.trans (hby.mono HB2.out.size)) (HAT.out.below hby (Nat.le_refl _)) hby.size)
  unfold seB at HSS HBY
  clear hd hat b2 hx2 hby
  go_wp2_with fail
  refine HSS.out.mono ?_
  rintro _ w3 ⟨rfl, b3⟩
  have HB3 := Lib.hid ((HB2.out.trans (HBY.out.mono HB2.out.size)).trans (b3.mono (Nat.le_trans HB2.out.size HBY.out.size)))
  clear b3
  go_wp2_with fail
  go_ret
  exact ⟨rfl, HB3.out⟩
end Go.Proofs.YtpgkhodofhnpnaaDoor
