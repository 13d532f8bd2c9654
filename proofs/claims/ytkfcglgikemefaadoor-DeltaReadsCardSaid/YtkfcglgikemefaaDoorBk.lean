/-
  CONTRACTS OF A READER's CALLS (layer 2): Byte, Num, Int, Raw, End, Fail: what each tells, the error, its place then and what is wrong then, in plain numbers and lists of bytes ('rd' and what is taken). Conditions: texts of at most 2^24 bytes; integers within their kinds.
-/
import Derived.Test.YtkfcglgikemefaaDoorBs
import Derived.Test.YtkfcglgikemefaaDoorBq
import Derived.Test.YtkfcglgikemefaaDoorBe
namespace Go.Proofs.YtkfcglgikemefaaDoor
set_option maxRecDepth 100000
open Go.RowKit
set_option linter.unusedVariables false

/-- What is taken of the bytes that are left: what it is, its size, an error. -/
def tByte (l : List UInt8) : Int × Nat × Int := match l with | [] => (0, 0, 8) | b :: _ => (b.toNat, 1, 0)
def tNum (most : Int) (l : List UInt8) : Int × Nat × Int := if (Vm.get l).2.2 = 0 then (if most < (Vm.get l).1 then (0, 0, 20) else ((Vm.get l).1, (Vm.get l).2.1, 0)) else (0, 0, (Vm.get l).2.2)
def tInt (l : List UInt8) : Int × Nat × Int := if (Vm.get l).2.2 = 0 then (zagV (Vm.get l).1, (Vm.get l).2.1, 0) else (0, 0, (Vm.get l).2.2)
def tRaw (n : Int) (l : List UInt8) : ByteArray × Nat × Int := if n < 0 then (bs [], 0, 1) else if (l.length : Int) < n then (bs [], 0, 8) else (bs (l.take n.toNat), n.toNat, 0)
def tEnd (l : List UInt8) : Int × Nat × Int := if l = [] then (0, 0, 0) else (0, 0, 10)

/-- What a reading call comes to: what it tells, the error, the place then, what is wrong then. -/
def rd {α : Type} (z : α) (at_ : Nat) (wr : Int) (t : α × Nat × Int) : α × Int × Nat × Int :=
  if wr = 0 then (if t.2.2 = 0 then (t.1, 0, at_ + t.2.1, 0) else (z, t.2.2, at_, t.2.2)) else (z, wr, at_, wr)
theorem rd_w {α : Type} {z : α} {at_ : Nat} {wr : Int} {t : α × Nat × Int} (h : wr ≠ 0) : rd z at_ wr t = (z, wr, at_, wr) := by unfold rd; rw [if_neg h]
theorem rd_e {α : Type} {z : α} {at_ : Nat} {t : α × Nat × Int} (h : t.2.2 ≠ 0) : rd z at_ 0 t = (z, t.2.2, at_, t.2.2) := by unfold rd; rw [if_pos rfl, if_neg h]
theorem rd_k {α : Type} {z : α} {at_ : Nat} {t : α × Nat × Int} (h : t.2.2 = 0) : rd z at_ 0 t = (t.1, 0, at_ + t.2.1, 0) := by unfold rd; rw [if_pos rfl, if_pos h]
def rByte (s : ByteArray) (at_ : Nat) (wr : Int) : Int × Int × Nat × Int := rd 0 at_ wr (tByte (s.data.toList.drop at_))
def rNum (most : Int) (s : ByteArray) (at_ : Nat) (wr : Int) : Int × Int × Nat × Int := rd 0 at_ wr (tNum most (s.data.toList.drop at_))
def rInt (s : ByteArray) (at_ : Nat) (wr : Int) : Int × Int × Nat × Int := rd 0 at_ wr (tInt (s.data.toList.drop at_))
def rRaw (n : Int) (s : ByteArray) (at_ : Nat) (wr : Int) : ByteArray × Int × Nat × Int := rd (bs []) at_ wr (tRaw n (s.data.toList.drop at_))
def rEnd (s : ByteArray) (at_ : Nat) (wr : Int) : Int × Int × Nat × Int := rd 0 at_ wr (tEnd (s.data.toList.drop at_))

theorem ext_drop (s : ByteArray) (a : Nat) : (s.extract a s.size).data.toList = s.data.toList.drop a := by
  rw [ByteArray.data_extract, Array.toList_extract]
  have : s.data.toList.length = s.size := by rw [Array.length_toList]; rfl
  rw [List.extract_eq_take_drop, List.take_of_length_le (by rw [List.length_drop]; omega)]
theorem ext_size (s : ByteArray) (a : Nat) : (s.extract a s.size).size = s.size - a := by simp
theorem drop_len (s : ByteArray) (a : Nat) : (s.data.toList.drop a).length = s.size - a := by
  rw [List.length_drop, Array.length_toList]; rfl
theorem get_ok {l : List UInt8} {n size : Nat} (h : Vm.get l = (n, size, 0)) : 1 ≤ size ∧ size ≤ l.length ∧ n < 18446744073709551616 ∧ Vm.put n = l.take size := by
  rcases Vm.get_shape l 0 0 (by omega) with (e | e | e) | ⟨m, z, e, s1, s2, s3, s4, s5, s6⟩
  · rw [Vm.get] at h; rw [h] at e; cases e
  · rw [Vm.get] at h; rw [h] at e; cases e
  · rw [Vm.get] at h; rw [h] at e; cases e
  · rw [Vm.get] at h
    rw [h] at e
    simp at e
    obtain ⟨rfl, rfl⟩ := e
    exact ⟨s1, s2, by simpa using s5, s6 10 (by omega)⟩
theorem get_small (l : List UInt8) : (Vm.get l).1 < 18446744073709551616 := by
  rcases Vm.get_shape l 0 0 (by omega) with (e | e | e) | ⟨m, z, e, s1, s2, s3, s4, s5, s6⟩
  all_goals rw [Vm.get, e]
  · omega
  · omega
  · omega
  · simpa using s5
theorem get_is (s : ByteArray) (n size e : Nat) (hs : s.size ≤ 9223372036854775807) (h : Vm.get s.data.toList = (n, size, e)) (w : World) :
    Calls Tryd.prog 72 #[.string s] w fun r w' => r = .returned (.tuple #[.int .u64 n, .int .i64 size, .int .i64 e]) ∧ w = w' := by
  have := get_any s hs w
  unfold bytes at this
  rw [h] at this
  exact this
theorem cloN_ok (most : Int) (c : Addr) (s : ByteArray) (hs : s.size ≤ 16777216) (n size : Nat) (hg : Vm.get s.data.toList = (n, size, 0)) (hm : (n : Int) ≤ most) (w : World) (hc : w.cell? c = some (.int .u64 most)) :
    Calls Tryd.prog 71 #[.string s, .pointer (some c)] w fun e w' => e = .returned (.tuple #[.int .u64 n, .int .i64 size, .int .i64 0]) ∧ w = w' := by
  have Hg := Lib.hid (get_is s n size 0 (by omega) hg w)
  clear hg
  go_enter Tryd.func71, Tryd.ntmps71
  go_wp2_with fail
  refine Hg.out.mono ?_
  rintro e w' ⟨rfl, rfl⟩
  go_wp2_with fail
  go_ret3
  exact ⟨rfl, rfl⟩
theorem cloN_range (most : Int) (c : Addr) (s : ByteArray) (hs : s.size ≤ 16777216) (n size : Nat) (hg : Vm.get s.data.toList = (n, size, 0)) (hm : most < (n : Int)) (w : World) (hc : w.cell? c = some (.int .u64 most)) :
    Calls Tryd.prog 71 #[.string s, .pointer (some c)] w fun e w' => e = .returned (.tuple #[.int .u64 n, .int .i64 size, .int .i64 20]) ∧ w = w' := by
  have Hg := Lib.hid (get_is s n size 0 (by omega) hg w)
  clear hg
  go_enter Tryd.func71, Tryd.ntmps71
  go_wp2_with fail
  refine Hg.out.mono ?_
  rintro e w' ⟨rfl, rfl⟩
  go_wp2_with fail
  go_ret3
  exact ⟨rfl, rfl⟩
theorem cloN_bad (most : Int) (c : Addr) (s : ByteArray) (hs : s.size ≤ 16777216) (n size er : Nat) (hg : Vm.get s.data.toList = (n, size, er)) (her : er ≠ 0) (w : World) (hc : w.cell? c = some (.int .u64 most)) :
    Calls Tryd.prog 71 #[.string s, .pointer (some c)] w fun e w' => e = .returned (.tuple #[.int .u64 n, .int .i64 size, .int .i64 er]) ∧ w = w' := by
  have Hg := Lib.hid (get_is s n size er (by omega) hg w)
  have hb : ((er : Int) == 0) = false := by simp; omega
  clear hg
  go_enter Tryd.func71, Tryd.ntmps71
  go_wp2_with fail
  refine Hg.out.mono ?_
  rintro e w' ⟨rfl, rfl⟩
  go_wp2_with fail
  go_ret3
  exact ⟨rfl, rfl⟩
theorem extract_bs (s : ByteArray) (a b : Nat) : s.extract a b = bs ((s.data.toList.take b).drop a) := by
  apply ByteArray.ext
  apply Array.toList_inj.1
  rw [ByteArray.data_extract, Array.toList_extract]
  simp [bs, List.extract_eq_take_drop, List.drop_take]
def RdPost (v : Value) (er : Int) (g : Nat) (s : ByteArray) (a : Nat) (wr : Int) (w : World) (e : Ending) (w' : World) : Prop :=
  e = .returned (.tuple #[v, .int .i64 er]) ∧ Rd w' g s a wr ∧ Kp g none w w'

theorem rd_drew {w : World} {g : Nat} {s : ByteArray} {at_ : Nat} {wr : Int} (h : Rd w g s at_ wr) (n : Nat) : Rd (w.drewN n) g s at_ wr := h

theorem readN_any (most : Int) (c : Addr) (g : Nat) (s : ByteArray) (at_ : Nat) (wr : Int) (w : World) (h : Rd w g s at_ wr) (hc : w.cell? c = some (.int .u64 most)) (hcb : c.block < w.heap.size) :
    Calls Tryd.prog 70 #[.pointer (some ⟨g, 0, none⟩), .func (.func 71) #[] #[.pointer (some c)]] w
      (RdPost (.int .u64 (rNum most s at_ wr).1) (rNum most s at_ wr).2.1 g s (rNum most s at_ wr).2.2.1 (rNum most s at_ wr).2.2.2 w) := by
  unfold rNum
  by_cases hw : wr = 0
  · subst hw
    have hsz := drop_len s at_
    have hzz : (s.extract at_ s.size).size ≤ 16777216 := by rw [ext_size]; have := h.2.2; omega
    have hcW : ∀ W, Below w.heap.size w W → W.cell? c = some (.int .u64 most) := fun W hb => (hb.cell hcb).trans hc
    rcases hg : Vm.get (s.data.toList.drop at_) with ⟨n, size, er⟩
    have hg' : Vm.get (s.extract at_ s.size).data.toList = (n, size, er) := by rw [ext_drop]; exact hg
    by_cases he : er = 0
    · subst he
      have hk := get_ok hg
      by_cases hm : most < (n : Int)
      · have e : tNum most (s.data.toList.drop at_) = (0, 0, 20) := by unfold tNum; rw [hg]; simp [hm]
        rw [e, rd_e (by decide)]
        exact readN_bad g s at_ c w h n size 20 (by decide) fun W hb => (cloN_range most c _ hzz n size hg' hm W (hcW W hb)).mono fun e w' ⟨he, hq⟩ => ⟨he, hq ▸ Below.refl _ _⟩
      · have e : tNum most (s.data.toList.drop at_) = ((n : Int), size, 0) := by unfold tNum; rw [hg]; simp [hm]
        rw [e, rd_k rfl]
        exact readN_ok g s at_ c w h n size (by omega) fun W hb => (cloN_ok most c _ hzz n size hg' (by omega) W (hcW W hb)).mono fun e w' ⟨he, hq⟩ => ⟨he, hq ▸ Below.refl _ _⟩
    · have e : tNum most (s.data.toList.drop at_) = (0, 0, (er : Int)) := by unfold tNum; rw [hg]; simp [he]
      have he' : (er : Int) ≠ 0 := by omega
      rw [e, rd_e (by exact he')]
      exact readN_bad g s at_ c w h n size er he' fun W hb => (cloN_bad most c _ hzz n size er hg' he W (hcW W hb)).mono fun e w' ⟨he, hq⟩ => ⟨he, hq ▸ Below.refl _ _⟩
  · rw [rd_w hw]
    exact (readN_wrong g s at_ wr hw _ w h).mono fun e w' ⟨he, n, hn⟩ => ⟨he, hn ▸ rd_drew h n, hn ▸ kp_below (drewN_below w n)⟩
theorem boxed (w : World) (v : Value) (t : TypeId) : Below w.heap.size w (w.alloc (.cells #[v] t)) ∧ (w.alloc (.cells #[v] t)).cell? ⟨w.heap.size, 0, none⟩ = some v ∧ w.heap.size < (w.alloc (.cells #[v] t)).heap.size :=
  ⟨(Below.refl _ _).alloc (Nat.le_refl _) _, cell_new w #[v] t 0, by simp⟩
theorem rNum_any (most : Int) (g : Nat) (s : ByteArray) (at_ : Nat) (wr : Int) (w : World) (h : Rd w g s at_ wr) :
    Calls Tryd.prog 41 #[.pointer (some ⟨g, 0, none⟩), .int .u64 most] w (RdPost (.int .u64 (rNum most s at_ wr).1) (rNum most s at_ wr).2.1 g s (rNum most s at_ wr).2.2.1 (rNum most s at_ wr).2.2.2 w) := by
  obtain ⟨b1, b2, b3⟩ := boxed w (.int .u64 most) 89
  have H := Lib.hid (readN_any most ⟨w.heap.size, 0, none⟩ g s at_ wr _ ⟨h.1.below b1 h.1.lt, h.2⟩ b2 b3)
  have B1 := Lib.hid b1
  clear h b1 b2 b3
  go_enter Tryd.func41, Tryd.ntmps41
  go_wp2_with fail
  refine H.out.mono ?_
  rintro e w' ⟨rfl, h1, h2⟩
  go_wp2_with fail
  go_ret2
  exact ⟨rfl, h1, Kp.of_below B1.out h2⟩
def EndPost (er : Int) (g : Nat) (s : ByteArray) (a : Nat) (wr : Int) (w : World) (e : Ending) (w' : World) : Prop :=
  e = .returned (.int .i64 er) ∧ Rd w' g s a wr ∧ Kp g none w w'
theorem rd_more {w w' : World} {g : Nat} {s : ByteArray} {a : Nat} {wr : Int} (h : Rd w g s a wr) (hb : Below w.heap.size w w') : Rd w' g s a wr := ⟨h.1.below hb h.1.lt, h.2⟩
/-- What Fail answers; the place then, and what is wrong then. -/
def rFail (place er : Int) (at_ : Nat) (wr : Int) : Int × Nat × Int :=
  if wr = 0 then (if place < 0 ∨ (at_ : Int) < place ∨ er = 0 then (1, at_, 0) else (er, place.toNat, er)) else (wr, at_, wr)
theorem rFail_any (place er : Int) (g : Nat) (s : ByteArray) (at_ : Nat) (wr : Int) (w : World) (h : Rd w g s at_ wr) :
    Calls Tryd.prog 42 #[.pointer (some ⟨g, 0, none⟩), .int .i64 place, .int .i64 er] w (EndPost (rFail place er at_ wr).1 g s (rFail place er at_ wr).2.1 (rFail place er at_ wr).2.2 w) := by
  unfold rFail
  by_cases hw : wr = 0
  · subst hw
    rw [if_pos rfl]
    have Hw := Lib.hid (wrong_no g s at_ w h)
    have c1 := h.1.cell 1
    have c2 := h.1.cell 2
    simp at c1 c2
    have f1 := h.1.free 1
    have f2 := h.1.free 2
    have H := Lib.hid h
    clear h
    by_cases hp : place < 0 ∨ (at_ : Int) < place ∨ er = 0
    · rw [if_pos hp]
      have hpost : EndPost 1 g s at_ 0 w (.returned (.int .i64 1)) w := ⟨rfl, H.out, kp_below (Below.refl _ _)⟩
      have HP := Lib.hid hpost
      clear hpost
      rcases hp with hp | hp | hp
      · go_enter Tryd.func42, Tryd.ntmps42
        go_wp2_with fail
        refine Hw.out.mono ?_
        rintro e w' ⟨rfl, rfl⟩
        go_wp2_with fail
        go_ret
        exact HP.out
      · by_cases h0 : place < 0
        · omega
        · have h0' : 0 ≤ place := by omega
          go_enter Tryd.func42, Tryd.ntmps42
          go_wp2_with fail
          refine Hw.out.mono ?_
          rintro e w' ⟨rfl, rfl⟩
          go_wp2_with fail
          go_ret
          exact HP.out
      · subst hp
        by_cases h0 : place < 0
        · go_enter Tryd.func42, Tryd.ntmps42
          go_wp2_with fail
          refine Hw.out.mono ?_
          rintro e w' ⟨rfl, rfl⟩
          go_wp2_with fail
          go_ret
          exact HP.out
        · by_cases h1 : (at_ : Int) < place
          · go_enter Tryd.func42, Tryd.ntmps42
            go_wp2_with fail
            refine Hw.out.mono ?_
            rintro e w' ⟨rfl, rfl⟩
            go_wp2_with fail
            go_ret
            exact HP.out
          · go_enter Tryd.func42, Tryd.ntmps42
            go_wp2_with fail
            refine Hw.out.mono ?_
            rintro e w' ⟨rfl, rfl⟩
            go_wp2_with fail
            go_ret
            exact HP.out
    · rw [if_neg hp]
      have h0 : 0 ≤ place := by omega
      have h1 : place ≤ (at_ : Int) := by omega
      have h2 : (er == 0) = false := by simp; omega
      obtain ⟨k, rfl⟩ := Int.eq_ofNat_of_zero_le h0
      rw [Int.toNat_natCast]
      clear hp
      go_enter Tryd.func42, Tryd.ntmps42
      go_wp2_with fail
      refine Hw.out.mono ?_
      rintro e w' ⟨rfl, rfl⟩
      go_wp2_with fail
      go_ret
      obtain ⟨ho, h3, h4⟩ := H.out
      refine ⟨rfl, ⟨by simpa using (ho.store 1 (.int .i64 (k : Int))).store 2 (.int .i64 er), by omega, h4⟩, ⟨rfl, rfl, rfl, by simp [World.setCell], fun i hi hg _ => ?_⟩⟩
      rw [Below.heap_setCell _ _ _ _ hg, Below.heap_setCell _ _ _ _ hg]
  · rw [if_neg hw]
    have Hw := Lib.hid (wrong_yes g s at_ wr hw w h)
    have H := Lib.hid h
    have hb : (wr != 0) = true := by simpa using hw
    clear h hw
    go_enter Tryd.func42, Tryd.ntmps42
    go_wp2_with fail
    refine Hw.out.mono ?_
    rintro e w' ⟨rfl, n, rfl⟩
    go_wp2_with fail
    go_ret
    exact ⟨rfl, rd_drew H.out n, kp_below (drewN_below w n)⟩
end Go.Proofs.YtkfcglgikemefaaDoor
