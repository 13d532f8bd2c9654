/-
  LAYER 7's READER: where it lies; what a number that is read comes to (num, nested), and where the reader is then; all else in memory is as it was. Conditions: texts of at most 2^24 bytes; bounds that fit.
-/
import Derived.Test.YtpgkhodofhnpnaaDoorZf
import Derived.Test.YtpgkhodofhnpnaaDoorPa
namespace Go.Proofs.YtpgkhodofhnpnaaDoor
set_option maxRecDepth 100000
open Go.RowKit
set_option linter.unusedVariables false

/-- At block q lies a reader of setups, over the reader of bytes at block g; n statements were counted. -/
structure PR (w : World) (q g : Nat) (s : ByteArray) (at_ : Nat) (wr : Int) (n : Nat) : Prop where
  obj : Obj w q 61 #[.pointer (some ⟨g, 0, none⟩), .int .i64 n]
  rd : Rd w g s at_ wr
theorem PR.ne {w : World} {q g : Nat} {s : ByteArray} {a : Nat} {wr : Int} {n : Nat} (h : PR w q g s a wr n) : q ≠ g := h.obj.unlike h.rd.1 (by decide)
theorem PR.lt {w : World} {q g : Nat} {s : ByteArray} {a : Nat} {wr : Int} {n : Nat} (h : PR w q g s a wr n) : q < w.heap.size ∧ g < w.heap.size := ⟨h.obj.lt, h.rd.1.lt⟩
theorem PR.c0 {w : World} {q g : Nat} {s : ByteArray} {a : Nat} {wr : Int} {n : Nat} (h : PR w q g s a wr n) : w.cell? ⟨q, 0, none⟩ = some (.pointer (some ⟨g, 0, none⟩)) := by simpa using h.obj.cell 0
theorem PR.c1 {w : World} {q g : Nat} {s : ByteArray} {a : Nat} {wr : Int} {n : Nat} (h : PR w q g s a wr n) : w.cell? ⟨q, 1, none⟩ = some (.int .i64 n) := by simpa using h.obj.cell 1
theorem PR.move {w w' : World} {q g : Nat} {s : ByteArray} {a a' : Nat} {wr wr' : Int} {n : Nat} (h : PR w q g s a wr n) (hr : Rd w' g s a' wr') (k : Kp g none w w') : PR w' q g s a' wr' n :=
  ⟨h.obj.kp k h.ne (by simp), hr⟩
theorem Kp.weak {g : Nat} {o : Option Nat} {w w' : World} (h : Kp g none w w') : Kp g o w w' := ⟨h.os, h.tape, h.output, h.size, fun i hi hg _ => h.block i hi hg (by simp)⟩
theorem Kp.trans2 {g : Nat} {o : Option Nat} {a b c : World} (h : Kp g o a b) (k : Kp g o b c) : Kp g o a c :=
  ⟨k.os.trans h.os, k.tape.trans h.tape, k.output.trans h.output, Nat.le_trans h.size k.size, fun i hi hg ho => (k.block i (Nat.lt_of_lt_of_le hi h.size) hg ho).trans (h.block i hi hg ho)⟩
theorem Kp.refl (g : Nat) (o : Option Nat) (w : World) : Kp g o w w := ⟨rfl, rfl, rfl, Nat.le_refl _, fun _ _ _ _ => rfl⟩

/-- Where a reader is behind what it read: r tells what is read there, if nothing was wrong ahead. -/
def outAt {α : Type} (r : Res α) (at_ : Nat) (wr : Int) : Nat := if wr = 0 then (match r with | .ok (_, p) => p | .error (p, _) => p) else at_
def outWr {α : Type} (r : Res α) (wr : Int) : Int := if wr = 0 then (match r with | .ok _ => 0 | .error (_, e) => e) else wr
/-- What a number is told as: 0, if anything is wrong. -/
def outN (r : Res Nat) (wr : Int) : Nat := if wr = 0 then (match r with | .ok (n, _) => n | .error _ => 0) else 0
theorem outAt_w {α : Type} {r : Res α} {a : Nat} {wr : Int} (h : wr ≠ 0) : outAt r a wr = a := if_neg h
theorem outWr_w {α : Type} {r : Res α} {wr : Int} (h : wr ≠ 0) : outWr r wr = wr := if_neg h
theorem outN_w {r : Res Nat} {wr : Int} (h : wr ≠ 0) : outN r wr = 0 := if_neg h

def Num7 (q g : Nat) (s : ByteArray) (n : Nat) (r : Res Nat) (at_ : Nat) (wr : Int) (w : World) (e : Ending) (w' : World) : Prop :=
  e = .returned (.int .i64 (outN r wr)) ∧ PR w' q g s (outAt r at_ wr) (outWr r wr) n ∧ Kp g none w w'
theorem rNum_le (hi : Nat) (s : ByteArray) (at_ : Nat) (wr : Int) : ∃ v : Nat, (rNum hi s at_ wr).1 = v ∧ v ≤ hi := by
  unfold rNum rd tNum
  by_cases hw : wr = 0
  · rw [if_pos hw]
    by_cases he : (Vm.get (s.data.toList.drop at_)).2.2 = 0
    · by_cases hm : (hi : Int) < ((Vm.get (s.data.toList.drop at_)).1 : Int)
      · exact ⟨0, by simp [he, hm], by omega⟩
      · exact ⟨(Vm.get (s.data.toList.drop at_)).1, by simp [he, hm], by omega⟩
    · exact ⟨0, by simp [he], by omega⟩
  · exact ⟨0, by rw [if_neg hw]; rfl, by omega⟩
/-- What a number comes to, by what Num and Fail do. -/
theorem num7_plain (s : ByteArray) (lo hi at_ : Nat) (wr : Int) (hlo : lo ≤ 1) (v : Nat) (hv : (rNum hi s at_ wr).1 = v) :
    outN (pNum s.data.toList lo hi at_) wr = v ∧
    (if v < lo then (rFail at_ 20 (rNum hi s at_ wr).2.2.1 (rNum hi s at_ wr).2.2.2).2 else (rNum hi s at_ wr).2.2) = (outAt (pNum s.data.toList lo hi at_) at_ wr, outWr (pNum s.data.toList lo hi at_) wr) := by
  by_cases hw : wr = 0
  · subst hw
    unfold outN outAt outWr pNum
    unfold rNum rd tNum at *
    generalize Vm.get (s.data.toList.drop at_) = G at hv ⊢
    obtain ⟨m, z, er⟩ := G
    dsimp only at hv ⊢
    by_cases he : er = 0
    · subst he
      by_cases hm : hi < m
      · have hm' : (hi : Int) < (m : Int) := by omega
        rw [if_pos rfl, if_pos hm'] at hv ⊢
        obtain rfl : v = 0 := by have : (0 : Int) = v := hv; omega
        simp [hm, rFail]
      · have hm' : ¬ (hi : Int) < (m : Int) := by omega
        rw [if_pos rfl, if_neg hm'] at hv ⊢
        obtain rfl : m = v := by have : (m : Int) = v := hv; omega
        by_cases hl : m < lo
        · have h0 : m = 0 := by omega
          have hf : rFail at_ 20 (at_ + z) 0 = (20, at_, 20) := by
            unfold rFail
            rw [if_pos rfl, if_neg (by omega), Int.toNat_natCast]
          simp [h0, hf]
          rw [← h0]
          simp [hl]
        · simp [hl, hm]
    · simp [he] at hv
      obtain rfl : v = 0 := by omega
      simp [he, rFail]
  · rw [outN_w hw, outAt_w hw, outWr_w hw]
    unfold rNum at *
    rw [rd_w hw] at hv ⊢
    obtain rfl : v = 0 := by have : (0 : Int) = v := hv; omega
    refine ⟨rfl, ?_⟩
    unfold rFail
    rw [if_neg hw]
    simp
set_option maxRecDepth 100000 in
theorem num7_any (q g : Nat) (s : ByteArray) (at_ : Nat) (wr : Int) (n lo hi : Nat) (hlo : lo ≤ 1) (hhi : hi ≤ 9223372036854775807) (w : World) (h : PR w q g s at_ wr n) :
    Calls Tryd.prog 36 #[.pointer (some ⟨q, 0, none⟩), .int .i64 lo, .int .i64 hi] w (Num7 q g s n (pNum s.data.toList lo hi at_) at_ wr w) := by
  obtain ⟨v, hv, hvh⟩ := rNum_le hi s at_ wr
  obtain ⟨e1, e2⟩ := num7_plain s lo hi at_ wr hlo v hv
  have c0 := h.c0
  have H := Lib.hid h
  have HA := Lib.hid (at_any g s at_ wr w h.rd)
  have HN := Lib.hid (rNum_any hi g s at_ wr w h.rd)
  rw [hv] at HN
  have HP : Hid (∀ (w' : World), PR w' q g s (if v < lo then (rFail at_ 20 (rNum hi s at_ wr).2.2.1 (rNum hi s at_ wr).2.2.2).2 else (rNum hi s at_ wr).2.2).1 (if v < lo then (rFail at_ 20 (rNum hi s at_ wr).2.2.1 (rNum hi s at_ wr).2.2.2).2 else (rNum hi s at_ wr).2.2).2 n → Kp g none w w' → Num7 q g s n (pNum s.data.toList lo hi at_) at_ wr w (.returned (.int .i64 v)) w') := fun w' h1 h2 => by
    rw [e2] at h1
    exact ⟨by rw [e1], h1, h2⟩
  generalize (rNum hi s at_ wr) = T at HN HP
  obtain ⟨t1, t2, t3, t4⟩ := T
  dsimp only at HN HP
  clear h hv e1 e2
  by_cases hl : v < lo
  · rw [if_pos hl] at HP
    have i1 : (v : Int) < (lo : Int) := by omega
    go_enter Tryd.func36, Tryd.ntmps36
    go_wp2_with fail
    refine HA.out.mono ?_
    rintro _ w1 ⟨rfl, rfl⟩
    go_wp2_with fail
    refine HN.out.mono ?_
    rintro _ w2 ⟨rfl, r2, k2⟩
    have p2 := H.out.move r2 k2
    have d0 := p2.c0
    have HF := Lib.hid (rFail_any at_ 20 g s t3 t4 w2 r2)
    have HP2 := Lib.hid p2
    have HK2 := Lib.hid k2
    clear p2 r2 k2 c0
    go_wp2_with fail
    refine HF.out.mono ?_
    rintro _ w3 ⟨rfl, r3, k3⟩
    have p3 := Lib.hid (HP2.out.move r3 k3)
    have HK3 := Lib.hid (HK2.out.trans k3)
    clear r3 k3
    go_wp2_with fail
    go_ret
    exact HP.out _ p3.out HK3.out
  · rw [if_neg hl] at HP
    have i1 : ¬ (v : Int) < (lo : Int) := by omega
    go_enter Tryd.func36, Tryd.ntmps36
    go_wp2_with fail
    refine HA.out.mono ?_
    rintro _ w1 ⟨rfl, rfl⟩
    go_wp2_with fail
    refine HN.out.mono ?_
    rintro _ w2 ⟨rfl, r2, k2⟩
    have p2 := Lib.hid (H.out.move r2 k2)
    have HK2 := Lib.hid k2
    clear r2 k2 c0
    go_wp2_with fail
    go_ret
    exact HP.out _ p2.out HK2.out
/-- A number of something so deep. -/
def pNest (s : List UInt8) (lo hi deep at_ : Nat) : Res Nat := andThen (pNum s lo hi at_) fun n p => if 0 < n ∧ 6 < deep then .error (at_, 40) else .ok (n, p)
theorem outN_pos {s : List UInt8} {lo hi at_ : Nat} {wr : Int} (h : 0 < outN (pNum s lo hi at_) wr) : wr = 0 ∧ ∃ p, pNum s lo hi at_ = .ok (outN (pNum s lo hi at_) wr, p) ∧ at_ ≤ p := by
  unfold outN at *
  by_cases hw : wr = 0
  · rw [if_pos hw] at h ⊢
    refine ⟨hw, ?_⟩
    match hr : pNum s lo hi at_, h with
    | .error e, h => exact absurd h (by simp)
    | .ok (n, p), h =>
      refine ⟨p, by simp, ?_⟩
      unfold pNum at hr
      split at hr
      · cases hr
      · split at hr
        · cases hr
        · cases hr
          exact Nat.le_add_right _ _
  · rw [if_neg hw] at h
    omega
theorem nest_out {s : List UInt8} {lo hi deep at_ : Nat} {wr : Int} (h : ¬ (0 < outN (pNum s lo hi at_) wr ∧ 6 < deep)) :
    outN (pNest s lo hi deep at_) wr = outN (pNum s lo hi at_) wr ∧ outAt (pNest s lo hi deep at_) at_ wr = outAt (pNum s lo hi at_) at_ wr ∧ outWr (pNest s lo hi deep at_) wr = outWr (pNum s lo hi at_) wr := by
  unfold outN outAt outWr pNest at *
  by_cases hw : wr = 0
  · simp only [if_pos hw] at h ⊢
    match hr : pNum s lo hi at_ with
    | .error e => exact ⟨rfl, rfl, rfl⟩
    | .ok (n, p) =>
      rw [hr] at h
      dsimp only at h
      simp only [andThen]
      rw [if_neg h]
      exact ⟨rfl, rfl, rfl⟩
  · simp only [if_neg hw]
    exact ⟨trivial, trivial, trivial⟩
theorem nest_deep {s : List UInt8} {lo hi deep at_ : Nat} {wr : Int} (h : 0 < outN (pNum s lo hi at_) wr) (hd : 6 < deep) :
    wr = 0 ∧ outN (pNest s lo hi deep at_) wr = 0 ∧ outAt (pNest s lo hi deep at_) at_ wr = at_ ∧ outWr (pNest s lo hi deep at_) wr = 40 ∧ at_ ≤ outAt (pNum s lo hi at_) at_ wr ∧ outWr (pNum s lo hi at_) wr = 0 := by
  obtain ⟨rfl, p, hp, hle⟩ := outN_pos h
  unfold outAt outWr pNest
  refine ⟨rfl, ?_⟩
  rw [hp]
  simp only [andThen]
  rw [if_pos ⟨h, hd⟩]
  simp only [if_true]
  exact ⟨rfl, trivial, trivial, hle, trivial⟩
set_option maxRecDepth 100000 in
theorem nest7_any (q g : Nat) (s : ByteArray) (at_ : Nat) (wr : Int) (n lo hi deep : Nat) (hlo : lo ≤ 1) (hhi : hi ≤ 9223372036854775807) (w : World) (h : PR w q g s at_ wr n) :
    Calls Tryd.prog 61 #[.pointer (some ⟨q, 0, none⟩), .int .i64 lo, .int .i64 hi, .int .i64 deep] w (Num7 q g s n (pNest s.data.toList lo hi deep at_) at_ wr w) := by
  have c0 := h.c0
  have HA := Lib.hid (at_any g s at_ wr w h.rd)
  have HN := Lib.hid (num7_any q g s at_ wr n lo hi hlo hhi w h)
  have HO := Lib.hid (nest_out (s := s.data.toList) (lo := lo) (hi := hi) (deep := deep) (at_ := at_) (wr := wr))
  have HD := Lib.hid (nest_deep (s := s.data.toList) (lo := lo) (hi := hi) (deep := deep) (at_ := at_) (wr := wr))
  unfold Num7 at HN ⊢
  obtain ⟨v, hv⟩ : ∃ v, v = outN (pNum s.data.toList lo hi at_) wr := ⟨_, rfl⟩
  rw [← hv] at HN HO HD
  have h0 : (0 : Int) ≤ v := by omega
  clear h hv
  by_cases hz : 0 < v
  · have i0 : (0 : Int) < (v : Int) := by omega
    by_cases hd : 6 < deep
    · obtain ⟨rfl, e1, e2, e3, e4, e5⟩ := HD.out hz hd
      rw [e1, e2, e3]
      have i1 : (6 : Int) < (deep : Int) := by omega
      have hf : rFail at_ 40 (outAt (pNum s.data.toList lo hi at_) at_ 0) (outWr (pNum s.data.toList lo hi at_) 0) = (40, at_, 40) := by
        unfold rFail
        rw [if_pos e5, if_neg (by omega), Int.toNat_natCast]
      have HF := Lib.hid hf
      clear e1 e2 e3 e4 e5 hf
      go_enter Tryd.func61, Tryd.ntmps61
      go_wp2_with fail
      refine HA.out.mono ?_
      rintro _ w1 ⟨rfl, rfl⟩
      go_wp2_with fail
      refine HN.out.mono ?_
      rintro _ w2 ⟨rfl, p2, k2⟩
      have d0 := p2.c0
      have HC := Lib.hid (rFail_any at_ 40 g s _ _ w2 p2.rd)
      rw [HF.out] at HC
      have HP2 := Lib.hid p2
      have HK2 := Lib.hid k2
      clear p2 k2 c0
      go_wp2_with fail
      refine HC.out.mono ?_
      rintro _ w3 ⟨rfl, r3, k3⟩
      have p3 := Lib.hid (HP2.out.move r3 k3)
      have HK3 := Lib.hid (HK2.out.trans k3)
      clear r3 k3
      go_wp2_with fail
      go_ret
      exact ⟨rfl, p3.out, HK3.out⟩
    · obtain ⟨e1, e2, e3⟩ := HO.out (fun h => hd h.2)
      rw [e1, e2, e3]
      have i1 : ¬ (6 : Int) < (deep : Int) := by omega
      clear e1 e2 e3
      go_enter Tryd.func61, Tryd.ntmps61
      go_wp2_with fail
      refine HA.out.mono ?_
      rintro _ w1 ⟨rfl, rfl⟩
      go_wp2_with fail
      refine HN.out.mono ?_
      rintro _ w2 ⟨rfl, p2, k2⟩
      have HP2 := Lib.hid p2
      have HK2 := Lib.hid k2
      clear p2 k2 c0
      go_wp2_with fail
      go_ret
      exact ⟨rfl, HP2.out, HK2.out⟩
  · obtain ⟨e1, e2, e3⟩ := HO.out (fun h => hz h.1)
    rw [e1, e2, e3]
    obtain rfl : v = 0 := by omega
    clear e1 e2 e3
    go_enter Tryd.func61, Tryd.ntmps61
    go_wp2_with fail
    refine HA.out.mono ?_
    rintro _ w1 ⟨rfl, rfl⟩
    go_wp2_with fail
    refine HN.out.mono ?_
    rintro _ w2 ⟨rfl, p2, k2⟩
    have HP2 := Lib.hid p2
    have HK2 := Lib.hid k2
    clear p2 k2 c0
    go_wp2_with fail
    go_ret
    exact ⟨rfl, HP2.out, HK2.out⟩
end Go.Proofs.YtpgkhodofhnpnaaDoor
