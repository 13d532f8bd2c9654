/-
  LAYER 7's READER: what an expression is read as (expr), where it lies, and where the reader is then. Conditions: as XPb's; at most 7 deep.
-/
import Derived.Test.YtpgkhodofhnpnaaDoorPc
import Derived.Test.YtpgkhodofhnpnaaDoorZb
namespace Go.Proofs.YtpgkhodofhnpnaaDoor
set_option maxRecDepth 100000
open Go.RowKit
set_option linter.unusedVariables false
theorem zag_same (n : Nat) : zagV (n : Int) = zagW n := by unfold zagV zagW; rfl
theorem zagW_fits (n : Nat) (h : n < 18446744073709551616) : -9223372036854775808 ≤ zagW n ∧ zagW n < 9223372036854775808 := by unfold zagW; split <;> omega
/-- What Int tells. -/
theorem whole_plain (s : ByteArray) (at_ : Nat) (wr : Int) : ∃ x : Int, (rInt s at_ wr).1 = x ∧ (-9223372036854775808 ≤ x ∧ x < 9223372036854775808) ∧ (rInt s at_ wr).2.2 = (outAt (pWhole s.data.toList at_) at_ wr, outWr (pWhole s.data.toList at_) wr) ∧ (wr = 0 → ∀ y p, pWhole s.data.toList at_ = .ok (y, p) → x = y) := by
  have hsm := get_small (s.data.toList.drop at_)
  unfold rInt tInt rd outAt outWr pWhole pNum
  by_cases hw : wr = 0
  · subst hw
    generalize Vm.get (s.data.toList.drop at_) = G at hsm ⊢
    obtain ⟨m, z, er⟩ := G
    dsimp only at hsm ⊢
    rw [if_pos rfl]
    by_cases he : er = 0
    · subst he
      rw [if_pos rfl, if_pos rfl, zag_same]
      have this : ¬ (m < 0 ∨ 18446744073709551615 < m) := by omega
      have hp : (if (0 : Nat) ≠ 0 then (Except.error (at_, ((0 : Nat) : Int)) : Res Nat) else if m < 0 ∨ 18446744073709551615 < m then .error (at_, 20) else .ok (m, at_ + z)) = .ok (m, at_ + z) := by rw [if_neg (by simp), if_neg this]
      rw [hp]
      refine ⟨zagW m, rfl, zagW_fits m hsm, rfl, ?_⟩
      intro _ y p h
      cases h
      rfl
    · rw [if_neg he]
      have he' : ¬ (er : Int) = 0 := by omega
      rw [if_neg he']
      refine ⟨0, rfl, by omega, ?_, ?_⟩
      · simp [andThen, he]
      · intro _ y p h
        rw [if_pos (by simpa using he)] at h
        cases h
  · simp only [if_neg hw]
    refine ⟨0, rfl, by omega, by simp, fun h => absurd h hw⟩

/-- What an expression is read as: a tree that lies there. -/
def Ex7 (q g : Nat) (s : ByteArray) (n d : Nat) (r : Res Ex) (at_ : Nat) (wr : Int) (w : World) (e : Ending) (w' : World) : Prop :=
  ∃ o m A l c x, e = .returned (.agg #[.int .u8 (o : Nat), .int .i64 m, .slice A l c]) ∧ At w' w.heap.size w'.heap.size d (.agg #[.int .u8 (o : Nat), .int .i64 m, .slice A l c]) x ∧ (wr = 0 → ∀ y p, r = .ok (y, p) → x = y) ∧ PR w' q g s (outAt r at_ wr) (outWr r wr) n ∧ Kp g none w w'
def exB (w : World) : World := w.alloc (.cells #[.int .u8 0, .int .i64 0, .slice none 0 0] 25)
theorem exB_below (w : World) : Below w.heap.size w (exB w) := (Below.refl _ _).alloc (Nat.le_refl _) _
theorem exB_size (w : World) : (exB w).heap.size = w.heap.size + 1 := by simp [exB]
theorem end7 {w w2 W' : World} {q g : Nat} {s : ByteArray} {a : Nat} {wr : Int} {n : Nat} (h : PR w2 q g s a wr n) (hg : g < w.heap.size ∧ q < w.heap.size) (k : Kp g none w w2) (hb : Below w.heap.size w2 W') : PR W' q g s a wr n ∧ Kp g none w W' :=
  ⟨⟨h.obj.same (hb.block q hg.2), ⟨h.rd.1.same (hb.block g hg.1), h.rd.2⟩⟩, hb.os.trans k.os, hb.tape.trans k.tape, hb.output.trans k.output, Nat.le_trans k.size hb.size, fun i hi hne ho => (hb.block i hi).trans (k.block i hi hne ho)⟩
theorem Obj.put3 {w : World} {R : Nat} {t : TypeId} {x y z : Value} (h : Obj w R t #[x, y, z]) (a b c : Value) : Obj (((w.setCell ⟨R, 0, none⟩ a).setCell ⟨R, 1, none⟩ b).setCell ⟨R, 2, none⟩ c) R t #[a, b, c] := ((h.store 0 a).store 1 b).store 2 c
theorem Obj.more {w : World} {R : Nat} {t : TypeId} {cs : Array Value} (h : Obj w R t cs) (o : Go.Obj) : Obj (w.alloc o) R t cs := (heap_alloc_old w o h.lt).trans h
theorem leaf7 (w : World) (lo hi d o : Nat) (m : Int) (ho : o < 256) (h0 : -9223372036854775808 ≤ m) (h1 : m < 9223372036854775808) : At w lo hi (d + 1) (.agg #[.int .u8 o, .int .i64 m, .slice none 0 0]) (.node o m []) :=
  ⟨ho, h0, h1, by simp, none, 0, rfl, fun k hk => absurd hk (by simp)⟩
theorem ex_head {s : List UInt8} {d deep at_ v A1 : Nat} {wr W1 : Int} (hd : deep + (d + 1) = 7) (hv : wr = 0 ∧ ∀ a, pNest s 1 8 deep at_ = .ok (v, outAt (pNest s 1 8 deep at_) a wr)) (hA : A1 = outAt (pNest s 1 8 deep at_) at_ wr) (hW : W1 = outWr (pNest s 1 8 deep at_) wr) :
    wr = 0 ∧ W1 = 0 ∧ pEx s (d + 1) at_ = (if v = 1 then andThen (pWhole s A1) fun n q => .ok (.node v n [], q)
    else if v = 2 then andThen (pNum s 0 7 A1) fun n q => .ok (.node v n [], q)
    else if v = 3 then andThen (pNum s 0 5 A1) fun n q => .ok (.node v n [], q)
    else andThen (pEx s d A1) fun a q => andThen (pEx s d q) fun b q2 => .ok (.node v 0 [a, b], q2)) := by
  obtain ⟨rfl, h2⟩ := hv
  have h3 := h2 at_
  rw [← hA] at h3
  refine ⟨rfl, ?_, ?_⟩
  · rw [hW]; exact (ok_state h3 at_).2
  · rw [ex_nest, show 6 - d = deep by omega, h3]
    rfl
theorem at_free {α : Type} (r : Res α) (a b : Nat) : outAt r a 0 = outAt r b 0 := rfl
/-- Behind a part that is told as f of it. -/
theorem fin_map {α β : Type} {r : Res α} {R : Res β} {f : α → β} {at_ A1 : Nat} (h : R = andThen r fun n q => .ok (f n, q)) : outAt R at_ 0 = outAt r A1 0 ∧ outWr R 0 = outWr r 0 ∧ ∀ y p, R = .ok (y, p) → ∃ n, r = .ok (n, p) ∧ y = f n := by
  subst h
  refine ⟨(map_state r f at_ 0).1, (map_state r f at_ 0).2, fun y p hy => ?_⟩
  obtain ⟨n, p1, h1, h2⟩ := then_ok hy
  cases h2
  exact ⟨n, h1, rfl⟩
theorem fin_two {s : List UInt8} {d at_ A1 v : Nat} (hA : A1 ≤ s.length) {R : Res Ex} (h : R = andThen (pEx s d A1) fun a q => andThen (pEx s d q) fun b q2 => .ok (.node v 0 [a, b], q2)) :
    outAt R at_ 0 = outAt (pEx s d (outAt (pEx s d A1) A1 0)) (outAt (pEx s d A1) A1 0) (outWr (pEx s d A1) 0) ∧ outWr R 0 = outWr (pEx s d (outAt (pEx s d A1) A1 0)) (outWr (pEx s d A1) 0) ∧
    ∀ y p, R = .ok (y, p) → ∃ a b, pEx s d A1 = .ok (a, outAt (pEx s d A1) A1 0) ∧ outWr (pEx s d A1) 0 = 0 ∧ pEx s d (outAt (pEx s d A1) A1 0) = .ok (b, p) ∧ y = .node v 0 [a, b] := by
  subst h
  have hs := then_state (good_ex (s := s) d A1 hA).sane (fun a q => andThen (pEx s d q) fun b q2 => (.ok (Ex.node v 0 [a, b], q2) : Res Ex)) (fun q => pEx s d q) at_ 0 (fun x p _ _ => map_state (pEx s d p) (fun b => Ex.node v 0 [x, b]) p 0)
  refine ⟨hs.1, hs.2, fun y p hy => ?_⟩
  obtain ⟨a, p1, h1, h2⟩ := then_ok hy
  obtain ⟨b, p2, h3, h4⟩ := then_ok h2
  cases h4
  have hp := ok_state h1 A1
  rw [hp.1, hp.2]
  exact ⟨a, b, h1, rfl, h3, rfl⟩
theorem two7 {W : World} {lo hi d E v o3 l3 c3 o4 l4 c4 : Nat} {m3 m4 : Int} {A3 A4 : Option Addr} {x3 x4 : Ex} (hv : v < 256) (h1 : lo ≤ E) (h2 : E < hi) (hb : W.heap[E]? = some (.cells #[.int .u8 o3, .int .i64 m3, .slice A3 l3 c3, .int .u8 o4, .int .i64 m4, .slice A4 l4 c4] 25 (0, 0)))
    (h3 : At W lo hi d (.agg #[.int .u8 o3, .int .i64 m3, .slice A3 l3 c3]) x3) (h4 : At W lo hi d (.agg #[.int .u8 o4, .int .i64 m4, .slice A4 l4 c4]) x4) : At W lo hi (d + 1) (.agg #[.int .u8 v, .int .i64 0, .slice (some ⟨E, 0, none⟩) 2 2]) (.node v 0 [x3, x4]) := by
  refine ⟨hv, by omega, by omega, by simp, some ⟨E, 0, none⟩, 2, rfl, fun k hk => ?_⟩
  have hc : ∀ i, W.cell? ⟨E, i, none⟩ = (#[.int .u8 o3, .int .i64 m3, .slice A3 l3 c3, .int .u8 o4, .int .i64 m4, .slice A4 l4 c4] : Array Value)[i]? := fun i => cell_of_row W E i _ _ (0, 0) hb
  have hk2 : k = 0 ∨ k = 1 := by simp at hk; omega
  rcases hk2 with rfl | rfl
  · exact ⟨⟨E, 0, none⟩, _, _, _, rfl, h1, h2, by rw [row_add]; exact hc 0, by rw [row_add]; exact hc 1, by rw [row_add]; exact hc 2, h3⟩
  · exact ⟨⟨E, 0, none⟩, _, _, _, rfl, h1, h2, by rw [row_add]; exact hc 3, by rw [row_add]; exact hc 4, by rw [row_add]; exact hc 5, h4⟩
theorem then_wrong {α β : Type} {r : Res α} (k : α → Nat → Res β) (at_ : Nat) {wr : Int} (h : outWr r wr ≠ 0) : outAt (andThen r k) at_ wr = outAt r at_ wr ∧ outWr (andThen r k) wr = outWr r wr ∧ (wr = 0 → ∀ y p, andThen r k ≠ .ok (y, p)) := by
  by_cases hw : wr = 0
  · subst hw
    match r, h with
    | .error e, _ => exact ⟨rfl, rfl, fun _ y p hc => by cases hc⟩
    | .ok (x, p), h => exact absurd rfl h
  · rw [outAt_w hw, outWr_w hw, outAt_w hw, outWr_w hw]
    exact ⟨rfl, rfl, fun h => absurd h hw⟩
set_option maxRecDepth 100000 in
theorem expr7_zero (q g : Nat) (s : ByteArray) (at_ : Nat) (wr : Int) (n deep : Nat) (w : World) (h : PR w q g s at_ wr n) (d : Nat) (r : Res Ex) (hz : outN (pNest s.data.toList 1 8 deep at_) wr = 0)
    (hr : outAt r at_ wr = outAt (pNest s.data.toList 1 8 deep at_) at_ wr ∧ outWr r wr = outWr (pNest s.data.toList 1 8 deep at_) wr ∧ (wr = 0 → ∀ y p, r ≠ .ok (y, p))) :
    Calls Tryd.prog 67 #[.pointer (some ⟨q, 0, none⟩), .int .i64 deep] w (Ex7 q g s n (d + 1) r at_ wr w) := by
  have b0 := exB_below w
  have z0 := exB_size w
  have HRR := Lib.hid hr
  have HN : Hid (Calls Tryd.prog 61 #[.pointer (some ⟨q, 0, none⟩), .int .i64 1, .int .i64 8, .int .i64 deep] (exB w) (Num7 q g s n (pNest s.data.toList 1 8 deep at_) at_ wr (exB w))) := nest7_any q g s at_ wr n 1 8 deep (by omega) (by omega) _ (h.below b0)
  unfold Num7 at HN
  have hv8 := nest_le (s := s.data.toList) (lo := 1) (hi := 8) (deep := deep) (at_ := at_) (wr := wr)
  obtain ⟨v, hv⟩ : ∃ v, v = outN (pNest s.data.toList 1 8 deep at_) wr := ⟨_, rfl⟩
  rw [← hv] at HN hv8 hz
  have HV := Lib.hid hv
  have c0 := (h.below b0).c0
  have HB0 := Lib.hid b0
  have HH := Lib.hid h
  have HG : Hid (g < w.heap.size ∧ q < w.heap.size) := ⟨h.lt.2, h.lt.1⟩
  unfold exB at HN c0
  obtain ⟨A1, hA1⟩ : ∃ x, x = outAt (pNest s.data.toList 1 8 deep at_) at_ wr := ⟨_, rfl⟩
  obtain ⟨W1, hW1⟩ : ∃ x, x = outWr (pNest s.data.toList 1 8 deep at_) wr := ⟨_, rfl⟩
  rw [← hA1, ← hW1] at HN
  have HA1 := Lib.hid hA1
  have HW1 := Lib.hid hW1
  clear hr
  clear h hv b0 z0 hA1 hW1
  have v0 : (0 : Int) ≤ v := by omega
  have v9 : (v : Int) ≤ 8 := by omega
  have hR : Hid (Obj (exB w) w.heap.size 25 #[.int .u8 0, .int .i64 0, .slice none 0 0]) := Obj.made w _ _
  go_enter Tryd.func67, Tryd.ntmps67
  go_wp2_with fail
  refine HN.out.mono ?_
  rintro _ w1 ⟨rfl, p1, k1⟩
  have r1 := Obj.kp hR.out k1 (by have := HG.out; omega) (by simp)
  have f0 : ∀ i, w1.frozen? ⟨w.heap.size, i, none⟩ = false := r1.free
  have HP1 := Lib.hid p1
  have HK1 := Lib.hid k1
  have HR1 := Lib.hid r1
  have hc0 := r1.cell 0
  have hc1 := r1.cell 1
  have hc2 := r1.cell 2
  simp at hc0 hc1 hc2
  have d0 := p1.c0
  have d1 := p1.lt
  have z1 := r1.lt
  clear p1 k1 r1 c0
  subst hz
  go_wp2_with fail
  have hb : Below w.heap.size w1 ((((w1.setCell ⟨w.heap.size, 0, none⟩ (.int .u8 0)).setCell ⟨w.heap.size, 1, none⟩ (.int .i64 0)).setCell ⟨w.heap.size, 2, none⟩ (.slice none 0 0)).alloc (.cells #[.int .u8 0, .int .i64 0, .slice none 0 0] 25)) := by go_grown
  have hE := end7 HP1.out HG.out (Kp.of_below HB0.out HK1.out) hb
  have hO := (HR1.out.put3 (.int .u8 0) (.int .i64 0) (.slice none 0 0)).more (.cells #[.int .u8 0, .int .i64 0, .slice none 0 0] 25)
  generalize ((((w1.setCell ⟨w.heap.size, 0, none⟩ (.int .u8 0)).setCell ⟨w.heap.size, 1, none⟩ (.int .i64 0)).setCell ⟨w.heap.size, 2, none⟩ (.slice none 0 0)).alloc (.cells #[.int .u8 0, .int .i64 0, .slice none 0 0] 25)) = W' at hO hE ⊢
  have e0 := hO.cell 0
  have e1 := hO.cell 1
  have e2 := hO.cell 2
  simp at e0 e1 e2
  exact bodyPost_ret (v := .agg #[.int .u8 0, .int .i64 0, .slice none 0 0]) (by simp [results, Tryd.results67, go_sem, e0, e1, e2]) rfl ⟨0, 0, none, 0, 0, .node 0 0 [], rfl, leaf7 _ _ _ _ _ _ (by omega) (by omega) (by omega), fun h0 y p hy => absurd hy (HRR.out.2.2 h0 y p), by rw [HRR.out.1, HRR.out.2.1, ← HA1.out, ← HW1.out]; exact hE.1, hE.2⟩
set_option maxRecDepth 100000 in
set_option maxHeartbeats 2000000 in
theorem expr7_any (d : Nat) : ∀ (q g : Nat) (s : ByteArray) (at_ : Nat) (wr : Int) (n deep : Nat) (w : World), deep + d = 7 → PR w q g s at_ wr n →
    Calls Tryd.prog 67 #[.pointer (some ⟨q, 0, none⟩), .int .i64 deep] w (Ex7 q g s n (d + 1) (pEx s.data.toList d at_) at_ wr w) := by
  induction d with
  | zero =>
    intro q g s at_ wr n deep w hd h
    obtain rfl : deep = 7 := by omega
    have hx := ex_zero (s := s.data.toList) at_ wr
    exact expr7_zero q g s at_ wr n 7 w h 0 _ hx.2.2.1 ⟨hx.1, hx.2.1, fun _ => hx.2.2.2⟩
  | succ d ih =>
    intro q g s at_ wr n deep w hd h
    by_cases h0 : outN (pNest s.data.toList 1 8 deep at_) wr = 0
    · have h1 := outN_zero (good_nest h.rd.2.1).sane h0
      rw [show pEx s.data.toList (d + 1) at_ = _ from ex_nest d at_, show 6 - d = deep by omega]
      exact expr7_zero q g s at_ wr n deep w h (d + 1) _ h0 (then_wrong _ at_ h1)
    have b0 := exB_below w
    have z0 := exB_size w
    have HN : Hid (Calls Tryd.prog 61 #[.pointer (some ⟨q, 0, none⟩), .int .i64 1, .int .i64 8, .int .i64 deep] (exB w) (Num7 q g s n (pNest s.data.toList 1 8 deep at_) at_ wr (exB w))) := nest7_any q g s at_ wr n 1 8 deep (by omega) (by omega) _ (h.below b0)
    unfold Num7 at HN
    have hv8 := nest_le (s := s.data.toList) (lo := 1) (hi := 8) (deep := deep) (at_ := at_) (wr := wr)
    obtain ⟨v, hv⟩ : ∃ v, v = outN (pNest s.data.toList 1 8 deep at_) wr := ⟨_, rfl⟩
    rw [← hv] at HN hv8 h0
    have HV := Lib.hid hv
    have c0 := (h.below b0).c0
    have HB0 := Lib.hid b0
    have HH := Lib.hid h
    have HG : Hid (g < w.heap.size ∧ q < w.heap.size) := ⟨h.lt.2, h.lt.1⟩
    unfold exB at HN c0
    obtain ⟨A1, hA1⟩ : ∃ x, x = outAt (pNest s.data.toList 1 8 deep at_) at_ wr := ⟨_, rfl⟩
    obtain ⟨W1, hW1⟩ : ∃ x, x = outWr (pNest s.data.toList 1 8 deep at_) wr := ⟨_, rfl⟩
    rw [← hA1, ← hW1] at HN
    have HA1 := Lib.hid hA1
    have HW1 := Lib.hid hW1
    have IH := Lib.hid ih
    clear h hv b0 z0 hA1 hW1 ih
    have v0 : (0 : Int) ≤ v := by omega
    have v9 : (v : Int) ≤ 8 := by omega
    have hR : Hid (Obj (exB w) w.heap.size 25 #[.int .u8 0, .int .i64 0, .slice none 0 0]) := Obj.made w _ _
    go_enter Tryd.func67, Tryd.ntmps67
    go_wp2_with fail
    refine HN.out.mono ?_
    rintro _ w1 ⟨rfl, p1, k1⟩
    have r1 := Obj.kp hR.out k1 (by have := HG.out; omega) (by simp)
    have f0 : ∀ i, w1.frozen? ⟨w.heap.size, i, none⟩ = false := r1.free
    have HP1 := Lib.hid p1
    have HK1 := Lib.hid k1
    have HR1 := Lib.hid r1
    have hc0 := r1.cell 0
    have hc1 := r1.cell 1
    have hc2 := r1.cell 2
    simp at hc0 hc1 hc2
    have d0 := p1.c0
    have d1 := p1.lt
    have z1 := r1.lt
    clear p1 k1 r1 c0
    skip
    have hv0 : Hid (wr = 0 ∧ ∀ at_', pNest s.data.toList 1 8 deep at_ = .ok (v, outAt (pNest s.data.toList 1 8 deep at_) at_' wr)) := by
        have := outN_num (r := pNest s.data.toList 1 8 deep at_) (wr := wr) (by have := HV.out; omega)
        rw [← HV.out] at this
        exact this
    by_cases hK : v = 1
    · subst hK
      have hob : Hid (Obj (w1.alloc (.cells #[.int .u8 1, .int .i64 0, .slice none 0 0] 25)) w1.heap.size 25 #[.int .u8 1, .int .i64 0, .slice none 0 0]) := Obj.made w1 _ _
      have hb1 : Hid (Below w1.heap.size w1 (w1.alloc (.cells #[.int .u8 1, .int .i64 0, .slice none 0 0] 25))) := (Below.refl _ _).alloc (Nat.le_refl _) _
      obtain ⟨W2, hW2⟩ : ∃ W, W = w1.alloc (.cells #[.int .u8 1, .int .i64 0, .slice none 0 0] 25) := ⟨_, rfl⟩
      rw [← hW2] at hob hb1
      have hp2 := HP1.out.below hb1.out
      obtain ⟨x, hx, hxf, hst, hxe⟩ := whole_plain s A1 W1
      have HI := Lib.hid (rInt_any g s A1 W1 W2 hp2.rd)
      rw [hx, hst] at HI
      have HX := Lib.hid hxf
      have HXE := Lib.hid hxe
      clear hx hst hxe hxf
      have g0 := hp2.c0
      have HW2 := Lib.hid hW2
      have hR2 := Lib.hid (HR1.out.below hb1.out HR1.out.lt)
      have HP2 := Lib.hid hp2
      rw [hW2] at g0
      clear hW2 hp2
      go_wp2_with fail
      rw [← HW2.out]
      refine HI.out.mono ?_
      rintro _ w3 ⟨rfl, r3, k3⟩
      have HP3 := Lib.hid (HP2.out.move r3 k3)
      clear r3
      have o3 := hob.out.kp k3 (by have := d1; omega) (by simp)
      have q3 := hR2.out.kp k3 (by have := HG.out; omega) (by simp)
      have HO3 := Lib.hid o3
      have HQ3 := Lib.hid q3
      have HK3 := Lib.hid (Kp.of_below HB0.out (HK1.out.trans (Kp.of_below hb1.out k3)))
      have hc0 := q3.cell 0
      have hc1 := q3.cell 1
      have hc2 := q3.cell 2
      have ec0 := o3.cell 0
      have ec1 := o3.cell 1
      have ec2 := o3.cell 2
      have f0 : ∀ i, w3.frozen? ⟨w.heap.size, i, none⟩ = false := q3.free
      have f1 : ∀ i, w3.frozen? ⟨w1.heap.size, i, none⟩ = false := o3.free
      simp at hc0 hc1 hc2 ec0 ec1 ec2
      clear k3 o3 q3
      go_wp2_with fail
      have hb : Below w.heap.size w3 ((((w3.setCell ⟨w1.heap.size, 1, none⟩ (.int .i64 x)).setCell ⟨w.heap.size, 0, none⟩ (.int .u8 1)).setCell ⟨w.heap.size, 1, none⟩ (.int .i64 x)).setCell ⟨w.heap.size, 2, none⟩ (.slice none 0 0)) := by go_grown
      have hE := end7 HP3.out HG.out HK3.out hb
      have hO := ((HQ3.out.same (Below.heap_setCell w3 ⟨w1.heap.size, 1, none⟩ (.int .i64 x) w.heap.size (by show w.heap.size ≠ w1.heap.size; omega))).put3 (.int .u8 1) (.int .i64 x) (.slice none 0 0))
      generalize ((((w3.setCell ⟨w1.heap.size, 1, none⟩ (.int .i64 x)).setCell ⟨w.heap.size, 0, none⟩ (.int .u8 1)).setCell ⟨w.heap.size, 1, none⟩ (.int .i64 x)).setCell ⟨w.heap.size, 2, none⟩ (.slice none 0 0)) = W' at hO hE ⊢
      have e0 := hO.cell 0
      have e1 := hO.cell 1
      have e2 := hO.cell 2
      simp at e0 e1 e2
      have hH := ex_head (d := d) (by omega) hv0.out HA1.out HW1.out
      have hM := fin_map (at_ := at_) (A1 := A1) (f := fun n => Ex.node 1 n []) hH.2.2
      exact bodyPost_ret (v := .agg #[.int .u8 1, .int .i64 x, .slice none 0 0]) (by simp [results, Tryd.results67, go_sem, e0, e1, e2]) rfl ⟨1, x, none, 0, 0, .node 1 x [], rfl, leaf7 _ _ _ _ _ _ (by omega) (by have := HX.out; omega) (by have := HX.out; omega), fun _ y p hy => by obtain ⟨n, h1, rfl⟩ := hM.2.2 y p hy; rw [HXE.out hH.2.1 n p h1], by rw [hH.1, hM.1, hM.2.1, ← hH.2.1]; exact hE.1, hE.2⟩
    by_cases hK : v = 2
    · subst hK
      have hob : Hid (Obj (w1.alloc (.cells #[.int .u8 2, .int .i64 0, .slice none 0 0] 25)) w1.heap.size 25 #[.int .u8 2, .int .i64 0, .slice none 0 0]) := Obj.made w1 _ _
      have hb1 : Hid (Below w1.heap.size w1 (w1.alloc (.cells #[.int .u8 2, .int .i64 0, .slice none 0 0] 25))) := (Below.refl _ _).alloc (Nat.le_refl _) _
      obtain ⟨W2, hW2⟩ : ∃ W, W = w1.alloc (.cells #[.int .u8 2, .int .i64 0, .slice none 0 0] 25) := ⟨_, rfl⟩
      rw [← hW2] at hob hb1
      have hp2 := HP1.out.below hb1.out
      have hn8 := num_le (s := s.data.toList) (lo := 0) (hi := 7) (at_ := A1) (wr := W1)
      have HI : Hid (Calls Tryd.prog 36 #[.pointer (some ⟨q, 0, none⟩), .int .i64 0, .int .i64 7] W2 (Num7 q g s n (pNum s.data.toList 0 7 A1) A1 W1 W2)) := num7_any q g s A1 W1 n 0 7 (by omega) (by omega) W2 hp2
      unfold Num7 at HI
      obtain ⟨y, hy⟩ : ∃ y, y = outN (pNum s.data.toList 0 7 A1) W1 := ⟨_, rfl⟩
      rw [← hy] at HI hn8
      have HY := Lib.hid hy
      have y0 : (0 : Int) ≤ y := by omega
      have y8 : (y : Int) ≤ 7 := by omega
      clear hy
      have g0 := hp2.c0
      have HW2 := Lib.hid hW2
      have hR2 := Lib.hid (HR1.out.below hb1.out HR1.out.lt)
      have HP2 := Lib.hid hp2
      rw [hW2] at g0
      clear hW2 hp2
      go_wp2_with fail
      rw [← HW2.out]
      refine HI.out.mono ?_
      rintro _ w3 ⟨rfl, p3, k3⟩
      have HP3 := Lib.hid p3
      clear p3
      have o3 := hob.out.kp k3 (by have := d1; omega) (by simp)
      have q3 := hR2.out.kp k3 (by have := HG.out; omega) (by simp)
      have HO3 := Lib.hid o3
      have HQ3 := Lib.hid q3
      have HK3 := Lib.hid (Kp.of_below HB0.out (HK1.out.trans (Kp.of_below hb1.out k3)))
      have hc0 := q3.cell 0
      have hc1 := q3.cell 1
      have hc2 := q3.cell 2
      have ec0 := o3.cell 0
      have ec1 := o3.cell 1
      have ec2 := o3.cell 2
      have f0 : ∀ i, w3.frozen? ⟨w.heap.size, i, none⟩ = false := q3.free
      have f1 : ∀ i, w3.frozen? ⟨w1.heap.size, i, none⟩ = false := o3.free
      simp at hc0 hc1 hc2 ec0 ec1 ec2
      clear k3 o3 q3
      go_wp2_with fail
      have hb : Below w.heap.size w3 ((((w3.setCell ⟨w1.heap.size, 1, none⟩ (.int .i64 (y : Int))).setCell ⟨w.heap.size, 0, none⟩ (.int .u8 2)).setCell ⟨w.heap.size, 1, none⟩ (.int .i64 (y : Int))).setCell ⟨w.heap.size, 2, none⟩ (.slice none 0 0)) := by go_grown
      have hE := end7 HP3.out HG.out HK3.out hb
      have hO := ((HQ3.out.same (Below.heap_setCell w3 ⟨w1.heap.size, 1, none⟩ (.int .i64 (y : Int)) w.heap.size (by show w.heap.size ≠ w1.heap.size; omega))).put3 (.int .u8 2) (.int .i64 (y : Int)) (.slice none 0 0))
      generalize ((((w3.setCell ⟨w1.heap.size, 1, none⟩ (.int .i64 (y : Int))).setCell ⟨w.heap.size, 0, none⟩ (.int .u8 2)).setCell ⟨w.heap.size, 1, none⟩ (.int .i64 (y : Int))).setCell ⟨w.heap.size, 2, none⟩ (.slice none 0 0)) = W' at hO hE ⊢
      have e0 := hO.cell 0
      have e1 := hO.cell 1
      have e2 := hO.cell 2
      simp at e0 e1 e2
      have hH := ex_head (d := d) (by omega) hv0.out HA1.out HW1.out
      have hM := fin_map (at_ := at_) (A1 := A1) (f := fun (n : Nat) => Ex.node 2 (n : Int) []) hH.2.2
      exact bodyPost_ret (v := .agg #[.int .u8 2, .int .i64 (y : Int), .slice none 0 0]) (by simp [results, Tryd.results67, go_sem, e0, e1, e2]) rfl ⟨2, (y : Int), none, 0, 0, .node 2 (y : Int) [], rfl, leaf7 _ _ _ _ _ _ (by omega) (by omega) (by omega), fun _ y' p hy => by obtain ⟨n, h1, rfl⟩ := hM.2.2 y' p hy; rw [HY.out, hH.2.1, h1]; rfl, by rw [hH.1, hM.1, hM.2.1, ← hH.2.1]; exact hE.1, hE.2⟩
    by_cases hK : v = 3
    · subst hK
      have hob : Hid (Obj (w1.alloc (.cells #[.int .u8 3, .int .i64 0, .slice none 0 0] 25)) w1.heap.size 25 #[.int .u8 3, .int .i64 0, .slice none 0 0]) := Obj.made w1 _ _
      have hb1 : Hid (Below w1.heap.size w1 (w1.alloc (.cells #[.int .u8 3, .int .i64 0, .slice none 0 0] 25))) := (Below.refl _ _).alloc (Nat.le_refl _) _
      obtain ⟨W2, hW2⟩ : ∃ W, W = w1.alloc (.cells #[.int .u8 3, .int .i64 0, .slice none 0 0] 25) := ⟨_, rfl⟩
      rw [← hW2] at hob hb1
      have hp2 := HP1.out.below hb1.out
      have hn8 := num_le (s := s.data.toList) (lo := 0) (hi := 5) (at_ := A1) (wr := W1)
      have HI : Hid (Calls Tryd.prog 36 #[.pointer (some ⟨q, 0, none⟩), .int .i64 0, .int .i64 5] W2 (Num7 q g s n (pNum s.data.toList 0 5 A1) A1 W1 W2)) := num7_any q g s A1 W1 n 0 5 (by omega) (by omega) W2 hp2
      unfold Num7 at HI
      obtain ⟨y, hy⟩ : ∃ y, y = outN (pNum s.data.toList 0 5 A1) W1 := ⟨_, rfl⟩
      rw [← hy] at HI hn8
      have HY := Lib.hid hy
      have y0 : (0 : Int) ≤ y := by omega
      have y8 : (y : Int) ≤ 5 := by omega
      clear hy
      have g0 := hp2.c0
      have HW2 := Lib.hid hW2
      have hR2 := Lib.hid (HR1.out.below hb1.out HR1.out.lt)
      have HP2 := Lib.hid hp2
      rw [hW2] at g0
      clear hW2 hp2
      go_wp2_with fail
      rw [← HW2.out]
      refine HI.out.mono ?_
      rintro _ w3 ⟨rfl, p3, k3⟩
      have HP3 := Lib.hid p3
      clear p3
      have o3 := hob.out.kp k3 (by have := d1; omega) (by simp)
      have q3 := hR2.out.kp k3 (by have := HG.out; omega) (by simp)
      have HO3 := Lib.hid o3
      have HQ3 := Lib.hid q3
      have HK3 := Lib.hid (Kp.of_below HB0.out (HK1.out.trans (Kp.of_below hb1.out k3)))
      have hc0 := q3.cell 0
      have hc1 := q3.cell 1
      have hc2 := q3.cell 2
      have ec0 := o3.cell 0
      have ec1 := o3.cell 1
      have ec2 := o3.cell 2
      have f0 : ∀ i, w3.frozen? ⟨w.heap.size, i, none⟩ = false := q3.free
      have f1 : ∀ i, w3.frozen? ⟨w1.heap.size, i, none⟩ = false := o3.free
      simp at hc0 hc1 hc2 ec0 ec1 ec2
      clear k3 o3 q3
      go_wp2_with fail
      have hb : Below w.heap.size w3 ((((w3.setCell ⟨w1.heap.size, 1, none⟩ (.int .i64 (y : Int))).setCell ⟨w.heap.size, 0, none⟩ (.int .u8 3)).setCell ⟨w.heap.size, 1, none⟩ (.int .i64 (y : Int))).setCell ⟨w.heap.size, 2, none⟩ (.slice none 0 0)) := by go_grown
      have hE := end7 HP3.out HG.out HK3.out hb
      have hO := ((HQ3.out.same (Below.heap_setCell w3 ⟨w1.heap.size, 1, none⟩ (.int .i64 (y : Int)) w.heap.size (by show w.heap.size ≠ w1.heap.size; omega))).put3 (.int .u8 3) (.int .i64 (y : Int)) (.slice none 0 0))
      generalize ((((w3.setCell ⟨w1.heap.size, 1, none⟩ (.int .i64 (y : Int))).setCell ⟨w.heap.size, 0, none⟩ (.int .u8 3)).setCell ⟨w.heap.size, 1, none⟩ (.int .i64 (y : Int))).setCell ⟨w.heap.size, 2, none⟩ (.slice none 0 0)) = W' at hO hE ⊢
      have e0 := hO.cell 0
      have e1 := hO.cell 1
      have e2 := hO.cell 2
      simp at e0 e1 e2
      have hH := ex_head (d := d) (by omega) hv0.out HA1.out HW1.out
      have hM := fin_map (at_ := at_) (A1 := A1) (f := fun (n : Nat) => Ex.node 3 (n : Int) []) hH.2.2
      exact bodyPost_ret (v := .agg #[.int .u8 3, .int .i64 (y : Int), .slice none 0 0]) (by simp [results, Tryd.results67, go_sem, e0, e1, e2]) rfl ⟨3, (y : Int), none, 0, 0, .node 3 (y : Int) [], rfl, leaf7 _ _ _ _ _ _ (by omega) (by omega) (by omega), fun _ y' p hy => by obtain ⟨n, h1, rfl⟩ := hM.2.2 y' p hy; rw [HY.out, hH.2.1, h1]; rfl, by rw [hH.1, hM.1, hM.2.1, ← hH.2.1]; exact hE.1, hE.2⟩
    have hd1 : deep + 1 + d = 7 := by omega
    have hdc : (((deep + 1 : Nat)) : Int) = (deep : Int) + 1 := by omega
    have i4 : (4 : Int) ≤ v := by omega
    have n0 : ((v : Int) == 0) = false := by simp; omega
    have n1 : ((v : Int) == 1) = false := by simp; omega
    have n2 : ((v : Int) == 2) = false := by simp; omega
    have n3 : ((v : Int) == 3) = false := by simp; omega
    have hob : Hid (Obj (w1.alloc (.cells #[.int .u8 v, .int .i64 0, .slice none 0 0] 25)) w1.heap.size 25 #[.int .u8 v, .int .i64 0, .slice none 0 0]) := Obj.made w1 _ _
    have hb1 : Hid (Below w1.heap.size w1 (w1.alloc (.cells #[.int .u8 v, .int .i64 0, .slice none 0 0] 25))) := (Below.refl _ _).alloc (Nat.le_refl _) _
    obtain ⟨W2, hW2⟩ : ∃ W, W = w1.alloc (.cells #[.int .u8 v, .int .i64 0, .slice none 0 0] 25) := ⟨_, rfl⟩
    rw [← hW2] at hob hb1
    have hp2 := HP1.out.below hb1.out
    have HI := Lib.hid (IH.out q g s A1 W1 n (deep + 1) W2 hd1 hp2)
    rw [hdc] at HI
    have i5 : (deep : Int) + 1 ≤ 8 := by omega
    have i6 : (0 : Int) ≤ deep := by omega
    have g0 := hp2.c0
    have HW2 := Lib.hid hW2
    have hR2 := Lib.hid (HR1.out.below hb1.out HR1.out.lt)
    have HP2 := Lib.hid hp2
    rw [hW2] at g0
    clear hW2 hp2
    go_wp2_with fail
    rw [← HW2.out]
    refine HI.out.mono ?_
    rintro _ w3 ⟨o3, m3, A3, l3, c3, x3, rfl, hA3, hX3, hP3, hk3⟩
    have HA3 := Lib.hid hA3
    have HX3 := Lib.hid hX3
    have HP3 := Lib.hid hP3
    have HK3 := Lib.hid hk3
    have oo3 := Lib.hid (hob.out.kp hk3 (by have := d1; omega) (by simp))
    have qq3 := Lib.hid (hR2.out.kp hk3 (by have := HG.out; omega) (by simp))
    have HJ := Lib.hid (IH.out q g s _ _ n (deep + 1) w3 hd1 hP3)
    rw [hdc] at HJ
    have g3 := hP3.c0
    clear hA3 hX3 hP3 hk3
    go_wp2_with fail
    refine HJ.out.mono ?_
    rintro _ w4 ⟨o4, m4, A4, l4, c4, x4, rfl, hA4, hX4, hP4, hk4⟩
    have HA4 := Lib.hid hA4
    have HX4 := Lib.hid hX4
    have HP4 := Lib.hid hP4
    have HK4 := Lib.hid hk4
    have oo4 := oo3.out.kp hk4 (by have := d1; omega) (by simp)
    have qq4 := qq3.out.kp hk4 (by have := HG.out; omega) (by simp)
    have OO4 := Lib.hid oo4
    have QQ4 := Lib.hid qq4
    clear hc0 hc1 hc2 f0 g3 d0 n0 n1 n2 n3 i4 i5 i6
    have hc0 := qq4.cell 0
    have hc1 := qq4.cell 1
    have hc2 := qq4.cell 2
    have ec0 := oo4.cell 0
    have ec1 := oo4.cell 1
    have ec2 := oo4.cell 2
    have f0 : ∀ i, w4.frozen? ⟨w.heap.size, i, none⟩ = false := qq4.free
    have f1 : ∀ i, w4.frozen? ⟨w1.heap.size, i, none⟩ = false := oo4.free
    have l0 := qq4.lt
    have l1 := oo4.lt
    simp at hc0 hc1 hc2 ec0 ec1 ec2
    clear hA4 hX4 hP4 hk4 oo4 qq4
    go_wp2_with fail
    have hb : Below w.heap.size w4 (((((w4.setCell ⟨w1.heap.size, 2, none⟩ (.slice (some ⟨w4.heap.size, 0, none⟩) 2 2)).setCell ⟨w.heap.size, 0, none⟩ (.int .u8 v)).setCell ⟨w.heap.size, 1, none⟩ (.int .i64 0)).setCell ⟨w.heap.size, 2, none⟩ (.slice (some ⟨w4.heap.size, 0, none⟩) 2 2)).alloc (.cells #[.int .u8 o3, .int .i64 m3, .slice A3 l3 c3, .int .u8 o4, .int .i64 m4, .slice A4 l4 c4] 25)) := by go_grown
    have hz := HK3.out.size
    have hzz := HK4.out.size
    have hz2 := hb1.out.size
    have hz3 : W2.heap.size = w1.heap.size + 1 := by rw [HW2.out]; simp
    have hG := HG.out
    have hE := end7 HP4.out HG.out (Kp.of_below HB0.out (HK1.out.trans ((Kp.of_below hb1.out HK3.out).trans HK4.out))) hb
    have hO := ((QQ4.out.same (Below.heap_setCell w4 ⟨w1.heap.size, 2, none⟩ (.slice (some ⟨w4.heap.size, 0, none⟩) 2 2) w.heap.size (by show w.heap.size ≠ w1.heap.size; omega))).put3 (.int .u8 v) (.int .i64 0) (.slice (some ⟨w4.heap.size, 0, none⟩) 2 2)).more (.cells #[.int .u8 o3, .int .i64 m3, .slice A3 l3 c3, .int .u8 o4, .int .i64 m4, .slice A4 l4 c4] 25)
    have hF : ∀ b, w1.heap.size < b → b < w4.heap.size → (((((w4.setCell ⟨w1.heap.size, 2, none⟩ (.slice (some ⟨w4.heap.size, 0, none⟩) 2 2)).setCell ⟨w.heap.size, 0, none⟩ (.int .u8 v)).setCell ⟨w.heap.size, 1, none⟩ (.int .i64 0)).setCell ⟨w.heap.size, 2, none⟩ (.slice (some ⟨w4.heap.size, 0, none⟩) 2 2)).alloc (.cells #[.int .u8 o3, .int .i64 m3, .slice A3 l3 c3, .int .u8 o4, .int .i64 m4, .slice A4 l4 c4] 25)).heap[b]? = w4.heap[b]? := fun b h1 h2 => by
      rw [heap_alloc_old _ _ (by simpa using h2), Below.heap_setCell _ _ _ _ (by show b ≠ w.heap.size; omega), Below.heap_setCell _ _ _ _ (by show b ≠ w.heap.size; omega), Below.heap_setCell _ _ _ _ (by show b ≠ w.heap.size; omega), Below.heap_setCell _ _ _ _ (by show b ≠ w1.heap.size; omega)]
    have hL : (((((w4.setCell ⟨w1.heap.size, 2, none⟩ (.slice (some ⟨w4.heap.size, 0, none⟩) 2 2)).setCell ⟨w.heap.size, 0, none⟩ (.int .u8 v)).setCell ⟨w.heap.size, 1, none⟩ (.int .i64 0)).setCell ⟨w.heap.size, 2, none⟩ (.slice (some ⟨w4.heap.size, 0, none⟩) 2 2)).alloc (.cells #[.int .u8 o3, .int .i64 m3, .slice A3 l3 c3, .int .u8 o4, .int .i64 m4, .slice A4 l4 c4] 25)).heap[w4.heap.size]? = some (.cells #[.int .u8 o3, .int .i64 m3, .slice A3 l3 c3, .int .u8 o4, .int .i64 m4, .slice A4 l4 c4] 25 (0, 0)) := by
      have := heap_alloc_new ((((w4.setCell ⟨w1.heap.size, 2, none⟩ (.slice (some ⟨w4.heap.size, 0, none⟩) 2 2)).setCell ⟨w.heap.size, 0, none⟩ (.int .u8 v)).setCell ⟨w.heap.size, 1, none⟩ (.int .i64 0)).setCell ⟨w.heap.size, 2, none⟩ (.slice (some ⟨w4.heap.size, 0, none⟩) 2 2)) (.cells #[.int .u8 o3, .int .i64 m3, .slice A3 l3 c3, .int .u8 o4, .int .i64 m4, .slice A4 l4 c4] 25)
      rw [show ((((w4.setCell ⟨w1.heap.size, 2, none⟩ (.slice (some ⟨w4.heap.size, 0, none⟩) 2 2)).setCell ⟨w.heap.size, 0, none⟩ (.int .u8 v)).setCell ⟨w.heap.size, 1, none⟩ (.int .i64 0)).setCell ⟨w.heap.size, 2, none⟩ (.slice (some ⟨w4.heap.size, 0, none⟩) 2 2)).heap.size = w4.heap.size by simp] at this
      exact this
    have hS : (((((w4.setCell ⟨w1.heap.size, 2, none⟩ (.slice (some ⟨w4.heap.size, 0, none⟩) 2 2)).setCell ⟨w.heap.size, 0, none⟩ (.int .u8 v)).setCell ⟨w.heap.size, 1, none⟩ (.int .i64 0)).setCell ⟨w.heap.size, 2, none⟩ (.slice (some ⟨w4.heap.size, 0, none⟩) 2 2)).alloc (.cells #[.int .u8 o3, .int .i64 m3, .slice A3 l3 c3, .int .u8 o4, .int .i64 m4, .slice A4 l4 c4] 25)).heap.size = w4.heap.size + 1 := by simp
    generalize (((((w4.setCell ⟨w1.heap.size, 2, none⟩ (.slice (some ⟨w4.heap.size, 0, none⟩) 2 2)).setCell ⟨w.heap.size, 0, none⟩ (.int .u8 v)).setCell ⟨w.heap.size, 1, none⟩ (.int .i64 0)).setCell ⟨w.heap.size, 2, none⟩ (.slice (some ⟨w4.heap.size, 0, none⟩) 2 2)).alloc (.cells #[.int .u8 o3, .int .i64 m3, .slice A3 l3 c3, .int .u8 o4, .int .i64 m4, .slice A4 l4 c4] 25)) = W' at hO hE hF hL hS ⊢
    have e0 := hO.cell 0
    have e1 := hO.cell 1
    have e2 := hO.cell 2
    simp at e0 e1 e2
    have hH := ex_head (d := d) (by omega) hv0.out HA1.out HW1.out
    have hM := fin_two (at_ := at_) (A1 := A1) (v := v) HP1.out.rd.2.1 (hH.2.2.trans (by rw [if_neg (by omega), if_neg (by omega), if_neg (by omega)]))
    have t3 : At W' w.heap.size W'.heap.size (d + 1) (.agg #[.int .u8 o3, .int .i64 m3, .slice A3 l3 c3]) x3 := (HA3.out.keep (w' := W') (fun p h1 h2 => World.cell?_of_block ((hF p.block (by omega) (by omega)).trans (HK4.out.block p.block h2 (by omega) (by simp)))) _).wide (by omega) (by omega) _
    have t4 : At W' w.heap.size W'.heap.size (d + 1) (.agg #[.int .u8 o4, .int .i64 m4, .slice A4 l4 c4]) x4 := (HA4.out.keep (w' := W') (fun p h1 h2 => World.cell?_of_block (hF p.block (by omega) (by omega))) _).wide (by omega) (by omega) _
    refine bodyPost_ret (v := .agg #[.int .u8 v, .int .i64 0, .slice (some ⟨w4.heap.size, 0, none⟩) 2 2]) (by simp [results, Tryd.results67, go_sem, e0, e1, e2]) rfl ⟨v, 0, some ⟨w4.heap.size, 0, none⟩, 2, 2, .node v 0 [x3, x4], rfl, two7 (by omega) (by omega) (by omega) hL t3 t4, fun _ y p hy => ?_, ?_, hE.2⟩
    · obtain ⟨a, b, h1, h2, h3, rfl⟩ := hM.2.2 y p hy
      have h5 := hH.2.1
      rw [HX3.out h5 _ _ h1]
      rw [← h5] at h2 h3
      rw [HX4.out (h2.trans h5) _ _ h3]
    · rw [hH.1, hM.1, hM.2.1, ← hH.2.1]; exact hE.1
end Go.Proofs.YtpgkhodofhnpnaaDoor
