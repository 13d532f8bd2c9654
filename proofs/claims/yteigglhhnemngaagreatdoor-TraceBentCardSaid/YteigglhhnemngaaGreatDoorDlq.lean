/-
  PACKAGE delta (layer 14), several texts in one: Dlm, Dln, Dlo, Dlp, Dlq. Conditions: as they stand.
-/
import Derived.Test.YteigglhhnemngaaGreatDoorDlk
namespace Go.Proofs.YteigglhhnemngaaGreatDoor
set_option maxRecDepth 100000
set_option linter.unusedVariables false
set_option linter.unusedSimpArgs false
def restN (q : Cd) (e : Ev) : List Int :=
  if e.kd = 1 then [e.tx, e.v - q.clk] else if e.kd = 2 then [e.pl, q.bg e.th.toNat - e.v] else if e.kd = 3 ∨ e.kd = 8 then [e.pl, zigV (i64w (e.x - q.xs e.pl.toNat))] else
  if e.kd = 4 ∨ e.kd = 6 ∨ e.kd = 9 ∨ e.kd = 11 then [e.pl] else if e.kd = 5 then [e.v - q.clk] else if e.kd = 7 then [min e.v 1] else
  if e.kd = 10 then (if e.why = 6 then [e.why - 1] else [e.why - 1, e.pl]) else []
def putsL (ns : List Int) : List UInt8 := ns.flatMap fun n => Vm.put n.toNat
def evB (q : Cd) (e : Ev) : List UInt8 := putsL (whoN q e :: restN q e)
theorem tmod_id {a T : Int} (h0 : 0 ≤ a) : a.tmod T = a % T := Int.tmod_eq_emod_of_nonneg h0
theorem who_back {kd th last T : Int} (hk : 1 ≤ kd ∧ kd ≤ 13) (h0 : 0 ≤ th) (h1 : th < T) (l0 : 0 ≤ last) (l1 : last < T) (hT : T ≤ 6) :
    0 ≤ (kd - 1) * T + (th - last + T).tmod T ∧ (kd - 1) * T + (th - last + T).tmod T ≤ 13 * T - 1 ∧ ((kd - 1) * T + (th - last + T).tmod T).tdiv T + 1 = kd ∧ (last + ((kd - 1) * T + (th - last + T).tmod T)).tmod T = th := by
  rw [tmod_id (by omega : 0 ≤ th - last + T)]
  have hm := Int.emod_nonneg (th - last + T) (show T ≠ 0 by omega)
  have hm2 := Int.emod_lt_of_pos (th - last + T) (show 0 < T by omega)
  have h9 : T = 1 ∨ T = 2 ∨ T = 3 ∨ T = 4 ∨ T = 5 ∨ T = 6 := by omega
  have hn : 0 ≤ (kd - 1) * T + (th - last + T) % T := by
    rcases h9 with rfl | rfl | rfl | rfl | rfl | rfl <;> omega
  refine ⟨hn, ?_, ?_, ?_⟩
  · rcases h9 with rfl | rfl | rfl | rfl | rfl | rfl <;> omega
  · rw [Int.tdiv_eq_ediv_of_nonneg hn]
    rcases h9 with rfl | rfl | rfl | rfl | rfl | rfl <;> omega
  · rw [tmod_id (by omega)]
    rcases h9 with rfl | rfl | rfl | rfl | rfl | rfl <;> omega
theorem told_of {q : Cd} {e : Ev} (hq : CdOk q) (h : mayT q e = true) : 0 ≤ e.th ∧ e.th < q.T ∧ (1 ≤ e.kd ∧ e.kd ≤ 13) ∧ (0 ≤ e.v ∧ e.v ≤ 1099511627776) ∧ MayK e q.V q.S ∧ (e.kd = 1 → q.clk ≤ e.v) ∧ (e.kd = 2 → e.v ≤ q.bg e.th.toNat) ∧ (e.kd = 5 → q.clk < e.v) ∧ (e.kd = 7 → e.v = 0 ∨ e.v = q.bp e.th.toNat) := by
  unfold mayT at h
  rw [Bool.and_eq_true] at h
  obtain ⟨h1, h2⟩ := h
  obtain ⟨a, b, _, c⟩ := may_of h1 hq
  refine ⟨a, b, ?_, ?_, c, ?_, ?_, ?_, ?_⟩
  · unfold MayK at c; omega
  · unfold MayK at c; omega
  · intro k
    simpa [k] using h2
  · intro k
    simpa [k] using h2
  · intro k
    simpa [k] using h2
  · intro k
    simpa [k] using h2
theorem told_mk {q : Cd} {e : Ev} (h0 : sizesB q.T q.V q.S = true) (h1 : 0 ≤ e.th ∧ e.th ≤ q.T - 1) (hk : MayK e q.V q.S) (k1 : e.kd = 1 → q.clk ≤ e.v) (k2 : e.kd = 2 → e.v ≤ q.bg e.th.toNat) (k5 : e.kd = 5 → q.clk < e.v) (k7 : e.kd = 7 → e.v = 0 ∨ e.v = q.bp e.th.toNat) : mayT q e = true := by
  unfold mayT
  rw [(may_iff e q.T q.V q.S).2 ⟨h0, h1, hk⟩, Bool.true_and]
  split
  · exact decide_eq_true (k1 (by assumption))
  · split
    · exact decide_eq_true (k2 (by assumption))
    · split
      · exact decide_eq_true (k5 (by assumption))
      · split
        · rcases k7 (by assumption) with h | h <;> simp [h]
        · rfl
theorem u64s {n : Int} (h : 0 ≤ n) (h2 : n < 18446744073709551616) : u64 n = n := u64_id h h2
theorem whoP_w {q : Cd} {e : Ev} (hq : CdOk q) (h : mayT q e = true) : okW [] (u64 (whoN q e)) 0 (13 * q.T - 1) ∧ whoP q numW e [] = (e, Vm.put (whoN q e).toNat) := by
  obtain ⟨h0, h1, hk, _⟩ := told_of hq h
  obtain ⟨b0, b1, b2, b3⟩ := who_back hk h0 h1 hq.l0 hq.l1 hq.T1
  have hT := hq.T1
  have hu : u64 (whoN q e) = whoN q e := u64s b0 (by unfold whoN; omega)
  constructor
  · rw [hu]
    exact ⟨b0, b1, by omega, by simp⟩
  · unfold whoP numW
    rw [hu]
    simp only [whoN] at b2 b3 ⊢
    rw [b2, b3]
    simp
theorem put10 (n : Nat) : (Vm.put n).length ≤ 10 := (Vm.put_len n).2
theorem part_w {q : Cd} {e : Ev} {s : List UInt8} (hq : CdOk q) (h : mayT q e = true) (hs : s.length ≤ 50) : partOk q numW okW e s ∧ partP q numW e s = (e, s ++ putsL (restN q e)) := by
  obtain ⟨h0, h1, hk, hv, hm, k1, k2, k5, k7⟩ := told_of hq h
  have hT := hq.T1
  have c0 := hq.c0
  have c1 := hq.c1
  have hbg := hq.bg e.th.toNat
  have hbp := hq.bp e.th.toNat
  have v1 := hq.V1
  have s1 := hq.S1
  obtain ⟨kd, th, tx, pl, v, x, why⟩ := e
  simp only at h0 h1 hk hv k1 k2 k5 k7 hbg hbp
  have p0 := put10 tx.toNat
  have p1 := put10 pl.toNat
  have p2 := put10 (why - 1).toNat
  have p3 := put10 (why.toNat - 1)
  unfold MayK at hm
  simp only at hm
  have hkk : kd = 1 ∨ kd = 2 ∨ (kd = 3 ∨ kd = 8) ∨ (kd = 4 ∨ kd = 6 ∨ kd = 9 ∨ kd = 11) ∨ kd = 5 ∨ kd = 7 ∨ kd = 10 ∨ (kd = 12 ∨ kd = 13) := by omega
  rcases hkk with rfl | rfl | hkk | hkk | rfl | rfl | rfl | hkk
  · have hvc := k1 rfl
    have e1 : u64 tx = tx := u64s (by omega) (by omega)
    have e2 : u64 (v - q.clk) = v - q.clk := u64s (by omega) (by omega)
    constructor
    · simp only [partOk, txP, numW, okW, e1, e2]
      simp
      omega
    · simp only [partP, beginP, clkP, txP, numW, e1, e2, restN, putsL]
      simp
      omega
  · have hvc := k2 rfl
    have e1 : u64 pl = pl := u64s (by omega) (by omega)
    have e2 : u64 (q.bg th.toNat - v) = q.bg th.toNat - v := u64s (by omega) (by omega)
    constructor
    · simp only [partOk, stripeP, numW, okW, e1, e2]
      simp
      omega
    · simp only [partP, lookP, seenP, stripeP, numW, e1, e2, restN, putsL]
      simp
      omega
  · have e1 : u64 pl = pl := u64s (by omega) (by omega)
    have hx0 := i64w_lo (x - q.xs pl.toNat)
    have hx1 := i64w_hi (x - q.xs pl.toNat)
    have z0 := zig_lo _ hx0
    have z1 := zig_hi _ hx0 hx1
    have hn1 : ¬ kd = 1 := by omega
    have hn2 : ¬ kd = 2 := by omega
    have hxx : i64w (q.xs pl.toNat + zagV (zigV (i64w (x - q.xs pl.toNat)))) = x := by
      rw [zag_zig]
      have hb := hq.xs pl.toNat
      unfold i64w
      rw [IntKind.wrap_i64, IntKind.wrap_i64]
      omega
    constructor
    · simp only [partOk, varP, numW, okW, e1, hn1, hn2, hkk, if_true, if_false]
      simp
      omega
    · simp only [partP, valueP, numP, varP, numW, e1, restN, putsL, hn1, hn2, hkk, if_true, if_false, hxx]
      simp
  · have e1 : u64 pl = pl := u64s (by omega) (by omega)
    have hn1 : ¬ kd = 1 := by omega
    have hn2 : ¬ kd = 2 := by omega
    have hn3 : ¬ (kd = 3 ∨ kd = 8) := by omega
    constructor
    · simp only [partOk, okW, e1, hn1, hn2, hn3, hkk, if_true, if_false]
      omega
    · simp only [partP, stripeP, numW, e1, restN, putsL, hn1, hn2, hn3, hkk, if_true, if_false]
      simp
  · have hvc := k5 rfl
    have e2 : u64 (v - q.clk) = v - q.clk := u64s (by omega) (by omega)
    constructor
    · simp only [partOk, okW, e2]
      simp
      omega
    · simp only [partP, bumpP, numW, e2, restN, putsL]
      simp
      omega
  · have hvc := k7 rfl
    have e2 : u64 (min v 1) = min v 1 := u64s (by omega) (by omega)
    constructor
    · simp only [partOk, okW, e2]
      simp
      omega
    · have hbv : q.bp th.toNat * min v 1 = v := by
        rcases hvc with h | h
        · rw [h, show min (0 : Int) 1 = 0 from rfl, Int.mul_zero]
        · have : min v 1 = 0 ∨ min v 1 = 1 := by omega
          rcases this with h9 | h9 <;> rw [h9] <;> omega
      simp only [partP, commitP, numW, e2, restN, putsL, hbv]
      simp
  · have e1 : u64 pl = pl := u64s (by omega) (by omega)
    have e2 : u64 (why - 1) = why - 1 := u64s (by omega) (by omega)
    constructor
    · simp only [partOk, whyP, numW, okW, e1, e2]
      simp
      omega
    · have e3 : why - 1 + 1 = why := by omega
      by_cases h6 : why = 6
      · subst h6
        simp only [partP, abortP, whyP, numW, e2, restN, putsL]
        simp
      · simp only [partP, abortP, whyP, stripeP, numW, e1, e2, e3, restN, putsL, h6, if_false]
        simp
  · have hn : ¬ kd = 1 ∧ ¬ kd = 2 ∧ ¬ (kd = 3 ∨ kd = 8) ∧ ¬ (kd = 4 ∨ kd = 6 ∨ kd = 9 ∨ kd = 11) ∧ ¬ kd = 5 ∧ ¬ kd = 7 ∧ ¬ kd = 10 := by omega
    obtain ⟨n1, n2, n3, n4, n5, n7, n10⟩ := hn
    constructor
    · simp only [partOk, n1, n2, n3, n4, n5, n7, n10, if_false]
    · simp only [partP, restN, putsL, n1, n2, n3, n4, n5, n7, n10, if_false]
      simp
theorem pass_w {q : Cd} {e : Ev} (hq : CdOk q) (h : mayT q e = true) : partOk q numW okW (whoP q numW e []).1 (whoP q numW e []).2 ∧ passP q numW e [] = (e, evB q e) := by
  have hw := (whoP_w hq h).2
  have hp := part_w (s := Vm.put (whoN q e).toNat) hq h (by have := put10 (whoN q e).toNat; omega)
  unfold passP
  rw [hw]
  exact ⟨hp.1, by rw [hp.2]; simp [evB, putsL]⟩
end Go.Proofs.YteigglhhnemngaaGreatDoor
namespace Go.Proofs.YteigglhhnemngaaGreatDoor
set_option maxRecDepth 100000
open Go.RowKit Go.Deep
set_option linter.unusedVariables false
set_option linter.unusedSimpArgs false
structure FrT (B gw gc : Nat) (w w' : World) : Prop where
  os : w'.os = w.os
  tape : w'.tape = w.tape
  output : w'.output = w.output
  size : w.heap.size ≤ w'.heap.size
  block : ∀ i, i < w.heap.size → i ≠ gw → i ≠ gc → (i < B ∨ ∃ cs t, w.heap[i]? = some (.cells cs t (0, 0)) ∧ t ≠ 5) → w'.heap[i]? = w.heap[i]?
theorem FrT.refl (B gw gc : Nat) (w : World) : FrT B gw gc w w := ⟨rfl, rfl, rfl, Nat.le_refl _, fun _ _ _ _ _ => rfl⟩
theorem FrT.trans {B gw gc : Nat} {a b c : World} (h : FrT B gw gc a b) (k : FrT B gw gc b c) : FrT B gw gc a c :=
  ⟨k.os.trans h.os, k.tape.trans h.tape, k.output.trans h.output, Nat.le_trans h.size k.size, fun i hi h1 h2 h3 => by
    have e := h.block i hi h1 h2 h3
    refine (k.block i (Nat.lt_of_lt_of_le hi h.size) h1 h2 ?_).trans e
    rcases h3 with h3 | ⟨cs, t, h4, h5⟩
    · exact .inl h3
    · exact .inr ⟨cs, t, by rw [e]; exact h4, h5⟩⟩
theorem FrT.of_below {B gw gc : Nat} {w w' : World} (h : Below w.heap.size w w') : FrT B gw gc w w' := ⟨h.os, h.tape, h.output, h.size, fun i hi _ _ _ => h.block i hi⟩
theorem FrT.of_kp {B gw gc : Nat} {w w' : World} (h : Kp gc none w w') : FrT B gw gc w w' := ⟨h.os, h.tape, h.output, h.size, fun i hi _ h2 _ => h.block i hi h2 (by simp)⟩
theorem FrT.below {B gw gc B0 : Nat} {w w' : World} (h : FrT B gw gc w w') (h1 : B0 ≤ gw) (h2 : B0 ≤ gc) (h3 : B0 ≤ B) (h4 : B0 ≤ w.heap.size) : Below B0 w w' :=
  ⟨h.os, h.tape, h.output, h.size, fun i hi => h.block i (by omega) (by omega) (by omega) (.inl (by omega))⟩
theorem FrT.cells {B gw gc : Nat} {w w' : World} (h : FrT B gw gc w w') {i : Nat} {cs : Array Value} {t : TypeId} (hi : w.heap[i]? = some (.cells cs t (0, 0))) (ht : t ≠ 5) (h1 : i ≠ gw) (h2 : i ≠ gc) : w'.heap[i]? = some (.cells cs t (0, 0)) :=
  (h.block i (Array.getElem?_eq_some_iff.1 hi).1 h1 h2 (.inr ⟨cs, t, hi, ht⟩)).trans hi
theorem own_not {w : World} {B g gw : Nat} {most : Int} {l : List UInt8} {v : Value} {cs : Array Value} {t : TypeId} (h : WrV w B gw most l v) (hg : w.heap[g]? = some (.cells cs t (0, 0))) (ht : t ≠ 5) : some g ≠ v.ownBlock := fun e => Obj.unlike_row (w := w) (g := g) (t := t) (cs := cs) hg h.2.1 ht e.symm
def wrE (q : Cd) (most : Int) (l : List UInt8) (e : Ev) : Int := if mayT q e = true then rawE most l (evB q e) else 4
def wrL (q : Cd) (most : Int) (l : List UInt8) (e : Ev) : List UInt8 := if mayT q e = true then rawL most l (evB q e) else l
def wrQ (q : Cd) (most : Int) (l : List UInt8) (e : Ev) : Cd := if mayT q e = true ∧ rawE most l (evB q e) = 0 then knowQ q e else q
def WriteP (B gw gc : Nat) (q : Cd) (most : Int) (l : List UInt8) (e : Ev) (w : World) (r : Ending) (w' : World) : Prop :=
  r = .returned (.int .i64 (wrE q most l e)) ∧ Wr w' B gw most (wrL q most l e) ∧ CodAt w' gc (wrQ q most l e) ∧ FrT B gw gc w w'
theorem CodAt.not_writer {w : World} {gc gw : Nat} {q : Cd} {B : Nat} {most : Int} {l : List UInt8} (h : CodAt w gc q) (hw : Wr w B gw most l) : gc ≠ gw := by
  obtain ⟨v, hw⟩ := hw
  exact Obj.unlike (w := w) (g := gc) (t := 102) h hw.1 (by decide)
theorem FrT.of_raw {B gw gc : Nat} {w w' : World} {most : Int} {l : List UInt8} {v : Value} (h : WrV w B gw most l v) (k : Kp gw v.ownBlock w w') : FrT B gw gc w w' :=
  ⟨k.os, k.tape, k.output, k.size, fun i hi h1 _ h3 => k.block i hi h1 (fun x => by
    rcases h3 with h3 | ⟨cs, t, h4, h5⟩
    · have := (h.row_lt i x.symm).1
      omega
    · exact own_not h h4 h5 x)⟩
theorem putsL_len (ns : List Int) : (putsL ns).length ≤ 10 * ns.length := by
  induction ns with
  | nil => simp [putsL]
  | cons n r ih =>
    have := put10 n.toNat
    simp only [putsL, List.flatMap_cons, List.length_append, List.length_cons] at ih ⊢
    omega
theorem evB_len (q : Cd) (e : Ev) : (evB q e).length ≤ 30 := by
  have h := putsL_len (whoN q e :: restN q e)
  have : (restN q e).length ≤ 2 := by
    unfold restN
    repeat' split
    all_goals simp
  unfold evB
  simp only [List.length_cons] at h
  omega
theorem evsix {w : World} {g : Nat} {e : Ev} (h : EvO w g e) : w.cell? ⟨g, 0, none⟩ = some (.int .u8 e.kd) ∧ w.cell? ⟨g, 1, none⟩ = some (.int .i64 e.th) ∧ w.cell? ⟨g, 2, none⟩ = some (.int .i64 e.tx) ∧ w.cell? ⟨g, 3, none⟩ = some (.int .i64 e.pl) ∧ w.cell? ⟨g, 4, none⟩ = some (.int .i64 e.v) ∧ w.cell? ⟨g, 5, none⟩ = some (.int .i64 e.x) ∧ w.cell? ⟨g, 6, none⟩ = some (.int .u8 e.why) := ⟨h.c0, h.c1, h.c2, h.c3, h.c4, h.c5, h.c6⟩
set_option maxHeartbeats 4000000 in
theorem write_anyD (q : Cd) (hq : CdOk q) (e : Ev) (ok' : EvOk e) (B gc gw : Nat) (most : Int) (l : List UInt8) (w : World) (hek : Ek w) (hcd : CodAt w gc q) (hwr : Wr w B gw most l) (hB : B ≤ w.heap.size) :
    Calls Tryz.prog 26 #[.pointer (some ⟨gc, 0, none⟩), .pointer (some ⟨gw, 0, none⟩), evV e] w (WriteP B gw gc q most l e w) := by
  have hne := hcd.not_writer hwr
  obtain ⟨w1, hw1⟩ : ∃ w1, w.alloc (.cells (evC e) 50) = w1 := ⟨_, rfl⟩
  have hb1 : Below w.heap.size w w1 := by rw [← hw1]; exact (Below.refl _ _).alloc (Nat.le_refl _) _
  have he1 : EvO w1 w.heap.size e := by rw [← hw1]; exact heap_alloc_new w _
  have HC1 := Lib.hid (hcd.below hb1)
  have HW1 : Hid (Wr w1 B gw most l) := hwr.below hb1 (Nat.le_refl _)
  have HK1 := Lib.hid (hek.below hb1)
  have HE1 := Lib.hid he1
  have HB1 := Lib.hid hb1
  have HW := Lib.hid hw1
  have hlc : gc < w.heap.size := hcd.lt
  have hlw : gw < w.heap.size := by obtain ⟨v, h⟩ := hwr; exact h.1.lt
  have HEV : Hid (evV e = .agg #[.int .u8 e.kd, .int .i64 e.th, .int .i64 e.tx, .int .i64 e.pl, .int .i64 e.v, .int .i64 e.x, .int .u8 e.why]) := rfl
  rw [HEV.out]
  have HL := Lib.hid hlc
  have HL2 := Lib.hid hlw
  clear hb1 he1 hw1 hwr hek hcd hlc hlw
  go_enter Tryz.func26, Tryz.ntmps26
  go_wp2_with fail
  rw [show w.alloc (.cells #[.int .u8 e.kd, .int .i64 e.th, .int .i64 e.tx, .int .i64 e.pl, .int .i64 e.v, .int .i64 e.x, .int .u8 e.why] 50) = w1 from HW.out]
  obtain ⟨ge, hge⟩ : ∃ g, g = w.heap.size := ⟨_, rfl⟩
  have HGE := Lib.hid hge
  rw [← hge] at HE1 HL HL2 ⊢
  clear hge HW
  refine (none_any q hq gc w1 HC1.out).mono ?_
  rintro _ w2 ⟨rfl, rfl⟩
  obtain ⟨x0, x1, x2, x3, x4, x5, x6⟩ := evsix HE1.out
  by_cases hm : mayT q e = true
  rotate_left
  · have hm : mayT q e = false := by simpa using hm
    have HMAY := may_anyD q hq e ok' gc w1 HK1.out HC1.out
    rw [hm, HEV.out] at HMAY
    have HP : Hid (∀ w', Below w1.heap.size w1 w' → WriteP B gw gc q most l e w (.returned (.int .i64 4)) w') := fun w' b => by
      refine ⟨by simp [wrE, hm], ?_, ?_, ?_⟩
      · simp only [wrL, hm]
        exact HW1.out.below b (Nat.le_refl _)
      · simp only [wrQ, hm]
        exact HC1.out.below b
      · exact (FrT.of_below HB1.out).trans (FrT.of_below b)
    have HH := Lib.hid HMAY
    clear HMAY hm ok'
    go_wp2_with fail
    refine HH.out.mono ?_
    rintro _ w2 ⟨rfl, b2⟩
    go_wp2_with fail
    go_ret
    exact HP.out w2 b2
  · have HMAY := may_anyD q hq e ok' gc w1 HK1.out HC1.out
    rw [hm, HEV.out] at HMAY
    have HH := Lib.hid HMAY
    have HM := Lib.hid hm
    have HOK := Lib.hid ok'
    clear HMAY hm ok'
    go_wp2_with fail
    refine HH.out.mono ?_
    rintro _ w2 ⟨rfl, b2⟩
    have C2 := Lib.hid (HC1.out.below b2)
    have W2 : Hid (Wr w2 B gw most l) := HW1.out.below b2 (Nat.le_refl _)
    have E2 := Lib.hid (HE1.out.below b2)
    have B2 := Lib.hid (HB1.out.trans (b2.mono HB1.out.size))
    clear b2 x0 x1 x2 x3 x4 x5 x6 HC1 HW1 HE1 HB1 HK1 HH
    go_wp2_with fail
    have hbx : Below w2.heap.size w2 (w2.alloc (.cells #[.string ⟨#[]⟩] 9)) := (Below.refl _ _).alloc (Nat.le_refl _) _
    have hbox : BoxS w2.heap.size [] (w2.alloc (.cells #[.string ⟨#[]⟩] 9)) := heap_alloc_new w2 _
    generalize w2.alloc (.cells #[.string ⟨#[]⟩] 9) = w3 at hbx hbox ⊢
    obtain ⟨gt, hgt⟩ : ∃ g, g = w2.heap.size := ⟨_, rfl⟩
    have n1 : gt ≠ ge := by have := E2.out.lt; omega
    have n2 : gt ≠ gc := by have := C2.out.lt; omega
    have n3 : ge ≠ gc := by have := HL.out; omega
    have n4 : gt ≠ gw := by obtain ⟨v, h⟩ := W2.out; have := h.1.lt; omega
    have n5 : ge ≠ gw := by have := HL2.out; omega
    rw [← hgt] at hbx hbox ⊢
    have E3 := Lib.hid (E2.out.below (by rw [← hgt]; exact hbx))
    have C3 := Lib.hid (C2.out.below (by rw [← hgt]; exact hbx))
    have W3 : Hid (Wr w3 B gw most l) := W2.out.below hbx (by omega)
    have hN := numC_w gt ge gc n1 n2 n3
    have hT := told_of hq HM.out
    have hP := pass_any hN q hq e [] w3 HOK.out E3.out C3.out hbox ⟨hT.1, hT.2.1⟩ (by have := hT.2.2.2.1; omega) (whoP_w hq HM.out).1 (pass_w hq HM.out).1
    rw [(pass_w hq HM.out).2] at hP
    have HPP := Lib.hid hP
    have HBX := Lib.hid hbox
    have B3 : Hid (Below w.heap.size w w3) := B2.out.trans (hbx.mono (by rw [hgt]; exact B2.out.size))
    have HT := Lib.hid hT
    have N1 := Lib.hid n1
    have N2 := Lib.hid n2
    have N3 := Lib.hid n3
    have N4 := Lib.hid n4
    have N5 := Lib.hid n5
    have HNE := Lib.hid hne
    have HGT : Hid (w.heap.size ≤ gt) := by show _ ≤ _; rw [hgt]; exact B2.out.size
    clear hP hN hT hbx hbox hgt n1 n2 n3 n4 n5 E2 C2 W2 B2 hne
    refine HPP.out.mono ?_
    rintro _ w4 ⟨rfl, e4, bx, k4⟩
    have e4 : EvO w4 ge e := e4
    have bx : BoxS gt (evB q e) w4 := bx
    obtain ⟨v, hv⟩ := W3.out
    have o1 := own_not hv HBX.out (by decide)
    have o2 := own_not hv E3.out (by decide)
    have hv4 : WrV w4 B gw most l v := hv.same (k4.block gw hv.1.lt (Ne.symm N4.out) (fun x => N5.out (Option.some.inj x).symm)) (fun r hr => k4.block r (hv.row_lt r hr).2 (fun x => o1 (by rw [← x]; exact hr.symm)) (fun x => o2 (by rw [← x]; exact hr.symm)))
    have c4 : CodAt w4 gc q := C3.out.same (k4.block gc C3.out.lt (Ne.symm N2.out) (fun x => N3.out (Option.some.inj x).symm))
    have B4 : Hid (Below w.heap.size w w4) := ⟨k4.os.trans B3.out.os, k4.tape.trans B3.out.tape, k4.output.trans B3.out.output, Nat.le_trans B3.out.size k4.size, fun i hi => (k4.block i (Nat.lt_of_lt_of_le hi B3.out.size) (by have := HGT.out; omega) (fun x => by have := HGE.out; have := Option.some.inj x; omega)).trans (B3.out.block i hi)⟩
    have hlen := evB_len q e
    have hraw := raw_any B gw most l v (bs (evB q e)) w4 hv4 (Nat.le_trans hB B4.out.size) (by rw [bs_size]; omega)
    rw [bs_bytes] at hraw
    have HRAW := Lib.hid hraw
    have V4 := Lib.hid hv4
    have C4 := Lib.hid c4
    have E4 := Lib.hid e4
    have fx : w4.cell? ⟨gt, 0, none⟩ = some (.string (bs (evB q e))) := cell_of_row w4 gt 0 _ _ _ bx
    clear hraw hv4 c4 e4 bx k4 o1 o2 hv hlen HPP HBX W3 E3 C3 B3
    go_wp2_with fail
    refine HRAW.out.mono ?_
    rintro _ w5 ⟨rfl, w5', k5⟩
    have F5 := Lib.hid ((FrT.of_below B4.out : FrT B gw gc w w4).trans (FrT.of_raw V4.out k5))
    have c5 : CodAt w5 gc q := C4.out.same (k5.block gc C4.out.lt HNE.out (own_not V4.out C4.out (by decide)))
    have e5 : EvO w5 ge e := E4.out.same (k5.block ge E4.out.lt N5.out (own_not V4.out E4.out (by decide)))
    by_cases hz : rawE most l (evB q e) = 0
    rotate_left
    · have q5 : (rawE most l (evB q e) != 0) = true := bne_iff_ne.2 hz
      have HP : Hid (WriteP B gw gc q most l e w (.returned (.int .i64 (rawE most l (evB q e)))) w5) := by
        refine ⟨by rw [wrE, if_pos HM.out], ?_, ?_, F5.out⟩
        · rw [wrL, if_pos HM.out]
          exact w5'
        · rw [wrQ, if_neg (fun x => hz x.2)]
          exact c5
      generalize rawE most l (evB q e) = z at q5 HP ⊢
      clear c5 e5 hz w5' k5 F5 HRAW
      go_wp2_with fail
      go_ret
      exact HP.out
    · have e5x := evsix e5
      have HMK := told_of hq HM.out
      have hknow := know_anyD q e gc w5 c5 ⟨HMK.1, by have := HMK.2.1; have := hq.T1; omega⟩ (fun hk => by have := HMK.2.2.2.2.1; unfold MayK at this; have := hq.V1; omega)
      rw [HEV.out] at hknow
      have HKN := Lib.hid hknow
      have W5 := Lib.hid w5'
      have hE : wrE q most l e = 0 := by rw [wrE, if_pos HM.out, hz]
      have hL : wrL q most l e = rawL most l (evB q e) := by rw [wrL, if_pos HM.out]
      have hQ : wrQ q most l e = knowQ q e := by rw [wrQ, if_pos ⟨HM.out, hz⟩]
      have HZ : Hid (∀ w6, CodAt w6 gc (knowQ q e) → Kp gc none w5 w6 → WriteP B gw gc q most l e w (.returned (.int .i64 0)) w6) := fun w6 c6 k6 => by
        refine ⟨by rw [hE], ?_, by rw [hQ]; exact c6, F5.out.trans (FrT.of_kp k6)⟩
        rw [hL]
        obtain ⟨v5, hv5⟩ := W5.out
        exact ⟨v5, hv5.same (k6.block gw hv5.1.lt (Ne.symm HNE.out) (by simp)) (fun r hr => k6.block r (hv5.row_lt r hr).2 (fun x => own_not hv5 c5 (by decide) (by rw [← x]; exact hr.symm)) (by simp))⟩
      rw [hz]
      obtain ⟨x0, x1, x2, x3, x4, x5, x6⟩ := e5x
      clear hE hL hQ hknow HMK hz w5' k5 F5 HRAW e5
      go_wp2_with fail
      refine HKN.out.mono ?_
      rintro _ w6 ⟨rfl, c6, k6⟩
      go_wp2_with fail
      go_ret
      exact HZ.out w6 c6 k6
end Go.Proofs.YteigglhhnemngaaGreatDoor
namespace Go.Proofs.YteigglhhnemngaaGreatDoor
set_option maxRecDepth 100000
open Go.RowKit Go.Deep
set_option linter.unusedVariables false
set_option linter.unusedSimpArgs false
def RdI (gr gb : Nat) (S : ByteArray) (x : Nat × Int) (w : World) : Prop := Rd w gr S x.1 x.2 ∧ w.heap[gb]? = some (.cells #[.pointer (some ⟨gr, 0, none⟩)] 63 (0, 0))
def nmR (S : ByteArray) (x : Nat × Int) (n l m : Int) : Int × (Nat × Int) :=
  if (rNum m S x.1 x.2).2.1 = 0 ∧ (rNum m S x.1 x.2).1 < l then ((rNum m S x.1 x.2).1, (x.1, 20)) else ((rNum m S x.1 x.2).1, ((rNum m S x.1 x.2).2.2.1, (rNum m S x.1 x.2).2.2.2))
def okR (x : Nat × Int) (n l m : Int) : Prop := 0 ≤ l ∧ 0 ≤ m ∧ m < 18446744073709551616
theorem rNum_val {m : Int} (hm : 0 ≤ m) (S : ByteArray) (a : Nat) (wr : Int) : 0 ≤ (rNum m S a wr).1 ∧ (rNum m S a wr).1 ≤ m := by
  unfold rNum rd tNum
  by_cases h1 : wr = 0
  · rw [if_pos h1]
    by_cases h2 : (Vm.get (S.data.toList.drop a)).2.2 = 0
    · rw [if_pos h2]
      by_cases h3 : m < ((Vm.get (S.data.toList.drop a)).1 : Int)
      · rw [if_pos h3]
        simp only
        rw [if_neg (by decide)]
        exact ⟨Int.le_refl _, hm⟩
      · rw [if_neg h3]
        simp only [if_true]
        omega
    · rw [if_neg h2]
      simp only
      rw [if_neg (by omega)]
      exact ⟨Int.le_refl _, hm⟩
  · rw [if_neg h1]
    exact ⟨Int.le_refl _, hm⟩
theorem rNum_ok {m : Int} {S : ByteArray} {a : Nat} {wr : Int} (h : (rNum m S a wr).2.1 = 0) : wr = 0 ∧ (rNum m S a wr).2.2.2 = 0 ∧ a ≤ (rNum m S a wr).2.2.1 := by
  unfold rNum rd at h ⊢
  by_cases hw : wr = 0
  · rw [if_pos hw] at h ⊢
    by_cases ht : (tNum m (S.data.toList.drop a)).2.2 = 0
    · rw [if_pos ht] at h ⊢
      exact ⟨hw, rfl, by simp⟩
    · rw [if_neg ht] at h
      exact absurd h ht
  · rw [if_neg hw] at h
    exact absurd h hw
set_option maxHeartbeats 1000000 in
theorem num_clo (gr gb : Nat) (S : ByteArray) (x : Nat × Int) (n l m : Int) (w : World) (ho : okR x n l m) (hI : RdI gr gb S x w) :
    Calls Tryz.prog 127 #[.int .u64 n, .int .u64 l, .int .u64 m, .pointer (some ⟨gb, 0, none⟩)] w fun r w' => r = .returned (.int .u64 (nmR S x n l m).1) ∧ RdI gr gb S (nmR S x n l m).2 w' ∧ Kp gr none w w' := by
  obtain ⟨a, wr⟩ := x
  obtain ⟨hr, hb⟩ := hI
  have hgb : gb ≠ gr := by
    rintro rfl
    have := hr.1
    unfold Obj at this
    rw [hb] at this
    injection this with this
    injection this with _ e
    exact absurd e (by decide)
  have HA := Lib.hid (at_any gr S a wr w hr)
  have HN := Lib.hid (rNum_any m gr S a wr w hr)
  have hok := @rNum_ok m S a wr
  have hbox : w.cell? ⟨gb, 0, none⟩ = some (.pointer (some ⟨gr, 0, none⟩)) := cell_of_row w gb 0 _ _ _ hb
  unfold nmR
  simp only at hr ⊢
  generalize (rNum m S a wr).1 = z at *
  generalize (rNum m S a wr).2.1 = er at *
  generalize (rNum m S a wr).2.2.1 = a1 at *
  generalize (rNum m S a wr).2.2.2 = wr1 at *
  have HB := Lib.hid hb
  have HG := Lib.hid hgb
  generalize hR : (if er = 0 ∧ z < l then (z, (a, (20 : Int))) else (z, (a1, wr1))) = R
  have HR := Lib.hid hR
  have HOK := Lib.hid hok
  clear hr hb hgb hok hR ho
  go_enter Tryz.func127, Tryz.ntmps127
  go_wp2_with fail
  refine HA.out.mono ?_
  rintro _ w2 ⟨rfl, rfl⟩
  go_wp2_with fail
  refine HN.out.mono ?_
  rintro _ w2 ⟨rfl, h1, h2⟩
  have hb2 : w2.heap[gb]? = some (.cells #[.pointer (some ⟨gr, 0, none⟩)] 63 (0, 0)) := (h2.block gb (Array.getElem?_eq_some_iff.1 HB.out).1 HG.out (by simp)).trans HB.out
  have hbox2 : w2.cell? ⟨gb, 0, none⟩ = some (.pointer (some ⟨gr, 0, none⟩)) := cell_of_row w2 gb 0 _ _ _ hb2
  have H1 := Lib.hid h1
  have H2 := Lib.hid h2
  have HB2 := Lib.hid hb2
  clear h1 h2 hb2 hbox HA HN HB
  by_cases he : er = 0
  rotate_left
  · have q0 : (er == 0) = false := beq_eq_false_iff_ne.2 he
    have hRR : R = (z, (a1, wr1)) := by rw [← HR.out, if_neg (fun h => he h.1)]
    subst hRR
    clear he HR HOK
    go_wp2_with fail
    go_ret
    exact ⟨rfl, ⟨H1.out, HB2.out⟩, H2.out⟩
  · subst he
    obtain ⟨w0, w1', ha1⟩ := HOK.out rfl
    by_cases hz : z < l
    rotate_left
    · have hRR : R = (z, (a1, wr1)) := by rw [← HR.out, if_neg (fun h => hz h.2)]
      subst hRR
      have hz2 : l ≤ z := by omega
      clear HR HOK hz w0 w1' ha1
      go_wp2_with fail
      go_ret
      exact ⟨rfl, ⟨H1.out, HB2.out⟩, H2.out⟩
    · have hRR : R = (z, (a, 20)) := by rw [← HR.out, if_pos ⟨rfl, hz⟩]
      subst hRR w1'
      have hF := rFail_any a 20 gr S a1 0 w2 H1.out
      have e1 : rFail a 20 a1 0 = (20, a, 20) := by
        unfold rFail
        rw [if_pos rfl, if_neg (by omega)]
        simp
      rw [e1] at hF
      have HF := Lib.hid hF
      clear HR HOK ha1 hF e1
      go_wp2_with fail
      refine HF.out.mono ?_
      rintro _ w3 ⟨rfl, g1, g2⟩
      have HB3 := Lib.hid ((g2.block gb (Array.getElem?_eq_some_iff.1 HB2.out).1 HG.out (by simp)).trans HB2.out)
      go_wp2_with fail
      go_ret
      exact ⟨rfl, ⟨g1, HB3.out⟩, H2.out.trans g2⟩
theorem numC_r (gr gb ge gc : Nat) (S : ByteArray) (h1 : gr ≠ ge) (h2 : gr ≠ gc) (h3 : ge ≠ gc) (h4 : gb ≠ ge) : NumC (k := 127) (P := ⟨gb, 0, none⟩) (gF := gr) (ge := ge) (gc := gc) (RdI gr gb S) (nmR S) okR where
  is := .inr rfl
  fe := h1
  fc := h2
  ec := h3
  call := fun s w n l m hI ho g0 g1 => num_clo gr gb S s n l m w ho hI
  le := fun s n l m ho => by
    have := rNum_val ho.2.1 S s.1 s.2
    unfold nmR
    split <;> exact this
  stay := fun s w w' hI hk => ⟨⟨hI.1.1.same (hk.block gr hI.1.1.lt h1 (by simp)), hI.1.2⟩, (hk.block gb (Array.getElem?_eq_some_iff.1 hI.2).1 h4 (by simp)).trans hI.2⟩
theorem partOk_r (q : Cd) (hq : CdOk q) (S : ByteArray) (e : Ev) (s : Nat × Int) : partOk q (nmR S) okR e s := by
  have := hq.S0
  have := hq.V0
  have := hq.V1
  have := hq.S1
  have := hq.c0
  have := hq.c1
  have := hq.bg e.th.toNat
  have := hq.bp e.th.toNat
  unfold partOk okR
  repeat' split
  all_goals first | omega | exact ⟨by omega, fun _ => by omega⟩ | trivial
end Go.Proofs.YteigglhhnemngaaGreatDoor
namespace Go.Proofs.YteigglhhnemngaaGreatDoor
set_option maxRecDepth 100000
open Go.RowKit Go.Deep
set_option linter.unusedVariables false
set_option linter.unusedSimpArgs false
def rdX (q : Cd) (S : ByteArray) (a : Nat) (wr : Int) : Ev × (Nat × Int) := passP q (nmR S) ev0 (a, wr)
theorem nmR_val {S : ByteArray} {x : Nat × Int} {n l m : Int} (hm : 0 ≤ m) : 0 ≤ (nmR S x n l m).1 ∧ (nmR S x n l m).1 ≤ m := by
  have := rNum_val hm S x.1 x.2
  unfold nmR
  split <;> exact this
theorem who_b (q : Cd) (hq : CdOk q) (S : ByteArray) (s : Nat × Int) (e : Ev) : 1 ≤ (whoP q (nmR S) e s).1.kd ∧ (whoP q (nmR S) e s).1.kd ≤ 13 ∧ 0 ≤ (whoP q (nmR S) e s).1.th ∧ (whoP q (nmR S) e s).1.th < q.T := by
  have T0 := hq.T0
  have l0 := hq.l0
  have hz := nmR_val (S := S) (x := s) (n := u64 (whoN q e)) (l := 0) (m := 13 * q.T - 1) (by omega)
  have hd := div13 hz.1 hz.2 T0
  have hm := modT (z := q.last + (nmR S s (u64 (whoN q e)) 0 (13 * q.T - 1)).1) (T := q.T) (by omega) T0
  unfold whoP
  simp only
  omega
theorem part_b (q : Cd) (hq : CdOk q) (S : ByteArray) (s : Nat × Int) (e : Ev) (ok : EvOk e) (hk : 1 ≤ e.kd ∧ e.kd ≤ 13) (ht : 0 ≤ e.th ∧ e.th < q.T) (hv : e.v = 0) :
    EvOk (partP q (nmR S) e s).1 ∧ (partP q (nmR S) e s).1.kd = e.kd ∧ (partP q (nmR S) e s).1.th = e.th ∧ (e.kd = 3 ∨ e.kd = 8 → 0 ≤ (partP q (nmR S) e s).1.pl ∧ (partP q (nmR S) e s).1.pl < 32) := by
  have := hq.S0
  have := hq.V0
  have := hq.V1
  have := hq.S1
  have := hq.c0
  have := hq.c1
  have hbg := hq.bg e.th.toNat
  have hbp := hq.bp e.th.toNat
  obtain ⟨o1, o2, o3, o4, o5, o6, o7, o8, o9, o10, o11, o12, o13, o14⟩ := ok
  by_cases k1 : e.kd = 1
  · have z1 := nmR_val (S := S) (x := s) (n := u64 e.tx) (l := 0) (m := 5) (by omega)
    have z2 := nmR_val (S := S) (x := (txP (nmR S) e s).2) (n := u64 (e.v - q.clk)) (l := 0) (m := 1099511627776 - q.clk) (by omega)
    have e1 : partP q (nmR S) e s = beginP q (nmR S) e s := by unfold partP; rw [if_pos k1]
    rw [e1]
    refine ⟨?_, rfl, rfl, fun h => by omega⟩
    unfold beginP clkP
    constructor <;> simp only [txP] at z2 ⊢ <;> omega
  by_cases k2 : e.kd = 2
  · have z1 := nmR_val (S := S) (x := s) (n := u64 e.pl) (l := 0) (m := q.S - 1) (by omega)
    have z2 := nmR_val (S := S) (x := (stripeP q (nmR S) e s).2) (n := u64 (q.bg e.th.toNat - e.v)) (l := 0) (m := q.bg e.th.toNat) (by omega)
    have e1 : partP q (nmR S) e s = lookP q (nmR S) e s := by unfold partP; rw [if_neg k1, if_pos k2]
    rw [e1]
    refine ⟨?_, rfl, rfl, fun h => by omega⟩
    unfold lookP seenP
    constructor <;> simp only [stripeP] at z2 ⊢ <;> omega
  by_cases k3 : e.kd = 3 ∨ e.kd = 8
  · have z1 := nmR_val (S := S) (x := s) (n := u64 e.pl) (l := 0) (m := q.V - 1) (by omega)
    have e1 : partP q (nmR S) e s = valueP q (nmR S) e s := by unfold partP; rw [if_neg k1, if_neg k2, if_pos k3]
    rw [e1]
    refine ⟨?_, rfl, rfl, fun h => ?_⟩
    · unfold valueP numP
      constructor <;> simp only [varP] <;> first | omega | exact i64w_lo _ | exact i64w_hi _
    · unfold valueP numP
      simp only [varP]
      omega
  by_cases k4 : e.kd = 4 ∨ e.kd = 6 ∨ e.kd = 9 ∨ e.kd = 11
  · have z1 := nmR_val (S := S) (x := s) (n := u64 e.pl) (l := 0) (m := q.S - 1) (by omega)
    have e1 : partP q (nmR S) e s = stripeP q (nmR S) e s := by unfold partP; rw [if_neg k1, if_neg k2, if_neg k3, if_pos k4]
    rw [e1]
    refine ⟨?_, rfl, rfl, fun h => by omega⟩
    unfold stripeP
    constructor <;> simp only <;> omega
  by_cases k5 : e.kd = 5
  · have z1 := nmR_val (S := S) (x := s) (n := u64 (e.v - q.clk)) (l := 1) (m := 1099511627776 - q.clk) (by omega)
    have e1 : partP q (nmR S) e s = bumpP q (nmR S) e s := by unfold partP; rw [if_neg k1, if_neg k2, if_neg k3, if_neg k4, if_pos k5]
    rw [e1]
    refine ⟨?_, rfl, rfl, fun h => by omega⟩
    unfold bumpP
    constructor <;> simp only <;> omega
  by_cases k7 : e.kd = 7
  · have z1 := nmR_val (S := S) (x := s) (n := u64 (min e.v 1)) (l := 0) (m := min (q.bp e.th.toNat) 1) (by omega)
    have e1 : partP q (nmR S) e s = commitP q (nmR S) e s := by unfold partP; rw [if_neg k1, if_neg k2, if_neg k3, if_neg k4, if_neg k5, if_pos k7]
    rw [e1]
    refine ⟨?_, rfl, rfl, fun h => by omega⟩
    unfold commitP
    have hb : 0 ≤ q.bp e.th.toNat * (nmR S s (u64 (min e.v 1)) 0 (min (q.bp e.th.toNat) 1)).1 ∧ q.bp e.th.toNat * (nmR S s (u64 (min e.v 1)) 0 (min (q.bp e.th.toNat) 1)).1 ≤ 1099511627776 := by
      have : (nmR S s (u64 (min e.v 1)) 0 (min (q.bp e.th.toNat) 1)).1 = 0 ∨ (nmR S s (u64 (min e.v 1)) 0 (min (q.bp e.th.toNat) 1)).1 = 1 := by omega
      rcases this with h | h <;> rw [h] <;> omega
    constructor <;> simp only <;> omega
  by_cases k10 : e.kd = 10
  · have z0 := nmR_val (S := S) (x := s) (n := u64 (e.why - 1)) (l := 0) (m := 5) (by omega)
    have z1 := nmR_val (S := S) (x := (whyP (nmR S) e s).2) (n := u64 e.pl) (l := 0) (m := q.S - 1) (by omega)
    have e1 : partP q (nmR S) e s = abortP q (nmR S) e s := by unfold partP; rw [if_neg k1, if_neg k2, if_neg k3, if_neg k4, if_neg k5, if_neg k7, if_pos k10]
    rw [e1]
    unfold abortP
    split
    · refine ⟨?_, rfl, rfl, fun h => by omega⟩
      unfold whyP
      constructor <;> simp only <;> omega
    · refine ⟨?_, rfl, rfl, fun h => by omega⟩
      unfold stripeP
      constructor <;> simp only [whyP] at z1 ⊢ <;> omega
  · have e1 : partP q (nmR S) e s = (e, s) := by unfold partP; rw [if_neg k1, if_neg k2, if_neg k3, if_neg k4, if_neg k5, if_neg k7, if_neg k10]
    rw [e1]
    exact ⟨⟨o1, o2, o3, o4, o5, o6, o7, o8, o9, o10, o11, o12, o13, o14⟩, rfl, rfl, fun h => by omega⟩
theorem ev0_ok : EvOk ev0 := by constructor <;> decide
theorem rd_b (q : Cd) (hq : CdOk q) (S : ByteArray) (a : Nat) (wr : Int) : EvOk (rdX q S a wr).1 ∧ 1 ≤ (rdX q S a wr).1.kd ∧ (rdX q S a wr).1.kd ≤ 13 ∧ 0 ≤ (rdX q S a wr).1.th ∧ (rdX q S a wr).1.th < q.T ∧ ((rdX q S a wr).1.kd = 3 ∨ (rdX q S a wr).1.kd = 8 → 0 ≤ (rdX q S a wr).1.pl ∧ (rdX q S a wr).1.pl < 32) := by
  obtain ⟨w1, w2, w3, w4⟩ := who_b q hq S (a, wr) ev0
  have hT := hq.T1
  have ok : EvOk (whoP q (nmR S) ev0 (a, wr)).1 := by
    refine ⟨by omega, by omega, ?_, ?_, by omega, by omega, ?_, ?_, ?_, ?_, ?_, ?_, ?_, ?_⟩ <;> (show (_ : Int) ≤ _; simp only [whoP]; decide)
  obtain ⟨p1, p2, p3, p4⟩ := part_b q hq S (whoP q (nmR S) ev0 (a, wr)).2 (whoP q (nmR S) ev0 (a, wr)).1 ok ⟨w1, w2⟩ ⟨w3, w4⟩ rfl
  unfold rdX passP
  exact ⟨p1, by rw [p2]; exact w1, by rw [p2]; exact w2, by rw [p3]; exact w3, by rw [p3]; exact w4, by rw [p2]; exact p4⟩
end Go.Proofs.YteigglhhnemngaaGreatDoor
namespace Go.Proofs.YteigglhhnemngaaGreatDoor
set_option maxRecDepth 100000
open Go.RowKit Go.Deep
set_option linter.unusedVariables false
set_option linter.unusedSimpArgs false
def rdV (q : Cd) (S : ByteArray) (a : Nat) (wr : Int) : Ev := if (rdX q S a wr).2.2 = 0 then (rdX q S a wr).1 else ev0
def rdQ (q : Cd) (S : ByteArray) (a : Nat) (wr : Int) : Cd := if (rdX q S a wr).2.2 = 0 then knowQ q (rdX q S a wr).1 else q
def ReadP (gr gc : Nat) (q : Cd) (S : ByteArray) (a : Nat) (wr : Int) (w : World) (r : Ending) (w' : World) : Prop :=
  r = .returned (.tuple #[evV (rdV q S a wr), .int .i64 (rdX q S a wr).2.2]) ∧ Rd w' gr S (rdX q S a wr).2.1 (rdX q S a wr).2.2 ∧ CodAt w' gc (rdQ q S a wr) ∧ Kp gr (some gc) w w'
theorem CodAt.not_reader {w : World} {gc gr : Nat} {q : Cd} {S : ByteArray} {a : Nat} {wr : Int} (h : CodAt w gc q) (hr : Rd w gr S a wr) : gc ≠ gr := Obj.unlike (w := w) (g := gc) (t := 102) h hr.1 (by decide)
theorem results_ctD {P : Program} {fn : Func} {p q : Tmp} {ty : TypeId} (h : fn.results = #[.cell p ty, .tmp q]) (tmps : Array Value) (w : World) (g : Nat) (t : TypeId) (cs : Array Value) (fr : Nat × Nat) (d : TypeDesc)
    (hp : tmps.getD p undef = .pointer (some ⟨g, 0, none⟩)) (hg : w.heap[g]? = some (.cells cs t fr))
    (hu : P.underlying ty = some d) (hd : (match d with | .struct _ | .array _ _ => true | _ => false) = true) (hi : (P.info? ty).map (·.size) = some cs.size) :
    (results fn tmps).run P w = .ok (.tuple #[.agg cs, tmps.getD q undef]) w := by
  have hp' : tmps[p]?.getD undef = .pointer (some ⟨g, 0, none⟩) := by simpa using hp
  simp [results, h, hp', asAddr, run_loadVar_row w g t ty cs fr d hg hu hd hi]
theorem row_set {w : World} {g : Nat} {old cs : Array Value} {t : TypeId} (h : w.heap[g]? = some (.cells old t (0, 0))) : (w.setRow g cs).heap[g]? = some (.cells cs t (0, 0)) ∧ Kp g none w (w.setRow g cs) :=
  ⟨setRow_heap _ _ _ _ _ _ h, ⟨rfl, rfl, rfl, by simp, fun i _ hi _ => setRow_other w g i cs hi⟩⟩
set_option maxHeartbeats 4000000 in
theorem read_anyD (q : Cd) (hq : CdOk q) (gc gr : Nat) (S : ByteArray) (a : Nat) (wr : Int) (w : World) (hcd : CodAt w gc q) (hrd : Rd w gr S a wr) :
    Calls Tryz.prog 104 #[.pointer (some ⟨gc, 0, none⟩), .pointer (some ⟨gr, 0, none⟩)] w (ReadP gr gc q S a wr w) := by
  have hne := hcd.not_reader hrd
  obtain ⟨w1, hw1⟩ : ∃ w1, (w.alloc (.cells #[.pointer (some ⟨gr, 0, none⟩)] 63)).alloc (.cells #[.int .u8 0, .int .i64 0, .int .i64 0, .int .i64 0, .int .i64 0, .int .i64 0, .int .u8 0] 50) = w1 := ⟨_, rfl⟩
  have ha1 : Below w.heap.size w (w.alloc (.cells #[.pointer (some ⟨gr, 0, none⟩)] 63)) := (Below.refl _ _).alloc (Nat.le_refl _) _
  have hb1 : Below w.heap.size w w1 := by rw [← hw1]; exact ha1.alloc ha1.size _
  have hbox : w1.heap[w.heap.size]? = some (.cells #[.pointer (some ⟨gr, 0, none⟩)] 63 (0, 0)) := by
    rw [← hw1]
    exact row_stays (heap_alloc_new w _) ((Below.refl _ _).alloc (Nat.le_refl _) _)
  have hev : EvO w1 (w.heap.size + 1) ev0 := by
    rw [← hw1]
    have h9 := heap_alloc_new (w.alloc (.cells #[.pointer (some ⟨gr, 0, none⟩)] 63)) (.cells (evC ev0) 50 (0, 0))
    rw [show (w.alloc (.cells #[.pointer (some ⟨gr, 0, none⟩)] 63)).heap.size = w.heap.size + 1 by simp] at h9
    exact h9
  have HC1 := Lib.hid (hcd.below hb1)
  have HR1 : Hid (Rd w1 gr S a wr) := rd_more hrd hb1
  have HBX := Lib.hid hbox
  have HEV := Lib.hid hev
  have HB1 := Lib.hid hb1
  have HW := Lib.hid hw1
  have HLC := Lib.hid hcd.lt
  have HLR := Lib.hid hrd.1.lt
  have HNE := Lib.hid hne
  clear ha1 hb1 hbox hev hw1 hcd hrd hne
  go_enter Tryz.func104, Tryz.ntmps104
  go_wp2_with fail
  rw [HW.out]
  obtain ⟨gb, hgb⟩ : ∃ g, g = w.heap.size := ⟨_, rfl⟩
  obtain ⟨gv, hgv⟩ : ∃ g, g = gb + 1 := ⟨_, rfl⟩
  have HGB := Lib.hid hgb
  have HGV := Lib.hid hgv
  rw [← hgb] at HBX HEV HLC HLR ⊢
  rw [← hgv] at HEV ⊢
  clear hgb hgv HW
  refine (none_any q hq gc w1 HC1.out).mono ?_
  rintro _ w2 ⟨rfl, rfl⟩
  have b0 : w1.cell? ⟨gb, 0, none⟩ = some (.pointer (some ⟨gr, 0, none⟩)) := cell_of_row w1 gb 0 _ _ _ HBX.out
  go_wp2_with fail
  have hb2 : Below w1.heap.size w1 (w1.alloc (.cells #[.int .u8 0, .int .i64 0, .int .i64 0, .int .i64 0, .int .i64 0, .int .i64 0, .int .u8 0] 50)) := (Below.refl _ _).alloc (Nat.le_refl _) _
  have he2 : EvO (w1.alloc (.cells #[.int .u8 0, .int .i64 0, .int .i64 0, .int .i64 0, .int .i64 0, .int .i64 0, .int .u8 0] 50)) w1.heap.size ev0 := heap_alloc_new w1 _
  generalize w1.alloc (.cells #[.int .u8 0, .int .i64 0, .int .i64 0, .int .i64 0, .int .i64 0, .int .i64 0, .int .u8 0] 50) = w2 at hb2 he2 ⊢
  have C2 := Lib.hid (HC1.out.below hb2)
  have R2 := Lib.hid (rd_more HR1.out hb2)
  have X2 := Lib.hid (row_stays HBX.out hb2)
  have V2 := Lib.hid (HEV.out.below hb2)
  have hlv := V2.out.lt
  have HS : Hid (w.heap.size + 2 ≤ w1.heap.size) := by show _ ≤ _; have := HEV.out.lt; have := HGB.out; have := HGV.out; omega
  have B2 := Lib.hid (HB1.out.trans (hb2.mono HB1.out.size))
  obtain ⟨ge, hge⟩ : ∃ g, g = w1.heap.size := ⟨_, rfl⟩
  rw [← hge] at he2 ⊢
  have n1 : gr ≠ ge := by have := HLR.out; have := HGB.out; have := HS.out; omega
  have n2 : gr ≠ gc := Ne.symm HNE.out
  have n3 : ge ≠ gc := by have := HLC.out; have := HGB.out; have := HS.out; omega
  have n4 : gb ≠ ge := by have := HGB.out; have := HS.out; omega
  have n5 : gv ≠ ge := by have := HGB.out; have := HGV.out; have := HS.out; omega
  have n6 : gv ≠ gr := by have := HLR.out; have := HGV.out; omega
  have n7 : gv ≠ gc := by have := HLC.out; have := HGV.out; omega
  have n8 : gb ≠ gr := by have := HLR.out; omega
  have hP := pass_any (numC_r gr gb ge gc S n1 n2 n3 n4) q hq ev0 (a, wr) w2 ev0_ok he2 C2.out ⟨R2.out, X2.out⟩ ⟨by decide, by have := hq.T0; show (0 : Int) < _; omega⟩ (by decide) ⟨by omega, by have := hq.T0; omega, by have := hq.T1; omega⟩ (partOk_r q hq S _ _)
  have HP := Lib.hid hP
  have N1 := Lib.hid n1
  have N2 := Lib.hid n2
  have N3 := Lib.hid n3
  have N4 := Lib.hid n4
  have N5 := Lib.hid n5
  have N6 := Lib.hid n6
  have N7 := Lib.hid n7
  have N8 := Lib.hid n8
  have HGE : Hid (w.heap.size < ge) := by show _ < _; have := HS.out; omega
  clear hP n1 n2 n3 n4 n5 n6 n7 n8 he2 hge HS hb2 HC1 HR1 HBX HEV HB1 b0 hlv
  refine HP.out.mono ?_
  rintro _ w3 ⟨rfl, e3, ⟨r3, x3⟩, k3⟩
  have c3 : CodAt w3 gc q := C2.out.same (k3.block gc C2.out.lt (Ne.symm N2.out) (fun x => N3.out (Option.some.inj x).symm))
  have v3 : EvO w3 gv ev0 := V2.out.same (k3.block gv V2.out.lt N6.out (fun x => N5.out (Option.some.inj x)))
  have b3 : w3.cell? ⟨gb, 0, none⟩ = some (.pointer (some ⟨gr, 0, none⟩)) := cell_of_row w3 gb 0 _ _ _ x3
  have hbd := rd_b q hq S a wr
  have K3 : Hid (Kp gr (some gc) w w3) := ⟨k3.os.trans B2.out.os, k3.tape.trans B2.out.tape, k3.output.trans B2.out.output, Nat.le_trans B2.out.size k3.size, fun i hi h1 h2 => (k3.block i (Nat.lt_of_lt_of_le hi B2.out.size) h1 (fun x => by have := Option.some.inj x; have := HGE.out; omega)).trans (B2.out.block i hi)⟩
  have hx : passP q (nmR S) ev0 (a, wr) = rdX q S a wr := rfl
  rw [hx] at e3 r3
  obtain ⟨x, hxx⟩ : ∃ x, rdX q S a wr = x := ⟨_, rfl⟩
  have HX := Lib.hid hxx
  rw [hxx] at e3 r3 hbd
  obtain ⟨e1, a1, wr1⟩ := x
  simp only at e3 r3 hbd
  have E3 := Lib.hid e3
  have R3 := Lib.hid r3
  have C3 := Lib.hid c3
  have V3 := Lib.hid v3
  have HBD := Lib.hid hbd
  clear HP e3 r3 x3 k3 c3 v3 hx hxx hbd C2 R2 X2 V2 B2
  have b30 := (drewN_belowW w3 0)
  by_cases hw : wr1 = 0
  rotate_left
  · have q0 : (wr1 != 0) = true := bne_iff_ne.2 hw
    have HWR := Lib.hid (wrong_yes gr S a1 wr1 hw w3 R3.out)
    have HF : Hid (∀ w4, Below w3.heap.size w3 w4 → ReadP gr gc q S a wr w (.returned (.tuple #[.agg (evC ev0), .int .i64 wr1])) (w4.setRow gv (evC ev0))) := fun w4 b4 => by
      have hv4 := (V3.out.below b4)
      have hs := row_set (cs := evC ev0) hv4
      have k4 : Kp gr (some gc) w (w4.setRow gv (evC ev0)) := ⟨K3.out.os ▸ b4.os ▸ rfl, by rw [hs.2.tape, b4.tape, K3.out.tape], by rw [hs.2.output, b4.output, K3.out.output], Nat.le_trans K3.out.size (Nat.le_trans b4.size hs.2.size), fun i hi h1 h2 => by
        have l1 := Nat.lt_of_lt_of_le hi K3.out.size
        rw [hs.2.block i (Nat.lt_of_lt_of_le l1 b4.size) (by have := HGV.out; have := HGB.out; omega) (by simp), b4.block i l1]
        exact K3.out.block i hi h1 h2⟩
      refine ⟨?_, ?_, ?_, k4⟩
      · simp only [rdV, HX.out, if_neg hw]
        rfl
      · rw [HX.out]
        exact ⟨((R3.out.1.below b4 R3.out.1.lt).same (hs.2.block gr (Nat.lt_of_lt_of_le R3.out.1.lt b4.size) (Ne.symm N6.out) (by simp))), R3.out.2⟩
      · simp only [rdQ, HX.out, if_neg hw]
        exact (C3.out.below b4).same (hs.2.block gc (Nat.lt_of_lt_of_le C3.out.lt b4.size) (Ne.symm N7.out) (by simp))
    clear hw b30
    go_wp2_with fail
    refine HWR.out.mono ?_
    rintro _ w4 ⟨rfl, n, hw4⟩
    have b4 : Below w3.heap.size w3 w4 := by rw [hw4]; exact drewN_belowW w3 n
    have HV4 := Lib.hid (V3.out.below b4)
    have B4 := Lib.hid b4
    clear hw4 b4 HWR
    go_wp2_with (first
      | (refine wpList_store_row rfl _ _ _ rfl gv (evC ev0) rfl rfl 50 _ HV4.out (by kernel_rfl) rfl (by simp [Value.oneCell', evC]) ?_)
      | fail)
    refine bodyPost_ret (results_ctD rfl _ _ gv 50 (evC ev0) (0, 0) _ rfl (setRow_heap _ _ _ _ _ _ HV4.out) Tryz.underlying50 rfl (by kernel_rfl)) rfl ?_
    exact HF.out w4 B4.out
  · subst hw
    have HWR := Lib.hid (wrong_no gr S a1 w3 R3.out)
    obtain ⟨ek, k1, k2, t1, t2, pl⟩ := HBD.out
    have HKN := Lib.hid (know_anyD q e1 gc w3 C3.out ⟨t1, by have := hq.T1; omega⟩ pl)
    have y0 := E3.out.c0
    have y1 := E3.out.c1
    have y2 := E3.out.c2
    have y3 := E3.out.c3
    have y4 := E3.out.c4
    have y5 := E3.out.c5
    have y6 := E3.out.c6
    have HF : Hid (∀ w4, CodAt w4 gc (knowQ q e1) → Kp gc none w3 w4 → ReadP gr gc q S a wr w (.returned (.tuple #[.agg (evC e1), .int .i64 0])) (w4.setRow gv (evC e1))) := fun w4 c4 k4 => by
      have hv4 : EvO w4 gv ev0 := V3.out.same (k4.block gv V3.out.lt N7.out (by simp))
      have hs := row_set (cs := evC e1) hv4
      refine ⟨?_, ?_, ?_, ⟨by rw [hs.2.os, k4.os, K3.out.os], by rw [hs.2.tape, k4.tape, K3.out.tape], by rw [hs.2.output, k4.output, K3.out.output], Nat.le_trans K3.out.size (Nat.le_trans k4.size hs.2.size), fun i hi h1 h2 => ?_⟩⟩
      · simp only [rdV, HX.out, if_true]
        rfl
      · rw [HX.out]
        exact ⟨(R3.out.1.same (k4.block gr R3.out.1.lt N2.out (by simp))).same (hs.2.block gr (Nat.lt_of_lt_of_le R3.out.1.lt k4.size) (Ne.symm N6.out) (by simp)), R3.out.2⟩
      · simp only [rdQ, HX.out, if_true]
        exact c4.same (hs.2.block gc c4.lt (Ne.symm N7.out) (by simp))
      · have l1 := Nat.lt_of_lt_of_le hi K3.out.size
        rw [hs.2.block i (Nat.lt_of_lt_of_le l1 k4.size) (by have := HGV.out; have := HGB.out; omega) (by simp), k4.block i l1 (fun x => h2 (by rw [x])) (by simp)]
        exact K3.out.block i hi h1 h2
    have HEV : Hid (evV e1 = .agg #[.int .u8 e1.kd, .int .i64 e1.th, .int .i64 e1.tx, .int .i64 e1.pl, .int .i64 e1.v, .int .i64 e1.x, .int .u8 e1.why]) := rfl
    have HKN2 := Lib.hid HKN.out
    rw [HEV.out] at HKN2
    clear b30 ek k1 k2 t1 t2 pl HKN
    go_wp2_with fail
    refine HWR.out.mono ?_
    rintro _ w4 ⟨rfl, rfl⟩
    go_wp2_with fail
    refine HKN2.out.mono ?_
    rintro _ w4 ⟨rfl, c4, k4⟩
    have HV4 : Hid (EvO w4 gv ev0) := V3.out.same (k4.block gv V3.out.lt N7.out (by simp))
    have HE4 : Hid (EvO w4 ge e1) := E3.out.same (k4.block ge E3.out.lt N3.out (by simp))
    have C4 := Lib.hid c4
    have K4 := Lib.hid k4
    obtain ⟨y0, y1, y2, y3, y4, y5, y6⟩ := evsix HE4.out
    clear c4 k4
    go_wp2_with (first
      | (refine wpList_store_row rfl _ _ _ rfl gv (evC e1) rfl rfl 50 _ HV4.out (by kernel_rfl) rfl (by simp [Value.oneCell', evC]) ?_)
      | fail)
    refine bodyPost_ret (results_ctD rfl _ _ gv 50 (evC e1) (0, 0) _ rfl (setRow_heap _ _ _ _ _ _ HV4.out) Tryz.underlying50 rfl (by kernel_rfl)) rfl ?_
    exact HF.out w4 C4.out K4.out
end Go.Proofs.YteigglhhnemngaaGreatDoor
