/-
  PACKAGE trace (layer 15): sizes: its closure, which reads a number; CONTRACT OF sizes. Conditions: a reader.
-/
import Derived.Test.YteigglhhnemngaaGreatDoorTrb
namespace Go.Proofs.YteigglhhnemngaaGreatDoor
set_option maxRecDepth 100000
open Go.RowKit Go.Deep
set_option linter.unusedVariables false
set_option linter.unusedSimpArgs false
theorem rNum_wr (m : Int) (S : ByteArray) (a : Nat) (wr : Int) : (rNum m S a wr).2.2.2 = (rNum m S a wr).2.1 := by
  unfold rNum rd
  split
  · split <;> rfl
  · rfl
def CloP (gr gb gp o : Nat) (S : ByteArray) (x : Nat × Int) (l m : Int) (w : World) (r : Ending) (w' : World) : Prop :=
  r = .returned (.bool ((nmR S x 0 l m).2.2 == 0)) ∧ ∃ w1, RdI gr gb S (nmR S x 0 l m).2 w1 ∧ Kp gr none w w1 ∧ w' = w1.setCell ⟨gp, o, none⟩ (.int .i64 (nmR S x 0 l m).1)
set_option maxHeartbeats 2000000 in
theorem size_clo (gr gb gp o : Nat) (S : ByteArray) (x : Nat × Int) (l m : Int) (w : World) (hl : 0 ≤ l ∧ l ≤ 1000) (hm : 0 ≤ m ∧ m ≤ 1048576) (hI : RdI gr gb S x w) {cs : Array Value} {t : TypeId} (hp : w.heap[gp]? = some (.cells cs t (0, 0))) (ho : o < cs.size) (hne : gp ≠ gr) :
    Calls Tryz.prog 99 #[.pointer (some ⟨gp, o, none⟩), .int .i64 l, .int .i64 m, .pointer (some ⟨gb, 0, none⟩)] w (CloP gr gb gp o S x l m w) := by
  obtain ⟨a, wr⟩ := x
  obtain ⟨hr, hb⟩ := hI
  have hgb : gb ≠ gr := by
    rintro rfl
    have := hr.1
    unfold Obj at this
    rw [hb] at this
    injection this with this
    injection this with _ e
    exact absurd e (by decide)
  have HA := Lib.hid (at_any gr S a wr w hr)
  have HN := Lib.hid (rNum_any m gr S a wr w hr)
  have hok := @rNum_ok m S a wr
  have hwr := rNum_wr m S a wr
  have hval := rNum_val hm.1 S a wr
  have hbox : w.cell? ⟨gb, 0, none⟩ = some (.pointer (some ⟨gr, 0, none⟩)) := cell_of_row w gb 0 _ _ _ hb
  obtain ⟨v0, hv0⟩ : ∃ v, cs[o]? = some v := ⟨_, Array.getElem?_eq_getElem ho⟩
  have HPC : Hid (∀ w1, Kp gr none w w1 → w1.cell? ⟨gp, o, none⟩ = some v0 ∧ w1.frozen? ⟨gp, o, none⟩ = false) := fun w1 k => by
    have h1 : w1.heap[gp]? = some (.cells cs t (0, 0)) := (k.block gp (Array.getElem?_eq_some_iff.1 hp).1 hne (by simp)).trans hp
    refine ⟨(cell_of_row w1 gp o _ _ _ h1).trans hv0, ?_⟩
    unfold World.frozen?
    rw [h1]
    rfl
  unfold CloP nmR
  simp only at hr ⊢
  generalize (rNum m S a wr).1 = z at *
  generalize (rNum m S a wr).2.1 = er at *
  generalize (rNum m S a wr).2.2.1 = a1 at *
  generalize (rNum m S a wr).2.2.2 = wr1 at *
  subst hwr
  have HB := Lib.hid hb
  have HG := Lib.hid hgb
  generalize hR : (if wr1 = 0 ∧ z < l then (z, (a, (20 : Int))) else (z, (a1, wr1))) = R
  have HR := Lib.hid hR
  have HOK := Lib.hid hok
  have u1 : IntKind.u64.wrap m = m := by rw [IntKind.wrap_u64]; omega
  have u2 : IntKind.u64.wrap l = l := by rw [IntKind.wrap_u64]; omega
  have u3 : IntKind.i64.wrap z = z := IntWalk.i64_in _ ⟨by omega, by omega⟩
  clear hr hb hgb hok hR hp ho hne hv0 hval
  go_enter Tryz.func99, Tryz.ntmps99
  go_wp2_with fail
  refine HA.out.mono ?_
  rintro _ w2 ⟨rfl, rfl⟩
  go_wp2_with fail
  refine HN.out.mono ?_
  rintro _ w2 ⟨rfl, h1, h2⟩
  have hb2 : w2.heap[gb]? = some (.cells #[.pointer (some ⟨gr, 0, none⟩)] 63 (0, 0)) := (h2.block gb (Array.getElem?_eq_some_iff.1 HB.out).1 HG.out (by simp)).trans HB.out
  have hbox2 : w2.cell? ⟨gb, 0, none⟩ = some (.pointer (some ⟨gr, 0, none⟩)) := cell_of_row w2 gb 0 _ _ _ hb2
  have H1 := Lib.hid h1
  have H2 := Lib.hid h2
  have HB2 := Lib.hid hb2
  obtain ⟨x1, x2⟩ := HPC.out w2 h2
  clear h1 h2 hb2 hbox HA HN HB
  by_cases he : wr1 = 0
  rotate_left
  · have q0 : (wr1 == 0) = false := beq_eq_false_iff_ne.2 he
    have hRR : R = (z, (a1, wr1)) := by rw [← HR.out, if_neg (fun h => he h.1)]
    subst hRR
    clear he HR HOK
    go_wp2_with fail
    go_ret
    exact ⟨rfl, w2, ⟨H1.out, HB2.out⟩, H2.out, rfl⟩
  · subst he
    obtain ⟨w0, _, ha1⟩ := HOK.out rfl
    by_cases hz : z < l
    rotate_left
    · have hRR : R = (z, (a1, 0)) := by rw [← HR.out, if_neg (fun h => hz h.2)]
      subst hRR
      have hz2 : l ≤ z := by omega
      clear HR HOK hz w0 ha1
      go_wp2_with fail
      go_ret
      exact ⟨rfl, w2, ⟨H1.out, HB2.out⟩, H2.out, rfl⟩
    · have hRR : R = (z, (a, 20)) := by rw [← HR.out, if_pos ⟨rfl, hz⟩]
      subst hRR
      have hF := rFail_any a 20 gr S a1 0 w2 H1.out
      have e1 : rFail a 20 a1 0 = (20, a, 20) := by
        unfold rFail
        rw [if_pos rfl, if_neg (by omega)]
        simp
      rw [e1] at hF
      have HF := Lib.hid hF
      clear HR HOK ha1 hF e1 x1 x2
      go_wp2_with fail
      refine HF.out.mono ?_
      rintro _ w3 ⟨rfl, g1, g2⟩
      have HB3 := Lib.hid ((g2.block gb (Array.getElem?_eq_some_iff.1 HB2.out).1 HG.out (by simp)).trans HB2.out)
      obtain ⟨x1, x2⟩ := HPC.out w3 (H2.out.trans g2)
      go_wp2_with fail
      go_ret
      exact ⟨rfl, w3, ⟨g1, HB3.out⟩, H2.out.trans g2, rfl⟩
theorem results_cc {P : Program} {fn : Func} {p q : Tmp} {ty tz : TypeId} (h : fn.results = #[.cell p ty, .cell q tz]) (tmps : Array Value) (w : World) (g g2 : Nat) (t : TypeId) (cs : Array Value) (fr : Nat × Nat) (d : TypeDesc) (v : Value)
    (hp : tmps.getD p undef = .pointer (some ⟨g, 0, none⟩)) (hg : w.heap[g]? = some (.cells cs t fr))
    (hu : P.underlying ty = some d) (hd : (match d with | .struct _ | .array _ _ => true | _ => false) = true) (hi : (P.info? ty).map (·.size) = some cs.size)
    (hq : tmps.getD q undef = .pointer (some ⟨g2, 0, none⟩)) (hv : (loadVar tz ⟨g2, 0, none⟩).run P w = .ok v w) :
    (results fn tmps).run P w = .ok (.tuple #[.agg cs, v]) w := by
  have hp' : tmps[p]?.getD undef = .pointer (some ⟨g, 0, none⟩) := by simpa using hp
  have hq' : tmps[q]?.getD undef = .pointer (some ⟨g2, 0, none⟩) := by simpa using hq
  simp [results, h, hp', hq', asAddr, run_loadVar_row w g t ty cs fr d hg hu hd hi, hv]
structure SzI (w0 : World) (gr gb gt gm : Nat) (S : ByteArray) (T V Z n : Int) (x : Nat × Int) (w : World) : Prop where
  rd : RdI gr gb S x w
  tr : w.heap[gt]? = some (.cells #[.int .i64 T, .int .i64 V, .int .i64 Z, .slice none 0 0] 25 (0, 0))
  mn : w.heap[gm]? = some (.cells #[.int .i64 n] 3 (0, 0))
  kp : Kp gr none w0 w
  n1 : w0.heap.size ≤ gb
  n2 : w0.heap.size ≤ gt
  n3 : w0.heap.size ≤ gm
theorem kp_set2 {w0 w : World} {gr g i : Nat} {v : Value} (h : Kp gr none w0 w) (hg : w0.heap.size ≤ g) : Kp gr none w0 (w.setCell ⟨g, i, none⟩ v) :=
  ⟨h.os, h.tape, h.output, by rw [show (w.setCell ⟨g, i, none⟩ v).heap.size = w.heap.size by simp [World.setCell]]; exact h.size, fun k hk h1 h2 => (Below.heap_setCell w ⟨g, i, none⟩ v k (by show k ≠ g; omega)).trans (h.block k hk h1 h2)⟩
section
variable {w0 w w' : World} {gr gb gt gm : Nat} {S : ByteArray} {T V Z n : Int} {x : Nat × Int}
theorem SzI.lts (h : SzI w0 gr gb gt gm S T V Z n x w) : gt ≠ gr ∧ gm ≠ gr ∧ gb ≠ gt ∧ gb ≠ gm ∧ gt ≠ gm ∧ gb ≠ gr := by
  have hr := h.rd.1.1
  have hb := h.rd.2
  have ht := h.tr
  have hm := h.mn
  unfold Obj at hr
  refine ⟨?_, ?_, ?_, ?_, ?_, ?_⟩ <;> rintro rfl
  · rw [ht] at hr
    injection hr with hr
    injection hr with _ e
    exact absurd e (by decide)
  · rw [hm] at hr
    injection hr with hr
    injection hr with _ e
    exact absurd e (by decide)
  · rw [ht] at hb
    injection hb with hb
    injection hb with _ e
    exact absurd e (by decide)
  · rw [hm] at hb
    injection hb with hb
    injection hb with _ e
    exact absurd e (by decide)
  · rw [ht] at hm
    injection hm with hm
    injection hm with _ e
    exact absurd e (by decide)
  · rw [hb] at hr
    injection hr with hr
    injection hr with _ e
    exact absurd e (by decide)
theorem SzI.num (h : SzI w0 gr gb gt gm S T V Z n x w) {l m : Int} {r : Ending} {T' V' Z' : Int} {o : Nat} (hc : CloP gr gb gt o S x l m w r w') (hs : (#[.int .i64 T, .int .i64 V, .int .i64 Z, .slice none 0 0] : Array Value).setIfInBounds o (.int .i64 (nmR S x 0 l m).1) = #[.int .i64 T', .int .i64 V', .int .i64 Z', .slice none 0 0]) : SzI w0 gr gb gt gm S T' V' Z' n (nmR S x 0 l m).2 w' := by
  obtain ⟨h1, h2, h3, h4, h5, h6⟩ := h.lts
  obtain ⟨_, w1, hI, k, rfl⟩ := hc
  have e1 : w1.heap[gt]? = _ := (k.block gt (Array.getElem?_eq_some_iff.1 h.tr).1 h1 (by simp)).trans h.tr
  have e2 : w1.heap[gm]? = _ := (k.block gm (Array.getElem?_eq_some_iff.1 h.mn).1 h2 (by simp)).trans h.mn
  have e3 := Obj.store (w := w1) (g := gt) (t := 25) e1 o (.int .i64 (nmR S x 0 l m).1)
  rw [hs] at e3
  have hr2 : Rd (w1.setCell ⟨gt, o, none⟩ (.int .i64 (nmR S x 0 l m).1)) gr S (nmR S x 0 l m).2.1 (nmR S x 0 l m).2.2 := ⟨(Below.heap_setCell w1 ⟨gt, o, none⟩ _ gr (by show gr ≠ gt; exact Ne.symm h1)).trans hI.1.1, hI.1.2⟩
  refine ⟨⟨hr2, (Below.heap_setCell w1 ⟨gt, o, none⟩ _ gb (by show gb ≠ gt; exact h3)).trans hI.2⟩, e3, (Below.heap_setCell w1 ⟨gt, o, none⟩ _ gm (by show gm ≠ gt; exact Ne.symm h5)).trans e2, kp_set2 (h.kp.trans k) h.n2, h.n1, h.n2, h.n3⟩
theorem SzI.many (h : SzI w0 gr gb gt gm S T V Z n x w) {l m : Int} {r : Ending} (hc : CloP gr gb gm 0 S x l m w r w') : SzI w0 gr gb gt gm S T V Z (nmR S x 0 l m).1 (nmR S x 0 l m).2 w' := by
  obtain ⟨h1, h2, h3, h4, h5, h6⟩ := h.lts
  obtain ⟨_, w1, hI, k, rfl⟩ := hc
  have e1 : w1.heap[gt]? = _ := (k.block gt (Array.getElem?_eq_some_iff.1 h.tr).1 h1 (by simp)).trans h.tr
  have e2 : w1.heap[gm]? = _ := (k.block gm (Array.getElem?_eq_some_iff.1 h.mn).1 h2 (by simp)).trans h.mn
  have e3 := Obj.store (w := w1) (g := gm) (t := 3) e2 0 (.int .i64 (nmR S x 0 l m).1)
  have hr2 : Rd (w1.setCell ⟨gm, 0, none⟩ (.int .i64 (nmR S x 0 l m).1)) gr S (nmR S x 0 l m).2.1 (nmR S x 0 l m).2.2 := ⟨(Below.heap_setCell w1 ⟨gm, 0, none⟩ _ gr (by show gr ≠ gm; exact Ne.symm h2)).trans hI.1.1, hI.1.2⟩
  exact ⟨⟨hr2, (Below.heap_setCell w1 ⟨gm, 0, none⟩ _ gb (by show gb ≠ gm; exact h4)).trans hI.2⟩, (Below.heap_setCell w1 ⟨gm, 0, none⟩ _ gt (by show gt ≠ gm; exact h5)).trans e1, e3, kp_set2 (h.kp.trans k) h.n3, h.n1, h.n2, h.n3⟩
theorem SzI.again (h : SzI w0 gr gb gt gm S T V Z n x w) : SzI w0 gr gb gt gm S T V Z n x ((w.setRow gt #[.int .i64 T, .int .i64 V, .int .i64 Z, .slice none 0 0]).setCell ⟨gm, 0, none⟩ (.int .i64 n)) := by
  obtain ⟨h1, h2, h3, h4, h5, h6⟩ := h.lts
  obtain ⟨r1, r2⟩ := row_set (cs := #[.int .i64 T, .int .i64 V, .int .i64 Z, .slice none 0 0]) h.tr
  have hm : (w.setRow gt #[.int .i64 T, .int .i64 V, .int .i64 Z, .slice none 0 0]).heap[gm]? = some (.cells #[.int .i64 n] 3 (0, 0)) := (r2.block gm (Array.getElem?_eq_some_iff.1 h.mn).1 (Ne.symm h5) (by simp)).trans h.mn
  have e3 := Obj.store (w := w.setRow gt #[.int .i64 T, .int .i64 V, .int .i64 Z, .slice none 0 0]) (g := gm) (t := 3) hm 0 (.int .i64 n)
  have hk : Kp gr none w0 (w.setRow gt #[.int .i64 T, .int .i64 V, .int .i64 Z, .slice none 0 0]) := ⟨r2.os.trans h.kp.os, r2.tape.trans h.kp.tape, r2.output.trans h.kp.output, Nat.le_trans h.kp.size r2.size, fun k hk a b => (r2.block k (Nat.lt_of_lt_of_le hk h.kp.size) (by have := h.n2; omega) (by simp)).trans (h.kp.block k hk a b)⟩
  have hr1 : Rd (w.setRow gt #[.int .i64 T, .int .i64 V, .int .i64 Z, .slice none 0 0]) gr S x.1 x.2 := ⟨(r2.block gr h.rd.1.1.lt (Ne.symm h1) (by simp)).trans h.rd.1.1, h.rd.1.2⟩
  have hr2 : Rd ((w.setRow gt #[.int .i64 T, .int .i64 V, .int .i64 Z, .slice none 0 0]).setCell ⟨gm, 0, none⟩ (.int .i64 n)) gr S x.1 x.2 := ⟨(Below.heap_setCell _ ⟨gm, 0, none⟩ _ gr (by show gr ≠ gm; exact Ne.symm h2)).trans hr1.1, hr1.2⟩
  refine ⟨⟨hr2, (Below.heap_setCell _ ⟨gm, 0, none⟩ _ gb (by show gb ≠ gm; exact h4)).trans ((r2.block gb (Array.getElem?_eq_some_iff.1 h.rd.2).1 h3 (by simp)).trans h.rd.2)⟩, (Below.heap_setCell _ ⟨gm, 0, none⟩ _ gt (by show gt ≠ gm; exact h5)).trans r1, e3, kp_set2 hk h.n3, h.n1, h.n2, h.n3⟩
theorem SzI.cells (h : SzI w0 gr gb gt gm S T V Z n x w) : w.cell? ⟨gt, 0, none⟩ = some (.int .i64 T) ∧ w.cell? ⟨gt, 1, none⟩ = some (.int .i64 V) ∧ w.cell? ⟨gt, 2, none⟩ = some (.int .i64 Z) ∧ w.cell? ⟨gt, 3, none⟩ = some (.slice none 0 0) ∧ w.cell? ⟨gm, 0, none⟩ = some (.int .i64 n) := ⟨cell_of_row w gt 0 _ _ _ h.tr, cell_of_row w gt 1 _ _ _ h.tr, cell_of_row w gt 2 _ _ _ h.tr, cell_of_row w gt 3 _ _ _ h.tr, cell_of_row w gm 0 _ _ _ h.mn⟩
end
set_option maxHeartbeats 4000000 in
theorem tsizes_any (gr : Nat) (S : ByteArray) (w : World) (hrd : Rd w gr S 0 0) :
    Calls Tryz.prog 58 #[.pointer (some ⟨gr, 0, none⟩)] w fun r w' => r = .returned (.tuple #[trV (z1 S).1 (z2 S).1 (z3 S).1 none 0 0, .int .i64 (z4 S).1]) ∧ Rd w' gr S (z4 S).2.1 (z4 S).2.2 ∧ Kp gr none w w' := by
  obtain ⟨wa, hwa⟩ : ∃ W, w.alloc (.cells #[.pointer (some ⟨gr, 0, none⟩)] 63) = W := ⟨_, rfl⟩
  obtain ⟨wb, hwb⟩ : ∃ W, wa.alloc (.cells #[.int .i64 0, .int .i64 0, .int .i64 0, .slice none 0 0] 25) = W := ⟨_, rfl⟩
  obtain ⟨W3, hW3⟩ : ∃ W, wb.alloc (.cells #[.int .i64 0] 3) = W := ⟨_, rfl⟩
  obtain ⟨gb, hgb⟩ : ∃ g, g = w.heap.size := ⟨_, rfl⟩
  have ha : Below w.heap.size w wa := by rw [← hwa]; exact (Below.refl _ _).alloc (Nat.le_refl _) _
  have hb : Below wa.heap.size wa wb := by rw [← hwb]; exact (Below.refl _ _).alloc (Nat.le_refl _) _
  have hc : Below wb.heap.size wb W3 := by rw [← hW3]; exact (Below.refl _ _).alloc (Nat.le_refl _) _
  have s1 : wa.heap.size = gb + 1 := by rw [← hwa, hgb]; simp
  have s2 : wb.heap.size = gb + 1 + 1 := by rw [← hwb]; simp [s1]
  have ra : wa.heap[gb]? = some (.cells #[.pointer (some ⟨gr, 0, none⟩)] 63 (0, 0)) := by rw [← hwa, hgb]; exact heap_alloc_new w _
  have rb : wb.heap[gb + 1]? = some (.cells #[.int .i64 0, .int .i64 0, .int .i64 0, .slice none 0 0] 25 (0, 0)) := by rw [← hwb, ← s1]; exact heap_alloc_new wa _
  have rc : W3.heap[gb + 1 + 1]? = some (.cells #[.int .i64 0] 3 (0, 0)) := by rw [← hW3, ← s2]; exact heap_alloc_new wb _
  have B3 : Below w.heap.size w W3 := ha.trans ((hb.mono (by omega)).trans (hc.mono (by omega)))
  have I0 : Hid (SzI w gr gb (gb + 1) (gb + 1 + 1) S 0 0 0 0 (0, 0) W3) := ⟨⟨rd_more hrd B3, row_stays (row_stays ra hb) hc⟩, row_stays rb hc, rc, kp_below B3, by omega, by omega, by omega⟩
  rw [← hwb, ← hwa] at hW3
  clear hwa hwb ha hb hc ra rb rc
  have HW := Lib.hid hW3
  obtain ⟨gt, hgt⟩ : ∃ g, g = gb + 1 := ⟨_, rfl⟩
  obtain ⟨gm, hgm⟩ : ∃ g, g = gt + 1 := ⟨_, rfl⟩
  rw [← hgt, ← hgm] at I0
  have HL := Lib.hid I0.out.lts
  clear hrd s1 s2 B3 hW3
  have hz2 : 0 ≤ (z2 S).1 ∧ (z2 S).1 ≤ 32 := nm_val (by omega)
  have hmo : 0 ≤ mostR S ∧ mostR S ≤ 1048576 := by unfold mostR; split <;> omega
  have HZ2 := Lib.hid hz2
  have HMO := Lib.hid hmo
  have HF : Hid (∀ T V Z n x W, SzI w gr gb gt gm S T V Z n x W → T = (z1 S).1 → V = (z2 S).1 → Z = (z3 S).1 → n = (z4 S).1 → x = (z4 S).2 → (Ending.returned (.tuple #[.agg #[.int .i64 T, .int .i64 V, .int .i64 Z, .slice none 0 0], .int .i64 n]) = Ending.returned (.tuple #[trV (z1 S).1 (z2 S).1 (z3 S).1 none 0 0, .int .i64 (z4 S).1]) ∧ Rd ((W.setRow gt #[.int .i64 T, .int .i64 V, .int .i64 Z, .slice none 0 0]).setCell ⟨gm, 0, none⟩ (.int .i64 n)) gr S (z4 S).2.1 (z4 S).2.2 ∧ Kp gr none w ((W.setRow gt #[.int .i64 T, .int .i64 V, .int .i64 Z, .slice none 0 0]).setCell ⟨gm, 0, none⟩ (.int .i64 n)))) := by
    rintro T V Z n x W h rfl rfl rfl rfl rfl
    exact ⟨rfl, h.again.rd.1, h.again.kp⟩
  clear hz2 hmo
  go_enter Tryz.func58, Tryz.ntmps58
  go_wp2_with fail
  rw [HW.out, ← hgb, ← hgt, ← hgm]
  clear hgb hgt hgm HW
  refine (size_clo gr gb gt 0 S (0, 0) 0 6 W3 (by decide) (by decide) I0.out.rd I0.out.tr (by simp) HL.out.1).mono ?_
  rintro r w4 hc
  have hr : r = .returned (.bool ((z1 S).2.2 == 0)) := hc.1
  have I1 : Hid (SzI w gr gb gt gm S (z1 S).1 0 0 0 (z1 S).2 w4) := I0.out.num hc rfl
  subst hr
  clear hc
  by_cases b1 : (z1 S).2.2 = 0
  rotate_left
  · have e2 : z2 S = (0, (z1 S).2) := nm_w b1
    have e3 : z3 S = (0, (z1 S).2) := by unfold z3; rw [e2]; exact nm_w b1
    have e4 : z4 S = (0, (z1 S).2) := by unfold z4; rw [e3]; exact nm_w b1
    have E := Lib.hid (And.intro e2 (And.intro e3 e4))
    have q1 : ((z1 S).2.2 == 0) = false := beq_eq_false_iff_ne.2 b1
    clear e2 e3 e4 b1
    obtain ⟨x0, x1, x2, x3, y0⟩ := I1.out.cells
    have HR := Lib.hid I1.out.tr
    have HM : Hid ((w4.setRow gt #[.int .i64 ((z1 S).1), .int .i64 (0), .int .i64 (0), .slice none 0 0]).cell? ⟨gm, 0, none⟩ = some (.int .i64 (0)) ∧ (w4.setRow gt #[.int .i64 ((z1 S).1), .int .i64 (0), .int .i64 (0), .slice none 0 0]).frozen? ⟨gm, 0, none⟩ = false) := by
      have h9 := (row_set (cs := #[.int .i64 ((z1 S).1), .int .i64 (0), .int .i64 (0), .slice none 0 0]) I1.out.tr).2.block gm (Array.getElem?_eq_some_iff.1 I1.out.mn).1 (Ne.symm HL.out.2.2.2.2.1) (by simp)
      have h8 := h9.trans I1.out.mn
      refine ⟨cell_of_row _ gm 0 _ _ _ h8, ?_⟩
      unfold World.frozen?
      rw [h8]
      rfl
    obtain ⟨m1, m2⟩ := HM.out
    have HP := Lib.hid (HF.out _ _ _ _ _ _ I1.out rfl (by rw [E.out.1]) (by rw [E.out.2.1]) (by rw [E.out.2.2]) (by rw [E.out.2.2]))
    go_wp2_with (first
      | (refine wpList_store_row rfl _ _ _ rfl gt #[.int .i64 ((z1 S).1), .int .i64 (0), .int .i64 (0), .slice none 0 0] rfl rfl 25 _ HR.out (by kernel_rfl) rfl (by simp [Value.oneCell']) ?_)
      | fail)
    have h1 := I1.out.again.tr
    have h2 := I1.out.again.cells.2.2.2.2
    refine bodyPost_ret (results_cc rfl _ _ gt gm 25 _ (0, 0) _ (.int .i64 (0)) rfl h1 Tryz.underlying25 rfl (by kernel_rfl) rfl (by go_simp)) rfl ?_
    exact HP.out
  have q1 : ((z1 S).2.2 == 0) = true := by rw [b1]; rfl
  clear b1
  go_wp2_with fail
  refine (size_clo gr gb gt 1 S (z1 S).2 1 32 w4 (by decide) (by decide) I1.out.rd I1.out.tr (by simp) HL.out.1).mono ?_
  rintro r w5 hc
  have hr : r = .returned (.bool ((z2 S).2.2 == 0)) := hc.1
  have I2 : Hid (SzI w gr gb gt gm S (z1 S).1 (z2 S).1 0 0 (z2 S).2 w5) := I1.out.num hc rfl
  subst hr
  clear hc
  by_cases b2 : (z2 S).2.2 = 0
  rotate_left
  · have e3 : z3 S = (0, (z2 S).2) := nm_w b2
    have e4 : z4 S = (0, (z2 S).2) := by unfold z4; rw [e3]; exact nm_w b2
    have E := Lib.hid (And.intro e3 e4)
    have q2 : ((z2 S).2.2 == 0) = false := beq_eq_false_iff_ne.2 b2
    clear e3 e4 b2
    obtain ⟨x0, x1, x2, x3, y0⟩ := I2.out.cells
    have HR := Lib.hid I2.out.tr
    have HM : Hid ((w5.setRow gt #[.int .i64 ((z1 S).1), .int .i64 ((z2 S).1), .int .i64 (0), .slice none 0 0]).cell? ⟨gm, 0, none⟩ = some (.int .i64 (0)) ∧ (w5.setRow gt #[.int .i64 ((z1 S).1), .int .i64 ((z2 S).1), .int .i64 (0), .slice none 0 0]).frozen? ⟨gm, 0, none⟩ = false) := by
      have h9 := (row_set (cs := #[.int .i64 ((z1 S).1), .int .i64 ((z2 S).1), .int .i64 (0), .slice none 0 0]) I2.out.tr).2.block gm (Array.getElem?_eq_some_iff.1 I2.out.mn).1 (Ne.symm HL.out.2.2.2.2.1) (by simp)
      have h8 := h9.trans I2.out.mn
      refine ⟨cell_of_row _ gm 0 _ _ _ h8, ?_⟩
      unfold World.frozen?
      rw [h8]
      rfl
    obtain ⟨m1, m2⟩ := HM.out
    have HP := Lib.hid (HF.out _ _ _ _ _ _ I2.out rfl rfl (by rw [E.out.1]) (by rw [E.out.2]) (by rw [E.out.2]))
    go_wp2_with (first
      | (refine wpList_store_row rfl _ _ _ rfl gt #[.int .i64 ((z1 S).1), .int .i64 ((z2 S).1), .int .i64 (0), .slice none 0 0] rfl rfl 25 _ HR.out (by kernel_rfl) rfl (by simp [Value.oneCell']) ?_)
      | fail)
    have h1 := I2.out.again.tr
    have h2 := I2.out.again.cells.2.2.2.2
    refine bodyPost_ret (results_cc rfl _ _ gt gm 25 _ (0, 0) _ (.int .i64 (0)) rfl h1 Tryz.underlying25 rfl (by kernel_rfl) rfl (by go_simp)) rfl ?_
    exact HP.out
  have q2 : ((z2 S).2.2 == 0) = true := by rw [b2]; rfl
  clear b2
  obtain ⟨_, xv, _, _, _⟩ := I2.out.cells
  go_wp2_with fail
  refine (size_clo gr gb gt 2 S (z2 S).2 1 (z2 S).1 w5 (by decide) (by have := HZ2.out; omega) I2.out.rd I2.out.tr (by simp) HL.out.1).mono ?_
  rintro r w6 hc
  have hr : r = .returned (.bool ((z3 S).2.2 == 0)) := hc.1
  have I3 : Hid (SzI w gr gb gt gm S (z1 S).1 (z2 S).1 (z3 S).1 0 (z3 S).2 w6) := I2.out.num hc rfl
  subst hr
  clear hc
  clear xv
  by_cases b3 : (z3 S).2.2 = 0
  rotate_left
  · have e4 : z4 S = (0, (z3 S).2) := nm_w b3
    have E := Lib.hid e4
    have q3 : ((z3 S).2.2 == 0) = false := beq_eq_false_iff_ne.2 b3
    clear e4 b3
    obtain ⟨x0, x1, x2, x3, y0⟩ := I3.out.cells
    have HR := Lib.hid I3.out.tr
    have HM : Hid ((w6.setRow gt #[.int .i64 ((z1 S).1), .int .i64 ((z2 S).1), .int .i64 ((z3 S).1), .slice none 0 0]).cell? ⟨gm, 0, none⟩ = some (.int .i64 (0)) ∧ (w6.setRow gt #[.int .i64 ((z1 S).1), .int .i64 ((z2 S).1), .int .i64 ((z3 S).1), .slice none 0 0]).frozen? ⟨gm, 0, none⟩ = false) := by
      have h9 := (row_set (cs := #[.int .i64 ((z1 S).1), .int .i64 ((z2 S).1), .int .i64 ((z3 S).1), .slice none 0 0]) I3.out.tr).2.block gm (Array.getElem?_eq_some_iff.1 I3.out.mn).1 (Ne.symm HL.out.2.2.2.2.1) (by simp)
      have h8 := h9.trans I3.out.mn
      refine ⟨cell_of_row _ gm 0 _ _ _ h8, ?_⟩
      unfold World.frozen?
      rw [h8]
      rfl
    obtain ⟨m1, m2⟩ := HM.out
    have HP := Lib.hid (HF.out _ _ _ _ _ _ I3.out rfl rfl rfl (by rw [E.out]) (by rw [E.out]))
    go_wp2_with (first
      | (refine wpList_store_row rfl _ _ _ rfl gt #[.int .i64 ((z1 S).1), .int .i64 ((z2 S).1), .int .i64 ((z3 S).1), .slice none 0 0] rfl rfl 25 _ HR.out (by kernel_rfl) rfl (by simp [Value.oneCell']) ?_)
      | fail)
    have h1 := I3.out.again.tr
    have h2 := I3.out.again.cells.2.2.2.2
    refine bodyPost_ret (results_cc rfl _ _ gt gm 25 _ (0, 0) _ (.int .i64 (0)) rfl h1 Tryz.underlying25 rfl (by kernel_rfl) rfl (by go_simp)) rfl ?_
    exact HP.out
  have q3 : ((z3 S).2.2 == 0) = true := by rw [b3]; rfl
  clear b3
  obtain ⟨xt, _, _, _, _⟩ := I3.out.cells
  by_cases b4 : (z1 S).1 = 0
  · have hM : mostR S = 0 := by unfold mostR; rw [if_pos b4]
    have q4 : ((z1 S).1 == 0) = true := by rw [b4]; rfl
    have e4 : nmR S (z3 S).2 0 0 0 = z4 S := by unfold z4; rw [hM]
    clear b4
    go_wp2_with fail
    clear xt hM
    refine (size_clo gr gb gm 0 S (z3 S).2 0 0 w6 (by decide) (by decide) I3.out.rd I3.out.mn (by simp) HL.out.2.1).mono ?_
    rintro r w7 hc
    have hr : r = .returned (.bool ((z4 S).2.2 == 0)) := by rw [← e4]; exact hc.1
    have I4 : Hid (SzI w gr gb gt gm S (z1 S).1 (z2 S).1 (z3 S).1 (z4 S).1 (z4 S).2 w7) := by rw [← e4]; exact I3.out.many hc
    subst hr
    clear hc
    clear e4
    obtain ⟨b, hb⟩ : ∃ b, ((z4 S).2.2 == 0) = b := ⟨_, rfl⟩
    rw [hb]
    clear hb
    obtain ⟨x0, x1, x2, x3, y0⟩ := I4.out.cells
    have HR := Lib.hid I4.out.tr
    have HM : Hid ((w7.setRow gt #[.int .i64 ((z1 S).1), .int .i64 ((z2 S).1), .int .i64 ((z3 S).1), .slice none 0 0]).cell? ⟨gm, 0, none⟩ = some (.int .i64 ((z4 S).1)) ∧ (w7.setRow gt #[.int .i64 ((z1 S).1), .int .i64 ((z2 S).1), .int .i64 ((z3 S).1), .slice none 0 0]).frozen? ⟨gm, 0, none⟩ = false) := by
      have h9 := (row_set (cs := #[.int .i64 ((z1 S).1), .int .i64 ((z2 S).1), .int .i64 ((z3 S).1), .slice none 0 0]) I4.out.tr).2.block gm (Array.getElem?_eq_some_iff.1 I4.out.mn).1 (Ne.symm HL.out.2.2.2.2.1) (by simp)
      have h8 := h9.trans I4.out.mn
      refine ⟨cell_of_row _ gm 0 _ _ _ h8, ?_⟩
      unfold World.frozen?
      rw [h8]
      rfl
    obtain ⟨m1, m2⟩ := HM.out
    have HP := Lib.hid (HF.out _ _ _ _ _ _ I4.out rfl rfl rfl rfl rfl)
    go_wp2_with (first
      | (refine wpList_store_row rfl _ _ _ rfl gt #[.int .i64 ((z1 S).1), .int .i64 ((z2 S).1), .int .i64 ((z3 S).1), .slice none 0 0] rfl rfl 25 _ HR.out (by kernel_rfl) rfl (by simp [Value.oneCell']) ?_)
      | fail)
    have h1 := I4.out.again.tr
    have h2 := I4.out.again.cells.2.2.2.2
    refine bodyPost_ret (results_cc rfl _ _ gt gm 25 _ (0, 0) _ (.int .i64 ((z4 S).1)) rfl h1 Tryz.underlying25 rfl (by kernel_rfl) rfl (by go_simp)) rfl ?_
    exact HP.out
  · have hM : mostR S = 1048576 := by unfold mostR; rw [if_neg b4]
    have q4 : ((z1 S).1 == 0) = false := beq_eq_false_iff_ne.2 b4
    have e4 : nmR S (z3 S).2 0 0 1048576 = z4 S := by unfold z4; rw [hM]
    clear b4
    go_wp2_with fail
    clear xt hM
    refine (size_clo gr gb gm 0 S (z3 S).2 0 1048576 w6 (by decide) (by decide) I3.out.rd I3.out.mn (by simp) HL.out.2.1).mono ?_
    rintro r w7 hc
    have hr : r = .returned (.bool ((z4 S).2.2 == 0)) := by rw [← e4]; exact hc.1
    have I4 : Hid (SzI w gr gb gt gm S (z1 S).1 (z2 S).1 (z3 S).1 (z4 S).1 (z4 S).2 w7) := by rw [← e4]; exact I3.out.many hc
    subst hr
    clear hc
    clear e4
    obtain ⟨b, hb⟩ : ∃ b, ((z4 S).2.2 == 0) = b := ⟨_, rfl⟩
    rw [hb]
    clear hb
    obtain ⟨x0, x1, x2, x3, y0⟩ := I4.out.cells
    have HR := Lib.hid I4.out.tr
    have HM : Hid ((w7.setRow gt #[.int .i64 ((z1 S).1), .int .i64 ((z2 S).1), .int .i64 ((z3 S).1), .slice none 0 0]).cell? ⟨gm, 0, none⟩ = some (.int .i64 ((z4 S).1)) ∧ (w7.setRow gt #[.int .i64 ((z1 S).1), .int .i64 ((z2 S).1), .int .i64 ((z3 S).1), .slice none 0 0]).frozen? ⟨gm, 0, none⟩ = false) := by
      have h9 := (row_set (cs := #[.int .i64 ((z1 S).1), .int .i64 ((z2 S).1), .int .i64 ((z3 S).1), .slice none 0 0]) I4.out.tr).2.block gm (Array.getElem?_eq_some_iff.1 I4.out.mn).1 (Ne.symm HL.out.2.2.2.2.1) (by simp)
      have h8 := h9.trans I4.out.mn
      refine ⟨cell_of_row _ gm 0 _ _ _ h8, ?_⟩
      unfold World.frozen?
      rw [h8]
      rfl
    obtain ⟨m1, m2⟩ := HM.out
    have HP := Lib.hid (HF.out _ _ _ _ _ _ I4.out rfl rfl rfl rfl rfl)
    go_wp2_with (first
      | (refine wpList_store_row rfl _ _ _ rfl gt #[.int .i64 ((z1 S).1), .int .i64 ((z2 S).1), .int .i64 ((z3 S).1), .slice none 0 0] rfl rfl 25 _ HR.out (by kernel_rfl) rfl (by simp [Value.oneCell']) ?_)
      | fail)
    have h1 := I4.out.again.tr
    have h2 := I4.out.again.cells.2.2.2.2
    refine bodyPost_ret (results_cc rfl _ _ gt gm 25 _ (0, 0) _ (.int .i64 ((z4 S).1)) rfl h1 Tryz.underlying25 rfl (by kernel_rfl) rfl (by go_simp)) rfl ?_
    exact HP.out
end Go.Proofs.YteigglhhnemngaaGreatDoor
