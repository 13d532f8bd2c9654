/-
  PLAIN: traces as bytes (layer 15): a trace's body; what a body is read as; back and forth. No program here. Conditions: as they stand.
-/
import Derived.Test.YteigglhhnemngaaGreatDoorDly
import Derived.Test.YteigglhhnemngaaGreatDoorQ07
namespace Go.Proofs.YteigglhhnemngaaGreatDoor
set_option maxRecDepth 100000
set_option linter.unusedVariables false
set_option linter.unusedSimpArgs false
structure RelC (T V S : Int) (q : Cd) (h : Sh) : Prop where
  eT : q.T = T
  eV : q.V = V
  eS : q.S = S
  clk : q.clk = h.clk
  bg : ∀ t : Nat, q.bg t = (h.att t).rv
  bp : ∀ t : Nat, q.bp t = h.bmp t
theorem relC_0 (T V S : Int) : RelC T V S (newQ T V S) sh0 := ⟨rfl, rfl, rfl, rfl, fun _ => rfl, fun _ => rfl⟩
theorem att_rv (S : Int) (a : Att) (e : Ev) : (attF S a e).rv = if e.kd = 1 then e.v else a.rv := by
  unfold attF
  repeat' split
  all_goals first | rfl | (simp_all; done)
theorem relC_tells {T V S : Int} {q : Cd} {h : Sh} {e : Ev} (hI : Inv S T h) (hR : RelC T V S q h) (hm : mayS T V S h e = true) : mayT q e = true := by
  obtain ⟨hb, hq⟩ := may13 hm
  obtain ⟨hz, hth, hk⟩ := (may_iff e T V S).1 hb
  have ht : ((e.th.toNat : Nat) : Int) = e.th := Int.toNat_of_nonneg hth.1
  have hbg := hR.bg e.th.toNat
  have hbp := hR.bp e.th.toNat
  rw [ht] at hbg hbp
  have hti := hI.t e.th hth.1
  refine told_mk (by rw [hR.eT, hR.eV, hR.eS]; exact hz) (by rw [hR.eT]; exact hth) (by rw [hR.eV, hR.eS]; exact hk) (fun k => ?_) (fun k => ?_) (fun k => ?_) (fun k => ?_)
  · unfold mayQ at hq
    rw [if_pos k] at hq
    rw [hR.clk]
    exact hq.2.2.2
  · unfold mayQ at hq
    rw [if_neg (by omega), if_pos k] at hq
    rw [hbg]
    exact hq.2.2.2.2
  · unfold mayQ at hq
    rw [if_neg (by omega), if_neg (by omega), if_neg (by omega), if_neg (by omega), if_pos k] at hq
    rw [hR.clk]
    exact hq.2.2
  · unfold mayQ at hq
    rw [if_neg (by omega), if_neg (by omega), if_neg (by omega), if_neg (by omega), if_neg (by omega), if_neg (by omega), if_pos k] at hq
    obtain ⟨_, hq⟩ := hq
    by_cases hv : e.v = 0
    · exact .inl hv
    · rw [if_neg hv] at hq
      obtain ⟨h1, _, h3⟩ := hq
      right
      rw [h3, hbp]
      unfold checksA at h1
      exact (hti.bmw (by omega)).1
theorem relC_step {T V S : Int} {q : Cd} {h : Sh} {e : Ev} (hR : RelC T V S q h) (h0 : 0 ≤ e.th) : RelC T V S (knowQ q e) (stepS S h e) := by
  have ht : ((e.th.toNat : Nat) : Int) = e.th := Int.toNat_of_nonneg h0
  refine ⟨hR.eT, hR.eV, hR.eS, ?_, fun t => ?_, fun t => ?_⟩
  · show (if e.kd = 1 ∨ e.kd = 5 then e.v else q.clk) = if e.kd = 1 ∨ e.kd = 5 then e.v else h.clk
    rw [hR.clk]
  · show (if e.kd = 1 then put q.bg e.th.toNat e.v else q.bg) t = (updF h.att e.th (attF S (h.att e.th) e) (t : Int)).rv
    by_cases hj : t = e.th.toNat
    · subst hj
      rw [ht, updF_same, att_rv]
      split
      · simp [put]
      · rw [hR.bg, ht]
    · have hj2 : (t : Int) ≠ e.th := by omega
      rw [updF_other hj2, ← hR.bg]
      split
      · simp [put, hj]
      · rfl
  · show (if e.kd = 5 then put q.bp e.th.toNat e.v else q.bp) t = (if e.kd = 5 then updF h.bmp e.th e.v else h.bmp) (t : Int)
    by_cases h5 : e.kd = 5
    · rw [if_pos h5, if_pos h5]
      by_cases hj : t = e.th.toNat
      · subst hj
        rw [ht, updF_same]
        simp [put]
      · rw [updF_other (by omega), ← hR.bp]
        simp [put, hj]
    · rw [if_neg h5, if_neg h5]
      exact hR.bp t
def FineH (T V S : Int) : Sh → List Ev → Prop
  | _, [] => True
  | h, e :: r => mayS T V S h e = true ∧ FineH T V S (stepS S h e) r
theorem fineH_iff (T V S : Int) (h : Sh) (L : List Ev) : FineH T V S h L ↔ ∀ i e, L[i]? = some e → mayS T V S ((L.take i).foldl (stepS S) h) e = true := by
  induction L generalizing h with
  | nil => exact ⟨fun _ i e he => by simp at he, fun _ => trivial⟩
  | cons x r ih =>
    constructor
    · rintro ⟨h1, h2⟩ i e he
      cases i with
      | zero =>
        simp only [List.getElem?_cons_zero, Option.some.injEq] at he
        subst he
        exact h1
      | succ i =>
        rw [List.getElem?_cons_succ] at he
        exact (ih _).1 h2 i e he
    · intro hh
      exact ⟨hh 0 x rfl, (ih _).2 fun i e he => hh (i + 1) e he⟩
theorem fineH_0 {T V S : Int} {L : List Ev} : FineH T V S sh0 L ↔ Fine T V S L := fineH_iff T V S sh0 L
theorem fineH_ok {T V S : Int} {q : Cd} {h : Sh} {L : List Ev} (hI : Inv S T h) (hR : RelC T V S q h) (hF : FineH T V S h L) (hok : ∀ e ∈ L, EvOk e) : okM q L := by
  induction L generalizing q h with
  | nil => trivial
  | cons e r ih =>
    obtain ⟨h1, h2⟩ := hF
    have h0 : 0 ≤ e.th := ((may_iff e T V S).1 (may13 h1).1).2.1.1
    exact ⟨⟨relC_tells hI hR h1, hok e (by simp)⟩, ih (step_inv hI h1) (relC_step hR h0) h2 fun x hx => hok x (by simp [hx])⟩
theorem size_fine {T V S : Int} {L : List Ev} (h : size13 T V S = true) (hF : Fine T V S L) (hl : L ≠ []) : sizeD T V S = true := by
  obtain ⟨e, r, rfl⟩ := List.exists_cons_of_ne_nil hl
  have h1 := hF 0 e rfl
  obtain ⟨hz, _, _⟩ := (may_iff e T V S).1 (may13 h1).1
  simp only [sizesB, Bool.and_eq_true, decide_eq_true_eq] at hz
  simp [sizeD, hz]
theorem byM_small {q : Cd} (hq : CdOk q) {L : List Ev} (h : okM q L) : L.length ≤ (byM q L).length ∧ (byM q L).length ≤ 12 * L.length := by
  induction L generalizing q with
  | nil => exact ⟨Nat.le_refl _, Nat.le_refl _⟩
  | cons e r ih =>
    have h1 := evB_small hq h.1.1
    have h2 := ih (know_ok hq h.1.1 ⟨h.1.2.y0, h.1.2.y1⟩) h.2
    show (e :: r).length ≤ (evB q e ++ byM (knowQ q e) r).length ∧ (evB q e ++ byM (knowQ q e) r).length ≤ _
    rw [List.length_append]
    simp only [List.length_cons]
    omega
def headB (T V S : Int) (n : Nat) : List UInt8 := putsL [T, V, S, (n : Int)]
def bodyB (T V S : Int) (L : List Ev) : List UInt8 := headB T V S L.length ++ byM (newQ T V S) L
def ErrR (wr : Int) : Prop := wr = 0 ∨ wr = 4 ∨ wr = 8 ∨ wr = 10 ∨ wr = 11 ∨ wr = 20
theorem getF_err (l : List UInt8) (k acc : Nat) : (Vm.getF l k acc).2.2 = 0 ∨ (Vm.getF l k acc).2.2 = 8 ∨ (Vm.getF l k acc).2.2 = 11 ∨ (Vm.getF l k acc).2.2 = 20 := by
  induction l generalizing k acc with
  | nil => simp [Vm.getF]
  | cons b r ih =>
    unfold Vm.getF
    split
    · simp
    · split
      · exact ih _ _
      · split
        · simp
        · simp
theorem tNum_err (m : Int) (l : List UInt8) : (tNum m l).2.2 = 0 ∨ (tNum m l).2.2 = 8 ∨ (tNum m l).2.2 = 11 ∨ (tNum m l).2.2 = 20 := by
  have h := getF_err l 0 0
  unfold tNum Vm.get
  split
  · split
    · simp
    · simp
  · simp only
    omega
theorem nm_err {S : ByteArray} {x : Nat × Int} {n l m : Int} (h : ErrR x.2) : ErrR (nmR S x n l m).2.2 := by
  have ht := tNum_err m (S.data.toList.drop x.1)
  unfold nmR
  split
  · simp [ErrR]
  · simp only
    unfold rNum rd
    split
    · split
      · simp [ErrR]
      · simp only
        unfold ErrR
        omega
    · exact h
theorem rdX_err (q : Cd) (S : ByteArray) (a : Nat) (wr : Int) (h : ErrR wr) : ErrR (rdX q S a wr).2.2 := by
  have key : ∀ (e : Ev) (s : Nat × Int), ErrR s.2 → ErrR (partP q (nmR S) e s).2.2 := fun e s hs => by
    unfold partP
    split
    · exact nm_err (nm_err hs)
    · split
      · exact nm_err (nm_err hs)
      · split
        · exact nm_err (nm_err hs)
        · split
          · exact nm_err hs
          · split
            · exact nm_err hs
            · split
              · exact nm_err hs
              · split
                · unfold abortP
                  split
                  · exact nm_err hs
                  · exact nm_err (nm_err hs)
                · exact hs
  exact key _ _ (nm_err h)
theorem nm_w {S : ByteArray} {x : Nat × Int} {n l m : Int} (h : x.2 ≠ 0) : nmR S x n l m = (0, x) := by
  have e : rNum m S x.1 x.2 = (0, x.2, x.1, x.2) := rd_w h
  unfold nmR
  rw [e]
  simp only
  rw [if_neg (fun z => h z.1)]
def evsR (S : ByteArray) (T V W : Int) : Nat → Cd → Sh → Nat × Int → List Ev × (Nat × Int)
  | 0, _, _, x => ([], x)
  | n + 1, q, h, x =>
    if (rdX q S x.1 x.2).2.2 = 0 then
      (if mayS T V W h (rdX q S x.1 x.2).1 = true then
        ((rdX q S x.1 x.2).1 :: (evsR S T V W n (knowQ q (rdX q S x.1 x.2).1) (stepS W h (rdX q S x.1 x.2).1) (rdX q S x.1 x.2).2).1, (evsR S T V W n (knowQ q (rdX q S x.1 x.2).1) (stepS W h (rdX q S x.1 x.2).1) (rdX q S x.1 x.2).2).2)
      else ([], (x.1, 4)))
    else ([], (rdX q S x.1 x.2).2)
theorem evs_up {S : ByteArray} {T V W : Int} (n : Nat) {q : Cd} {h : Sh} {x : Nat × Int} (hq : CdOk q) (hx : x.1 ≤ S.size) (he : ErrR x.2) : x.1 ≤ (evsR S T V W n q h x).2.1 ∧ (evsR S T V W n q h x).2.1 ≤ S.size ∧ ErrR (evsR S T V W n q h x).2.2 := by
  induction n generalizing q h x with
  | zero => exact ⟨Nat.le_refl _, hx, he⟩
  | succ n ih =>
    have hu := rd_up (wr := x.2) hq hx
    have hb := rd_b q hq S x.1 x.2
    have hE := rdX_err q S x.1 x.2 he
    unfold evsR
    split
    · rename_i h0
      split
      · have hk := rd_back hq hx h0
        have := ih (q := knowQ q (rdX q S x.1 x.2).1) (h := stepS W h (rdX q S x.1 x.2).1) (x := (rdX q S x.1 x.2).2) (know_ok hq hk.2.1 ⟨hb.1.y0, hb.1.y1⟩) hu.2 hE
        exact ⟨Nat.le_trans hu.1 this.1, this.2⟩
      · exact ⟨Nat.le_refl _, hx, by simp [ErrR]⟩
    · exact ⟨hu.1, hu.2, hE⟩
theorem evs_back {S : ByteArray} {T V W : Int} (n : Nat) {q : Cd} {h : Sh} {x : Nat × Int} (hq : CdOk q) (hx : x.1 ≤ S.size) (h0 : (evsR S T V W n q h x).2.2 = 0) : x.2 = 0 ∧ (evsR S T V W n q h x).1.length = n ∧ FineH T V W h (evsR S T V W n q h x).1 ∧ okM q (evsR S T V W n q h x).1 ∧ Seg S x.1 (evsR S T V W n q h x).2.1 (byM q (evsR S T V W n q h x).1) := by
  induction n generalizing q h x with
  | zero => exact ⟨h0, rfl, trivial, trivial, Seg.nil hx⟩
  | succ n ih =>
    have hu := rd_up (wr := x.2) hq hx
    have hb := rd_b q hq S x.1 x.2
    unfold evsR at h0 ⊢
    by_cases h1 : (rdX q S x.1 x.2).2.2 = 0
    · rw [if_pos h1] at h0 ⊢
      by_cases h2 : mayS T V W h (rdX q S x.1 x.2).1 = true
      · rw [if_pos h2] at h0 ⊢
        have hk := rd_back hq hx h1
        have := ih (know_ok hq hk.2.1 ⟨hb.1.y0, hb.1.y1⟩) hu.2 h0
        refine ⟨hk.1, by simp only [List.length_cons, this.2.1], ⟨h2, this.2.2.1⟩, ⟨⟨hk.2.1, hb.1⟩, this.2.2.2.1⟩, ?_⟩
        exact hk.2.2.append this.2.2.2.2
      · rw [if_neg h2] at h0
        exact absurd h0 (by simp)
    · rw [if_neg h1] at h0
      exact absurd h0 h1
theorem evs_told {S : ByteArray} {T V W : Int} {q : Cd} {h : Sh} {L : List Ev} {a b : Nat} (hq : CdOk q) (hF : FineH T V W h L) (hok : okM q L) (hs : Seg S a b (byM q L)) : evsR S T V W L.length q h (a, 0) = (L, (b, 0)) := by
  induction L generalizing q h a with
  | nil =>
    have : a = b := by have := hs.1; simpa [byM] using this
    subst this
    rfl
  | cons e r ih =>
    have hs' : Seg S a b (evB q e ++ byM (knowQ q e) r) := hs
    obtain ⟨m, s1, s2⟩ := hs'.split
    have hx := rd_told hq hok.1.1 s1
    have hi := ih (know_ok hq hok.1.1 ⟨hok.1.2.y0, hok.1.2.y1⟩) hF.2 hok.2 s2
    show evsR S T V W (r.length + 1) q h (a, 0) = _
    unfold evsR
    simp only [hx, if_true]
    rw [if_pos hF.1, hi]
def z1 (S : ByteArray) : Int × (Nat × Int) := nmR S (0, 0) 0 0 6
def z2 (S : ByteArray) : Int × (Nat × Int) := nmR S (z1 S).2 0 1 32
def z3 (S : ByteArray) : Int × (Nat × Int) := nmR S (z2 S).2 0 1 (z2 S).1
def mostR (S : ByteArray) : Int := if (z1 S).1 = 0 then 0 else 1048576
def z4 (S : ByteArray) : Int × (Nat × Int) := nmR S (z3 S).2 0 0 (mostR S)
def evsS (S : ByteArray) : List Ev × (Nat × Int) := evsR S (z1 S).1 (z2 S).1 (z3 S).1 (z4 S).1.toNat (newQ (z1 S).1 (z2 S).1 (z3 S).1) sh0 (z4 S).2
def endR (S : ByteArray) (x : Nat × Int) : Nat × Int := if x.2 = 0 ∧ x.1 < S.size then (x.1, 10) else x
def wrR (S : ByteArray) : Nat × Int := endR S (evsS S).2
theorem nm_val {S : ByteArray} {x : Nat × Int} {n l m : Int} (hm : 0 ≤ m) : 0 ≤ (nmR S x n l m).1 ∧ (nmR S x n l m).1 ≤ m := nmR_val hm
theorem zs_ok (S : ByteArray) : (z1 S).2.1 ≤ S.size ∧ (z2 S).2.1 ≤ S.size ∧ (z3 S).2.1 ≤ S.size ∧ (z4 S).2.1 ≤ S.size ∧ ErrR (z1 S).2.2 ∧ ErrR (z2 S).2.2 ∧ ErrR (z3 S).2.2 ∧ ErrR (z4 S).2.2 := by
  have e1 : ErrR (z1 S).2.2 := nm_err (by simp [ErrR])
  have e2 : ErrR (z2 S).2.2 := nm_err e1
  have e3 : ErrR (z3 S).2.2 := nm_err e2
  have e4 : ErrR (z4 S).2.2 := nm_err e3
  have u1 := (step_up (S := S) (x := (0, 0)) (n := 0) (l := 0) (m := 6) (Nat.zero_le _) (by omega)).2.1
  have u2 := (step_up (S := S) (x := (z1 S).2) (n := 0) (l := 1) (m := 32) u1 (by omega)).2.1
  have v2 := nm_val (S := S) (x := (z1 S).2) (n := 0) (l := 1) (m := 32) (by omega)
  have u3 := (step_up (S := S) (x := (z2 S).2) (n := 0) (l := 1) (m := (z2 S).1) u2 v2.1).2.1
  have hm : 0 ≤ mostR S := by unfold mostR; split <;> omega
  have u4 := (step_up (S := S) (x := (z3 S).2) (n := 0) (l := 0) (m := mostR S) u3 hm).2.1
  exact ⟨u1, u2, u3, u4, e1, e2, e3, e4⟩
theorem zs_back (S : ByteArray) (h : (z4 S).2.2 = 0) : (z1 S).2.2 = 0 ∧ (z2 S).2.2 = 0 ∧ (z3 S).2.2 = 0 ∧ size13 (z1 S).1 (z2 S).1 (z3 S).1 = true ∧ (0 ≤ (z4 S).1 ∧ (z4 S).1 ≤ 1048576) ∧ ((z1 S).1 = 0 → (z4 S).1 = 0) ∧ Seg S 0 (z4 S).2.1 (putsL [(z1 S).1, (z2 S).1, (z3 S).1, (z4 S).1]) := by
  obtain ⟨u1, u2, u3, u4, _⟩ := zs_ok S
  have v2 := nm_val (S := S) (x := (z1 S).2) (n := 0) (l := 1) (m := 32) (by omega)
  have hm : 0 ≤ mostR S := by unfold mostR; split <;> omega
  obtain ⟨k3, s4, _, a4, b4, _, _⟩ := step_ok (S := S) (x := (z3 S).2) (n := 0) (l := 0) (m := mostR S) u3 hm h
  obtain ⟨k2, s3, a3, _, b3, _, _⟩ := step_ok (S := S) (x := (z2 S).2) (n := 0) (l := 1) (m := (z2 S).1) u2 v2.1 k3
  obtain ⟨k1, s2, a2, _, b2, _, _⟩ := step_ok (S := S) (x := (z1 S).2) (n := 0) (l := 1) (m := 32) u1 (by omega) k2
  obtain ⟨k0, s1, _, a1, b1, _, _⟩ := step_ok (S := S) (x := (0, 0)) (n := 0) (l := 0) (m := 6) (Nat.zero_le _) (by omega) k1
  change 0 ≤ (z1 S).1 at a1
  change (z1 S).1 ≤ 6 at b1
  change 1 ≤ (z2 S).1 at a2
  change (z2 S).1 ≤ 32 at b2
  change 1 ≤ (z3 S).1 at a3
  change (z3 S).1 ≤ (z2 S).1 at b3
  change 0 ≤ (z4 S).1 at a4
  change (z4 S).1 ≤ mostR S at b4
  refine ⟨k1, k2, k3, by simp [size13, a1, b1, a2, b2, a3, b3], ⟨a4, by unfold mostR at b4; split at b4 <;> omega⟩, fun z => by unfold mostR at b4; rw [if_pos z] at b4; omega, ?_⟩
  have e : putsL [(z1 S).1, (z2 S).1, (z3 S).1, (z4 S).1] = Vm.put (z1 S).1.toNat ++ (Vm.put (z2 S).1.toNat ++ (Vm.put (z3 S).1.toNat ++ Vm.put (z4 S).1.toNat)) := by simp [putsL]
  rw [e]
  exact Seg.append s1 (Seg.append s2 (Seg.append s3 s4))
theorem z4_bad (S : ByteArray) (h : (z4 S).2.2 ≠ 0) : (z4 S).1 = 0 := by
  by_cases h3 : (z3 S).2.2 = 0
  · have hm : 0 ≤ mostR S := by unfold mostR; split <;> omega
    unfold z4 nmR at h ⊢
    split at h
    · rename_i hc
      rw [if_pos hc]
      have := rNum_val hm S (z3 S).2.1 (z3 S).2.2
      have hc2 := hc.2
      show (rNum (mostR S) S (z3 S).2.1 (z3 S).2.2).1 = 0
      omega
    · rename_i hc
      rw [if_neg hc]
      simp only at h ⊢
      unfold rNum rd at h ⊢
      rw [if_pos h3] at h ⊢
      by_cases ht : (tNum (mostR S) (S.data.toList.drop (z3 S).2.1)).2.2 = 0
      · rw [if_pos ht] at h
        exact absurd rfl h
      · rw [if_neg ht]
  · unfold z4
    rw [nm_w h3]
theorem evsS_bad (S : ByteArray) (h : (z4 S).2.2 ≠ 0) : evsS S = ([], (z4 S).2) := by
  unfold evsS
  rw [z4_bad S h]
  rfl
theorem zs_cod (S : ByteArray) (h : (z4 S).2.2 = 0) (hn : (z4 S).1 ≠ 0) : sizeD (z1 S).1 (z2 S).1 (z3 S).1 = true := by
  obtain ⟨_, _, _, hz, _, h0, _⟩ := zs_back S h
  have : (z1 S).1 ≠ 0 := fun x => hn (h0 x)
  simp only [size13, Bool.and_eq_true, decide_eq_true_eq] at hz
  simp only [sizeD, Bool.and_eq_true, decide_eq_true_eq]
  omega
theorem end_up {S : ByteArray} {x : Nat × Int} (h : x.1 ≤ S.size) (he : ErrR x.2) : (endR S x).1 ≤ S.size ∧ ErrR (endR S x).2 := by
  unfold endR
  split
  · exact ⟨h, by simp [ErrR]⟩
  · exact ⟨h, he⟩
theorem wrR_ok (S : ByteArray) : (wrR S).1 ≤ S.size ∧ ErrR (wrR S).2 := by
  obtain ⟨u1, u2, u3, u4, _, _, _, e4⟩ := zs_ok S
  refine end_up ?_ ?_
  · by_cases h : (z4 S).2.2 = 0
    · by_cases hn : (z4 S).1 = 0
      · unfold evsS
        rw [hn]
        exact u4
      · exact (evs_up _ (newQ_ok (zs_cod S h hn)) u4 e4).2.1
    · rw [evsS_bad S h]
      exact u4
  · by_cases h : (z4 S).2.2 = 0
    · by_cases hn : (z4 S).1 = 0
      · unfold evsS
        rw [hn]
        exact e4
      · exact (evs_up _ (newQ_ok (zs_cod S h hn)) u4 e4).2.2
    · rw [evsS_bad S h]
      exact e4
theorem wrR_back (S : ByteArray) (h : (wrR S).2 = 0) : size13 (z1 S).1 (z2 S).1 (z3 S).1 = true ∧ (evsS S).1.length ≤ 1048576 ∧ Fine (z1 S).1 (z2 S).1 (z3 S).1 (evsS S).1 ∧ (∀ e ∈ (evsS S).1, EvOk e) ∧ S = bs (bodyB (z1 S).1 (z2 S).1 (z3 S).1 (evsS S).1) ∧ (z4 S).2.2 = 0 ∧ ((evsS S).1.length : Int) = (z4 S).1 := by
  obtain ⟨_, _, _, u4, _⟩ := zs_ok S
  have h0 : (evsS S).2.2 = 0 ∧ ¬ (evsS S).2.1 < S.size := by
    unfold wrR endR at h
    split at h
    · exact absurd h (by simp)
    · rename_i hc
      exact ⟨h, fun z => hc ⟨h, z⟩⟩
  have h4 : (z4 S).2.2 = 0 := by
    apply Classical.byContradiction
    intro hn
    have := h0.1
    rw [evsS_bad S hn] at this
    exact hn this
  obtain ⟨_, _, _, hz, hn4, _, hs⟩ := zs_back S h4
  by_cases hn : (z4 S).1 = 0
  · have e : evsS S = ([], (z4 S).2) := by unfold evsS; rw [hn]; rfl
    rw [e] at h0 ⊢
    refine ⟨hz, Nat.zero_le _, fun i e he => by simp at he, fun e he => by simp at he, ?_, h4, by rw [hn]; rfl⟩
    obtain ⟨s1, s2, r, s3⟩ := hs
    have hr : r = [] := by
      have := congrArg List.length s3
      rw [List.drop_zero, List.length_append, toL_size] at this
      have h5 := h0.2
      simp only at h5
      exact List.eq_nil_of_length_eq_zero (by omega)
    rw [hr, List.append_nil, List.drop_zero, hn] at s3
    have e2 : bodyB (z1 S).1 (z2 S).1 (z3 S).1 [] = S.data.toList := by
      rw [s3]
      unfold bodyB headB byM
      rw [List.append_nil]
      rfl
    rw [e2, bs_of]
  · have hq := newQ_ok (zs_cod S h4 hn)
    obtain ⟨_, b1, b2, b3, b4⟩ := evs_back (S := S) (T := (z1 S).1) (V := (z2 S).1) (W := (z3 S).1) (z4 S).1.toNat (h := sh0) hq u4 h0.1
    have b1' : (evsS S).1.length = (z4 S).1.toNat := b1
    have okE : ∀ (q : Cd) (L : List Ev), okM q L → ∀ e ∈ L, EvOk e := by
      intro q L
      induction L generalizing q with
      | nil => exact fun _ e he => by simp at he
      | cons x r ih =>
        intro hk e he
        rcases List.mem_cons.1 he with rfl | he
        · exact hk.1.2
        · exact ih _ hk.2 e he
    refine ⟨hz, by omega, fineH_0.1 b2, okE _ _ b3, ?_, h4, by omega⟩
    have hs2 := hs.append b4
    obtain ⟨s1, s2, r, s3⟩ := hs2
    have hr : r = [] := by
      have := congrArg List.length s3
      rw [List.drop_zero, List.length_append, toL_size] at this
      have h5 := h0.2
      change ¬ (evsS S).2.1 < S.size at h5
      change 0 + _ = (evsS S).2.1 at s1
      exact List.eq_nil_of_length_eq_zero (by omega)
    rw [hr, List.append_nil, List.drop_zero] at s3
    have e2 : bodyB (z1 S).1 (z2 S).1 (z3 S).1 (evsS S).1 = S.data.toList := by
      rw [s3]
      unfold bodyB headB
      rw [b1', Int.toNat_of_nonneg hn4.1]
      rfl
    rw [e2, bs_of]
theorem wrR_told {T V S : Int} {L : List Ev} (hz : size13 T V S = true) (hl : L.length ≤ 1048576) (hF : Fine T V S L) (hok : ∀ e ∈ L, EvOk e) :
    (z1 (bs (bodyB T V S L))).1 = T ∧ (z2 (bs (bodyB T V S L))).1 = V ∧ (z3 (bs (bodyB T V S L))).1 = S ∧ (evsS (bs (bodyB T V S L))).1 = L ∧ (wrR (bs (bodyB T V S L))).2 = 0 := by
  obtain ⟨B, hB⟩ : ∃ B, bs (bodyB T V S L) = B := ⟨_, rfl⟩
  rw [hB]
  have hB2 : B.data.toList = Vm.put T.toNat ++ (Vm.put V.toNat ++ (Vm.put S.toNat ++ (Vm.put L.length ++ byM (newQ T V S) L))) := by
    rw [← hB, bs_bytes]
    simp [bodyB, headB, putsL]
  have hseg : Seg B 0 B.size (Vm.put T.toNat ++ (Vm.put V.toNat ++ (Vm.put S.toNat ++ (Vm.put L.length ++ byM (newQ T V S) L)))) := by
    refine ⟨?_, Nat.le_refl _, [], ?_⟩
    · rw [← hB2, toL_size]; omega
    · rw [List.drop_zero, List.append_nil, hB2]
  have hz' := hz
  simp only [size13, Bool.and_eq_true, decide_eq_true_eq] at hz'
  obtain ⟨⟨⟨t0, t1⟩, v0, v1⟩, s0, s1⟩ := hz'
  obtain ⟨m1, g1, r1⟩ := hseg.split
  obtain ⟨m2, g2, r2⟩ := r1.split
  obtain ⟨m3, g3, r3⟩ := r2.split
  obtain ⟨m4, g4, r4⟩ := r3.split
  have e1 : z1 B = (T, (m1, 0)) := step_put g1 t0 (by omega) (by omega) (by omega)
  have e2 : z2 B = (V, (m2, 0)) := by
    unfold z2
    rw [e1]
    exact step_put g2 (by omega) v0 (by omega) (by omega)
  have e3 : z3 B = (S, (m3, 0)) := by
    unfold z3
    rw [e2]
    exact step_put g3 (by omega) s0 s1 (by omega)
  have hnil : T = 0 → L = [] := fun h0 => by
    apply Classical.byContradiction
    intro hn
    have := size_fine hz hF hn
    simp only [sizeD, Bool.and_eq_true, decide_eq_true_eq] at this
    omega
  have e4 : z4 B = ((L.length : Int), (m4, 0)) := by
    unfold z4 mostR
    rw [e3, e1]
    refine step_put (z := (L.length : Int)) (by rw [Int.toNat_natCast]; exact g4) (by omega) (by omega) ?_ ?_
    · show (L.length : Int) ≤ if T = 0 then 0 else 1048576
      split
      · rw [hnil (by assumption)]
        simp
      · omega
    · show (if T = 0 then (0 : Int) else 1048576) < _
      split <;> omega
  have e5 : evsS B = (L, (B.size, 0)) := by
    unfold evsS
    rw [e1, e2, e3, e4]
    simp only [Int.toNat_natCast]
    by_cases hn : L = []
    · subst hn
      have : m4 = B.size := by have := r4.1; simpa [byM] using this
      rw [this]
      rfl
    · have hq := newQ_ok (size_fine hz hF hn)
      exact evs_told hq (fineH_0.2 hF) (fineH_ok (init_inv S T) (relC_0 T V S) (fineH_0.2 hF) hok) r4
  rw [e1, e2, e3]
  unfold wrR endR
  rw [e5]
  refine ⟨rfl, rfl, rfl, rfl, ?_⟩
  rw [if_neg (by simp)]
theorem body_len {T V S : Int} {L : List Ev} (hz : size13 T V S = true) (hF : Fine T V S L) (hok : ∀ e ∈ L, EvOk e) : 4 ≤ (bodyB T V S L).length ∧ L.length + 4 ≤ (bodyB T V S L).length ∧ (bodyB T V S L).length ≤ 40 + 12 * L.length := by
  have h1 := Vm.put_len T.toNat
  have h2 := Vm.put_len V.toNat
  have h3 := Vm.put_len S.toNat
  have h4 := Vm.put_len L.length
  have hh : (headB T V S L.length).length = (Vm.put T.toNat).length + ((Vm.put V.toNat).length + ((Vm.put S.toNat).length + (Vm.put L.length).length)) := by
    simp [headB, putsL]
  unfold bodyB
  rw [List.length_append, hh]
  by_cases hn : L = []
  · have e0 : byM (newQ T V S) L = [] := by rw [hn]; rfl
    have e1 : L.length = 0 := by rw [hn]; rfl
    rw [e0]
    simp only [List.length_nil]
    omega
  · have := byM_small (newQ_ok (size_fine hz hF hn)) (fineH_ok (init_inv S T) (relC_0 T V S) (fineH_0.2 hF) hok)
    omega
end Go.Proofs.YteigglhhnemngaaGreatDoor
