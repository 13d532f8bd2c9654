/-
  FOR DeltaSmall (layer 14): the walk. Conditions: the table of names lies.
-/
import Derived.Test.YtkfcglgikemefaaDoorDlu
namespace Go.Proofs.YtkfcglgikemefaaDoor
set_option maxRecDepth 100000
open Go.RowKit Go.Deep
set_option linter.unusedVariables false
set_option linter.unusedSimpArgs false
theorem know_sizes (q : Cd) (most : Int) (l : List UInt8) (e : Ev) : (wrQ q most l e).T = q.T ∧ (wrQ q most l e).V = q.V ∧ (wrQ q most l e).S = q.S := by
  unfold wrQ
  split <;> exact ⟨rfl, rfl, rfl⟩
theorem wrL_len {q : Cd} (hq : CdOk q) (most : Int) (l : List UInt8) (e : Ev) : (wrL q most l e).length ≤ l.length + 12 := by
  unfold wrL rawL
  split
  · rename_i h
    have := (evB_small hq h).2
    split
    · rw [List.length_append]
      omega
    · omega
  · omega
theorem load_told {q : Cd} (hq : CdOk q) (hT : q.T = 6) (hV : q.V = 32) {t v : Int} (ht : 0 ≤ t ∧ t < 6) (hv : 0 ≤ v ∧ v < 32) : mayT q ⟨3, t, 0, v, 0, 9, 0⟩ = true :=
  told_mk (sizes_q hq) (by simp only; omega) (.inr (.inr (.inl ⟨.inl rfl, rfl, ⟨hv.1, by simp only; omega⟩, rfl, ⟨by simp only; omega, by simp only; omega⟩, rfl⟩))) (fun x => by simp at x) (fun x => by simp at x) (fun x => by simp at x) (fun x => by simp at x)
theorem free_told {q : Cd} (hq : CdOk q) (hT : q.T = 6) (hS : q.S = 32) {t v : Int} (ht : 0 ≤ t ∧ t < 6) (hv : 0 ≤ v ∧ v < 32) : mayT q ⟨9, t, 0, v, 0, 0, 0⟩ = true :=
  told_mk (sizes_q hq) (by simp only; omega) (.inr (.inr (.inr (.inl ⟨.inr (.inr (.inl rfl)), rfl, ⟨hv.1, by simp only; omega⟩, rfl, rfl, rfl⟩)))) (fun x => by simp at x) (fun x => by simp at x) (fun x => by simp at x) (fun x => by simp at x)
theorem load_three {q : Cd} (hT : q.T = 6) {t v : Int} (ht : 0 ≤ t ∧ t < 6) (hv : 0 ≤ v ∧ v < 32) (hl : q.last = t) (hx : q.xs v.toNat = 9) : (evB q ⟨3, t, 0, v, 0, 9, 0⟩).length = 3 := by
  have e0 : whoN q ⟨3, t, 0, v, 0, 9, 0⟩ = 12 := by
    unfold whoN
    simp only
    rw [hT, hl, show t - t + 6 = 6 by omega]
    rfl
  have e1 : restN q ⟨3, t, 0, v, 0, 9, 0⟩ = [v, 0] := by
    unfold restN
    simp only
    rw [if_neg (by decide), if_neg (by decide), if_pos (by decide), hx]
    rfl
  rw [evB_cons, e0, e1, putsL_two, List.length_append, List.length_append, put1 hv.1 (by omega), put1 (by decide) (by decide), put1 (by decide) (by decide)]
theorem free_two {q : Cd} (hT : q.T = 6) {t v : Int} (ht : 0 ≤ t ∧ t < 6) (hv : 0 ≤ v ∧ v < 32) (hl : q.last = t) : (evB q ⟨9, t, 0, v, 0, 0, 0⟩).length = 2 := by
  have e0 : whoN q ⟨9, t, 0, v, 0, 0, 0⟩ = 48 := by
    unfold whoN
    simp only
    rw [hT, hl, show t - t + 6 = 6 by omega]
    rfl
  have e1 : restN q ⟨9, t, 0, v, 0, 0, 0⟩ = [v] := by
    unfold restN
    simp only
    rw [if_neg (by decide), if_neg (by decide), if_neg (by decide), if_pos (by decide)]
  rw [evB_cons, e0, e1, putsL_one, List.length_append, put1 hv.1 (by omega), put1 (by decide) (by decide)]
theorem EvO.stays_write {B gw gc : Nat} {w w' : World} {g : Nat} {e : Ev} {q : Cd} {most : Int} {l : List UInt8} (h : EvO w g e) (hc : CodAt w gc q) (hw : Wr w B gw most l) (f : FrT B gw gc w w') : EvO w' g e := by
  obtain ⟨v, hw⟩ := hw
  exact f.cells h (by decide) (Obj.unlike (w := w) (g := g) (t := 46) h hw.1 (by decide)) (Obj.unlike (w := w) (g := g) (t := 46) h hc (by decide))
theorem ev_okT {t v : Int} (ht : 0 ≤ t ∧ t < 6) (hv : 0 ≤ v ∧ v < 32) : EvOk ⟨3, t, 0, v, 0, 9, 0⟩ := by constructor <;> simp only <;> omega
theorem ev_okF {t v : Int} (ht : 0 ≤ t ∧ t < 6) (hv : 0 ≤ v ∧ v < 32) : EvOk ⟨9, t, 0, v, 0, 0, 0⟩ := by constructor <;> simp only <;> omega
theorem know_load {q : Cd} {t v : Int} : (knowQ q ⟨3, t, 0, v, 0, 9, 0⟩).last = t ∧ (knowQ q ⟨3, t, 0, v, 0, 9, 0⟩).xs v.toNat = 9 := ⟨rfl, by
  unfold knowQ put
  simp⟩
theorem raw_fits {most : Int} {l b : List UInt8} (h : (l.length : Int) + b.length ≤ most) : rawE most l b = 0 ∧ rawL most l b = l ++ b := by
  unfold rawE rawL
  rw [if_pos h, if_pos h]
  exact ⟨rfl, rfl⟩
theorem written {q : Cd} {l : List UInt8} {e : Ev} (h : mayT q e = true) (hf : (l.length : Int) + (evB q e).length ≤ 16777216) : wrE q 16777216 l e = 0 ∧ wrL q 16777216 l e = l ++ evB q e ∧ wrQ q 16777216 l e = knowQ q e := by
  obtain ⟨a, b⟩ := raw_fits hf
  unfold wrE wrL wrQ
  rw [if_pos h, if_pos h, if_pos ⟨h, a⟩, a, b]
  exact ⟨rfl, rfl, rfl⟩
end Go.Proofs.YtkfcglgikemefaaDoor
