/-
  A MAP FROM int TO int64, AS A FUNCTION: what it says of each variable (lk); a block that is such a map (LV); what a store, and entries that are laid in, make of it; its keys, sorted, as a rising row (XLa's). No function of the program. Conditions: as they stand.
-/
import Derived.Test.YthdcdffdpdoeoaaGreatDoorLa
import Derived.Maps.OwnSet
import Derived.Maps.RangeWalk
import Derived.Maps.Ext
import Derived.Lib.SlMapMerge
import Derived.Sort.OwnSortedInts
import Derived.Lib.SlKeysI
import Derived.WalkKit
namespace Go.Proofs.YthdcdffdpdoeoaaGreatDoor
set_option maxRecDepth 100000
open Go.RowKit Go.Maps
set_option linter.unusedVariables false
abbrev DU := DataW Unit
def kI (v : Int) : Lit := .int .i64 v
def wfI (v : Int) : Prop := (Lit.int .i64 v).wf = true
def dI (x : Int) : DU := .lit (.int .i64 x)
def dv : DU → Option Int
  | .lit (.int _ c) => some c
  | _ => some 0
theorem dv_some (d : DU) : ∃ c, dv d = some c := by
  unfold dv
  split <;> exact ⟨_, rfl⟩
/-- What the datum says of v. -/
def lk (D : DU) (v : Int) : Option Int := if has D (kI v) = true then dv (D.atKey (kI v) (dI 0)) else none
theorem lk_at {D : DU} {v c : Int} (h : D.atKey (kI v) (dI 0) = dI c) : lk D v = if has D (kI v) = true then some c else none := by
  unfold lk
  rw [h]
  rfl
theorem lk_none {D : DU} {v : Int} (h : has D (kI v) = false) : lk D v = none := by simp [lk, h]
theorem lk_isSome {D : DU} {v : Int} : (lk D v).isSome = has D (kI v) := by
  unfold lk
  cases h : has D (kI v)
  · simp
  · obtain ⟨c, hc⟩ := dv_some (D.atKey (kI v) (dI 0))
    simp [hc]
theorem isKey_kI {v : Int} (h : wfI v) : WideAt.IsKeyLit (kI v) := by first | exact trivial | exact h | simp [kI, WideAt.IsKeyLit]
theorem kI_ne {a b : Int} (h : a ≠ b) : kI a ≠ kI b := fun e => h (by injection e)
theorem lk_put {D : DU} (hm : IsMap D) {v : Int} (hv : wfI v) (x u : Int) : lk (D.put (kI v) (dI x)) u = if v = u then some x else lk D u := by
  by_cases e : v = u
  · subst e
    rw [if_pos rfl, lk, has_put_same hm (isKey_kI hv), atKey_put_same hm (isKey_kI hv)]
    rfl
  · rw [if_neg e, lk, lk, has_put_other (kI_ne (Ne.symm e)), atKey_put_other (kI_ne (Ne.symm e))]
theorem lk_empty (v : Int) : lk (.map []) v = none := rfl
theorem lk_nil (v : Int) : lk (.nil) v = none := rfl
/-- Block b is a map of at most n entries that says f. -/
def LV (w : World) (b n : Nat) (f : Int → Option Int) : Prop := ∃ D : DU, w.ownsMap Tryz.prog 3 (plainElem Tryz.prog 2) b n D ∧ ∀ v, wfI v → lk D v = f v
theorem keyed8 : Keyed Tryz.prog 3 := int_keyed Tryz.underlying3
theorem LV.lt {w : World} {b n : Nat} {f : Int → Option Int} (h : LV w b n f) : b < w.heap.size := by obtain ⟨D, h, _⟩ := h; exact h.lt
theorem ownsMap_of_block {w w' : World} {b n : Nat} {D : DU} (h : w.ownsMap Tryz.prog 3 (plainElem Tryz.prog 2) b n D) (hb : w'.heap[b]? = w.heap[b]?) : w'.ownsMap Tryz.prog 3 (plainElem Tryz.prog 2) b n D := by
  obtain ⟨es, clock, h1, h2⟩ := h
  exact ⟨es, clock, hb.trans h1, h2⟩
theorem LV.of_block {w w' : World} {b n : Nat} {f : Int → Option Int} (h : LV w b n f) (hb : w'.heap[b]? = w.heap[b]?) : LV w' b n f := by
  obtain ⟨D, h, hf⟩ := h
  exact ⟨D, ownsMap_of_block h hb, hf⟩
theorem LV.is_map {w : World} {b n : Nat} {f : Int → Option Int} (h : LV w b n f) : ∃ es c, w.heap[b]? = some (.map es c) := by
  obtain ⟨D, ⟨es, clock, h1, _⟩, _⟩ := h
  exact ⟨es, clock, h1⟩
theorem LV.mono {w : World} {b n n' : Nat} {f : Int → Option Int} (h : LV w b n f) (hn : n ≤ n') : LV w b n' f := by
  obtain ⟨D, h, hf⟩ := h
  exact ⟨D, h.mono hn, hf⟩
theorem LV.congr {w : World} {b n : Nat} {f g : Int → Option Int} (h : LV w b n f) (e : ∀ v, wfI v → f v = g v) : LV w b n g := by
  obtain ⟨D, h, hf⟩ := h
  exact ⟨D, h, fun v hv => (hf v hv).trans (e v hv)⟩
theorem isMap8 {w : World} {b n : Nat} {D : DU} (h : w.ownsMap Tryz.prog 3 (plainElem Tryz.prog 2) b n D) : IsMap D := by
  obtain ⟨es, hD, _⟩ := h.entries keyed8
  exact ⟨es, hD⟩
/-- Entries laid in. -/
theorem lk_merge {w : World} {b n b' n' : Nat} {Dd Ds : DU} (hd : w.ownsMap Tryz.prog 3 (plainElem Tryz.prog 2) b n Dd) (hs : w.ownsMap Tryz.prog 3 (plainElem Tryz.prog 2) b' n' Ds) (v : Int) (hv : wfI v) :
    lk (Lib.mergeD Dd Ds) v = (lk Ds v).or (lk Dd v) := by
  obtain ⟨es, rfl, hp, hk⟩ := hs.entries keyed8
  have hm := isMap8 hd
  have h1 := has_foldPut (kI v) es Dd hm hk
  have h2 := atKey_foldPut (kI v) (dI 0) es Dd hm hk hp
  have h3 : has (.map es : DU) (kI v) = es.any (fun p => p.1.sameKey (kI v)) := rfl
  unfold lk Lib.mergeD
  simp only [h1, h2, h3]
  cases ha : es.any (fun p => p.1.sameKey (kI v)) with
  | true =>
    obtain ⟨x, hx⟩ : ∃ x, es.find? (fun p => p.1.sameKey (kI v)) = some x := by
      cases hf : es.find? (fun p => p.1.sameKey (kI v)) with
      | some x => exact ⟨x, rfl⟩
      | none =>
        obtain ⟨y, hy, hyk⟩ := List.any_eq_true.1 ha
        exact absurd hyk (by simpa using List.find?_eq_none.1 hf y hy)
    obtain ⟨c, hc⟩ := dv_some x.2
    simp only [hx, DataW.atKey, Bool.or_true, if_true, hc, Option.some_or]
  | false =>
    have hf : es.find? (fun p => p.1.sameKey (kI v)) = none := List.find?_eq_none.2 fun y hy hyk => by
      have : es.any (fun p => p.1.sameKey (kI v)) = true := List.any_eq_true.2 ⟨y, hy, hyk⟩
      rw [ha] at this
      cases this
    simp only [hf, Bool.or_false]
    rfl
/-- The keys, sorted, each with what the datum says of it. -/
def keysRow (D : DU) (ss : List Int) : List Pr := (ss.mergeSort fun x y => decide (x ≤ y)).map fun k => (k, (lk D k).getD 0)
theorem entries8 {w : World} {b n : Nat} {D : DU} (h : w.ownsMap Tryz.prog 3 (plainElem Tryz.prog 2) b n D) : ∃ es, D = .map es ∧ es.Pairwise (fun p q => p.1 ≠ q.1) ∧ ∀ p ∈ es, ∃ x, p.1 = kI x ∧ wfI x := by
  obtain ⟨es, rfl, hp, _⟩ := h.entries keyed8
  obtain ⟨es', hD', hko⟩ := h.keysOf
  obtain rfl : es = es' := by simpa using hD'
  refine ⟨es, rfl, hp, fun p hpe => ?_⟩
  obtain ⟨v, hv⟩ := hko p hpe
  obtain ⟨x, _, hx, hw⟩ := Maps.keyOf_i64 Tryz.underlying3 hv
  exact ⟨x, hx, hw⟩
theorem sorted8 (ss : List Int) : (ss.mergeSort fun x y => decide (x ≤ y)).Pairwise (fun x y => x ≤ y) := by
  have := List.pairwise_mergeSort (le := fun x y : Int => decide (x ≤ y)) (fun a b c h1 h2 => by simp at *; omega) (fun a b => by simp; omega) ss
  exact this.imp (by simp)
theorem keysRow_up {w : World} {b n : Nat} {D : DU} (h : w.ownsMap Tryz.prog 3 (plainElem Tryz.prog 2) b n D) {ss : List Int} (hp : ss.Perm (intKeys D)) :
    Up (keysRow D ss) ∧ (keysRow D ss).length = size D ∧ (∀ v, wfI v → look (keysRow D ss) v = lk D v) ∧ ∀ x ∈ ss, wfI x := by
  obtain ⟨es, rfl, hne, hk⟩ := entries8 h
  have hpm : (ss.mergeSort fun x y => decide (x ≤ y)).Perm (es.map fun p => intOf p.1) := (List.mergeSort_perm _ _).trans hp
  have hnd : (es.map fun p => intOf p.1).Nodup := by
    refine List.pairwise_map.2 (hne.imp_of_mem fun {a c} ha hc hac e => hac ?_)
    obtain ⟨x, hx, _⟩ := hk a ha
    obtain ⟨y, hy, _⟩ := hk c hc
    rw [hx, hy] at e ⊢
    exact congrArg kI e
  have hnd2 := hpm.nodup_iff.2 hnd
  have hup : (ss.mergeSort fun x y => decide (x ≤ y)).Pairwise (fun x y => x < y) := ((sorted8 ss).and hnd2).imp fun {a c} hac => by have := hac.1; have := hac.2; omega
  have hmem : ∀ v, wfI v → (v ∈ (ss.mergeSort fun x y => decide (x ≤ y)) ↔ has (.map es : DU) (kI v) = true) := fun v hv => by
    rw [hpm.mem_iff, List.mem_map]
    constructor
    · rintro ⟨p, hpe, rfl⟩
      obtain ⟨x, hx, _⟩ := hk p hpe
      refine List.any_eq_true.2 ⟨p, hpe, ?_⟩
      have e : p.1 = kI (intOf p.1) := by rw [hx]; rfl
      show p.1.sameKey (kI (intOf p.1)) = true
      rw [← e, e]
      exact WideAt.sameKey_self (isKey_kI hv)
    · intro hh
      obtain ⟨p, hpe, hs⟩ := List.any_eq_true.1 hh
      refine ⟨p, hpe, ?_⟩
      obtain ⟨x, hx, _⟩ := hk p hpe
      by_cases e : kI x = kI v
      · rw [hx, e]; rfl
      · rw [hx, sameKey_ne e] at hs
        cases hs
  refine ⟨List.pairwise_map.2 (hup.imp id), ?_, ?_, ?_⟩
  · rw [keysRow, List.length_map, hpm.length_eq, List.length_map]; rfl
  · intro v hv
    have key : ∀ l : List Int, look (l.map fun k => (k, (lk (.map es : DU) k).getD 0)) v = if v ∈ l then some ((lk (.map es : DU) v).getD 0) else none := by
      intro l
      induction l with
      | nil => rfl
      | cons a r ih =>
        rw [List.map_cons, look]
        by_cases e : a = v
        · subst e; simp
        · rw [if_neg e, ih]
          have : (v ∈ a :: r) ↔ v ∈ r := by simp [Ne.symm e]
          simp only [this]
    rw [keysRow, key]
    have hs := lk_isSome (D := (.map es : DU)) (v := v)
    have hm := hmem v hv
    by_cases e : has (.map es : DU) (kI v) = true
    · rw [if_pos (hm.2 e)]
      rw [e] at hs
      obtain ⟨x, hx⟩ := Option.isSome_iff_exists.1 hs
      rw [hx]; rfl
    · rw [if_neg fun hh => e (hm.1 hh), lk_none (by simpa using e)]
  · intro x hx
    have := hp.mem_iff.1 hx
    obtain ⟨p, hpe, rfl⟩ := List.mem_map.1 this
    obtain ⟨y, hy, hw⟩ := hk p hpe
    rw [hy]; exact hw
end Go.Proofs.YthdcdffdpdoeoaaGreatDoor
