/-
  LAYER 7's READER: what a statement is read as (stmt), letter by letter, over what a block is read as. Conditions: as XPb's.
-/
import Derived.Test.YtpgkhodofhnpnaaDoorPf
namespace Go.Proofs.YtpgkhodofhnpnaaDoor
set_option maxRecDepth 100000
open Go.RowKit
set_option linter.unusedVariables false
section
variable {s : List UInt8} {blk : Nat → Res (List St)}
theorem good_step (hb : ∀ p, p ≤ s.length → GoodP s p (fun _ _ => True) (blk p)) (c : UInt8) (x : St) (p : Nat) (hp : p ≤ s.length) : GoodP s p (fun _ _ => True) (stepL s blk c x p) := by
  obtain ⟨k, t, a, b, y, e⟩ := x
  unfold stepL
  dsimp only
  split
  · exact good_then (good_num hp) fun _ q _ _ hq _ => good_ok hq trivial
  · split
    · exact good_then (good_ex 6 p hp) fun _ q _ _ hq _ => good_ok hq trivial
    · split
      · exact good_then (good_ex 6 p hp) fun _ q _ _ hq _ => good_ok hq trivial
      · split
        · exact good_then (hb p hp) fun _ q _ _ hq _ => good_ok hq trivial
        · exact good_then (hb p hp) fun _ q _ _ hq _ => good_ok hq trivial
theorem good_lets (hb : ∀ p, p ≤ s.length → GoodP s p (fun _ _ => True) (blk p)) : ∀ (l : List UInt8) (x : St) (p : Nat), p ≤ s.length → GoodP s p (fun _ _ => True) (pLets s blk l x p) := by
  intro l
  induction l with
  | nil => intro x p hp; exact good_ok hp trivial
  | cons c l ih => intro x p hp; exact good_then (good_step hb c x p hp) fun y q _ _ hq _ => ih y q hq
end
/-- How many are counted by blocks of so many levels, at most. -/
def Bnd : Nat → Nat
  | 0 => 0
  | d + 1 => 40 * (1 + 2 * Bnd d)
/-- What has been read behind i letters. -/
structure SI (s : List UInt8) (blk : Nat → Res (List St)) (d n0 B : Nat) (L : List UInt8) (v A1 : Nat) (W1 : Int) (i a : Nat) (W : Int) (n : Nat) (x : St) : Prop where
  a : a = outAt (pLets s blk (L.take i) (st0 v) A1) A1 W1
  w : W = outWr (pLets s blk (L.take i) (st0 v) A1) W1
  lo : n0 ≤ n
  hi : n + nB (L.drop i) * B ≤ n0 + 2 * B
  val : W1 = 0 → ∀ y p, pLets s blk (L.take i) (st0 v) A1 = .ok (y, p) → CutS d n0 n x y ∧ (98 ∈ L.drop i → x.body = [] ∧ y.body = []) ∧ (101 ∈ L.drop i → x.els = [] ∧ y.els = [])
theorem nB_letters (k : Nat) : nB (letters k) ≤ 2 := by
  rcases letters_of k with h | h | h | h | h | h | h <;> rw [h] <;> decide
theorem letters_nodup (k : Nat) : (letters k).Nodup := by
  rcases letters_of k with h | h | h | h | h | h | h <;> rw [h] <;> decide
theorem letters_one (k : Nat) : ∀ c ∈ letters k, c = 84 ∨ c = 65 ∨ c = 66 ∨ c = 98 ∨ c = 101 := by
  rcases letters_of k with h | h | h | h | h | h | h <;> rw [h] <;> decide
theorem SI.start (s : List UInt8) (blk : Nat → Res (List St)) (d n B v A1 : Nat) (W1 : Int) : SI s blk d n B (letters v) v A1 W1 0 A1 W1 n (st0 v) := by
  refine ⟨?_, ?_, Nat.le_refl _, ?_, fun _ y p h => ?_⟩
  · show A1 = outAt (.ok (st0 v, A1) : Res St) A1 W1
    unfold outAt
    split <;> rfl
  · show W1 = outWr (.ok (st0 v, A1) : Res St) W1
    unfold outWr
    split
    · next h => exact h
    · rfl
  · have := Nat.mul_le_mul_right B (nB_letters v)
    rw [List.drop_zero]
    omega
  · cases h
    exact ⟨⟨by simp [innerS, st0, lenL], fun _ => rfl, fun h1 h2 => by omega⟩, fun _ => ⟨rfl, rfl⟩, fun _ => ⟨rfl, rfl⟩⟩
theorem nodup_drop {L : List UInt8} (h : L.Nodup) {i : Nat} (hi : i < L.length) : L[i] ∉ L.drop (i + 1) := by
  have h1 : (L.drop i).Nodup := h.sublist (List.drop_sublist _ _)
  rw [List.drop_eq_getElem_cons hi] at h1
  exact (List.nodup_cons.1 h1).1
section
variable {s : List UInt8} {blk : Nat → Res (List St)} {d n0 B : Nat} {L : List UInt8} {v A1 : Nat} {W1 : Int} {i a : Nat} {W : Int} {n : Nat} {x : St}
/-- One letter more, of whatever kind. -/
theorem SI.step {γ : Type} (h : SI s blk d n0 B L v A1 W1 i a W n x) (hb : ∀ p, p ≤ s.length → GoodP s p (fun _ _ => True) (blk p)) (hA : A1 ≤ s.length) (hi : i < L.length) (K : Nat → Res γ)
    (hk : ∀ (y : St) (p : Nat), outAt (stepL s blk L[i] y p) p 0 = outAt (K p) p 0 ∧ outWr (stepL s blk L[i] y p) 0 = outWr (K p) 0) {n' : Nat} (hn : n ≤ n') (hnB : n' + nB (L.drop (i + 1)) * B ≤ n0 + 2 * B) {x' : St}
    (hv : W1 = 0 → ∀ y p y' p', W = 0 → a = p → pLets s blk (L.take i) (st0 v) A1 = .ok (y, p) → stepL s blk L[i] y p = .ok (y', p') → CutS d n0 n x y → (98 ∈ L.drop i → x.body = [] ∧ y.body = []) → (101 ∈ L.drop i → x.els = [] ∧ y.els = []) →
      CutS d n0 n' x' y' ∧ (98 ∈ L.drop (i + 1) → x'.body = [] ∧ y'.body = []) ∧ (101 ∈ L.drop (i + 1) → x'.els = [] ∧ y'.els = [])) :
    SI s blk d n0 B L v A1 W1 (i + 1) (outAt (K a) a W) (outWr (K a) W) n' x' := by
  have ht : L.take (i + 1) = L.take i ++ [L[i]] := List.take_succ_eq_append_getElem hi
  have hs := then_state (good_lets hb (L.take i) (st0 v) A1 hA).sane (fun x q => stepL s blk L[i] x q) K A1 W1 (fun x p _ _ => hk x p)
  rw [← h.a, ← h.w] at hs
  refine ⟨?_, ?_, Nat.le_trans h.lo hn, hnB, fun h0 y' p' hy => ?_⟩
  · rw [ht, pLets_snoc]; exact hs.1.symm
  · rw [ht, pLets_snoc]; exact hs.2.symm
  · rw [ht, pLets_snoc] at hy
    obtain ⟨y, p, h1, h2⟩ := then_ok hy
    subst h0
    have h3 := ok_state h1 A1
    rw [← h.a, ← h.w] at h3
    obtain ⟨c1, c2, c3⟩ := h.val rfl y p h1
    exact hv rfl y p y' p' h3.2 h3.1 h1 h2 c1 c2 c3
theorem nB_same {c : UInt8} {l : List UInt8} (h : c ≠ 98 ∧ c ≠ 101) : nB (c :: l) = nB l := by
  rw [nB, if_neg (by intro hc; rcases hc with hc | hc; exact h.1 hc; exact h.2 hc), Nat.zero_add]
theorem nB_more {c : UInt8} {l : List UInt8} (h : c = 98 ∨ c = 101) : nB (c :: l) = 1 + nB l := by rw [nB, if_pos h]
theorem mem_more {c : UInt8} {L : List UInt8} {i : Nat} (hi : i < L.length) (h : c ∈ L.drop (i + 1)) : c ∈ L.drop i := by
  rw [List.drop_eq_getElem_cons hi]
  exact List.mem_cons_of_mem _ h
theorem mem_here {L : List UInt8} {i : Nat} (hi : i < L.length) : L[i] ∈ L.drop i := by
  rw [List.drop_eq_getElem_cons hi]
  exact List.mem_cons_self ..
theorem nB_step {L : List UInt8} {i n0 n n' B : Nat} (hi : i < L.length) (h : n + nB (L.drop i) * B ≤ n0 + 2 * B) (hc : (L[i] = 98 ∨ L[i] = 101) ∧ n' ≤ n + B ∨ (L[i] ≠ 98 ∧ L[i] ≠ 101) ∧ n' = n) : n' + nB (L.drop (i + 1)) * B ≤ n0 + 2 * B := by
  rw [List.drop_eq_getElem_cons hi] at h
  rcases hc with ⟨h1, h2⟩ | ⟨h1, h2⟩
  · rw [nB_more h1, Nat.add_mul, Nat.one_mul] at h
    omega
  · rw [nB_same h1] at h
    omega
theorem SI.stepT {k : Nat} {t : Int} {xa xb : Ex} {y e : List St} (h : SI s blk d n0 B L v A1 W1 i a W n (.node k t xa xb y e)) (hb : ∀ p, p ≤ s.length → GoodP s p (fun _ _ => True) (blk p)) (hA : A1 ≤ s.length) (hi : i < L.length) (hc : L[i] = 84) :
    SI s blk d n0 B L v A1 W1 (i + 1) (outAt (pNum s 0 7 a) a W) (outWr (pNum s 0 7 a) W) n (.node k (outN (pNum s 0 7 a) W) xa xb y e) := by
  refine h.step hb hA hi (fun p => pNum s 0 7 p) (fun z p => ?_) (Nat.le_refl _) (nB_step hi h.hi (.inr ⟨by rw [hc]; decide, rfl⟩)) (fun _ z p z' p' hW ha _ h2 c1 c2 c3 => ?_)
  · obtain ⟨k', t', za, zb, zy, ze⟩ := z
    rw [hc]
    exact map_state (pNum s 0 7 p) (fun (t : Nat) => St.node k' t za zb zy ze) p 0
  · obtain ⟨k', t', za, zb, zy, ze⟩ := z
    rw [hc] at h2
    obtain ⟨t2, p2, h3, h4⟩ := then_ok (k := fun (t : Nat) q => (.ok (St.node k' t za zb zy ze, q) : Res St)) h2
    cases h4
    obtain ⟨g1, g2, g3⟩ := c1
    refine ⟨⟨g1, fun hh => ?_, g3⟩, fun hm => c2 (mem_more hi hm), fun hm => c3 (mem_more hi hm)⟩
    have := g2 hh
    injection this with e1 e2 e3 e4 e5 e6
    rw [ha, hW, h3, e1, e3, e4, e5, e6]
    rfl
theorem SI.stepA {k : Nat} {t : Int} {xa xb z : Ex} {y e : List St} (h : SI s blk d n0 B L v A1 W1 i a W n (.node k t xa xb y e)) (hb : ∀ p, p ≤ s.length → GoodP s p (fun _ _ => True) (blk p)) (hA : A1 ≤ s.length) (hi : i < L.length) (hc : L[i] = 65) (hz : W = 0 → ∀ y p, pEx s 6 a = .ok (y, p) → z = y) :
    SI s blk d n0 B L v A1 W1 (i + 1) (outAt (pEx s 6 a) a W) (outWr (pEx s 6 a) W) n (.node k t z xb y e) := by
  refine h.step hb hA hi (fun p => pEx s 6 p) (fun z p => ?_) (Nat.le_refl _) (nB_step hi h.hi (.inr ⟨by rw [hc]; decide, rfl⟩)) (fun _ z p z' p' hW ha _ h2 c1 c2 c3 => ?_)
  · obtain ⟨k', t', za, zb, zy, ze⟩ := z
    rw [hc]
    exact map_state (pEx s 6 p) (fun a => St.node k' t' a zb zy ze) p 0
  · obtain ⟨k', t', za, zb, zy, ze⟩ := z
    rw [hc] at h2
    obtain ⟨t2, p2, h3, h4⟩ := then_ok (k := fun a q => (.ok (St.node k' t' a zb zy ze, q) : Res St)) h2
    cases h4
    obtain ⟨g1, g2, g3⟩ := c1
    refine ⟨⟨g1, fun hh => ?_, g3⟩, fun hm => c2 (mem_more hi hm), fun hm => c3 (mem_more hi hm)⟩
    have := g2 hh
    injection this with e1 e2 e3 e4 e5 e6
    rw [hz hW _ _ (by rw [ha]; exact h3), e1, e2, e4, e5, e6]
theorem SI.stepB {k : Nat} {t : Int} {xa xb z : Ex} {y e : List St} (h : SI s blk d n0 B L v A1 W1 i a W n (.node k t xa xb y e)) (hb : ∀ p, p ≤ s.length → GoodP s p (fun _ _ => True) (blk p)) (hA : A1 ≤ s.length) (hi : i < L.length) (hc : L[i] = 66) (hz : W = 0 → ∀ y p, pEx s 6 a = .ok (y, p) → z = y) :
    SI s blk d n0 B L v A1 W1 (i + 1) (outAt (pEx s 6 a) a W) (outWr (pEx s 6 a) W) n (.node k t xa z y e) := by
  refine h.step hb hA hi (fun p => pEx s 6 p) (fun z p => ?_) (Nat.le_refl _) (nB_step hi h.hi (.inr ⟨by rw [hc]; decide, rfl⟩)) (fun _ z p z' p' hW ha _ h2 c1 c2 c3 => ?_)
  · obtain ⟨k', t', za, zb, zy, ze⟩ := z
    rw [hc]
    exact map_state (pEx s 6 p) (fun b => St.node k' t' za b zy ze) p 0
  · obtain ⟨k', t', za, zb, zy, ze⟩ := z
    rw [hc] at h2
    obtain ⟨t2, p2, h3, h4⟩ := then_ok (k := fun b q => (.ok (St.node k' t' za b zy ze, q) : Res St)) h2
    cases h4
    obtain ⟨g1, g2, g3⟩ := c1
    refine ⟨⟨g1, fun hh => ?_, g3⟩, fun hm => c2 (mem_more hi hm), fun hm => c3 (mem_more hi hm)⟩
    have := g2 hh
    injection this with e1 e2 e3 e4 e5 e6
    rw [hz hW _ _ (by rw [ha]; exact h3), e1, e2, e3, e5, e6]
theorem SI.stepY {k n' : Nat} {t : Int} {xa xb : Ex} {y e z : List St} (h : SI s blk d n0 B L v A1 W1 i a W n (.node k t xa xb y e)) (hb : ∀ p, p ≤ s.length → GoodP s p (fun _ _ => True) (blk p)) (hA : A1 ≤ s.length) (hi : i < L.length) (hnd : L.Nodup) (hc : L[i] = 98) (hn : n ≤ n') (hn' : n' ≤ n + B) (hz : W = 0 → ∀ y p, blk a = .ok (y, p) → Cut d n n' z y) :
    SI s blk d n0 B L v A1 W1 (i + 1) (outAt (blk a) a W) (outWr (blk a) W) n' (.node k t xa xb z e) := by
  refine h.step hb hA hi blk (fun z p => ?_) hn (nB_step hi h.hi (.inl ⟨by rw [hc]; decide, hn'⟩)) (fun _ u p u' p' hW ha _ h2 c1 c2 c3 => ?_)
  · obtain ⟨k', t', za, zb, zy, ze⟩ := z
    rw [hc]
    exact map_state (blk p) (fun y => St.node k' t' za zb y ze) p 0
  · obtain ⟨k', t', za, zb, zy, ze⟩ := u
    rw [hc] at h2
    obtain ⟨t2, p2, h3, h4⟩ := then_ok (k := fun y q => (.ok (St.node k' t' za zb y ze, q) : Res St)) h2
    cases h4
    obtain ⟨g1, g2, g3⟩ := c1
    obtain ⟨r1, r2⟩ := c2 (by rw [← hc]; exact mem_here hi)
    have r1 : y = [] := r1
    have r2 : zy = [] := r2
    subst r1 r2
    obtain ⟨q1, q2, q3⟩ := hz hW _ _ (by rw [ha]; exact h3)
    simp only [innerS, lenL_nil] at g1 g3 ⊢
    refine ⟨⟨by simp only [innerS]; omega, fun hh => ?_, fun h5 h6 => ?_⟩, fun hm => absurd hm (by rw [← hc]; exact nodup_drop hnd hi), fun hm => c3 (mem_more hi hm)⟩
    · have := g2 (by omega)
      injection this with e1 e2 e3 e4 e5 e6
      rw [q2 hh, e1, e2, e3, e4, e6]
    · simp only [innerS]
      by_cases h7 : 41 < n
      · have := g3 h7 h6
        omega
      · have := q3 h5 (by omega)
        have h8 := g2 (by omega)
        injection h8 with e1 e2 e3 e4 e5 e6
        subst e6
        omega
theorem SI.stepE {k n' : Nat} {t : Int} {xa xb : Ex} {y e z : List St} (h : SI s blk d n0 B L v A1 W1 i a W n (.node k t xa xb y e)) (hb : ∀ p, p ≤ s.length → GoodP s p (fun _ _ => True) (blk p)) (hA : A1 ≤ s.length) (hi : i < L.length) (hnd : L.Nodup) (hc : L[i] = 101) (hn : n ≤ n') (hn' : n' ≤ n + B) (hz : W = 0 → ∀ y p, blk a = .ok (y, p) → Cut d n n' z y) :
    SI s blk d n0 B L v A1 W1 (i + 1) (outAt (blk a) a W) (outWr (blk a) W) n' (.node k t xa xb y z) := by
  refine h.step hb hA hi blk (fun z p => ?_) hn (nB_step hi h.hi (.inl ⟨by rw [hc]; decide, hn'⟩)) (fun _ u p u' p' hW ha _ h2 c1 c2 c3 => ?_)
  · obtain ⟨k', t', za, zb, zy, ze⟩ := z
    rw [hc]
    exact map_state (blk p) (fun y => St.node k' t' za zb zy y) p 0
  · obtain ⟨k', t', za, zb, zy, ze⟩ := u
    rw [hc] at h2
    obtain ⟨t2, p2, h3, h4⟩ := then_ok (k := fun y q => (.ok (St.node k' t' za zb zy y, q) : Res St)) h2
    cases h4
    obtain ⟨g1, g2, g3⟩ := c1
    obtain ⟨r1, r2⟩ := c3 (by rw [← hc]; exact mem_here hi)
    have r1 : e = [] := r1
    have r2 : ze = [] := r2
    subst r1 r2
    obtain ⟨q1, q2, q3⟩ := hz hW _ _ (by rw [ha]; exact h3)
    simp only [innerS, lenL_nil] at g1 g3 ⊢
    refine ⟨⟨by simp only [innerS]; omega, fun hh => ?_, fun h5 h6 => ?_⟩, fun hm => c2 (mem_more hi hm), fun hm => absurd hm (by rw [← hc]; exact nodup_drop hnd hi)⟩
    · have := g2 (by omega)
      injection this with e1 e2 e3 e4 e5 e6
      rw [q2 hh, e1, e2, e3, e4, e5]
    · simp only [innerS]
      by_cases h7 : 41 < n
      · have := g3 h7 h6
        omega
      · have := q3 h5 (by omega)
        have h8 := g2 (by omega)
        injection h8 with e1 e2 e3 e4 e5 e6
        subst e5
        omega
end
end Go.Proofs.YtpgkhodofhnpnaaDoor
