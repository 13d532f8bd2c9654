/-
  CONTRACT OF THE STATEMENTS' OWN HELPER bent (layer 3): up to four bytes, one behind the other, are put together (exclusive or) with a number's bytes. Conditions: a place within the text, or at its end; texts of at most 2^24 bytes.
-/
import Derived.Test.YteigglhhnemngaaGreatDoorQ14
import Derived.RegionTactic
namespace Go.Proofs.YteigglhhnemngaaGreatDoor
set_option maxRecDepth 100000
open Go.RowKit
set_option linter.unusedVariables false
def BRow (w : World) (g : Nat) (l : List UInt8) : Prop := ∀ j (h : j < l.length), w.cell? ⟨g, j, none⟩ = some (.int .u8 l[j].toNat) ∧ w.frozen? ⟨g, j, none⟩ = false
theorem BRow.drew {w : World} {g : Nat} {l : List UInt8} (h : BRow w g l) : BRow w.drew g l := h
theorem BRow.store {w : World} {g : Nat} {l : List UInt8} (h : BRow w g l) (i : Nat) (b : UInt8) (v : Int) (hi : i < l.length) (hv : v = b.toNat) : BRow (w.setCell ⟨g, i, none⟩ (.int .u8 v)) g (l.set i b) := by
  subst hv
  intro j hj
  have hj' : j < l.length := by simpa using hj
  refine ⟨?_, by have := (h j hj').2; simpa using this⟩
  by_cases e : i = j
  · subst e
    rw [World.cell?_setCell_same (h := (h i hj').1), List.getElem_set_self]
  · rw [World.cell?_setCell_other (h := by intro hc; injection hc; omega), List.getElem_set_ne (by omega)]
    exact (h j hj').1
theorem BRow.start (w : World) (s : ByteArray) (c : Nat) (e : TypeId) (hc : s.size ≤ c) : BRow (w.alloc (.cells (bytesRow s c) e ((bytesRow s c).size, (bytesRow s c).size + 1))).drew w.heap.size (bytes s) := by
  intro j hj
  have hj' : j < s.data.size := by simpa [bytes] using hj
  have hz : (bytesRow s c).size = c := by
    have : s.data.size = s.size := rfl
    simp [bytesRow]
    omega
  refine ⟨?_, ?_⟩
  · have e := World.cell?_alloc_mark w (bytesRow s c) e ((bytesRow s c).size, (bytesRow s c).size + 1) j
    rw [bytesRow_at s c j hj'] at e
    exact e
  · have e := World.frozen?_alloc_mark w (bytesRow s c) e (bytesRow s c).size ((bytesRow s c).size + 1) j
    have hd : (decide ((bytesRow s c).size ≤ j) && decide (j < (bytesRow s c).size + 1)) = false := by
      have : s.data.size = s.size := rfl
      simp
      omega
    rw [hd] at e
    exact e
theorem BRow.text {P : Program} {w : World} {g : Nat} {l : List UInt8} (h : BRow w g l) (src dst e : TypeId) (cap n : Nat) (hs : P.underlying src = some (.slice e)) (he : P.underlying e = some (.int .u8)) (hd : P.underlying dst = some .string) (hn : n = l.length) :
    (convert src dst (.slice (some ⟨g, 0, none⟩) n cap)).run P w = .ok (.string ⟨l.toArray⟩) w := by
  subst hn
  exact run_convert_bytes_back (P := P) w src dst e ⟨g, 0, none⟩ cap l hs he hd (fun j hj => by
    have e : (⟨g, 0, none⟩ : Addr).add j = ⟨g, j, none⟩ := by unfold Addr.add; split <;> simp_all
    rw [e]
    exact (h j hj).1)
def xb (x i : Nat) : UInt8 := UInt8.ofNat (x / 256 ^ i)
def bentL (l : List UInt8) (at_ x k : Nat) : List UInt8 := l.mapIdx fun j b => if at_ ≤ j ∧ j < at_ + k then b ^^^ xb x (j - at_) else b
theorem bentL_length (l : List UInt8) (at_ x k : Nat) : (bentL l at_ x k).length = l.length := by simp [bentL]
theorem bentL_zero (l : List UInt8) (at_ x : Nat) : bentL l at_ x 0 = l := by
  apply List.ext_getElem (by simp [bentL])
  intro j h1 h2
  simp [bentL]
  intro h3 h4
  omega
theorem bentL_at (l : List UInt8) (at_ x k : Nat) (h : at_ + k < l.length) : (bentL l at_ x k)[at_ + k]'(by rw [bentL_length]; exact h) = l[at_ + k] := by
  simp [bentL]
theorem bentL_step (l : List UInt8) (at_ x k : Nat) (h : at_ + k < l.length) : (bentL l at_ x k).set (at_ + k) (l[at_ + k] ^^^ xb x k) = bentL l at_ x (k + 1) := by
  apply List.ext_getElem (by simp [bentL])
  intro j h1 h2
  rw [List.getElem_set]
  by_cases e : at_ + k = j
  · subst e
    rw [if_pos rfl]
    simp [bentL]
  · rw [if_neg e]
    simp only [bentL, List.getElem_mapIdx]
    by_cases hc : at_ ≤ j ∧ j < at_ + k
    · rw [if_pos hc, if_pos (by omega)]
    · rw [if_neg hc, if_neg (by omega)]
theorem bentL_all (l : List UInt8) (at_ x k : Nat) (hk : k ≤ 4) (h : k = 4 ∨ l.length ≤ at_ + k) : bentL l at_ x k = bentL l at_ x 4 := by
  apply List.ext_getElem (by simp [bentL])
  intro j h1 h2
  have hj : j < l.length := by simpa [bentL] using h1
  simp only [bentL, List.getElem_mapIdx]
  by_cases hc : at_ ≤ j ∧ j < at_ + k
  · rw [if_pos hc, if_pos (by omega)]
  · rw [if_neg hc, if_neg (by omega)]
theorem xor_byte (v : UInt8) (x k : Nat) : bits .xor .u8 (v.toNat : Int) ((x : Int) / 2 ^ (8 * k) % 256) = ((v ^^^ xb x k).toNat : Int) := by
  have h1 : (x : Int) / 2 ^ (8 * k) % 256 = ((x / 256 ^ k % 256 : Nat) : Int) := by
    have e : (256 : Nat) ^ k = 2 ^ (8 * k) := by rw [Nat.pow_mul]
    rw [e, Int.natCast_emod, Int.natCast_ediv, Int.natCast_pow]
    rfl
  have h2 : (xb x k).toNat = x / 256 ^ k % 256 := by simp [xb, UInt8.toNat_ofNat']
  rw [h1, UInt8.toNat_xor, h2]
  exact u8_xor_nat _ _ v.toNat_lt (Nat.mod_lt _ (by decide))
def bentS (s : ByteArray) (at_ x : Nat) : ByteArray := ⟨(bentL (bytes s) at_ x 4).toArray⟩
theorem bytes_bentS (s : ByteArray) (at_ x : Nat) : bytes (bentS s at_ x) = bentL (bytes s) at_ x 4 := by simp [bytes, bentS]
end Go.Proofs.YteigglhhnemngaaGreatDoor
