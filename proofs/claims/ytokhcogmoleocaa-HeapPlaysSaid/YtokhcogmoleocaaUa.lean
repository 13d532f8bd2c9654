/-
  WORDS FOR LAYER 6 (package setup): the stripe of a variable, the variables of a stripe; which numbers may be; and a slice of numbers that is appended to. No condition but those that stand.
-/
import Derived.Test.YtokhcogmoleocaaEv
import Derived.Deep.AppendLies
import Derived.Deep.DeepCutAuto
import Derived.Deep.CutBlock
import Derived.Maps.AppendAt
namespace Go.Proofs.Ytokhcogmoleocaa
set_option maxRecDepth 100000
open Go.RowKit
set_option linter.unusedVariables false
def inF (n l m : Int) : Bool := decide (l ≤ n) && decide (n ≤ m)
/-- What Stripe tells: a stripe, and an error. -/
def strF (v s : Int) : Int × Int := if s < 1 ∨ v < 0 then (0, 1) else (v % s, 0)
/-- Whether a setup's numbers may be (n: as many values to begin with). -/
def numF (st cl tr : Int) (n : Nat) : Bool := inF n 1 32 && (inF st 1 n && (inF cl 0 1099511627776 && inF tr 1 1000))
def errF (b : Bool) : Int := if b then 0 else 4
theorem ret_e {a b : Int} (h : a = b) : Ending.returned (.int .i64 a) = .returned (.int .i64 b) := by rw [h]
/-- How many variables a stripe has. -/
def vcount (a s n : Nat) : Nat := (n - a + (s - 1)) / s
def vrow (a s k : Nat) : List Int := (List.range k).map fun j => ((a + j * s : Nat) : Int)
theorem vcount_lt {a s n k : Nat} (hs : 1 ≤ s) : k < vcount a s n ↔ a + k * s < n := by
  unfold vcount
  rw [Nat.lt_iff_add_one_le, Nat.le_div_iff_mul_le (by omega), Nat.add_mul, Nat.one_mul]
  omega
theorem vcount_le {a s n : Nat} (hs : 1 ≤ s) : vcount a s n ≤ n := by
  rcases Nat.eq_zero_or_pos (vcount a s n) with h | h
  · omega
  · have := (vcount_lt (a := a) (n := n) (k := vcount a s n - 1) hs).1 (by omega)
    have h2 : vcount a s n - 1 ≤ (vcount a s n - 1) * s := Nat.le_mul_of_pos_right _ hs
    omega
theorem vrow_len (a s k : Nat) : (vrow a s k).length = k := by simp [vrow]
theorem vrow_snoc (a s k : Nat) : vrow a s (k + 1) = vrow a s k ++ [((a + k * s : Nat) : Int)] := by simp [vrow, List.range_succ]
theorem vrow_get (a s k j : Nat) (h : j < k) : (vrow a s k)[j]'(by rw [vrow_len]; exact h) = ((a + j * s : Nat) : Int) := by simp [vrow]
/-- What Variables tells. -/
def varsF (a s n : Int) : List Int := if s < 1 ∨ n < 1 ∨ a < 0 ∨ s ≤ a then [] else vrow a.toNat s.toNat (vcount a.toNat s.toNat n.toNat)
def varsE (a s n : Int) : Int := if s < 1 ∨ n < 1 ∨ a < 0 ∨ s ≤ a then 1 else 0
theorem info_parts2 {t : TypeId} {z : Value} {a b : Nat} (h : (Try.prog.info? t).map (fun i => (i.zero, i.size, i.bytes)) = some (some z, a, b)) : ∃ i, Try.prog.info? t = some i ∧ i.zero = some z ∧ i.size = a ∧ i.bytes = b := by
  cases hi : Try.prog.info? t with
  | none => rw [hi] at h; cases h
  | some i =>
    rw [hi] at h
    simp at h
    exact ⟨i, rfl, h.1, h.2.1, h.2.2⟩
theorem plain_int_info : (Try.prog.info? 3).map (fun i => (i.zero, i.size, i.bytes)) = some (some (.int .i64 0), 1, 8) := by kernel_rfl
/-- Behind an append to what a call owns all below is as it was. -/
theorem grown_below {w wr w1 : World} {o : Obj} {e : TypeId} {size k : Nat} {sv : Value} {xs : List Value} {B : Nat} (own : wr.ownsRow B e size sv k xs) (b : Below B w wr) (hB : B ≤ wr.heap.size) (hg : (wr.alloc o).grownBy w1 sv.ownBlock) : Below B w w1 := by
  have hz := hg.size
  simp at hz
  refine ⟨hg.os.trans b.os, hg.tape.trans b.tape, hg.output.trans b.output, by have := b.size; omega, fun i hi => ?_⟩
  rw [hg.block i (by simp; omega) (own_ge own hi)]
  rw [heap_alloc_old wr o (by omega), b.block i hi]
/-- One number more, in a plain region. -/
theorem append_num {ops : Array Oper} {rest : List Oper} {o : Oper} {a : Act} {Q : Exit → Act → World → Prop} {w : World} {base k : Nat} {sv : Value} {xs : List Value} {v : Int}
    (own : w.ownsRow base 3 1 sv k xs) (hb : base ≤ w.heap.size) (hk : k ≤ 100000) (hgd : o.guard = none) (s x : Operand) (ho : o.op = .call { callee := .builtin .append, args := #[s, x], argTypes := #[35, 35] }) (hs : a.eval s = sv) (hx : a.eval x = .slice (some ⟨w.heap.size, 0, none⟩) 1 1)
    (h : ∀ g cap w', w'.ownsRow base 3 1 (.slice (some ⟨g, 0, none⟩) (k + 1) cap) (k + 1) (xs ++ [.int .i64 v]) → (w.alloc (.cells #[.int .i64 v] 3)).grownBy w' sv.ownBlock → g < w'.heap.size → wpList Try.prog ops Q rest (a.put o.dst (.slice (some ⟨g, 0, none⟩) (k + 1) cap)) w') :
    wpList Try.prog ops Q (o :: rest) a (w.alloc (.cells #[.int .i64 v] 3)) := by
  obtain ⟨i0, hi0, hz0, hz1, hz2⟩ := info_parts2 plain_int_info
  exact wpList_append_lies _ hgd s x _ ho base 3 i0 _ 1 8 Try.underlying35 hi0 hz0 hz1 hz2 rfl (by omega) sv k xs hs (own.alloc _) ⟨w.heap.size, 0, none⟩ 1 1 [.int .i64 v] hx rfl (World.news_of_block (cs := #[.int .i64 v]) (t := 3) (fr := (0, 0)) (heap_alloc_new w _)) (by simp [Value.oneCell']) (by omega) (by unfold maxLen; omega) (by omega) (by simp; omega) (w.heap.size + 1) (by simp) fun g cap w' a1 a2 _ a4 => h g cap w' a1 a2 a4
/-- A slice that a call owns, as numbers. -/
theorem Ints.of_own {w : World} {base k : Nat} {sv : Value} {L : List Int} {e : TypeId} (own : w.ownsRow base e 1 sv k (L.map (Value.int .i64 ·))) (hk : k = L.length) (hl : L.length ≤ 100000) : ∃ A c, sv = .slice A L.length c ∧ Ints w w.heap.size A L := by
  subst hk
  by_cases h0 : L.length = 0
  · rcases own.2 with ⟨h1, h2⟩ | ⟨g, cap, cur, h1, _⟩
    · exact ⟨none, 0, by rw [h1, h0], by omega, fun j hj => absurd hj (by omega)⟩
    · exact ⟨_, _, h1, by omega, fun j hj => absurd hj (by omega)⟩
  · obtain ⟨g, cap, hv, hg1, hg2⟩ := own.form (by omega)
    subst hv
    exact ⟨_, _, rfl, by omega, fun j hj => ⟨_, rfl, hg2, own.cells (g := g) rfl j _ (by simp [hj])⟩⟩
end Go.Proofs.Ytokhcogmoleocaa
