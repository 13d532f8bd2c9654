/-
  STEPS (layer 2's statements): a slice of steps as it lies in memory, opened out of an argument; and the statements' own helpers 'large' and 'write'. No condition.
-/
import Derived.Test.YtkfcglgikemefaaDoorBk
import Derived.Deep.Slices
import Derived.Deep.Fields
import Derived.Carry
import Derived.LoopTactic
namespace Go.Proofs.YtkfcglgikemefaaDoor
set_option maxRecDepth 100000
open Go.ChangeShapes Go.WideShapes Go.RowKit Go.Deep
set_option linter.unusedVariables false

structure StepV where
  kind : Nat
  n : Nat
  x : Int
  s : ByteArray
  k : Int
instance : Inhabited StepV := ⟨⟨0, 0, 0, ⟨#[]⟩, 0⟩⟩
structure StepV.Ok (st : StepV) : Prop where
  kind : st.kind < 256
  n : st.n < 18446744073709551616
  x0 : -9223372036854775808 ≤ st.x
  x1 : st.x < 9223372036854775808
  s : st.s.size ≤ 9223372036854775807
  k0 : -9223372036854775808 ≤ st.k
  k1 : st.k < 9223372036854775808
/-- Step number i. -/
def nth (L : List StepV) (i : Nat) : StepV := L.getD i default
/-- At p lies a step. -/
structure StepAt (w : World) (p : Addr) (st : StepV) : Prop where
  c0 : w.cell? p = some (.int .u8 st.kind)
  c1 : w.cell? ⟨p.block, p.off + 1, none⟩ = some (.int .u64 st.n)
  c2 : w.cell? ⟨p.block, p.off + 2, none⟩ = some (.int .i64 st.x)
  c3 : w.cell? ⟨p.block, p.off + 3, none⟩ = some (.string st.s)
  c4 : w.cell? ⟨p.block, p.off + 4, none⟩ = some (.int .i64 st.k)
  ok : st.Ok
/-- At A lie these steps, below block B. -/
def Steps (w : World) (B : Nat) (A : Option Addr) (L : List StepV) : Prop := ∀ i, i < L.length → ∃ a, A = some a ∧ a.block < B ∧ StepAt w (a.add (i * 5)) (nth L i)

theorem add_block (a : Addr) (n : Nat) : (a.add n).block = a.block := by unfold Addr.add; split <;> rfl
theorem StepAt.below {w w' : World} {B : Nat} {p : Addr} {st : StepV} (h : StepAt w p st) (hb : Below B w w') (hp : p.block < B) : StepAt w' p st :=
  ⟨(hb.cell hp).trans h.c0, (hb.cell (p := ⟨p.block, _, none⟩) hp).trans h.c1, (hb.cell (p := ⟨p.block, _, none⟩) hp).trans h.c2, (hb.cell (p := ⟨p.block, _, none⟩) hp).trans h.c3, (hb.cell (p := ⟨p.block, _, none⟩) hp).trans h.c4, h.ok⟩
theorem Steps.below {w w' : World} {B : Nat} {A : Option Addr} {L : List StepV} (h : Steps w B A L) (hb : Below B w w') : Steps w' B A L := fun i hi => by
  obtain ⟨a, e, ha, hs⟩ := h i hi
  exact ⟨a, e, ha, hs.below hb (by rw [add_block]; exact ha)⟩


section
variable {H : Type} {enc : TypeId × Value → H} {w : World} {base : Nat} {spare : Nat → Bool} {held : Bool}
theorem wf_u8 {n : Int} (h : (Lit.int .u8 n).wf = true) : 0 ≤ n ∧ n ≤ 255 := by simpa [Lit.wf, IntKind.min, IntKind.max, IntKind.signed, IntKind.bits] using h
theorem wf_u64 {n : Int} (h : (Lit.int .u64 n).wf = true) : 0 ≤ n ∧ n ≤ 18446744073709551615 := by simpa [Lit.wf, IntKind.min, IntKind.max, IntKind.signed, IntKind.bits] using h
theorem wf_i64 {n : Int} (h : (Lit.int .i64 n).wf = true) : -9223372036854775808 ≤ n ∧ n ≤ 9223372036854775807 := by simpa [Lit.wf, IntKind.min, IntKind.max, IntKind.signed, IntKind.bits] using h
theorem one_of {α : Type} {cs : List α} {j n : Nat} (hl : cs.length = n) (h : j < n) : ∃ v, (cs.drop j).take 1 = [v] ∧ cs[j]? = some v := by
  refine ⟨cs[j]'(by omega), ?_, List.getElem?_eq_getElem (by omega)⟩
  rw [List.drop_eq_getElem_cons (by omega)]
  rfl
theorem cells_u8 : Tryd.prog.cellsOf 5 = 1 := by kernel_rfl
theorem cells_u64 : Tryd.prog.cellsOf 89 = 1 := by kernel_rfl
theorem cells_i64 : Tryd.prog.cellsOf 2 = 1 := by kernel_rfl
theorem cells_str : Tryd.prog.cellsOf 9 = 1 := by kernel_rfl
theorem cells_int : Tryd.prog.cellsOf 3 = 1 := by kernel_rfl
end

/-- Is that more than a statement goes over? -/
def Small (L : List StepV) : Prop := L.length ≤ 300 ∧ ∀ i, i < L.length → (nth L i).s.size ≤ 1000
/-- The bytes that a step writes. -/
def encS (st : StepV) : List UInt8 := if st.kind = 0 then [UInt8.ofNat (st.n % 256)] else if st.kind = 1 then Vm.put st.n else if st.kind = 2 then Vm.put (zigV st.x).toNat else st.s.data.toList
def stepAgg (st : StepV) : Value := .agg #[.int .u8 st.kind, .int .u64 st.n, .int .i64 st.x, .string st.s, .int .i64 st.k]
end Go.Proofs.YtkfcglgikemefaaDoor
