/-
  CALLS OF CodeNames' LAST LINES, AT THEIR OWN ARGUMENTS (layer 5): Blocks in Blocks, long transactions, Loops in Loops, two Blocks that are alike but for their Kind. Condition: where May is called, the table of what each Kind asks lies as its initialiser lays it.
-/
import Derived.Test.YtfnbffkiddofnaaDoorCe
import Derived.Test.YtfnbffkiddofnaaDoorCu
import Derived.Test.YtfnbffkiddofnaaDoorCp
namespace Go.Proofs.YtfnbffkiddofnaaDoor
open Go.RowKit Go.Deep
set_option linter.unusedVariables false
theorem may_nil {W : World} (hkd : Kd W) (n : Int) (b : Bool) (n0 : -9223372036854775808 ≤ n) (n1 : n < 9223372036854775808) (hv : mayF 1 [] n = b) : Calls Tryd.prog 7 #[.slice none 0 0, .int .i64 n] W fun e w' => e = .returned (.bool b) ∧ Below W.heap.size W w' :=
  (SK.nil W 1 none).may (c := 0) hkd n0 n1 (by decide) (by decide) hv
def NestO (D : Nat) (l : List St) (n : Nat) (W : World) (e : Ending) (w' : World) : Prop := ∃ A c, e = .returned (.slice A n c) ∧ SK w' D A l ∧ Below W.heap.size W w'
theorem nest6 (W : World) : Calls Tryd.prog 9 #[.int .i64 6, .agg #[.int .u8 2, .int .i64 0, .int .u8 1, .int .i64 0, .slice none 0 0, .int .u8 0, .int .i64 0, .slice none 0 0, .slice none 0 0, .slice none 0 0]] W (NestO 7 [nestS 5 sRead] 1 W) :=
  (nested_any 6 (by decide) (by decide) 2 (by decide) rRead sRead W (sa_read W 0)).mono fun e w' h => by
    obtain ⟨g, h1, h2, h3⟩ := h
    exact ⟨some ⟨g, 0, none⟩, 1, h1, h2, h3⟩
theorem nest7 (W : World) : Calls Tryd.prog 9 #[.int .i64 7, .agg #[.int .u8 2, .int .i64 0, .int .u8 1, .int .i64 0, .slice none 0 0, .int .u8 0, .int .i64 0, .slice none 0 0, .slice none 0 0, .slice none 0 0]] W (NestO 8 [nestS 6 sRead] 1 W) :=
  (nested_any 7 (by decide) (by decide) 2 (by decide) rRead sRead W (sa_read W 0)).mono fun e w' h => by
    obtain ⟨g, h1, h2, h3⟩ := h
    exact ⟨some ⟨g, 0, none⟩, 1, h1, h2, h3⟩
theorem manyR (n : Nat) (hn : n ≤ 1000) (W : World) : Calls Tryd.prog 10 #[.int .i64 n, .agg #[.int .u8 2, .int .i64 0, .int .u8 1, .int .i64 0, .slice none 0 0, .int .u8 0, .int .i64 0, .slice none 0 0, .slice none 0 0, .slice none 0 0]] W (NestO 2 (List.replicate n sRead) n W) :=
  (many_any n hn 2 rRead sRead W (sa_read W 0)).mono fun e w' h => h
theorem many40 (W : World) : Calls Tryd.prog 10 #[.int .i64 40, .agg #[.int .u8 2, .int .i64 0, .int .u8 1, .int .i64 0, .slice none 0 0, .int .u8 0, .int .i64 0, .slice none 0 0, .slice none 0 0, .slice none 0 0]] W (NestO 2 (List.replicate 40 sRead) 40 W) := manyR 40 (by decide) W
theorem many41 (W : World) : Calls Tryd.prog 10 #[.int .i64 41, .agg #[.int .u8 2, .int .i64 0, .int .u8 1, .int .i64 0, .slice none 0 0, .int .u8 0, .int .i64 0, .slice none 0 0, .slice none 0 0, .slice none 0 0]] W (NestO 2 (List.replicate 41 sRead) 41 W) := manyR 41 (by decide) W
theorem many3 (W : World) : Calls Tryd.prog 10 #[.int .i64 3, .agg #[.int .u8 2, .int .i64 0, .int .u8 1, .int .i64 0, .slice none 0 0, .int .u8 0, .int .i64 0, .slice none 0 0, .slice none 0 0, .slice none 0 0]] W (NestO 2 (List.replicate 3 sRead) 3 W) := manyR 3 (by decide) W
theorem many2 (W : World) : Calls Tryd.prog 10 #[.int .i64 2, .agg #[.int .u8 2, .int .i64 0, .int .u8 1, .int .i64 0, .slice none 0 0, .int .u8 0, .int .i64 0, .slice none 0 0, .slice none 0 0, .slice none 0 0]] W (NestO 2 (List.replicate 2 sRead) 2 W) := manyR 2 (by decide) W
theorem deep3 (W : World) : Calls Tryd.prog 11 #[.int .i64 3] W (NestO 5 (deepT 3 3) 1 W) :=
  (deep_any 3 (by decide) W).mono fun e w' h => h
theorem deep4 (W : World) : Calls Tryd.prog 11 #[.int .i64 4] W (NestO 5 (deepT 4 3) 1 W) :=
  (deep_any 4 (by decide) W).mono fun e w' h => h
/-- May of a transaction of which a statement knows how long it is. -/
theorem SK.mayN {W : World} {D : Nat} {A : Option Addr} {l : List St} {c : Nat} {n : Int} {b : Bool} (m : Nat) (h : SK W D A l) (hm : l.length = m) (hkd : Kd W) (n0 : -9223372036854775808 ≤ n) (n1 : n < 9223372036854775808) (hl : m ≤ 9223372036854775807) (hD : D ≤ 4611686018427387903) (hv : mayF D l n = b) :
    Calls Tryd.prog 7 #[.slice A m c, .int .i64 n] W fun e w' => e = .returned (.bool b) ∧ Below W.heap.size W w' := by
  subst hm
  exact h.may hkd n0 n1 hl hD hv
theorem SK.costN {W : World} {D : Nat} {A : Option Addr} {l : List St} {c : Nat} (m u : Nat) (h : SK W D A l) (hm : l.length = m) (hl : m ≤ 9223372036854775807) (hv : costL (costF D) l 0 = u) :
    Calls Tryd.prog 12 #[.slice A m c] W fun e w' => e = .returned (.int .i64 u) ∧ Below W.heap.size W w' := by
  subst hm
  subst hv
  exact cost_of D A c l 0 W.heap.size W h (Nat.le_refl _) hl
theorem SK.sameN {W : World} {D : Nat} {A B : Option Addr} {l l' : List St} {c c' : Nat} (m m' : Nat) {b : Bool} (h : SK W D A l) (h' : SK W D B l') (hm : l.length = m) (hm' : l'.length = m') (hl : m ≤ 9223372036854775807) (hl' : m' ≤ 9223372036854775807) (hv : sameSL (sameS D) l l' = b) :
    Calls Tryd.prog 14 #[.slice A m c, .slice B m' c'] W fun e w' => e = .returned (.bool b) ∧ Below W.heap.size W w' := by
  subst hm
  subst hm'
  subst hv
  exact codesame_of D l l' A B c c' 0 W.heap.size 0 W.heap.size W h h' (Nat.le_refl _) (Nat.le_refl _) hl hl'
def bothT : List St := [.node 7 0 eNo eNo (List.replicate 3 sRead) (List.replicate 2 sRead)]
def eitherT : List St := [.node 4 0 (eLit 1) eNo (List.replicate 3 sRead) (List.replicate 2 sRead)]
theorem sm_read : Sm 2 sRead := ⟨by decide, by decide, by decide, by decide, fun s hs => (by cases hs), fun s hs => (by cases hs)⟩
theorem sm_both : ∀ s ∈ bothT, Sm 3 s := by
  intro s hs
  obtain rfl := List.mem_singleton.1 hs
  exact ⟨by decide, by decide, by decide, by decide, fun s hs => by rw [List.eq_of_mem_replicate hs]; exact sm_read, fun s hs => by rw [List.eq_of_mem_replicate hs]; exact sm_read⟩
theorem copyBoth {W : World} {A : Option Addr} {c : Nat} (h : SK W 3 A bothT) : Calls Tryd.prog 15 #[.slice A 1 c] W (NestO 3 bothT 1 W) :=
  (codecopy_any 3 A c bothT 0 W.heap.size W h (Nat.le_refl _) (by decide) sm_both).mono fun e w' hc => by
    obtain ⟨A', c', h1, h2, h3⟩ := hc
    exact ⟨A', c', h1, h2.wide (Nat.zero_le _) (Nat.le_refl _), h3⟩
theorem cost_nil (W : World) : Calls Tryd.prog 12 #[.slice none 0 0] W fun e w' => e = .returned (.int .i64 0) ∧ Below W.heap.size W w' := (SK.nil W 1 none).costN 0 0 rfl (by decide) rfl
theorem depth_nil (W : World) : Calls Tryd.prog 13 #[.slice none 0 0] W fun e w' => e = .returned (.int .i64 1) ∧ Below W.heap.size W w' := depth_of 1 none 0 [] 0 W.heap.size W (SK.nil W 1 none) (Nat.le_refl _) (by decide) (by decide)
/-- What the closed transactions come to. -/
theorem v_may : mayF 1 [] 0 = true ∧ mayF 1 [] 6 = false ∧ mayF 1 [] (-1) = false ∧ mayF 7 [nestS 5 sRead] 0 = true ∧ mayF 8 [nestS 6 sRead] 0 = false ∧ mayF 2 (List.replicate 40 sRead) 5 = true ∧ mayF 2 (List.replicate 41 sRead) 5 = false ∧ mayF 5 (deepT 3 3) 0 = true ∧ mayF 5 (deepT 4 3) 0 = false := by
  refine ⟨?_, ?_, ?_, ?_, ?_, ?_, ?_, ?_, ?_⟩ <;> kernel_rfl
theorem v_cost : costL (costF 5) (deepT 3 3) 0 = 1609 ∧ costL (costF 5) (deepT 4 3) 0 = 2001 ∧ costL (costF 3) bothT 0 = 6 ∧ costL (costF 3) eitherT 0 = 4 := by
  refine ⟨?_, ?_, ?_, ?_⟩ <;> kernel_rfl
theorem v_same : sameSL (sameS 3) bothT bothT = true ∧ sameSL (sameS 3) bothT eitherT = false := by
  refine ⟨?_, ?_⟩ <;> kernel_rfl
end Go.Proofs.YtfnbffkiddofnaaDoor
