/-
  CONTRACTS OF THE STATEMENTS' OWN nested and many (layer 5): transactions that they build; the memory that was there stays as it was. Conditions: as they stand.
-/
import Derived.Test.YthdcdffdpdoeoaaGreatDoorCx
import Derived.Test.YthdcdffdpdoeoaaGreatDoorZv
namespace Go.Proofs.YthdcdffdpdoeoaaGreatDoor
set_option maxRecDepth 100000
open Go.RowKit Go.Deep
set_option linter.unusedVariables false
/-- The data r are the statement s, a transaction lies at A, in memory as it is. -/
def SA (w : World) (D : Nat) (r : Raw) (s : St) : Prop := SAt w 0 w.heap.size D r s
def SK (w : World) (D : Nat) (A : Option Addr) (l : List St) : Prop := SKids w 0 w.heap.size D A l
theorem SA.below {w w' : World} {D : Nat} {r : Raw} {s : St} (h : SA w D r s) (b : Below w.heap.size w w') : SA w' D r s := (SAt.below h b (Nat.le_refl _)).wide (Nat.le_refl _) b.size D
theorem SK.below {w w' : World} {D : Nat} {A : Option Addr} {l : List St} (h : SK w D A l) (b : Below w.heap.size w w') : SK w' D A l := (SKids.below h b (Nat.le_refl _)).wide (Nat.le_refl _) b.size
theorem SA.more {w : World} {D D' : Nat} {r : Raw} {s : St} (h : SA w D r s) (hd : D ≤ D') : SA w D' r s := SAt.more D D' hd h
theorem SK.more {w : World} {D D' : Nat} {A : Option Addr} {l : List St} (h : SK w D A l) (hd : D ≤ D') : SK w D' A l := SKids.more h hd
/-- A slice of one statement that is built. -/
theorem SK.one {w : World} {D : Nat} {r : Raw} {s : St} (h : SA w D r s) : SK (w.alloc (.cells #[.int .u8 r.k, .int .i64 r.t, .int .u8 r.ao, .int .i64 r.an, .slice r.aA r.al r.ac, .int .u8 r.bo, .int .i64 r.bn, .slice r.bA r.bl r.bc, .slice r.yA r.yl r.yc, .slice r.eA r.el r.ec] 43)) D (some ⟨w.heap.size, 0, none⟩) [s] := by
  intro j hj
  obtain rfl : j = 0 := by simpa using hj
  refine ⟨⟨w.heap.size, 0, none⟩, r, rfl, Nat.zero_le _, by simp, ?_, h.below (ten_below w r)⟩
  have : (⟨w.heap.size, 0, none⟩ : Addr).add (0 * 10) = ⟨w.heap.size, 0, none⟩ := row_add _ _
  rw [this]
  exact Ten.new w r
theorem SK.nil (w : World) (D : Nat) (A : Option Addr) : SK w D A [] := SKids.nil _ _ _ _ _
/-- A statement of given data. -/
theorem SA.mk {w : World} {D : Nat} {r : Raw} {k : Nat} {t : Int} {a b : Ex} {y e : List St} (h1 : r.k = k ∧ r.t = t ∧ r.yl = y.length ∧ r.el = e.length) (h2 : k < 256 ∧ -9223372036854775808 ≤ t ∧ t < 9223372036854775808 ∧ y.length ≤ 9223372036854775807 ∧ e.length ≤ 9223372036854775807)
    (ha : At w 0 w.heap.size D r.va a) (hb : At w 0 w.heap.size D r.vb b) (hy : SK w D r.yA y) (he : SK w D r.eA e) : SA w (D + 1) r (.node k t a b y e) := ⟨h1, h2, ha, hb, hy, he⟩
def eLit (n : Int) : Ex := .node 1 n []
def eNo : Ex := .node 0 0 []
theorem at_leaf (w : World) (lo hi d : Nat) (o : Nat) (n : Int) (A : Option Addr) (c : Nat) (h1 : o < 256) (h2 : -9223372036854775808 ≤ n) (h3 : n < 9223372036854775808) : At w lo hi (d + 1) (.agg #[.int .u8 o, .int .i64 n, .slice A 0 c]) (.node o n []) :=
  ⟨h1, h2, h3, by simp, A, c, rfl, fun k hk => absurd hk (by simp)⟩
theorem at_lit (w : World) (lo hi d : Nat) (n : Int) (h2 : -9223372036854775808 ≤ n) (h3 : n < 9223372036854775808) : At w lo hi (d + 1) (.agg #[.int .u8 1, .int .i64 n, .slice none 0 0]) (eLit n) := at_leaf w lo hi d 1 n none 0 (by decide) h2 h3
theorem at_no (w : World) (lo hi d : Nat) : At w lo hi (d + 1) (.agg #[.int .u8 0, .int .i64 0, .slice none 0 0]) eNo := at_leaf w lo hi d 0 0 none 0 (by decide) (by decide) (by decide)
def sRead : St := .node 2 0 (eLit 0) eNo [] []
def sWrite : St := .node 3 0 (eLit 0) (eLit 1) [] []
def sBack : St := .node 8 0 (eLit 0) eNo [] []
def rRead : Raw := ⟨2, 0, 1, 0, none, 0, 0, 0, 0, none, 0, 0, none, 0, 0, none, 0, 0⟩
def rWrite : Raw := ⟨3, 0, 1, 0, none, 0, 0, 1, 1, none, 0, 0, none, 0, 0, none, 0, 0⟩
def rBack : Raw := ⟨8, 0, 1, 0, none, 0, 0, 0, 0, none, 0, 0, none, 0, 0, none, 0, 0⟩
theorem sa_read (w : World) (D : Nat) : SA w (D + 2) rRead sRead := SA.mk ⟨rfl, rfl, rfl, rfl⟩ (by decide) (at_leaf _ _ _ _ _ _ _ _ (by decide) (by decide) (by decide)) (at_leaf _ _ _ _ _ _ _ _ (by decide) (by decide) (by decide)) (SK.nil _ _ _) (SK.nil _ _ _)
theorem sa_write (w : World) (D : Nat) : SA w (D + 2) rWrite sWrite := SA.mk ⟨rfl, rfl, rfl, rfl⟩ (by decide) (at_leaf _ _ _ _ _ _ _ _ (by decide) (by decide) (by decide)) (at_leaf _ _ _ _ _ _ _ _ (by decide) (by decide) (by decide)) (SK.nil _ _ _) (SK.nil _ _ _)
theorem sa_back (w : World) (D : Nat) : SA w (D + 2) rBack sBack := SA.mk ⟨rfl, rfl, rfl, rfl⟩ (by decide) (at_leaf _ _ _ _ _ _ _ _ (by decide) (by decide) (by decide)) (at_leaf _ _ _ _ _ _ _ _ (by decide) (by decide) (by decide)) (SK.nil _ _ _) (SK.nil _ _ _)
/-- A statement within so many blocks. -/
def nestS : Nat → St → St
  | 0, s => s
  | k + 1, s => .node 4 0 (eLit 1) eNo [] [nestS k s]
def Nested (w : World) (D k : Nat) (s : St) (e : Ending) (w' : World) : Prop := ∃ g, e = .returned (.slice (some ⟨g, 0, none⟩) 1 1) ∧ SK w' (D + k) (some ⟨g, 0, none⟩) [nestS k s] ∧ Below w.heap.size w w'
theorem sk_cloned {w w' : World} {n D : Nat} {r : Raw} {s : St} {v : Value} (h : Cloned (fun _ => r) n w (.returned v) w') (hs : SA w' D r s) : ∃ A cap, v = .slice A n cap ∧ SK w' D A (List.replicate n s) ∧ Below w.heap.size w w' := by
  obtain ⟨A, cap, hv, hb, h⟩ := h
  cases hv
  refine ⟨A, cap, rfl, ?_, hb⟩
  rcases h with rfl | ⟨g, cur, rfl, hg, hr, hl, hc⟩
  · exact SK.nil _ _ _
  · intro j hj
    have hj' : j < n := by simpa using hj
    refine ⟨⟨g, 0, none⟩, r, rfl, Nat.zero_le _, (Array.getElem?_eq_some_iff.1 hr).1, ?_, ?_⟩
    · rw [row_add]
      exact ten_row hr fun i hi => by rw [hc _ (by omega)]; exact rowOf_get (fun _ => r) n j i hj' hi
    · rw [List.getElem_replicate]
      exact hs
def Many (w : World) (D n : Nat) (s : St) (e : Ending) (w' : World) : Prop := ∃ A cap, e = .returned (.slice A n cap) ∧ SK w' D A (List.replicate n s) ∧ Below w.heap.size w w'
end Go.Proofs.YthdcdffdpdoeoaaGreatDoor
