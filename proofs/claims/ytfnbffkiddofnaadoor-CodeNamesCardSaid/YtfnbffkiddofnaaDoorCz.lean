/-
  CONTRACTS OF THE STATEMENTS' OWN nested and many (layer 5): transactions that they build; the memory that was there stays as it was. Conditions: as they stand.
-/
import Derived.Test.YtfnbffkiddofnaaDoorCx
import Derived.Test.YtfnbffkiddofnaaDoorCp
namespace Go.Proofs.YtfnbffkiddofnaaDoor
open Go.RowKit Go.Deep
set_option linter.unusedVariables false
/-- The data r are the statement s, a transaction lies at A, in memory as it is. -/
def SA (w : World) (D : Nat) (r : Raw) (s : St) : Prop := SAt w 0 w.heap.size D r s
def SK (w : World) (D : Nat) (A : Option Addr) (l : List St) : Prop := SKids w 0 w.heap.size D A l
theorem SA.below {w w' : World} {D : Nat} {r : Raw} {s : St} (h : SA w D r s) (b : Below w.heap.size w w') : SA w' D r s := (SAt.below h b (Nat.le_refl _)).wide (Nat.le_refl _) b.size D
theorem SK.below {w w' : World} {D : Nat} {A : Option Addr} {l : List St} (h : SK w D A l) (b : Below w.heap.size w w') : SK w' D A l := (SKids.below h b (Nat.le_refl _)).wide (Nat.le_refl _) b.size
theorem SA.more {w : World} {D D' : Nat} {r : Raw} {s : St} (h : SA w D r s) (hd : D ≤ D') : SA w D' r s := SAt.more D D' hd h
theorem SK.more {w : World} {D D' : Nat} {A : Option Addr} {l : List St} (h : SK w D A l) (hd : D ≤ D') : SK w D' A l := SKids.more h hd
/-- A slice of one statement that is built. -/
theorem SK.one {w : World} {D : Nat} {r : Raw} {s : St} (h : SA w D r s) : SK (w.alloc (.cells #[.int .u8 r.k, .int .i64 r.t, .int .u8 r.ao, .int .i64 r.an, .slice r.aA r.al r.ac, .int .u8 r.bo, .int .i64 r.bn, .slice r.bA r.bl r.bc, .slice r.yA r.yl r.yc, .slice r.eA r.el r.ec] 28)) D (some ⟨w.heap.size, 0, none⟩) [s] := by
  intro j hj
  obtain rfl : j = 0 := by simpa using hj
  refine ⟨⟨w.heap.size, 0, none⟩, r, rfl, Nat.zero_le _, by simp, ?_, h.below (ten_below w r)⟩
  have : (⟨w.heap.size, 0, none⟩ : Addr).add (0 * 10) = ⟨w.heap.size, 0, none⟩ := row_add _ _
  rw [this]
  exact Ten.new w r
theorem SK.nil (w : World) (D : Nat) (A : Option Addr) : SK w D A [] := SKids.nil _ _ _ _ _
/-- A statement of given data. -/
theorem SA.mk {w : World} {D : Nat} {r : Raw} {k : Nat} {t : Int} {a b : Ex} {y e : List St} (h1 : r.k = k ∧ r.t = t ∧ r.yl = y.length ∧ r.el = e.length) (h2 : k < 256 ∧ -9223372036854775808 ≤ t ∧ t < 9223372036854775808 ∧ y.length ≤ 9223372036854775807 ∧ e.length ≤ 9223372036854775807)
    (ha : At w 0 w.heap.size D r.va a) (hb : At w 0 w.heap.size D r.vb b) (hy : SK w D r.yA y) (he : SK w D r.eA e) : SA w (D + 1) r (.node k t a b y e) := ⟨h1, h2, ha, hb, hy, he⟩
def eLit (n : Int) : Ex := .node 1 n []
def eNo : Ex := .node 0 0 []
theorem at_leaf (w : World) (lo hi d : Nat) (o : Nat) (n : Int) (A : Option Addr) (c : Nat) (h1 : o < 256) (h2 : -9223372036854775808 ≤ n) (h3 : n < 9223372036854775808) : At w lo hi (d + 1) (.agg #[.int .u8 o, .int .i64 n, .slice A 0 c]) (.node o n []) :=
  ⟨h1, h2, h3, by simp, A, c, rfl, fun k hk => absurd hk (by simp)⟩
theorem at_lit (w : World) (lo hi d : Nat) (n : Int) (h2 : -9223372036854775808 ≤ n) (h3 : n < 9223372036854775808) : At w lo hi (d + 1) (.agg #[.int .u8 1, .int .i64 n, .slice none 0 0]) (eLit n) := at_leaf w lo hi d 1 n none 0 (by decide) h2 h3
theorem at_no (w : World) (lo hi d : Nat) : At w lo hi (d + 1) (.agg #[.int .u8 0, .int .i64 0, .slice none 0 0]) eNo := at_leaf w lo hi d 0 0 none 0 (by decide) (by decide) (by decide)
def sRead : St := .node 2 0 (eLit 0) eNo [] []
def sWrite : St := .node 3 0 (eLit 0) (eLit 1) [] []
def sBack : St := .node 8 0 (eLit 0) eNo [] []
def rRead : Raw := ⟨2, 0, 1, 0, none, 0, 0, 0, 0, none, 0, 0, none, 0, 0, none, 0, 0⟩
def rWrite : Raw := ⟨3, 0, 1, 0, none, 0, 0, 1, 1, none, 0, 0, none, 0, 0, none, 0, 0⟩
def rBack : Raw := ⟨8, 0, 1, 0, none, 0, 0, 0, 0, none, 0, 0, none, 0, 0, none, 0, 0⟩
theorem sa_read (w : World) (D : Nat) : SA w (D + 2) rRead sRead := SA.mk ⟨rfl, rfl, rfl, rfl⟩ (by decide) (at_leaf _ _ _ _ _ _ _ _ (by decide) (by decide) (by decide)) (at_leaf _ _ _ _ _ _ _ _ (by decide) (by decide) (by decide)) (SK.nil _ _ _) (SK.nil _ _ _)
theorem sa_write (w : World) (D : Nat) : SA w (D + 2) rWrite sWrite := SA.mk ⟨rfl, rfl, rfl, rfl⟩ (by decide) (at_leaf _ _ _ _ _ _ _ _ (by decide) (by decide) (by decide)) (at_leaf _ _ _ _ _ _ _ _ (by decide) (by decide) (by decide)) (SK.nil _ _ _) (SK.nil _ _ _)
theorem sa_back (w : World) (D : Nat) : SA w (D + 2) rBack sBack := SA.mk ⟨rfl, rfl, rfl, rfl⟩ (by decide) (at_leaf _ _ _ _ _ _ _ _ (by decide) (by decide) (by decide)) (at_leaf _ _ _ _ _ _ _ _ (by decide) (by decide) (by decide)) (SK.nil _ _ _) (SK.nil _ _ _)
/-- A statement within so many blocks. -/
def nestS : Nat → St → St
  | 0, s => s
  | k + 1, s => .node 4 0 (eLit 1) eNo [] [nestS k s]
def Nested (w : World) (D k : Nat) (s : St) (e : Ending) (w' : World) : Prop := ∃ g, e = .returned (.slice (some ⟨g, 0, none⟩) 1 1) ∧ SK w' (D + k) (some ⟨g, 0, none⟩) [nestS k s] ∧ Below w.heap.size w w'
set_option maxRecDepth 100000 in
theorem nested_any (n : Nat) (hn : 1 ≤ n) (hn2 : n ≤ 1000) (D : Nat) (hD : 1 ≤ D) (r : Raw) (s : St) (w : World) (hs : SA w D r s) :
    Calls Tryd.prog 9 #[.int .i64 n, r.v] w (Nested w D (n - 1) s) := by
  have hlit := Lib.hid (clit_any 1)
  have bx := ten_below w r
  have h1 := SK.one (hs.below bx)
  have b1 := bx.trans ((ten_below (w.alloc (.cells #[.int .u8 r.k, .int .i64 r.t, .int .u8 r.ao, .int .i64 r.an, .slice r.aA r.al r.ac, .int .u8 r.bo, .int .i64 r.bn, .slice r.bA r.bl r.bc, .slice r.yA r.yl r.yc, .slice r.eA r.el r.ec] 28)) r).mono bx.size)
  have tn := Ten.new w r
  obtain ⟨rk, rt, rao, ran, raA, ral, rac, rbo, rbn, rbA, rbl, rbc, ryA, ryl, ryc, reA, rel, r9c⟩ := r
  dsimp only [Raw.v] at *
  have HK := Lib.hid h1
  have HB := Lib.hid b1
  clear hs bx h1 b1 tn
  go_enter Tryd.func9, Tryd.ntmps9
  go_wp2_with fail
  obtain ⟨W, hW⟩ : ∃ W, W = (w.alloc (.cells #[.int .u8 rk, .int .i64 rt, .int .u8 rao, .int .i64 ran, .slice raA ral rac, .int .u8 rbo, .int .i64 rbn, .slice rbA rbl rbc, .slice ryA ryl ryc, .slice reA rel r9c] 28)).alloc (.cells #[.int .u8 rk, .int .i64 rt, .int .u8 rao, .int .i64 ran, .slice raA ral rac, .int .u8 rbo, .int .i64 rbn, .slice rbA rbl rbc, .slice ryA ryl ryc, .slice reA rel r9c] 28) := ⟨_, rfl⟩
  have hz : (w.alloc (.cells #[.int .u8 rk, .int .i64 rt, .int .u8 rao, .int .i64 ran, .slice raA ral rac, .int .u8 rbo, .int .i64 rbn, .slice rbA rbl rbc, .slice ryA ryl ryc, .slice reA rel r9c] 28)).heap.size = w.heap.size + 1 := by simp
  rw [← hW] at HK HB ⊢
  rw [hz] at HK
  clear hW hz
  go_loopw [5, 6] (fun t i wr => ∃ k g : Nat, k < n ∧ i = .int .i64 (k + 1) ∧ t = .slice (some ⟨g, 0, none⟩) 1 1 ∧ Hid (SK wr (D + k) (some ⟨g, 0, none⟩) [nestS k s]) ∧ Hid (Below w.heap.size w wr)) (fun _ i _ => n + 1 - (intOf i).toNat)
  case atStart => exact ⟨0, w.heap.size + 1, by omega, rfl, rfl, HK.out, HB.out⟩
  case round =>
    obtain ⟨k, g, hk, rfl, rfl, hK, hB⟩ := hrel
    by_cases hlt : k + 1 < n
    · have i1 : (k : Int) + 1 < (n : Int) := by omega
      go_wp2_with fail
      refine (hlit.out wr).mono ?_
      rintro z w5 ⟨rfl, b5⟩
      have h5 := SK.one (r := ⟨4, 0, 1, 1, none, 0, 0, 0, 0, none, 0, 0, none, 0, 0, some ⟨g, 0, none⟩, 1, 1⟩) (SA.mk (D := D + k) (k := 4) (t := 0) (a := eLit 1) (b := eNo) (y := []) (e := [nestS k s]) ⟨rfl, rfl, rfl, rfl⟩ ⟨by decide, by decide, by decide, by simp, by simp⟩ ((at_leaf w5 0 w5.heap.size (D + k - 1) 1 1 none 0 (by decide) (by decide) (by decide)).more _ _ (by omega)) ((at_leaf w5 0 w5.heap.size (D + k - 1) 0 0 none 0 (by decide) (by decide) (by decide)).more _ _ (by omega)) (SK.nil _ _ _) (hK.out.below b5))
      have b6 := (hB.out.trans (b5.mono hB.out.size))
      have b7 := b6.trans ((ten_below w5 ⟨4, 0, 1, 1, none, 0, 0, 0, 0, none, 0, 0, none, 0, 0, some ⟨g, 0, none⟩, 1, 1⟩).mono b6.size)
      have H5 := Lib.hid h5
      have H7 := Lib.hid b7
      clear h5 b6 b7 b5
      go_wp2_with fail
      go_roundw
      case rel => exact ⟨k + 1, w5.heap.size, by omega, by go_num, rfl, H5.out, H7.out⟩
      case measure => simp [intOf]; omega
    · have i1 : ¬ ((k : Int) + 1 < (n : Int)) := by omega
      obtain rfl : k = n - 1 := by omega
      go_wp2_with fail
      go_ret
      exact ⟨g, rfl, hK.out, hB.out⟩
theorem sk_cloned {w w' : World} {n D : Nat} {r : Raw} {s : St} {v : Value} (h : Cloned (fun _ => r) n w (.returned v) w') (hs : SA w' D r s) : ∃ A cap, v = .slice A n cap ∧ SK w' D A (List.replicate n s) ∧ Below w.heap.size w w' := by
  obtain ⟨A, cap, hv, hb, h⟩ := h
  cases hv
  refine ⟨A, cap, rfl, ?_, hb⟩
  rcases h with rfl | ⟨g, cur, rfl, hg, hr, hl, hc⟩
  · exact SK.nil _ _ _
  · intro j hj
    have hj' : j < n := by simpa using hj
    refine ⟨⟨g, 0, none⟩, r, rfl, Nat.zero_le _, (Array.getElem?_eq_some_iff.1 hr).1, ?_, ?_⟩
    · rw [row_add]
      exact ten_row hr fun i hi => by rw [hc _ (by omega)]; exact rowOf_get (fun _ => r) n j i hj' hi
    · rw [List.getElem_replicate]
      exact hs
def Many (w : World) (D n : Nat) (s : St) (e : Ending) (w' : World) : Prop := ∃ A cap, e = .returned (.slice A n cap) ∧ SK w' D A (List.replicate n s) ∧ Below w.heap.size w w'
set_option maxRecDepth 100000 in
theorem many_any (n : Nat) (hn : n ≤ 1000) (D : Nat) (r : Raw) (s : St) (w : World) (hs : SA w D r s) :
    Calls Tryd.prog 10 #[.int .i64 n, r.v] w (Many w D n s) := by
  have bx := ten_below w r
  have tn := Ten.new w r
  obtain ⟨i0, hi0, hz0, hz1, hz2⟩ := info_parts stmt_info
  have HS := Lib.hid hs
  obtain ⟨rk, rt, rao, ran, raA, ral, rac, rbo, rbn, rbA, rbl, rbc, ryA, ryl, ryc, reA, rel, r9c⟩ := r
  dsimp only [Raw.v] at *
  have HB := Lib.hid bx
  have HT := Lib.hid tn
  clear hs bx tn
  go_enter Tryd.func10, Tryd.ntmps10
  go_wp2_with fail
  obtain ⟨W, hW⟩ : ∃ W, W = w.alloc (.cells #[.int .u8 rk, .int .i64 rt, .int .u8 rao, .int .i64 ran, .slice raA ral rac, .int .u8 rbo, .int .i64 rbn, .slice rbA rbl rbc, .slice ryA ryl ryc, .slice reA rel r9c] 28) := ⟨_, rfl⟩
  have hz : W.heap.size = w.heap.size + 1 := by rw [hW]; simp
  rw [← hW] at HB HT ⊢
  clear hW
  go_loopw [5, 6] (fun t i wr => ∃ k : Nat, k ≤ n ∧ i = .int .i64 k ∧ Hid (wr.ownsRow (w.heap.size + 1) 28 10 t k (rowOf (fun _ => ⟨rk, rt, rao, ran, raA, ral, rac, rbo, rbn, rbA, rbl, rbc, ryA, ryl, ryc, reA, rel, r9c⟩) k)) ∧ Hid (Below (w.heap.size + 1) W wr)) (fun _ i _ => n - (intOf i).toNat)
  case atStart => exact ⟨0, by omega, rfl, World.ownsRow_nil _ _ _ _, Below.refl _ _⟩
  case round =>
    obtain ⟨k, hk, rfl, hO, hB⟩ := hrel
    have hzz := hB.out.size
    by_cases hlt : k < n
    · have tn := HT.out.below hB.out (by show w.heap.size < _; omega)
      have c0 := tn.c0
      have c1 := tn.c1
      have c2 := tn.c2
      have c3 := tn.c3
      have c4 := tn.c4
      have c5 := tn.c5
      have c6 := tn.c6
      have c7 := tn.c7
      have c8 := tn.c8
      have c9 := tn.c9
      dsimp only at c0 c1 c2 c3 c4 c5 c6 c7 c8 c9
      rw [Nat.zero_add] at c1 c2 c3 c4 c5 c6 c7 c8 c9
      have hnew := heap_alloc_new wr (.cells #[.int .u8 rk, .int .i64 rt, .int .u8 rao, .int .i64 ran, .slice raA ral rac, .int .u8 rbo, .int .i64 rbn, .slice rbA rbl rbc, .slice ryA ryl ryc, .slice reA rel r9c] 28)
      have hcs : ∀ j u, (Raw.cells ⟨rk, rt, rao, ran, raA, ral, rac, rbo, rbn, rbA, rbl, rbc, ryA, ryl, ryc, reA, rel, r9c⟩)[j]? = some u → (wr.alloc (.cells #[.int .u8 rk, .int .i64 rt, .int .u8 rao, .int .i64 ran, .slice raA ral rac, .int .u8 rbo, .int .i64 rbn, .slice rbA rbl rbc, .slice ryA ryl ryc, .slice reA rel r9c] 28)).cell? ((⟨wr.heap.size, 0, none⟩ : Addr).add j) = some u := fun j u hu => by
        rw [row_add]
        have := cell_of_row _ wr.heap.size j _ _ (0, 0) hnew
        rw [this, List.getElem?_toArray]
        exact hu
      have HCS := Lib.hid hcs
      have HO := Lib.hid (hO.out.alloc (.cells #[.int .u8 rk, .int .i64 rt, .int .u8 rao, .int .i64 ran, .slice raA ral rac, .int .u8 rbo, .int .i64 rbn, .slice rbA rbl rbc, .slice ryA ryl ryc, .slice reA rel r9c] 28))
      have HBA : Hid (Below (w.heap.size + 1) W (wr.alloc (.cells #[.int .u8 rk, .int .i64 rt, .int .u8 rao, .int .i64 ran, .slice raA ral rac, .int .u8 rbo, .int .i64 rbn, .slice rbA rbl rbc, .slice ryA ryl ryc, .slice reA rel r9c] 28))) := hB.out.alloc (by omega) _
      clear tn hnew hcs
      go_wp2_with (first
        | (at_builtin; refine wpList_append_own _ rfl _ _ 26 rfl (w.heap.size + 1) 28 i0 _ 10 144 Tryd.underlying26 hi0 hz0 hz1 hz2 rfl (by decide) _ k _ rfl HO.out ⟨wr.heap.size, 0, none⟩ 1 1 (Raw.cells ⟨rk, rt, rao, ran, raA, ral, rac, rbo, rbn, rbA, rbl, rbc, ryA, ryl, ryc, reA, rel, r9c⟩) rfl rfl HCS.out (cells_one _) (by unfold maxLen; omega) (by omega) (by simp; omega) ?_; intro v' w' hown' hgrow hnil)
        | fail)
      have hb' := HBA.out.grown hgrow (by simp; omega) (fun j e => (hO.out.lt j e).1)
      have HN := Lib.hid (And.intro hown' hb')
      clear hown' hgrow hnil hb'
      go_roundw
      case rel => exact ⟨k + 1, by omega, by go_num, HN.out.1, HN.out.2⟩
      case measure => simp [intOf]; omega
    · obtain rfl : k = n := by omega
      have hlow := HB.out.trans (hB.out.mono (by omega))
      have h1 : wr.ownsRow w.heap.size 28 10 u5 k (rowOf (fun _ => ⟨rk, rt, rao, ran, raA, ral, rac, rbo, rbn, rbA, rbl, rbc, ryA, ryl, ryc, reA, rel, r9c⟩) k) := ⟨hO.out.1, hO.out.2.imp id (fun ⟨g, cap, cur, e1, e2, r⟩ => ⟨g, cap, cur, e1, by omega, r⟩)⟩
      obtain ⟨A, cap, e1, e2, e3⟩ := sk_cloned (cloned_of (w1 := w) h1 hlow) (HS.out.below hlow)
      subst e1
      have HX := Lib.hid (And.intro e2 e3)
      clear h1 e2 e3 hlow
      go_wp2_with fail
      go_ret
      exact ⟨A, cap, rfl, HX.out.1, HX.out.2⟩
end Go.Proofs.YtfnbffkiddofnaaDoor
