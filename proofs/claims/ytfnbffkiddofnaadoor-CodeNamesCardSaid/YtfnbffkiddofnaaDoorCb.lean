/-
  THE DRAWN REGIONS OF CodeNames (layer 5): the list of what may not be, the list of what may, and a round of the first loop: what is left behind them, in whatever order. Conditions: as they stand.
-/
import Derived.Test.YtfnbffkiddofnaaDoorCa
import Derived.Test.YtfnbffkiddofnaaDoorRk
import Derived.Test.YtfnbffkiddofnaaDoorCy
namespace Go.Proofs.YtfnbffkiddofnaaDoor
open Go.RowKit Go.Deep
set_option linter.unusedVariables false
/-- The operations of the region of a number, in a piece of code. -/
noncomputable def regOps (n : Nat) : Code → Option (Array Oper)
  | .region id ops _ => if id == n then some ops else none
  | .seq a b => match regOps n a with | some x => some x | none => regOps n b
  | .cond _ a b => match regOps n a with | some x => some x | none => regOps n b
  | .block _ b => regOps n b
  | .loop b => regOps n b
  | .scope b => regOps n b
  | _ => none
noncomputable def opsOf (n : Nat) : Array Oper := match Tryd.f3.body with
  | some c => (regOps n c).getD #[]
  | none => #[]
/-- Does operation i wait for operation j. -/
def waits (ops : Array Oper) (i j : Nat) : Bool := match ops[i]? with
  | some o => o.after.any fun e => Region.binds .any e && e.on == j
  | none => false
theorem waits_of {ops : Array Oper} {i j : Nat} {o : Oper} {S : Nat → Value → World → Prop} {us : List Value} {w : World} (ho : ops[i]? = some o) (hd : ∀ e ∈ o.after.toList, Region.binds .any e = true → S e.on (us.getD e.on undef) w) (h : waits ops i j = true) : S j (us.getD j undef) w := by
  unfold waits at h
  rw [ho] at h
  obtain ⟨e, he, h6⟩ := Array.any_eq_true'.1 h
  simp only [Bool.and_eq_true, beq_iff_eq] at h6
  have := hd e (by simpa using he) h6.1
  rwa [h6.2] at this
theorem opAt {ops : Array Oper} {i : Nat} {o : Oper} {x : Op} (ho : ops[i]? = some o) (h : (ops[i]?).map Oper.op = some x) : o.op = x := by
  rw [ho] at h
  exact Option.some.inj h
def KV (u v : Value) (_ : World) : Prop := v = u
def StK (D : Nat) (s : St) (v : Value) (w : World) : Prop := ∃ r, v = Raw.v r ∧ SA w D r s
def SlK (D : Nat) (l : List St) (v : Value) (w : World) : Prop := ∃ A c, v = .slice A l.length c ∧ SK w D A l
theorem StK.mono {D : Nat} {s : St} {v : Value} {w w' : World} (b : Below w.heap.size w w') (h : StK D s v w) : StK D s v w' := by
  obtain ⟨r, hv, hs⟩ := h
  exact ⟨r, hv, hs.below b⟩
theorem SlK.mono {D : Nat} {l : List St} {v : Value} {w w' : World} (b : Below w.heap.size w w') (h : SlK D l v w) : SlK D l v w' := by
  obtain ⟨A, c, hv, hs⟩ := h
  exact ⟨A, c, hv, hs.below b⟩
def SAs (w : World) (D : Nat) : List Raw → List St → Prop
  | [], [] => True
  | r :: rs, s :: l => SA w D r s ∧ SAs w D rs l
  | _, _ => False
theorem SAs.nil {w : World} {D : Nat} : SAs w D [] [] := trivial
theorem SAs.cons {w : World} {D : Nat} {r : Raw} {rs : List Raw} {s : St} {l : List St} (h : SA w D r s) (t : SAs w D rs l) : SAs w D (r :: rs) (s :: l) := ⟨h, t⟩
theorem SAs.get {w : World} {D : Nat} : ∀ (rs : List Raw) (l : List St), SAs w D rs l → rs.length = l.length ∧ ∀ (j : Nat) (r : Raw) (s : St), rs[j]? = some r → l[j]? = some s → SA w D r s := by
  intro rs
  induction rs with
  | nil => intro l h; cases l with
    | nil => exact ⟨rfl, fun j r s hj => by simp at hj⟩
    | cons s l => exact h.elim
  | cons q rs ih => intro l h; cases l with
    | nil => exact h.elim
    | cons s l =>
      obtain ⟨h1, h2⟩ := h
      obtain ⟨i1, i2⟩ := ih l h2
      refine ⟨by simp [i1], fun j r s' hj hl => ?_⟩
      cases j with
      | zero =>
        simp only [List.getElem?_cons_zero, Option.some.injEq] at hj hl
        subst hj
        subst hl
        exact h1
      | succ j => exact i2 j r s' (by simpa using hj) (by simpa using hl)
theorem SK.ofs {w : World} {D : Nat} {rs : List Raw} {l : List St} (h : SAs w D rs l) (cur : Array Value) (hcur : ∀ (j i : Nat) (r : Raw), rs[j]? = some r → i < 10 → cur[j * 10 + i]? = r.cells[i]?) : SK (w.alloc (.cells cur 28)) D (some ⟨w.heap.size, 0, none⟩) l :=
  SK.of rs l (h.get _ _).1 (h.get _ _).2 cur hcur
theorem b_slice (w : World) (cur : Array Value) : Below w.heap.size w (w.alloc (.cells cur 28)) := (Below.refl _ _).alloc (Nat.le_refl _) _
theorem SAt.len {w : World} {lo hi d : Nat} {r : Raw} {k : Nat} {t : Int} {a b : Ex} {y e : List St} (h : SAt w lo hi d r (.node k t a b y e)) : r.yl = y.length ∧ r.el = e.length := by
  cases d with
  | zero => exact h.elim
  | succ d => exact ⟨h.1.2.2.1, h.1.2.2.2⟩
def badL : List St := [(.node 0 0 (.node 0 0 []) (.node 0 0 []) [] []),
  (.node 9 0 (.node 0 0 []) (.node 0 0 []) [] []),
  (.node 1 0 (.node 0 0 []) (.node 0 0 []) [] []),
  (.node 1 8 (.node 1 1 []) (.node 0 0 []) [] []),
  (.node 1 (-1) (.node 1 1 []) (.node 0 0 []) [] []),
  (.node 1 0 (.node 1 1 []) (.node 1 1 []) [] []),
  (.node 2 0 (.node 1 1 []) (.node 0 0 []) [sRead] []),
  (.node 3 0 (.node 1 1 []) (.node 0 0 []) [] []),
  (.node 3 1 (.node 1 1 []) (.node 1 1 []) [] []),
  (.node 4 0 (.node 0 0 []) (.node 0 0 []) [sRead] []),
  (.node 5 0 (.node 1 1 []) (.node 0 0 []) [] [sRead]),
  (.node 6 0 (.node 1 0 []) (.node 0 0 []) [] []),
  (.node 6 0 (.node 0 0 []) (.node 0 1 []) [] []),
  (.node 7 0 (.node 1 1 []) (.node 0 0 []) [sRead] []),
  (.node 8 0 (.node 3 2 []) (.node 0 0 []) [] []),
  (.node 4 0 (.node 1 1 []) (.node 0 0 []) [(.node 0 0 (.node 0 0 []) (.node 0 0 []) [] [])] []),
  (.node 7 0 (.node 0 0 []) (.node 0 0 []) [] [(.node 9 0 (.node 0 0 []) (.node 0 0 []) [] [])])]
/-- What stands in each temporary of region 5. -/
def S5 : Nat → Value → World → Prop
  | 0 => StK 5 (.node 0 0 (.node 0 0 []) (.node 0 0 []) [] [])
  | 1 => StK 5 (.node 9 0 (.node 0 0 []) (.node 0 0 []) [] [])
  | 2 => StK 5 (.node 1 0 (.node 0 0 []) (.node 0 0 []) [] [])
  | 3 => KV (.agg #[.int .u8 1, .int .i64 1, .slice none 0 0])
  | 4 => StK 5 (.node 1 8 (.node 1 1 []) (.node 0 0 []) [] [])
  | 5 => KV (.agg #[.int .u8 1, .int .i64 1, .slice none 0 0])
  | 6 => StK 5 (.node 1 (-1) (.node 1 1 []) (.node 0 0 []) [] [])
  | 7 => KV (.agg #[.int .u8 1, .int .i64 1, .slice none 0 0])
  | 8 => KV (.agg #[.int .u8 1, .int .i64 1, .slice none 0 0])
  | 9 => StK 5 (.node 1 0 (.node 1 1 []) (.node 1 1 []) [] [])
  | 10 => KV (.agg #[.int .u8 1, .int .i64 1, .slice none 0 0])
  | 11 => SlK 4 [sRead]
  | 12 => StK 5 (.node 2 0 (.node 1 1 []) (.node 0 0 []) [sRead] [])
  | 13 => KV (.agg #[.int .u8 1, .int .i64 1, .slice none 0 0])
  | 14 => StK 5 (.node 3 0 (.node 1 1 []) (.node 0 0 []) [] [])
  | 15 => KV (.agg #[.int .u8 1, .int .i64 1, .slice none 0 0])
  | 16 => KV (.agg #[.int .u8 1, .int .i64 1, .slice none 0 0])
  | 17 => StK 5 (.node 3 1 (.node 1 1 []) (.node 1 1 []) [] [])
  | 18 => SlK 4 [sRead]
  | 19 => StK 5 (.node 4 0 (.node 0 0 []) (.node 0 0 []) [sRead] [])
  | 20 => KV (.agg #[.int .u8 1, .int .i64 1, .slice none 0 0])
  | 21 => SlK 4 [sRead]
  | 22 => StK 5 (.node 5 0 (.node 1 1 []) (.node 0 0 []) [] [sRead])
  | 23 => KV (.agg #[.int .u8 1, .int .i64 0, .slice none 0 0])
  | 24 => StK 5 (.node 6 0 (.node 1 0 []) (.node 0 0 []) [] [])
  | 25 => KV (.agg #[.int .u8 0, .int .i64 1, .slice none 0 0])
  | 26 => StK 5 (.node 6 0 (.node 0 0 []) (.node 0 1 []) [] [])
  | 27 => KV (.agg #[.int .u8 1, .int .i64 1, .slice none 0 0])
  | 28 => SlK 4 [sRead]
  | 29 => StK 5 (.node 7 0 (.node 1 1 []) (.node 0 0 []) [sRead] [])
  | 30 => KV (.agg #[.int .u8 3, .int .i64 2, .slice none 0 0])
  | 31 => StK 5 (.node 8 0 (.node 3 2 []) (.node 0 0 []) [] [])
  | 32 => KV (.agg #[.int .u8 1, .int .i64 1, .slice none 0 0])
  | 33 => StK 4 (.node 0 0 (.node 0 0 []) (.node 0 0 []) [] [])
  | 34 => SlK 4 [(.node 0 0 (.node 0 0 []) (.node 0 0 []) [] [])]
  | 35 => StK 5 (.node 4 0 (.node 1 1 []) (.node 0 0 []) [(.node 0 0 (.node 0 0 []) (.node 0 0 []) [] [])] [])
  | 36 => StK 4 (.node 9 0 (.node 0 0 []) (.node 0 0 []) [] [])
  | 37 => SlK 4 [(.node 9 0 (.node 0 0 []) (.node 0 0 []) [] [])]
  | 38 => StK 5 (.node 7 0 (.node 0 0 []) (.node 0 0 []) [] [(.node 9 0 (.node 0 0 []) (.node 0 0 []) [] [])])
  | 39 => SlK 5 badL
  | 40 => KV (.int .i64 17)
  | 41 => KV (.int .i64 0)
  | _ => fun _ _ => False
theorem S5.mono (i : Nat) (v : Value) (w w' : World) (b : Below w.heap.size w w') (h : S5 i v w) : S5 i v w' := by
  match i, h with
  | 0, h => exact StK.mono b h
  | 1, h => exact StK.mono b h
  | 2, h => exact StK.mono b h
  | 3, h => exact h
  | 4, h => exact StK.mono b h
  | 5, h => exact h
  | 6, h => exact StK.mono b h
  | 7, h => exact h
  | 8, h => exact h
  | 9, h => exact StK.mono b h
  | 10, h => exact h
  | 11, h => exact SlK.mono b h
  | 12, h => exact StK.mono b h
  | 13, h => exact h
  | 14, h => exact StK.mono b h
  | 15, h => exact h
  | 16, h => exact h
  | 17, h => exact StK.mono b h
  | 18, h => exact SlK.mono b h
  | 19, h => exact StK.mono b h
  | 20, h => exact h
  | 21, h => exact SlK.mono b h
  | 22, h => exact StK.mono b h
  | 23, h => exact h
  | 24, h => exact StK.mono b h
  | 25, h => exact h
  | 26, h => exact StK.mono b h
  | 27, h => exact h
  | 28, h => exact SlK.mono b h
  | 29, h => exact StK.mono b h
  | 30, h => exact h
  | 31, h => exact StK.mono b h
  | 32, h => exact h
  | 33, h => exact StK.mono b h
  | 34, h => exact SlK.mono b h
  | 35, h => exact StK.mono b h
  | 36, h => exact StK.mono b h
  | 37, h => exact SlK.mono b h
  | 38, h => exact StK.mono b h
  | 39, h => exact SlK.mono b h
  | 40, h => exact h
  | 41, h => exact h
  | _ + 42, h => exact h.elim
set_option maxRecDepth 100000 in
theorem reg5 {id : Nat} {ops : Array Oper} (hops : ops = opsOf 5) (T : Array Value) (hsz : 67 ≤ T.size) (W : World) (A1 : Option Addr) (c1 g2 : Nat) (h1 : T.getD 1 undef = .slice A1 1 c1) (h2 : T.getD 2 undef = .pointer (some ⟨g2, 0, none⟩)) (hone : SK W 4 A1 [sRead])
    (hE : ∀ w, Below W.heap.size W w → w.cell? ⟨g2, 0, none⟩ = some (.int .u8 3) ∧ w.cell? ⟨g2, 1, none⟩ = some (.int .i64 2) ∧ w.cell? ⟨g2, 2, none⟩ = some (.slice none 0 0)) {Q : Exit → Act → World → Prop}
    (hend : ∀ (us : List Value) (w : World) (A : Option Addr) (c : Nat), us.length = 42 → Below W.heap.size W w → SK w 5 A badL → us.getD 39 undef = .slice A 17 c → us.getD 40 undef = .int .i64 17 → us.getD 41 undef = .int .i64 0 → Q .normal (fr (T.toList.take 25) us (T.toList.drop 67)) w) : (Code.region id ops true).wp Tryd.prog Q ⟨T, []⟩ W := by
  subst hops
  have hos : (opsOf 5).size = 42 := by kernel_rfl
  refine wp_region_kinds S5 W T 25 (by rw [hos]; exact hsz) (by kernel_rfl) (by kernel_rfl) (fun i v w1 w2 _ b h => S5.mono i v w1 w2 b h) ?_ ?_
  · intro i o ho a us wq hu hT hU hb hd K hK
    have hi : i < 42 := by rw [← hos]; exact (Array.getElem?_eq_some_iff.1 ho).1
    rw [hos] at hU
    match i, hi with
    | 0, _ =>
      exact sob_  (opAt ho (by kernel_rfl))  (hK _ _ (Below.refl _ _) ⟨_, rfl, SA.mk ⟨rfl, rfl, rfl, rfl⟩ (by decide) (at_leaf _ _ _ 3 0 0 none 0 (by decide) (by decide) (by decide)) (at_leaf _ _ _ 3 0 0 none 0 (by decide) (by decide) (by decide)) (SK.nil _ _ _) (SK.nil _ _ _)⟩)
    | 1, _ =>
      exact sob_k 9 (opAt ho (by kernel_rfl))  (hK _ _ (Below.refl _ _) ⟨_, rfl, SA.mk ⟨rfl, rfl, rfl, rfl⟩ (by decide) (at_leaf _ _ _ 3 0 0 none 0 (by decide) (by decide) (by decide)) (at_leaf _ _ _ 3 0 0 none 0 (by decide) (by decide) (by decide)) (SK.nil _ _ _) (SK.nil _ _ _)⟩)
    | 2, _ =>
      exact sob_k 1 (opAt ho (by kernel_rfl))  (hK _ _ (Below.refl _ _) ⟨_, rfl, SA.mk ⟨rfl, rfl, rfl, rfl⟩ (by decide) (at_leaf _ _ _ 3 0 0 none 0 (by decide) (by decide) (by decide)) (at_leaf _ _ _ 3 0 0 none 0 (by decide) (by decide) (by decide)) (SK.nil _ _ _) (SK.nil _ _ _)⟩)
    | 3, _ =>
      exact so_lit 1 (t := 2) (opAt ho (by kernel_rfl)) (fun w2 hb2 => hK _ _ hb2 rfl)
    | 4, _ =>
      have d3 : us.getD 3 undef = (.agg #[.int .u8 1, .int .i64 1, .slice none 0 0]) := waits_of (S := S5) ho hd (j := 3) (by kernel_rfl)
      exact sob_kat 1 28 (ao := 1) (an := 1) 8 (opAt ho (by kernel_rfl)) ((hU 3 (by decide)).trans d3) (hK _ _ (Below.refl _ _) ⟨_, rfl, SA.mk ⟨rfl, rfl, rfl, rfl⟩ (by decide) (at_leaf _ _ _ 3 1 1 none 0 (by decide) (by decide) (by decide)) (at_leaf _ _ _ 3 0 0 none 0 (by decide) (by decide) (by decide)) (SK.nil _ _ _) (SK.nil _ _ _)⟩)
    | 5, _ =>
      exact so_lit 1 (t := 2) (opAt ho (by kernel_rfl)) (fun w2 hb2 => hK _ _ hb2 rfl)
    | 6, _ =>
      have d5 : us.getD 5 undef = (.agg #[.int .u8 1, .int .i64 1, .slice none 0 0]) := waits_of (S := S5) ho hd (j := 5) (by kernel_rfl)
      exact sob_kat 1 30 (ao := 1) (an := 1) (-1) (opAt ho (by kernel_rfl)) ((hU 5 (by decide)).trans d5) (hK _ _ (Below.refl _ _) ⟨_, rfl, SA.mk ⟨rfl, rfl, rfl, rfl⟩ (by decide) (at_leaf _ _ _ 3 1 1 none 0 (by decide) (by decide) (by decide)) (at_leaf _ _ _ 3 0 0 none 0 (by decide) (by decide) (by decide)) (SK.nil _ _ _) (SK.nil _ _ _)⟩)
    | 7, _ =>
      exact so_lit 1 (t := 2) (opAt ho (by kernel_rfl)) (fun w2 hb2 => hK _ _ hb2 rfl)
    | 8, _ =>
      exact so_lit 1 (t := 2) (opAt ho (by kernel_rfl)) (fun w2 hb2 => hK _ _ hb2 rfl)
    | 9, _ =>
      have d7 : us.getD 7 undef = (.agg #[.int .u8 1, .int .i64 1, .slice none 0 0]) := waits_of (S := S5) ho hd (j := 7) (by kernel_rfl)
      have d8 : us.getD 8 undef = (.agg #[.int .u8 1, .int .i64 1, .slice none 0 0]) := waits_of (S := S5) ho hd (j := 8) (by kernel_rfl)
      exact sob_kab 1 32 (ao := 1) (an := 1) 33 (bo := 1) (bn := 1) (opAt ho (by kernel_rfl)) ((hU 7 (by decide)).trans d7) ((hU 8 (by decide)).trans d8) (hK _ _ (Below.refl _ _) ⟨_, rfl, SA.mk ⟨rfl, rfl, rfl, rfl⟩ (by decide) (at_leaf _ _ _ 3 1 1 none 0 (by decide) (by decide) (by decide)) (at_leaf _ _ _ 3 1 1 none 0 (by decide) (by decide) (by decide)) (SK.nil _ _ _) (SK.nil _ _ _)⟩)
    | 10, _ =>
      exact so_lit 1 (t := 2) (opAt ho (by kernel_rfl)) (fun w2 hb2 => hK _ _ hb2 rfl)
    | 11, _ =>
      exact so_move 1 (opAt ho (by kernel_rfl)) ((hT 1 (by decide)).trans h1) (hK _ _ (Below.refl _ _) ⟨_, _, rfl, hone.below hb⟩)
    | 12, _ =>
      have d10 : us.getD 10 undef = (.agg #[.int .u8 1, .int .i64 1, .slice none 0 0]) := waits_of (S := S5) ho hd (j := 10) (by kernel_rfl)
      obtain ⟨A11, c11, e11, q11⟩ : SlK 4 [sRead] (us.getD 11 undef) wq := waits_of (S := S5) ho hd (j := 11) (by kernel_rfl)
      exact sob_kay 2 35 (ao := 1) (an := 1) 36 (opAt ho (by kernel_rfl)) ((hU 10 (by decide)).trans d10) ((hU 11 (by decide)).trans e11) (hK _ _ (Below.refl _ _) ⟨_, rfl, SA.mk ⟨rfl, rfl, rfl, rfl⟩ (by decide) (at_leaf _ _ _ 3 1 1 none 0 (by decide) (by decide) (by decide)) (at_leaf _ _ _ 3 0 0 none 0 (by decide) (by decide) (by decide)) q11 (SK.nil _ _ _)⟩)
    | 13, _ =>
      exact so_lit 1 (t := 2) (opAt ho (by kernel_rfl)) (fun w2 hb2 => hK _ _ hb2 rfl)
    | 14, _ =>
      have d13 : us.getD 13 undef = (.agg #[.int .u8 1, .int .i64 1, .slice none 0 0]) := waits_of (S := S5) ho hd (j := 13) (by kernel_rfl)
      exact sob_ka 3 38 (ao := 1) (an := 1) (opAt ho (by kernel_rfl)) ((hU 13 (by decide)).trans d13) (hK _ _ (Below.refl _ _) ⟨_, rfl, SA.mk ⟨rfl, rfl, rfl, rfl⟩ (by decide) (at_leaf _ _ _ 3 1 1 none 0 (by decide) (by decide) (by decide)) (at_leaf _ _ _ 3 0 0 none 0 (by decide) (by decide) (by decide)) (SK.nil _ _ _) (SK.nil _ _ _)⟩)
    | 15, _ =>
      exact so_lit 1 (t := 2) (opAt ho (by kernel_rfl)) (fun w2 hb2 => hK _ _ hb2 rfl)
    | 16, _ =>
      exact so_lit 1 (t := 2) (opAt ho (by kernel_rfl)) (fun w2 hb2 => hK _ _ hb2 rfl)
    | 17, _ =>
      have d15 : us.getD 15 undef = (.agg #[.int .u8 1, .int .i64 1, .slice none 0 0]) := waits_of (S := S5) ho hd (j := 15) (by kernel_rfl)
      have d16 : us.getD 16 undef = (.agg #[.int .u8 1, .int .i64 1, .slice none 0 0]) := waits_of (S := S5) ho hd (j := 16) (by kernel_rfl)
      exact sob_kabt 3 40 (ao := 1) (an := 1) 41 (bo := 1) (bn := 1) 1 (opAt ho (by kernel_rfl)) ((hU 15 (by decide)).trans d15) ((hU 16 (by decide)).trans d16) (hK _ _ (Below.refl _ _) ⟨_, rfl, SA.mk ⟨rfl, rfl, rfl, rfl⟩ (by decide) (at_leaf _ _ _ 3 1 1 none 0 (by decide) (by decide) (by decide)) (at_leaf _ _ _ 3 1 1 none 0 (by decide) (by decide) (by decide)) (SK.nil _ _ _) (SK.nil _ _ _)⟩)
    | 18, _ =>
      exact so_move 1 (opAt ho (by kernel_rfl)) ((hT 1 (by decide)).trans h1) (hK _ _ (Below.refl _ _) ⟨_, _, rfl, hone.below hb⟩)
    | 19, _ =>
      obtain ⟨A18, c18, e18, q18⟩ : SlK 4 [sRead] (us.getD 18 undef) wq := waits_of (S := S5) ho hd (j := 18) (by kernel_rfl)
      exact sob_ky 4 43 (opAt ho (by kernel_rfl)) ((hU 18 (by decide)).trans e18) (hK _ _ (Below.refl _ _) ⟨_, rfl, SA.mk ⟨rfl, rfl, rfl, rfl⟩ (by decide) (at_leaf _ _ _ 3 0 0 none 0 (by decide) (by decide) (by decide)) (at_leaf _ _ _ 3 0 0 none 0 (by decide) (by decide) (by decide)) q18 (SK.nil _ _ _)⟩)
    | 20, _ =>
      exact so_lit 1 (t := 2) (opAt ho (by kernel_rfl)) (fun w2 hb2 => hK _ _ hb2 rfl)
    | 21, _ =>
      exact so_move 1 (opAt ho (by kernel_rfl)) ((hT 1 (by decide)).trans h1) (hK _ _ (Below.refl _ _) ⟨_, _, rfl, hone.below hb⟩)
    | 22, _ =>
      have d20 : us.getD 20 undef = (.agg #[.int .u8 1, .int .i64 1, .slice none 0 0]) := waits_of (S := S5) ho hd (j := 20) (by kernel_rfl)
      obtain ⟨A21, c21, e21, q21⟩ : SlK 4 [sRead] (us.getD 21 undef) wq := waits_of (S := S5) ho hd (j := 21) (by kernel_rfl)
      exact sob_kae 5 45 (ao := 1) (an := 1) 46 (opAt ho (by kernel_rfl)) ((hU 20 (by decide)).trans d20) ((hU 21 (by decide)).trans e21) (hK _ _ (Below.refl _ _) ⟨_, rfl, SA.mk ⟨rfl, rfl, rfl, rfl⟩ (by decide) (at_leaf _ _ _ 3 1 1 none 0 (by decide) (by decide) (by decide)) (at_leaf _ _ _ 3 0 0 none 0 (by decide) (by decide) (by decide)) (SK.nil _ _ _) q21⟩)
    | 23, _ =>
      exact so_lit 0 (t := 2) (opAt ho (by kernel_rfl)) (fun w2 hb2 => hK _ _ hb2 rfl)
    | 24, _ =>
      have d23 : us.getD 23 undef = (.agg #[.int .u8 1, .int .i64 0, .slice none 0 0]) := waits_of (S := S5) ho hd (j := 23) (by kernel_rfl)
      exact sob_ka 6 48 (ao := 1) (an := 0) (opAt ho (by kernel_rfl)) ((hU 23 (by decide)).trans d23) (hK _ _ (Below.refl _ _) ⟨_, rfl, SA.mk ⟨rfl, rfl, rfl, rfl⟩ (by decide) (at_leaf _ _ _ 3 1 0 none 0 (by decide) (by decide) (by decide)) (at_leaf _ _ _ 3 0 0 none 0 (by decide) (by decide) (by decide)) (SK.nil _ _ _) (SK.nil _ _ _)⟩)
    | 25, _ =>
      exact so_e1 1 (opAt ho (by kernel_rfl)) (hK _ _ (Below.refl _ _) rfl)
    | 26, _ =>
      have d25 : us.getD 25 undef = (.agg #[.int .u8 0, .int .i64 1, .slice none 0 0]) := waits_of (S := S5) ho hd (j := 25) (by kernel_rfl)
      exact sob_kb 6 50 (bo := 0) (bn := 1) (opAt ho (by kernel_rfl)) ((hU 25 (by decide)).trans d25) (hK _ _ (Below.refl _ _) ⟨_, rfl, SA.mk ⟨rfl, rfl, rfl, rfl⟩ (by decide) (at_leaf _ _ _ 3 0 0 none 0 (by decide) (by decide) (by decide)) (at_leaf _ _ _ 3 0 1 none 0 (by decide) (by decide) (by decide)) (SK.nil _ _ _) (SK.nil _ _ _)⟩)
    | 27, _ =>
      exact so_lit 1 (t := 2) (opAt ho (by kernel_rfl)) (fun w2 hb2 => hK _ _ hb2 rfl)
    | 28, _ =>
      exact so_move 1 (opAt ho (by kernel_rfl)) ((hT 1 (by decide)).trans h1) (hK _ _ (Below.refl _ _) ⟨_, _, rfl, hone.below hb⟩)
    | 29, _ =>
      have d27 : us.getD 27 undef = (.agg #[.int .u8 1, .int .i64 1, .slice none 0 0]) := waits_of (S := S5) ho hd (j := 27) (by kernel_rfl)
      obtain ⟨A28, c28, e28, q28⟩ : SlK 4 [sRead] (us.getD 28 undef) wq := waits_of (S := S5) ho hd (j := 28) (by kernel_rfl)
      exact sob_kay 7 52 (ao := 1) (an := 1) 53 (opAt ho (by kernel_rfl)) ((hU 27 (by decide)).trans d27) ((hU 28 (by decide)).trans e28) (hK _ _ (Below.refl _ _) ⟨_, rfl, SA.mk ⟨rfl, rfl, rfl, rfl⟩ (by decide) (at_leaf _ _ _ 3 1 1 none 0 (by decide) (by decide) (by decide)) (at_leaf _ _ _ 3 0 0 none 0 (by decide) (by decide) (by decide)) q28 (SK.nil _ _ _)⟩)
    | 30, _ =>
      exact so_loadE 2 g2 (opAt ho (by kernel_rfl)) ((hT 2 (by decide)).trans h2) (hE wq hb).1 (hE wq hb).2.1 (hE wq hb).2.2 (hK _ _ (Below.refl _ _) rfl)
    | 31, _ =>
      have d30 : us.getD 30 undef = (.agg #[.int .u8 3, .int .i64 2, .slice none 0 0]) := waits_of (S := S5) ho hd (j := 30) (by kernel_rfl)
      exact sob_ka 8 55 (ao := 3) (an := 2) (opAt ho (by kernel_rfl)) ((hU 30 (by decide)).trans d30) (hK _ _ (Below.refl _ _) ⟨_, rfl, SA.mk ⟨rfl, rfl, rfl, rfl⟩ (by decide) (at_leaf _ _ _ 3 3 2 none 0 (by decide) (by decide) (by decide)) (at_leaf _ _ _ 3 0 0 none 0 (by decide) (by decide) (by decide)) (SK.nil _ _ _) (SK.nil _ _ _)⟩)
    | 32, _ =>
      exact so_lit 1 (t := 2) (opAt ho (by kernel_rfl)) (fun w2 hb2 => hK _ _ hb2 rfl)
    | 33, _ =>
      exact sob_  (opAt ho (by kernel_rfl))  (hK _ _ (Below.refl _ _) ⟨_, rfl, SA.mk ⟨rfl, rfl, rfl, rfl⟩ (by decide) (at_leaf _ _ _ 2 0 0 none 0 (by decide) (by decide) (by decide)) (at_leaf _ _ _ 2 0 0 none 0 (by decide) (by decide) (by decide)) (SK.nil _ _ _) (SK.nil _ _ _)⟩)
    | 34, _ =>
      obtain ⟨r33, e33, q33⟩ : StK 4 (.node 0 0 (.node 0 0 []) (.node 0 0 []) [] []) (us.getD 33 undef) wq := waits_of (S := S5) ho hd (j := 33) (by kernel_rfl)
      have u33 : a.eval (.tmp 58) = r33.v := (hU 33 (by decide)).trans e33
      exact so_slice [r33] #[(0, .tmp 58)] (opAt ho (by kernel_rfl)) (by simp) (by simp) (by simp [u33]) (fun cur hcur => hK _ _ (b_slice _ _) ⟨_, _, rfl, SK.ofs (l := [(.node 0 0 (.node 0 0 []) (.node 0 0 []) [] [])]) (SAs.cons q33 SAs.nil) cur hcur⟩)
    | 35, _ =>
      have d32 : us.getD 32 undef = (.agg #[.int .u8 1, .int .i64 1, .slice none 0 0]) := waits_of (S := S5) ho hd (j := 32) (by kernel_rfl)
      obtain ⟨A34, c34, e34, q34⟩ : SlK 4 [(.node 0 0 (.node 0 0 []) (.node 0 0 []) [] [])] (us.getD 34 undef) wq := waits_of (S := S5) ho hd (j := 34) (by kernel_rfl)
      exact sob_kay 4 57 (ao := 1) (an := 1) 59 (opAt ho (by kernel_rfl)) ((hU 32 (by decide)).trans d32) ((hU 34 (by decide)).trans e34) (hK _ _ (Below.refl _ _) ⟨_, rfl, SA.mk ⟨rfl, rfl, rfl, rfl⟩ (by decide) (at_leaf _ _ _ 3 1 1 none 0 (by decide) (by decide) (by decide)) (at_leaf _ _ _ 3 0 0 none 0 (by decide) (by decide) (by decide)) q34 (SK.nil _ _ _)⟩)
    | 36, _ =>
      exact sob_k 9 (opAt ho (by kernel_rfl))  (hK _ _ (Below.refl _ _) ⟨_, rfl, SA.mk ⟨rfl, rfl, rfl, rfl⟩ (by decide) (at_leaf _ _ _ 2 0 0 none 0 (by decide) (by decide) (by decide)) (at_leaf _ _ _ 2 0 0 none 0 (by decide) (by decide) (by decide)) (SK.nil _ _ _) (SK.nil _ _ _)⟩)
    | 37, _ =>
      obtain ⟨r36, e36, q36⟩ : StK 4 (.node 9 0 (.node 0 0 []) (.node 0 0 []) [] []) (us.getD 36 undef) wq := waits_of (S := S5) ho hd (j := 36) (by kernel_rfl)
      have u36 : a.eval (.tmp 61) = r36.v := (hU 36 (by decide)).trans e36
      exact so_slice [r36] #[(0, .tmp 61)] (opAt ho (by kernel_rfl)) (by simp) (by simp) (by simp [u36]) (fun cur hcur => hK _ _ (b_slice _ _) ⟨_, _, rfl, SK.ofs (l := [(.node 9 0 (.node 0 0 []) (.node 0 0 []) [] [])]) (SAs.cons q36 SAs.nil) cur hcur⟩)
    | 38, _ =>
      obtain ⟨A37, c37, e37, q37⟩ : SlK 4 [(.node 9 0 (.node 0 0 []) (.node 0 0 []) [] [])] (us.getD 37 undef) wq := waits_of (S := S5) ho hd (j := 37) (by kernel_rfl)
      exact sob_ke 7 62 (opAt ho (by kernel_rfl)) ((hU 37 (by decide)).trans e37) (hK _ _ (Below.refl _ _) ⟨_, rfl, SA.mk ⟨rfl, rfl, rfl, rfl⟩ (by decide) (at_leaf _ _ _ 3 0 0 none 0 (by decide) (by decide) (by decide)) (at_leaf _ _ _ 3 0 0 none 0 (by decide) (by decide) (by decide)) (SK.nil _ _ _) q37⟩)
    | 39, _ =>
      obtain ⟨r0, e0, q0⟩ : StK 5 (.node 0 0 (.node 0 0 []) (.node 0 0 []) [] []) (us.getD 0 undef) wq := waits_of (S := S5) ho hd (j := 0) (by kernel_rfl)
      have u0 : a.eval (.tmp 25) = r0.v := (hU 0 (by decide)).trans e0
      obtain ⟨r1, e1, q1⟩ : StK 5 (.node 9 0 (.node 0 0 []) (.node 0 0 []) [] []) (us.getD 1 undef) wq := waits_of (S := S5) ho hd (j := 1) (by kernel_rfl)
      have u1 : a.eval (.tmp 26) = r1.v := (hU 1 (by decide)).trans e1
      obtain ⟨r2, e2, q2⟩ : StK 5 (.node 1 0 (.node 0 0 []) (.node 0 0 []) [] []) (us.getD 2 undef) wq := waits_of (S := S5) ho hd (j := 2) (by kernel_rfl)
      have u2 : a.eval (.tmp 27) = r2.v := (hU 2 (by decide)).trans e2
      obtain ⟨r4, e4, q4⟩ : StK 5 (.node 1 8 (.node 1 1 []) (.node 0 0 []) [] []) (us.getD 4 undef) wq := waits_of (S := S5) ho hd (j := 4) (by kernel_rfl)
      have u4 : a.eval (.tmp 29) = r4.v := (hU 4 (by decide)).trans e4
      obtain ⟨r6, e6, q6⟩ : StK 5 (.node 1 (-1) (.node 1 1 []) (.node 0 0 []) [] []) (us.getD 6 undef) wq := waits_of (S := S5) ho hd (j := 6) (by kernel_rfl)
      have u6 : a.eval (.tmp 31) = r6.v := (hU 6 (by decide)).trans e6
      obtain ⟨r9, e9, q9⟩ : StK 5 (.node 1 0 (.node 1 1 []) (.node 1 1 []) [] []) (us.getD 9 undef) wq := waits_of (S := S5) ho hd (j := 9) (by kernel_rfl)
      have u9 : a.eval (.tmp 34) = r9.v := (hU 9 (by decide)).trans e9
      obtain ⟨r12, e12, q12⟩ : StK 5 (.node 2 0 (.node 1 1 []) (.node 0 0 []) [sRead] []) (us.getD 12 undef) wq := waits_of (S := S5) ho hd (j := 12) (by kernel_rfl)
      have u12 : a.eval (.tmp 37) = r12.v := (hU 12 (by decide)).trans e12
      obtain ⟨r14, e14, q14⟩ : StK 5 (.node 3 0 (.node 1 1 []) (.node 0 0 []) [] []) (us.getD 14 undef) wq := waits_of (S := S5) ho hd (j := 14) (by kernel_rfl)
      have u14 : a.eval (.tmp 39) = r14.v := (hU 14 (by decide)).trans e14
      obtain ⟨r17, e17, q17⟩ : StK 5 (.node 3 1 (.node 1 1 []) (.node 1 1 []) [] []) (us.getD 17 undef) wq := waits_of (S := S5) ho hd (j := 17) (by kernel_rfl)
      have u17 : a.eval (.tmp 42) = r17.v := (hU 17 (by decide)).trans e17
      obtain ⟨r19, e19, q19⟩ : StK 5 (.node 4 0 (.node 0 0 []) (.node 0 0 []) [sRead] []) (us.getD 19 undef) wq := waits_of (S := S5) ho hd (j := 19) (by kernel_rfl)
      have u19 : a.eval (.tmp 44) = r19.v := (hU 19 (by decide)).trans e19
      obtain ⟨r22, e22, q22⟩ : StK 5 (.node 5 0 (.node 1 1 []) (.node 0 0 []) [] [sRead]) (us.getD 22 undef) wq := waits_of (S := S5) ho hd (j := 22) (by kernel_rfl)
      have u22 : a.eval (.tmp 47) = r22.v := (hU 22 (by decide)).trans e22
      obtain ⟨r24, e24, q24⟩ : StK 5 (.node 6 0 (.node 1 0 []) (.node 0 0 []) [] []) (us.getD 24 undef) wq := waits_of (S := S5) ho hd (j := 24) (by kernel_rfl)
      have u24 : a.eval (.tmp 49) = r24.v := (hU 24 (by decide)).trans e24
      obtain ⟨r26, e26, q26⟩ : StK 5 (.node 6 0 (.node 0 0 []) (.node 0 1 []) [] []) (us.getD 26 undef) wq := waits_of (S := S5) ho hd (j := 26) (by kernel_rfl)
      have u26 : a.eval (.tmp 51) = r26.v := (hU 26 (by decide)).trans e26
      obtain ⟨r29, e29, q29⟩ : StK 5 (.node 7 0 (.node 1 1 []) (.node 0 0 []) [sRead] []) (us.getD 29 undef) wq := waits_of (S := S5) ho hd (j := 29) (by kernel_rfl)
      have u29 : a.eval (.tmp 54) = r29.v := (hU 29 (by decide)).trans e29
      obtain ⟨r31, e31, q31⟩ : StK 5 (.node 8 0 (.node 3 2 []) (.node 0 0 []) [] []) (us.getD 31 undef) wq := waits_of (S := S5) ho hd (j := 31) (by kernel_rfl)
      have u31 : a.eval (.tmp 56) = r31.v := (hU 31 (by decide)).trans e31
      obtain ⟨r35, e35, q35⟩ : StK 5 (.node 4 0 (.node 1 1 []) (.node 0 0 []) [(.node 0 0 (.node 0 0 []) (.node 0 0 []) [] [])] []) (us.getD 35 undef) wq := waits_of (S := S5) ho hd (j := 35) (by kernel_rfl)
      have u35 : a.eval (.tmp 60) = r35.v := (hU 35 (by decide)).trans e35
      obtain ⟨r38, e38, q38⟩ : StK 5 (.node 7 0 (.node 0 0 []) (.node 0 0 []) [] [(.node 9 0 (.node 0 0 []) (.node 0 0 []) [] [])]) (us.getD 38 undef) wq := waits_of (S := S5) ho hd (j := 38) (by kernel_rfl)
      have u38 : a.eval (.tmp 63) = r38.v := (hU 38 (by decide)).trans e38
      exact so_slice [r0, r1, r2, r4, r6, r9, r12, r14, r17, r19, r22, r24, r26, r29, r31, r35, r38] #[(0, .tmp 25), (1, .tmp 26), (2, .tmp 27), (3, .tmp 29), (4, .tmp 31), (5, .tmp 34), (6, .tmp 37), (7, .tmp 39), (8, .tmp 42), (9, .tmp 44), (10, .tmp 47), (11, .tmp 49), (12, .tmp 51), (13, .tmp 54), (14, .tmp 56), (15, .tmp 60), (16, .tmp 63)] (opAt ho (by kernel_rfl)) (by simp) (by simp) (by simp [u0, u1, u2, u4, u6, u9, u12, u14, u17, u19, u22, u24, u26, u29, u31, u35, u38]) (fun cur hcur => hK _ _ (b_slice _ _) ⟨_, _, rfl, SK.ofs (l := badL) (SAs.cons q0 (SAs.cons q1 (SAs.cons q2 (SAs.cons q4 (SAs.cons q6 (SAs.cons q9 (SAs.cons q12 (SAs.cons q14 (SAs.cons q17 (SAs.cons q19 (SAs.cons q22 (SAs.cons q24 (SAs.cons q26 (SAs.cons q29 (SAs.cons q31 (SAs.cons q35 (SAs.cons q38 SAs.nil))))))))))))))))) cur hcur⟩)
    | 40, _ =>
      obtain ⟨A39, c39, e39, q39⟩ : SlK 5 badL (us.getD 39 undef) wq := waits_of (S := S5) ho hd (j := 39) (by kernel_rfl)
      exact so_len 64 (opAt ho (by kernel_rfl)) ((hU 39 (by decide)).trans e39) (hK _ _ (Below.refl _ _) rfl)
    | 41, _ =>
      exact so_num 0 (opAt ho (by kernel_rfl)) (hK _ _ (Below.refl _ _) rfl)
  · intro us w hu hb hS
    rw [hos] at hu hS ⊢
    obtain ⟨A, c, hv, hk⟩ : SlK 5 badL (us.getD 39 undef) w := hS 39 (by decide)
    exact hend us w A c hu hb hk hv (hS 40 (by decide)) (hS 41 (by decide))
def goodL : List St := [(.node 1 7 (.node 1 1 []) (.node 0 0 []) [] []),
  sRead,
  sWrite,
  (.node 4 0 (.node 1 1 []) (.node 0 0 []) [] []),
  (.node 5 0 (.node 1 1 []) (.node 0 0 []) [sRead] []),
  (.node 6 0 (.node 0 0 []) (.node 0 0 []) [] []),
  (.node 7 0 (.node 0 0 []) (.node 0 0 []) [sRead] [sRead]),
  (.node 8 0 (.node 3 2 []) (.node 0 0 []) [] [])]
/-- What stands in each temporary of region 11. -/
def S11 : Nat → Value → World → Prop
  | 0 => KV (.agg #[.int .u8 1, .int .i64 1, .slice none 0 0])
  | 1 => StK 5 (.node 1 7 (.node 1 1 []) (.node 0 0 []) [] [])
  | 2 => StK 5 sRead
  | 3 => StK 5 sWrite
  | 4 => KV (.agg #[.int .u8 1, .int .i64 1, .slice none 0 0])
  | 5 => StK 5 (.node 4 0 (.node 1 1 []) (.node 0 0 []) [] [])
  | 6 => KV (.agg #[.int .u8 1, .int .i64 1, .slice none 0 0])
  | 7 => SlK 4 [sRead]
  | 8 => StK 5 (.node 5 0 (.node 1 1 []) (.node 0 0 []) [sRead] [])
  | 9 => StK 5 (.node 6 0 (.node 0 0 []) (.node 0 0 []) [] [])
  | 10 => SlK 4 [sRead]
  | 11 => SlK 4 [sRead]
  | 12 => StK 5 (.node 7 0 (.node 0 0 []) (.node 0 0 []) [sRead] [sRead])
  | 13 => KV (.agg #[.int .u8 3, .int .i64 2, .slice none 0 0])
  | 14 => StK 5 (.node 8 0 (.node 3 2 []) (.node 0 0 []) [] [])
  | 15 => SlK 5 goodL
  | 16 => KV (.int .i64 8)
  | 17 => KV (.int .i64 0)
  | _ => fun _ _ => False
theorem S11.mono (i : Nat) (v : Value) (w w' : World) (b : Below w.heap.size w w') (h : S11 i v w) : S11 i v w' := by
  match i, h with
  | 0, h => exact h
  | 1, h => exact StK.mono b h
  | 2, h => exact StK.mono b h
  | 3, h => exact StK.mono b h
  | 4, h => exact h
  | 5, h => exact StK.mono b h
  | 6, h => exact h
  | 7, h => exact SlK.mono b h
  | 8, h => exact StK.mono b h
  | 9, h => exact StK.mono b h
  | 10, h => exact SlK.mono b h
  | 11, h => exact SlK.mono b h
  | 12, h => exact StK.mono b h
  | 13, h => exact h
  | 14, h => exact StK.mono b h
  | 15, h => exact SlK.mono b h
  | 16, h => exact h
  | 17, h => exact h
  | _ + 18, h => exact h.elim
set_option maxRecDepth 100000 in
theorem reg11 {id : Nat} {ops : Array Oper} (hops : ops = opsOf 11) (T : Array Value) (hsz : 98 ≤ T.size) (W : World) (A1 : Option Addr) (c1 g2 : Nat) (h1 : T.getD 1 undef = .slice A1 1 c1) (h2 : T.getD 2 undef = .pointer (some ⟨g2, 0, none⟩)) (hone : SK W 4 A1 [sRead])
    (hE : ∀ w, Below W.heap.size W w → w.cell? ⟨g2, 0, none⟩ = some (.int .u8 3) ∧ w.cell? ⟨g2, 1, none⟩ = some (.int .i64 2) ∧ w.cell? ⟨g2, 2, none⟩ = some (.slice none 0 0)) {Q : Exit → Act → World → Prop}
    (hend : ∀ (us : List Value) (w : World) (A : Option Addr) (c : Nat), us.length = 18 → Below W.heap.size W w → SK w 5 A goodL → us.getD 15 undef = .slice A 8 c → us.getD 16 undef = .int .i64 8 → us.getD 17 undef = .int .i64 0 → Q .normal (fr (T.toList.take 80) us (T.toList.drop 98)) w) : (Code.region id ops true).wp Tryd.prog Q ⟨T, []⟩ W := by
  subst hops
  have hos : (opsOf 11).size = 18 := by kernel_rfl
  refine wp_region_kinds S11 W T 80 (by rw [hos]; exact hsz) (by kernel_rfl) (by kernel_rfl) (fun i v w1 w2 _ b h => S11.mono i v w1 w2 b h) ?_ ?_
  · intro i o ho a us wq hu hT hU hb hd K hK
    have hi : i < 18 := by rw [← hos]; exact (Array.getElem?_eq_some_iff.1 ho).1
    rw [hos] at hU
    match i, hi with
    | 0, _ =>
      exact so_lit 1 (t := 2) (opAt ho (by kernel_rfl)) (fun w2 hb2 => hK _ _ hb2 rfl)
    | 1, _ =>
      have d0 : us.getD 0 undef = (.agg #[.int .u8 1, .int .i64 1, .slice none 0 0]) := waits_of (S := S11) ho hd (j := 0) (by kernel_rfl)
      exact sob_kat 1 80 (ao := 1) (an := 1) 7 (opAt ho (by kernel_rfl)) ((hU 0 (by decide)).trans d0) (hK _ _ (Below.refl _ _) ⟨_, rfl, SA.mk ⟨rfl, rfl, rfl, rfl⟩ (by decide) (at_leaf _ _ _ 3 1 1 none 0 (by decide) (by decide) (by decide)) (at_leaf _ _ _ 3 0 0 none 0 (by decide) (by decide) (by decide)) (SK.nil _ _ _) (SK.nil _ _ _)⟩)
    | 2, _ =>
      exact so_read (opAt ho (by kernel_rfl)) (fun w2 hb2 => hK _ _ hb2 ⟨rRead, rfl, sa_read _ 3⟩)
    | 3, _ =>
      exact so_write (opAt ho (by kernel_rfl)) (fun w2 hb2 => hK _ _ hb2 ⟨rWrite, rfl, sa_write _ 3⟩)
    | 4, _ =>
      exact so_lit 1 (t := 2) (opAt ho (by kernel_rfl)) (fun w2 hb2 => hK _ _ hb2 rfl)
    | 5, _ =>
      have d4 : us.getD 4 undef = (.agg #[.int .u8 1, .int .i64 1, .slice none 0 0]) := waits_of (S := S11) ho hd (j := 4) (by kernel_rfl)
      exact sob_ka 4 84 (ao := 1) (an := 1) (opAt ho (by kernel_rfl)) ((hU 4 (by decide)).trans d4) (hK _ _ (Below.refl _ _) ⟨_, rfl, SA.mk ⟨rfl, rfl, rfl, rfl⟩ (by decide) (at_leaf _ _ _ 3 1 1 none 0 (by decide) (by decide) (by decide)) (at_leaf _ _ _ 3 0 0 none 0 (by decide) (by decide) (by decide)) (SK.nil _ _ _) (SK.nil _ _ _)⟩)
    | 6, _ =>
      exact so_lit 1 (t := 2) (opAt ho (by kernel_rfl)) (fun w2 hb2 => hK _ _ hb2 rfl)
    | 7, _ =>
      exact so_move 1 (opAt ho (by kernel_rfl)) ((hT 1 (by decide)).trans h1) (hK _ _ (Below.refl _ _) ⟨_, _, rfl, hone.below hb⟩)
    | 8, _ =>
      have d6 : us.getD 6 undef = (.agg #[.int .u8 1, .int .i64 1, .slice none 0 0]) := waits_of (S := S11) ho hd (j := 6) (by kernel_rfl)
      obtain ⟨A7, c7, e7, q7⟩ : SlK 4 [sRead] (us.getD 7 undef) wq := waits_of (S := S11) ho hd (j := 7) (by kernel_rfl)
      exact sob_kay 5 86 (ao := 1) (an := 1) 87 (opAt ho (by kernel_rfl)) ((hU 6 (by decide)).trans d6) ((hU 7 (by decide)).trans e7) (hK _ _ (Below.refl _ _) ⟨_, rfl, SA.mk ⟨rfl, rfl, rfl, rfl⟩ (by decide) (at_leaf _ _ _ 3 1 1 none 0 (by decide) (by decide) (by decide)) (at_leaf _ _ _ 3 0 0 none 0 (by decide) (by decide) (by decide)) q7 (SK.nil _ _ _)⟩)
    | 9, _ =>
      exact sob_k 6 (opAt ho (by kernel_rfl))  (hK _ _ (Below.refl _ _) ⟨_, rfl, SA.mk ⟨rfl, rfl, rfl, rfl⟩ (by decide) (at_leaf _ _ _ 3 0 0 none 0 (by decide) (by decide) (by decide)) (at_leaf _ _ _ 3 0 0 none 0 (by decide) (by decide) (by decide)) (SK.nil _ _ _) (SK.nil _ _ _)⟩)
    | 10, _ =>
      exact so_move 1 (opAt ho (by kernel_rfl)) ((hT 1 (by decide)).trans h1) (hK _ _ (Below.refl _ _) ⟨_, _, rfl, hone.below hb⟩)
    | 11, _ =>
      exact so_move 1 (opAt ho (by kernel_rfl)) ((hT 1 (by decide)).trans h1) (hK _ _ (Below.refl _ _) ⟨_, _, rfl, hone.below hb⟩)
    | 12, _ =>
      obtain ⟨A10, c10, e10, q10⟩ : SlK 4 [sRead] (us.getD 10 undef) wq := waits_of (S := S11) ho hd (j := 10) (by kernel_rfl)
      obtain ⟨A11, c11, e11, q11⟩ : SlK 4 [sRead] (us.getD 11 undef) wq := waits_of (S := S11) ho hd (j := 11) (by kernel_rfl)
      exact sob_kye 7 90 91 (opAt ho (by kernel_rfl)) ((hU 10 (by decide)).trans e10) ((hU 11 (by decide)).trans e11) (hK _ _ (Below.refl _ _) ⟨_, rfl, SA.mk ⟨rfl, rfl, rfl, rfl⟩ (by decide) (at_leaf _ _ _ 3 0 0 none 0 (by decide) (by decide) (by decide)) (at_leaf _ _ _ 3 0 0 none 0 (by decide) (by decide) (by decide)) q10 q11⟩)
    | 13, _ =>
      exact so_loadE 2 g2 (opAt ho (by kernel_rfl)) ((hT 2 (by decide)).trans h2) (hE wq hb).1 (hE wq hb).2.1 (hE wq hb).2.2 (hK _ _ (Below.refl _ _) rfl)
    | 14, _ =>
      have d13 : us.getD 13 undef = (.agg #[.int .u8 3, .int .i64 2, .slice none 0 0]) := waits_of (S := S11) ho hd (j := 13) (by kernel_rfl)
      exact sob_ka 8 93 (ao := 3) (an := 2) (opAt ho (by kernel_rfl)) ((hU 13 (by decide)).trans d13) (hK _ _ (Below.refl _ _) ⟨_, rfl, SA.mk ⟨rfl, rfl, rfl, rfl⟩ (by decide) (at_leaf _ _ _ 3 3 2 none 0 (by decide) (by decide) (by decide)) (at_leaf _ _ _ 3 0 0 none 0 (by decide) (by decide) (by decide)) (SK.nil _ _ _) (SK.nil _ _ _)⟩)
    | 15, _ =>
      obtain ⟨r1, e1, q1⟩ : StK 5 (.node 1 7 (.node 1 1 []) (.node 0 0 []) [] []) (us.getD 1 undef) wq := waits_of (S := S11) ho hd (j := 1) (by kernel_rfl)
      have u1 : a.eval (.tmp 81) = r1.v := (hU 1 (by decide)).trans e1
      obtain ⟨r2, e2, q2⟩ : StK 5 sRead (us.getD 2 undef) wq := waits_of (S := S11) ho hd (j := 2) (by kernel_rfl)
      have u2 : a.eval (.tmp 82) = r2.v := (hU 2 (by decide)).trans e2
      obtain ⟨r3, e3, q3⟩ : StK 5 sWrite (us.getD 3 undef) wq := waits_of (S := S11) ho hd (j := 3) (by kernel_rfl)
      have u3 : a.eval (.tmp 83) = r3.v := (hU 3 (by decide)).trans e3
      obtain ⟨r5, e5, q5⟩ : StK 5 (.node 4 0 (.node 1 1 []) (.node 0 0 []) [] []) (us.getD 5 undef) wq := waits_of (S := S11) ho hd (j := 5) (by kernel_rfl)
      have u5 : a.eval (.tmp 85) = r5.v := (hU 5 (by decide)).trans e5
      obtain ⟨r8, e8, q8⟩ : StK 5 (.node 5 0 (.node 1 1 []) (.node 0 0 []) [sRead] []) (us.getD 8 undef) wq := waits_of (S := S11) ho hd (j := 8) (by kernel_rfl)
      have u8 : a.eval (.tmp 88) = r8.v := (hU 8 (by decide)).trans e8
      obtain ⟨r9, e9, q9⟩ : StK 5 (.node 6 0 (.node 0 0 []) (.node 0 0 []) [] []) (us.getD 9 undef) wq := waits_of (S := S11) ho hd (j := 9) (by kernel_rfl)
      have u9 : a.eval (.tmp 89) = r9.v := (hU 9 (by decide)).trans e9
      obtain ⟨r12, e12, q12⟩ : StK 5 (.node 7 0 (.node 0 0 []) (.node 0 0 []) [sRead] [sRead]) (us.getD 12 undef) wq := waits_of (S := S11) ho hd (j := 12) (by kernel_rfl)
      have u12 : a.eval (.tmp 92) = r12.v := (hU 12 (by decide)).trans e12
      obtain ⟨r14, e14, q14⟩ : StK 5 (.node 8 0 (.node 3 2 []) (.node 0 0 []) [] []) (us.getD 14 undef) wq := waits_of (S := S11) ho hd (j := 14) (by kernel_rfl)
      have u14 : a.eval (.tmp 94) = r14.v := (hU 14 (by decide)).trans e14
      exact so_slice [r1, r2, r3, r5, r8, r9, r12, r14] #[(0, .tmp 81), (1, .tmp 82), (2, .tmp 83), (3, .tmp 85), (4, .tmp 88), (5, .tmp 89), (6, .tmp 92), (7, .tmp 94)] (opAt ho (by kernel_rfl)) (by simp) (by simp) (by simp [u1, u2, u3, u5, u8, u9, u12, u14]) (fun cur hcur => hK _ _ (b_slice _ _) ⟨_, _, rfl, SK.ofs (l := goodL) (SAs.cons q1 (SAs.cons q2 (SAs.cons q3 (SAs.cons q5 (SAs.cons q8 (SAs.cons q9 (SAs.cons q12 (SAs.cons q14 SAs.nil)))))))) cur hcur⟩)
    | 16, _ =>
      obtain ⟨A15, c15, e15, q15⟩ : SlK 5 goodL (us.getD 15 undef) wq := waits_of (S := S11) ho hd (j := 15) (by kernel_rfl)
      exact so_len 95 (opAt ho (by kernel_rfl)) ((hU 15 (by decide)).trans e15) (hK _ _ (Below.refl _ _) rfl)
    | 17, _ =>
      exact so_num 0 (opAt ho (by kernel_rfl)) (hK _ _ (Below.refl _ _) rfl)
  · intro us w hu hb hS
    rw [hos] at hu hS ⊢
    obtain ⟨A, c, hv, hk⟩ : SlK 5 goodL (us.getD 15 undef) w := hS 15 (by decide)
    exact hend us w A c hu hb hk hv (hS 16 (by decide)) (hS 17 (by decide))
end Go.Proofs.YtfnbffkiddofnaaDoor
