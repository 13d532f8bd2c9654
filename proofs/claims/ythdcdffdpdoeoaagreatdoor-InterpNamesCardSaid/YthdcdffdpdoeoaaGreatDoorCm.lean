/-
  STATEMENTS (layer 5), PLAIN: trees of statements; cost, what stands where, how many, how deep, what is shaped, what may be, whether the same; and where such a tree lies in memory (between two blocks). No condition.
-/
import Derived.Test.YthdcdffdpdoeoaaGreatDoorEm
namespace Go.Proofs.YthdcdffdpdoeoaaGreatDoor
set_option maxRecDepth 100000
open Go.RowKit
set_option linter.unusedVariables false

inductive St where
  | node (kind : Nat) (to : Int) (a b : Ex) (body els : List St)
instance : Inhabited St := ⟨.node 0 0 default default [] []⟩
def St.kind : St → Nat | .node k _ _ _ _ _ => k
def St.to : St → Int | .node _ t _ _ _ _ => t
def St.a : St → Ex | .node _ _ a _ _ _ => a
def St.b : St → Ex | .node _ _ _ b _ _ => b
def St.body : St → List St | .node _ _ _ _ y _ => y
def St.els : St → List St | .node _ _ _ _ _ e => e

/-- A block's cost, cut; f: a statement's. -/
def costL (f : St → Nat) : List St → Nat → Nat
  | [], s => s
  | x :: r, s => if 2000 < s + f x then 2001 else costL f r (s + f x)
def costF : Nat → St → Nat
  | 0, _ => 0
  | d + 1, .node k _ _ _ y e =>
    if k = 4 then 1 + max (costL (costF d) y 0) (costL (costF d) e 0)
    else if k = 5 then 1 + 8 * costL (costF d) y 0
    else if k = 7 then 1 + costL (costF d) y 0 + costL (costF d) e 0
    else 1
/-- The statements of a statement, itself first, each with how deep it stands. -/
def flatS : Nat → Nat → St → List (Nat × St)
  | 0, _, _ => []
  | d + 1, deep, .node k t a b y e => (deep, .node k t a b y e) :: (y.flatMap (flatS d (deep + 1)) ++ e.flatMap (flatS d (deep + 1)))
def cntE (d : Nat) (e : Ex) : Nat := if e.op = 0 then 0 else cnt d e
def nodesOf (d : Nat) (s : St) : Nat := cntE d s.a + cntE d s.b
def noneE (e : Ex) : Bool := decide (e.op = 0) && (decide (e.num = 0) && decide (e.args.length = 0))
def mayE (d : Nat) (e : Ex) (n : Int) : Bool := noneE e || (wholeF 6 e && belowF d e n)
/-- What a kind asks: To, A, B, Body, Else. -/
structure Asks where
  (to a b body els : Bool)
def ask (k : Nat) : Asks :=
  if k = 1 then ⟨true, true, false, false, false⟩ else if k = 2 then ⟨true, true, false, false, false⟩ else if k = 3 then ⟨false, true, true, false, false⟩
  else if k = 4 then ⟨false, true, false, true, true⟩ else if k = 5 then ⟨false, true, false, true, false⟩ else if k = 6 then ⟨false, false, false, false, false⟩
  else if k = 7 then ⟨false, false, false, true, true⟩ else if k = 8 then ⟨false, true, false, false, false⟩ else ⟨false, false, false, false, false⟩
/-- Whether a statement has just what it is asked for. -/
def hasF (q : Asks) (s : St) : Bool :=
  ((q.to || s.to != 0) == q.to) && (((!noneE s.a) == q.a) && (((!noneE s.b) == q.b) && (((q.body || decide (0 < s.body.length)) == q.body) && ((q.els || decide (0 < s.els.length)) == q.els))))
def shapedF (d : Nat) (s : St) (n : Int) : Bool :=
  if s.kind < 1 ∨ 8 < s.kind then false else hasF (ask s.kind) s && (decide (0 ≤ s.to) && (decide (s.to < 8) && (mayE d s.a n && mayE d s.b n)))
def flat (d : Nat) (tx : List St) : List (Nat × St) := tx.flatMap (flatS d 1)
def okEach (d : Nat) (n : Int) (x : Nat × St) : Bool := decide (x.1 ≤ 6) && shapedF d x.2 n
def nodesL (d : Nat) (l : List (Nat × St)) : Nat := (l.map fun x => nodesOf d x.2).sum
def soundF (d : Nat) (tx : List St) (n : Int) : Bool := decide ((flat d tx).length ≤ 40) && ((flat d tx).all (okEach d n) && decide (nodesL d (flat d tx) ≤ 300))
def mayF (d : Nat) (tx : List St) (n : Int) : Bool := decide (0 ≤ n) && (decide (n < 6) && (soundF d tx n && decide (costL (costF d) tx 0 ≤ 2000)))
def deepL (l : List (Nat × St)) : Nat := l.foldl (fun m x => max m x.1) 1
def sameSL (f : St → St → Bool) : List St → List St → Bool
  | [], [] => true
  | a :: r, b :: s => f a b && sameSL f r s
  | _, _ => false
def sameS : Nat → St → St → Bool
  | 0, _, _ => false
  | d + 1, .node k t a b y e, .node k' t' a' b' y' e' => decide (k = k') && (decide (t = t') && (sameF d a a' && (sameF d b b' && (sameSL (sameS d) y y' && sameSL (sameS d) e e'))))

/-! ### Plain facts -/
theorem ret_i {a b : Int} (h : a = b) : Ending.returned (.int .i64 a) = .returned (.int .i64 b) := by rw [h]
theorem ret_b {a b : Bool} (h : a = b) : Ending.returned (.bool a) = .returned (.bool b) := by rw [h]
theorem costL_le (f : St → Nat) : ∀ (l : List St) (s : Nat), s ≤ 2001 → costL f l s ≤ 2001 := by
  intro l
  induction l with
  | nil => intro s h; exact h
  | cons x r ih =>
    intro s h
    rw [costL]
    split
    · exact Nat.le_refl _
    · exact ih _ (by omega)
theorem costL_drop (f : St → Nat) (l : List St) (k s : Nat) (h : k < l.length) : costL f (l.drop k) s = if 2000 < s + f l[k] then 2001 else costL f (l.drop (k + 1)) (s + f l[k]) := by
  rw [List.drop_eq_getElem_cons h]
  rfl
theorem costF_le (d : Nat) (s : St) : costF d s ≤ 16009 := by
  cases d with
  | zero => exact Nat.zero_le _
  | succ d =>
    obtain ⟨k, t, a, b, y, e⟩ := s
    have h1 := costL_le (costF d) y 0 (by omega)
    have h2 := costL_le (costF d) e 0 (by omega)
    rw [costF]
    split
    · omega
    split
    · omega
    split
    · omega
    · omega
theorem flat_drop (f : St → List (Nat × St)) (l : List St) (k : Nat) (h : k < l.length) : (l.drop k).flatMap f = f l[k] ++ (l.drop (k + 1)).flatMap f := by
  rw [List.drop_eq_getElem_cons h]
  rfl
theorem flat_take (f : St → List (Nat × St)) (l : List St) (k : Nat) (h : k < l.length) : (l.take (k + 1)).flatMap f = (l.take k).flatMap f ++ f l[k] := by
  rw [List.take_succ_eq_append_getElem h, List.flatMap_append]
  simp
theorem nodesL_snoc (d : Nat) (l : List (Nat × St)) (x : Nat × St) : nodesL d (l ++ [x]) = nodesL d l + nodesOf d x.2 := by simp [nodesL]
theorem deepL_snoc (l : List (Nat × St)) (x : Nat × St) : deepL (l ++ [x]) = max (deepL l) x.1 := by simp [deepL]
theorem sameSL_len (f : St → St → Bool) : ∀ (a b : List St), a.length ≠ b.length → sameSL f a b = false := by
  intro a
  induction a with
  | nil => intro b h; cases b with
    | nil => exact absurd rfl h
    | cons _ _ => rfl
  | cons x a ih => intro b h; cases b with
    | nil => rfl
    | cons y b => rw [sameSL, ih b (by simpa using h), Bool.and_false]
theorem sameSL_drop (f : St → St → Bool) (a b : List St) (k : Nat) (ha : k < a.length) (hb : k < b.length) : sameSL f (a.drop k) (b.drop k) = (f a[k] b[k] && sameSL f (a.drop (k + 1)) (b.drop (k + 1))) := by
  rw [List.drop_eq_getElem_cons ha, List.drop_eq_getElem_cons hb]
  rfl
/-- What is whole has few parts. -/
theorem whole_cnt : ∀ (m : Nat) (e : Ex) (d : Nat), wholeF m e = true → cnt d e ≤ 2 ^ m - 1 := by
  intro m
  induction m with
  | zero => intro e d h; cases h
  | succ m ih =>
    intro e d h
    obtain ⟨op, n, args⟩ := e
    have hp : 1 ≤ 2 ^ m := Nat.one_le_two_pow
    have h2 : 2 ^ (m + 1) = 2 ^ m + 2 ^ m := by rw [Nat.pow_succ]; omega
    cases d with
    | zero => exact Nat.zero_le _
    | succ d =>
      rw [cnt]
      by_cases h4 : 4 ≤ op ∧ op ≤ 8
      · rw [wholeF, if_neg (by omega), if_neg (by omega), if_neg (by omega), if_pos h4, Bool.and_eq_true] at h
        by_cases hl : args.length = 2
        · match args, hl with
          | [a, b], _ =>
            have h3 := h.2
            simp only [both, Bool.and_eq_true] at h3
            have := ih a d h3.1
            have := ih b d h3.2
            simp
            omega
        · rw [both_no _ _ hl] at h
          cases h.2
      · have h0 : args.length = 0 := by
          by_cases h1 : op = 1
          · rw [wholeF, if_pos h1] at h; exact of_decide_eq_true h
          by_cases h3 : op = 2
          · rw [wholeF, if_neg h1, if_pos h3] at h; exact (of_decide_eq_true h).1
          by_cases h5 : op = 3
          · rw [wholeF, if_neg h1, if_neg h3, if_pos h5] at h; exact (of_decide_eq_true h).1
          · rw [wholeF, if_neg h1, if_neg h3, if_neg h5, if_neg h4] at h; cases h
        rw [List.eq_nil_of_length_eq_zero h0]
        simp
        omega
theorem mayE_cnt (d d' : Nat) (e : Ex) (n : Int) (h : mayE d e n = true) : e.op = 0 ∨ cnt d' e ≤ 63 := by
  unfold mayE noneE at h
  simp only [Bool.or_eq_true, Bool.and_eq_true] at h
  rcases h with h | h
  · exact .inl (of_decide_eq_true h.1)
  · exact .inr (whole_cnt 6 e d' h.1)
theorem shaped_may {d : Nat} {s : St} {n : Int} (h : shapedF d s n = true) : mayE d s.a n = true ∧ mayE d s.b n = true := by
  unfold shapedF at h
  split at h
  · cases h
  · simp only [Bool.and_eq_true] at h
    exact h.2.2.2

/-! ### Where a tree of statements lies -/
/-- The data of a statement as it lies. -/
structure Raw where
  (k : Nat) (t : Int) (ao : Nat) (an : Int) (aA : Option Addr) (al ac : Nat) (bo : Nat) (bn : Int) (bA : Option Addr) (bl bc : Nat) (yA : Option Addr) (yl yc : Nat) (eA : Option Addr) (el ec : Nat)
def Raw.va (r : Raw) : Value := .agg #[.int .u8 r.ao, .int .i64 r.an, .slice r.aA r.al r.ac]
def Raw.vb (r : Raw) : Value := .agg #[.int .u8 r.bo, .int .i64 r.bn, .slice r.bA r.bl r.bc]
def Raw.v (r : Raw) : Value := .agg #[.int .u8 r.k, .int .i64 r.t, .int .u8 r.ao, .int .i64 r.an, .slice r.aA r.al r.ac, .int .u8 r.bo, .int .i64 r.bn, .slice r.bA r.bl r.bc, .slice r.yA r.yl r.yc, .slice r.eA r.el r.ec]
/-- The ten cells at p. -/
structure Ten (w : World) (p : Addr) (r : Raw) : Prop where
  c0 : w.cell? p = some (.int .u8 r.k)
  c1 : w.cell? ⟨p.block, p.off + 1, none⟩ = some (.int .i64 r.t)
  c2 : w.cell? ⟨p.block, p.off + 2, none⟩ = some (.int .u8 r.ao)
  c3 : w.cell? ⟨p.block, p.off + 3, none⟩ = some (.int .i64 r.an)
  c4 : w.cell? ⟨p.block, p.off + 4, none⟩ = some (.slice r.aA r.al r.ac)
  c5 : w.cell? ⟨p.block, p.off + 5, none⟩ = some (.int .u8 r.bo)
  c6 : w.cell? ⟨p.block, p.off + 6, none⟩ = some (.int .i64 r.bn)
  c7 : w.cell? ⟨p.block, p.off + 7, none⟩ = some (.slice r.bA r.bl r.bc)
  c8 : w.cell? ⟨p.block, p.off + 8, none⟩ = some (.slice r.yA r.yl r.yc)
  c9 : w.cell? ⟨p.block, p.off + 9, none⟩ = some (.slice r.eA r.el r.ec)
theorem Ten.keep {w w' : World} {p : Addr} {r : Raw} (h : Ten w p r) (hk : ∀ q : Addr, q.block = p.block → w'.cell? q = w.cell? q) : Ten w' p r :=
  ⟨(hk p rfl).trans h.c0, (hk ⟨p.block, _, none⟩ rfl).trans h.c1, (hk ⟨p.block, _, none⟩ rfl).trans h.c2, (hk ⟨p.block, _, none⟩ rfl).trans h.c3, (hk ⟨p.block, _, none⟩ rfl).trans h.c4, (hk ⟨p.block, _, none⟩ rfl).trans h.c5, (hk ⟨p.block, _, none⟩ rfl).trans h.c6, (hk ⟨p.block, _, none⟩ rfl).trans h.c7, (hk ⟨p.block, _, none⟩ rfl).trans h.c8, (hk ⟨p.block, _, none⟩ rfl).trans h.c9⟩
theorem Ten.below {w w' : World} {B : Nat} {p : Addr} {r : Raw} (h : Ten w p r) (hb : Below B w w') (hp : p.block < B) : Ten w' p r :=
  h.keep fun q hq => hb.cell (by omega)
/-- The block of a statement that was handed in, or laid in a box. -/
theorem Ten.new (w : World) (r : Raw) : Ten (w.alloc (.cells #[.int .u8 r.k, .int .i64 r.t, .int .u8 r.ao, .int .i64 r.an, .slice r.aA r.al r.ac, .int .u8 r.bo, .int .i64 r.bn, .slice r.bA r.bl r.bc, .slice r.yA r.yl r.yc, .slice r.eA r.el r.ec] 43)) ⟨w.heap.size, 0, none⟩ r :=
  ⟨World.cell?_alloc_mark w _ _ (0, 0) 0, World.cell?_alloc_mark w _ _ (0, 0) 1, World.cell?_alloc_mark w _ _ (0, 0) 2, World.cell?_alloc_mark w _ _ (0, 0) 3, World.cell?_alloc_mark w _ _ (0, 0) 4, World.cell?_alloc_mark w _ _ (0, 0) 5, World.cell?_alloc_mark w _ _ (0, 0) 6, World.cell?_alloc_mark w _ _ (0, 0) 7, World.cell?_alloc_mark w _ _ (0, 0) 8, World.cell?_alloc_mark w _ _ (0, 0) 9⟩
/-- The data r are the statement s, whose lists lie in blocks from lo on, below hi; no more than d stand in a row. -/
def SAt (w : World) (lo hi : Nat) : Nat → Raw → St → Prop
  | 0, _, _ => False
  | d + 1, r, .node k t a b y e => (r.k = k ∧ r.t = t ∧ r.yl = y.length ∧ r.el = e.length) ∧ (k < 256 ∧ -9223372036854775808 ≤ t ∧ t < 9223372036854775808 ∧ y.length ≤ 9223372036854775807 ∧ e.length ≤ 9223372036854775807) ∧
      At w lo hi d r.va a ∧ At w lo hi d r.vb b ∧
      (∀ j (h : j < y.length), ∃ p q, r.yA = some p ∧ lo ≤ p.block ∧ p.block < hi ∧ Ten w (p.add (j * 10)) q ∧ SAt w lo hi d q y[j]) ∧
      (∀ j (h : j < e.length), ∃ p q, r.eA = some p ∧ lo ≤ p.block ∧ p.block < hi ∧ Ten w (p.add (j * 10)) q ∧ SAt w lo hi d q e[j])
/-- Where a block's statements lie. -/
def SKids (w : World) (lo hi d : Nat) (A : Option Addr) (l : List St) : Prop := ∀ j (h : j < l.length), ∃ p q, A = some p ∧ lo ≤ p.block ∧ p.block < hi ∧ Ten w (p.add (j * 10)) q ∧ SAt w lo hi d q l[j]
theorem SAt.open_ {w : World} {lo hi d : Nat} {r : Raw} {k : Nat} {t : Int} {a b : Ex} {y e : List St} (h : SAt w lo hi (d + 1) r (.node k t a b y e)) :
    (r.k = k ∧ r.t = t ∧ r.yl = y.length ∧ r.el = e.length) ∧ (k < 256 ∧ -9223372036854775808 ≤ t ∧ t < 9223372036854775808 ∧ y.length ≤ 9223372036854775807 ∧ e.length ≤ 9223372036854775807) ∧
      At w lo hi d r.va a ∧ At w lo hi d r.vb b ∧ SKids w lo hi d r.yA y ∧ SKids w lo hi d r.eA e := h
theorem SAt.keep {w w' : World} {lo hi : Nat} (hk : ∀ p : Addr, lo ≤ p.block → p.block < hi → w'.cell? p = w.cell? p) : ∀ (d : Nat) {r : Raw} {s : St}, SAt w lo hi d r s → SAt w' lo hi d r s := by
  intro d
  induction d with
  | zero => intro r s h; exact h
  | succ d ih =>
    intro r s h
    obtain ⟨k, t, a, b, y, e⟩ := s
    obtain ⟨h1, h2, ha, hb, hy, he⟩ := h
    refine ⟨h1, h2, ha.keep hk d, hb.keep hk d, fun j hj => ?_, fun j hj => ?_⟩
    · obtain ⟨p, q, e1, m1, m2, t1, s1⟩ := hy j hj
      exact ⟨p, q, e1, m1, m2, t1.keep fun z hz => hk z (by rw [hz, ad_block]; exact m1) (by rw [hz, ad_block]; exact m2), ih s1⟩
    · obtain ⟨p, q, e1, m1, m2, t1, s1⟩ := he j hj
      exact ⟨p, q, e1, m1, m2, t1.keep fun z hz => hk z (by rw [hz, ad_block]; exact m1) (by rw [hz, ad_block]; exact m2), ih s1⟩
theorem SAt.below {w w' : World} {lo hi B d : Nat} {r : Raw} {s : St} (h : SAt w lo hi d r s) (hb : Below B w w') (hB : hi ≤ B) : SAt w' lo hi d r s :=
  h.keep (fun p _ hp => hb.cell (by omega)) d
theorem SKids.below {w w' : World} {lo hi B d : Nat} {A : Option Addr} {l : List St} (h : SKids w lo hi d A l) (hb : Below B w w') (hB : hi ≤ B) : SKids w' lo hi d A l := fun j hj => by
  obtain ⟨p, q, e1, m1, m2, t1, s1⟩ := h j hj
  exact ⟨p, q, e1, m1, m2, t1.below hb (by rw [ad_block]; omega), s1.below hb hB⟩
theorem SAt.wide {w : World} {lo hi lo' hi' : Nat} (hl : lo' ≤ lo) (hh : hi ≤ hi') : ∀ (d : Nat) {r : Raw} {s : St}, SAt w lo hi d r s → SAt w lo' hi' d r s := by
  intro d
  induction d with
  | zero => intro r s h; exact h
  | succ d ih =>
    intro r s h
    obtain ⟨k, t, a, b, y, e⟩ := s
    obtain ⟨h1, h2, ha, hb, hy, he⟩ := h
    refine ⟨h1, h2, ha.wide hl hh d, hb.wide hl hh d, fun j hj => ?_, fun j hj => ?_⟩
    · obtain ⟨p, q, e1, m1, m2, t1, s1⟩ := hy j hj
      exact ⟨p, q, e1, by omega, by omega, t1, ih s1⟩
    · obtain ⟨p, q, e1, m1, m2, t1, s1⟩ := he j hj
      exact ⟨p, q, e1, by omega, by omega, t1, ih s1⟩
theorem SKids.wide {w : World} {lo hi lo' hi' d : Nat} {A : Option Addr} {l : List St} (h : SKids w lo hi d A l) (hl : lo' ≤ lo) (hh : hi ≤ hi') : SKids w lo' hi' d A l := fun j hj => by
  obtain ⟨p, q, e1, m1, m2, t1, s1⟩ := h j hj
  exact ⟨p, q, e1, by omega, by omega, t1, s1.wide hl hh d⟩
theorem SAt.more {w : World} {lo hi : Nat} : ∀ (d d' : Nat) {r : Raw} {s : St}, d ≤ d' → SAt w lo hi d r s → SAt w lo hi d' r s := by
  intro d
  induction d with
  | zero => intro d' r s _ h; exact h.elim
  | succ d ih =>
    intro d' r s hd h
    obtain ⟨k, t, a, b, y, e⟩ := s
    obtain ⟨d', rfl⟩ : ∃ q, d' = q + 1 := ⟨d' - 1, by omega⟩
    obtain ⟨h1, h2, ha, hb, hy, he⟩ := h
    refine ⟨h1, h2, ha.more _ _ (by omega), hb.more _ _ (by omega), fun j hj => ?_, fun j hj => ?_⟩
    · obtain ⟨p, q, e1, m1, m2, t1, s1⟩ := hy j hj
      exact ⟨p, q, e1, m1, m2, t1, ih d' (by omega) s1⟩
    · obtain ⟨p, q, e1, m1, m2, t1, s1⟩ := he j hj
      exact ⟨p, q, e1, m1, m2, t1, ih d' (by omega) s1⟩
theorem SKids.more {w : World} {lo hi d d' : Nat} {A : Option Addr} {l : List St} (h : SKids w lo hi d A l) (hd : d ≤ d') : SKids w lo hi d' A l := fun j hj => by
  obtain ⟨p, q, e1, m1, m2, t1, s1⟩ := h j hj
  exact ⟨p, q, e1, m1, m2, t1, s1.more _ _ hd⟩
theorem SKids.nil (w : World) (lo hi d : Nat) (A : Option Addr) : SKids w lo hi d A [] := fun j hj => absurd hj (by simp)
theorem SAt.pos {w : World} {lo hi d : Nat} {r : Raw} {s : St} (h : SAt w lo hi d r s) : ∃ q, d = q + 1 := by
  cases d with
  | zero => exact h.elim
  | succ q => exact ⟨q, rfl⟩
theorem ten_below (w : World) (r : Raw) : Below w.heap.size w (w.alloc (.cells #[.int .u8 r.k, .int .i64 r.t, .int .u8 r.ao, .int .i64 r.an, .slice r.aA r.al r.ac, .int .u8 r.bo, .int .i64 r.bn, .slice r.bA r.bl r.bc, .slice r.yA r.yl r.yc, .slice r.eA r.el r.ec] 43)) := (Below.refl _ _).alloc (Nat.le_refl _) _
end Go.Proofs.YthdcdffdpdoeoaaGreatDoor
