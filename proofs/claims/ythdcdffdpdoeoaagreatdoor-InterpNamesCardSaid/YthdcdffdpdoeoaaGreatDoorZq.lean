/-
  SEVERAL TEXTS IN ONE (a claim has sixty files at most): Kc, Kd: the head of each stands ahead of it. No condition but theirs.
-/
import Derived.Test.YthdcdffdpdoeoaaGreatDoorJc
import Derived.Test.YthdcdffdpdoeoaaGreatDoorKb
import Derived.Test.YthdcdffdpdoeoaaGreatDoorJy
import Derived.Laws.StructEq
/-
  WHAT IS ASKED OF A MACHINE (Mach9) IS SO OF PACKAGE interp's (layer 9). No condition.
-/
namespace Go.Proofs.YthdcdffdpdoeoaaGreatDoor
set_option maxRecDepth 100000
open Go.RowKit Go.Deep
set_option linter.unusedVariables false
/-- A machine of package interp, as it lies. -/
def M9 (w : World) (q : Nat) (S : Nat → Prop) (vars : Int) (got : List Int) (m : PM) : Prop :=
  ∃ (E : Ev9) (L : List Fx) (T : List (List Pr)) (A : Option Addr) (c : Nat) (SB I : Nat → Prop), E.q = q ∧ E.vars = vars ∧ E.got = got ∧ RMat E w m.l L T m.n A c S SB I ∧ kOf (plF L) T = bareI m.k ∧ m.w = flatB T ∧ T.length = keptN (plF L) + 1 ∧ Ready9 (plF L)
theorem M9.after {w w' : World} {q : Nat} {S : Nat → Prop} {vars : Int} {got : List Int} {m : PM} (h : M9 w q S vars got m) (hb : Below w.heap.size w w') : After9 M9 w q S vars got m w' := by
  obtain ⟨E, L, T, A, c, SB, I, e1, e2, e3, hm, r⟩ := h
  exact ⟨S, ⟨E, L, T, A, c, SB, I, e1, e2, e3, hm.below hb, r⟩, fun b hb => .inl hb, Fro.of_below hb (Nat.le_refl _)⟩
/-- Either nothing is next, or a statement. -/
theorem next_cases {L : List Fx} (h : Ready9 (plF L)) : L = [] ∨ ∃ L0 f s rr, L = L0 ++ [f] ∧ f.rest = s :: rr := by
  rcases List.eq_nil_or_concat L with rfl | ⟨L0, f, hf⟩
  · exact .inl rfl
  · try rw [List.concat_eq_append] at hf
    subst hf
    rw [plF_snoc] at h
    have h : f.rest ≠ [] := h
    cases hr : f.rest with
    | nil => exact absurd hr h
    | cons s rr => exact .inr ⟨L0, f, s, rr, rfl, hr⟩
theorem nextI_nil {vars : Int} {got : List Int} {m : PM} (h : [] = bareI m.k) : nextI vars got m = (3, 0, 0) := by
  unfold nextI
  rw [← h]
theorem ask_one {E : Ev9} {l : List Int} {L : List Fx} {T : List (List Pr)} {s : St} (h : (askS E l L T s).1 = 1) : askS E l L T s = (1, 0, 0) := by
  unfold askS at h ⊢
  split
  · rename_i h8; rw [if_pos h8] at h; cases h
  · rename_i h8
    rw [if_neg h8] at h
    split
    · rename_i h6
      rw [if_pos h6] at h
      split
      · rename_i hi; rw [if_pos hi] at h; cases h
      · rfl
    · rename_i h6
      rw [if_neg h6] at h
      split
      · rename_i h2
        rw [if_pos h2] at h
        cases hs : saysL T (varF (evalF s.a l E.got).1 E.vars).1 with
        | none => rw [hs] at h; cases h
        | some x => rfl
      · rfl
theorem ask_two {E : Ev9} {l : List Int} {L : List Fx} {T : List (List Pr)} {s : St} (h : (askS E l L T s).1 = 2) : ∃ a, askS E l L T s = (2, a, 0) := by
  unfold askS at h ⊢
  split
  · rename_i h8; rw [if_pos h8] at h; cases h
  · rename_i h8
    rw [if_neg h8] at h
    split
    · rename_i h6
      rw [if_pos h6] at h
      split
      · rename_i hi; rw [if_pos hi] at h; cases h
      · rename_i hi; rw [if_neg hi] at h; cases h
    · rename_i h6
      rw [if_neg h6] at h
      split
      · rename_i h2
        rw [if_pos h2] at h
        cases hs : saysL T (varF (evalF s.a l E.got).1 E.vars).1 with
        | none => exact ⟨_, rfl⟩
        | some x => rw [hs] at h; cases h
      · rename_i h2; rw [if_neg h2] at h; cases h
theorem mach9 : Mach9 M9 where
  lt := fun ⟨E, L, T, A, c, SB, I, e1, e2, e3, hm, r⟩ => hm.lt
  keep := fun ⟨E, L, T, A, c, SB, I, e1, e2, e3, hm, r⟩ f hS => ⟨E, L, T, A, c, SB, I, e1, e2, e3, hm.fro f hS, r⟩
  len := fun ⟨E, L, T, A, c, SB, I, e1, e2, e3, hm, r⟩ => hm.len
  new := fun D A c tx vars G cg got w hkd hk hD hl hv1 hv2 hg hgl hgw hm => by
    refine (new_machine D A c tx vars G cg got w hkd hk hD hl hv1 hv2 hg hgl hgw hm).mono ?_
    rintro e w' ⟨E, L', T', A', c', S', SB', I', he, e2, e3, h', k', f', n', r', o', b'⟩
    refine ⟨E.q, S', he, ⟨E, L', T', A', c', SB', I', rfl, e2, e3, h', ?_, f'.symm, n', r'⟩, o', b'⟩
    rw [k']
    show bareI (itemsI tx []) = bareI (tx.map It.st)
    rw [itemsI, List.append_nil]
  next := by
    rintro w q S vars got m h hn
    have h0 := h
    obtain ⟨E, L, T, A, c, SB, I, rfl, rfl, rfl, hm, k, hw, hT, hr⟩ := h
    rcases next_cases hr with rfl | ⟨L0, f, s, rr, rfl, hf⟩
    · rw [nextI_nil k]
      exact (next_nil hm).mono fun e w' ⟨he, hb⟩ => ⟨he, h0.after hb⟩
    · rw [ask_plain hf k hw]
      exact (next_some hm hf (by omega)).mono fun e w' ⟨he, hb⟩ => ⟨he, h0.after hb⟩
  step := by
    rintro w q S vars got m h hn h1
    obtain ⟨E, L, T, A, c, SB, I, rfl, rfl, rfl, hm, k, hw, hT, hr⟩ := h
    rcases next_cases hr with rfl | ⟨L0, f, s, rr, rfl, hf⟩
    · rw [nextI_nil k] at h1; cases h1
    · rw [ask_plain hf k hw] at h1
      have ha := ask_one h1
      refine (step_any hm hf (by omega) hT ha).mono ?_
      rintro e w' ⟨he, l', L', T', A', c', S', SB', I', l2, F2, T2, h', t', hd, rfl, k', f', n', r'⟩
      obtain ⟨a8, a6⟩ := ask_inner ha
      obtain ⟨dd, hdd⟩ := hm.deep
      rw [plF_snoc] at hdd
      obtain ⟨g1, g8, _⟩ := good_kind (hdd.1.1 s (by show s ∈ f.rest; rw [hf]; simp))
      rw [plF_snoc] at k hT
      have hp := step_plain (vars := E.vars) (got := E.got) (f := f.pl) hf k hw hT g1 (by omega) (fun e he2 => by
        rcases inner_of _ (L0 ++ [f]) rfl with ⟨_, q2⟩ | ⟨_, _, _, _, _, _, _, q4⟩
        · have := a6 e; omega
        · rw [plF_snoc, he2] at q4; cases q4)
      rw [hd] at hp
      obtain ⟨p1, p2, p3, p4⟩ := hp
      refine ⟨he, S', ⟨E, L', T', A', c', SB', I', rfl, rfl, rfl, ?_, ?_, ?_, n', r'⟩, t'.own, t'.fro⟩
      · rw [p2, p4]; exact h'
      · rw [k', p1]
      · rw [p3]; exact f'.symm
  answer := by
    rintro w q S vars got m h hn h1 x hx
    obtain ⟨E, L, T, A, c, SB, I, rfl, rfl, rfl, hm, k, hw, hT, hr⟩ := h
    rcases next_cases hr with rfl | ⟨L0, f, s, rr, rfl, hf⟩
    · rw [nextI_nil k] at h1; cases h1
    · rw [ask_plain hf k hw] at h1
      obtain ⟨a, ha⟩ := ask_two h1
      obtain ⟨dd, hdd⟩ := hm.deep
      rw [plF_snoc] at hdd
      obtain ⟨g1, g8, g0, gt, _⟩ := good_kind (hdd.1.1 s (by show s ∈ f.rest; rw [hf]; simp))
      refine (answer_any hm hf (by omega) hT ha g0 gt x hx).mono ?_
      rintro e w' ⟨he, L', T', A', c', S', SB', h', t', k', f', n', r'⟩
      have hk2 : bareI m.k = .st s :: kOf ({ f.pl with rest := rr } :: plF L0) T := by
        rw [← k, plF_snoc]
        obtain ⟨rest, RA, rc, body, BA, bc, turns, kept⟩ := f
        have hf : rest = s :: rr := hf
        subst hf
        rfl
      have hm2 : answerI x m = { m with l := m.l.set s.to.toNat x, k := kOf ({ f.pl with rest := rr } :: plF L0) T, n := m.n + 1 } := by
        unfold answerI
        rw [hk2]
      refine ⟨he, S', ⟨E, L', T', A', c', SB', I, rfl, rfl, rfl, ?_, ?_, ?_, n', r'⟩, t'.own, t'.fro⟩
      · rw [hm2]; exact h'
      · rw [hm2]; exact k'
      · rw [hm2]; show m.w = _; rw [hw, f']
  writes := by
    rintro w q S vars got m h hn
    obtain ⟨E, L, T, A, c, SB, I, rfl, rfl, rfl, hm, k, hw, hT, hr⟩ := h
    refine (writes_any hm (by omega)).mono ?_
    rintro e w' ⟨B, d, he, hrow, hb⟩
    rw [hw]
    refine ⟨B, d, S, he, ⟨E, L, T, A, c, SB, I, rfl, rfl, rfl, hm.below hb, k, hw, hT, hr⟩, fun b hb => .inl hb, Fro.of_below hb (Nat.le_refl _), pairs_of_row hrow, by have := all_len (flatB T); have := hm.flat; omega, fun _ p e => ?_⟩
    have h1 := hrow.lt p.block (by rw [e]; rfl)
    exact ⟨h1.1, fun hs => by have := hm.lt _ hs; omega⟩
  locals := by
    rintro w q S vars got m h
    have h0 := h
    obtain ⟨E, L, T, A, c, SB, I, rfl, rfl, rfl, hm, r⟩ := h
    exact (locals_any hm).mono fun e w' ⟨he, hb⟩ => ⟨he, h0.after hb⟩
  steps := by
    rintro w q S vars got m h hn
    have h0 := h
    obtain ⟨E, L, T, A, c, SB, I, rfl, rfl, rfl, hm, r⟩ := h
    exact (steps_any hm).mono fun e w' ⟨he, hb⟩ => ⟨he, h0.after hb⟩
end Go.Proofs.YthdcdffdpdoeoaaGreatDoor
/-
  TRANSACTIONS AS A LAW LAYS THEM (layer 9), and what a run of one comes to, of package interp. Conditions: as they stand.
-/
namespace Go.Proofs.YthdcdffdpdoeoaaGreatDoor
set_option maxRecDepth 100000
open Go.RowKit Go.Deep
set_option linter.unusedVariables false
theorem sa_leaf (w : World) (D k : Nat) (t : Int) (ao : Nat) (an : Int) (bo : Nat) (bn : Int) (h1 : k < 256) (h2 : -9223372036854775808 ≤ t) (h3 : t < 9223372036854775808) (a1 : ao < 256) (a2 : -9223372036854775808 ≤ an) (a3 : an < 9223372036854775808) (b1 : bo < 256) (b2 : -9223372036854775808 ≤ bn) (b3 : bn < 9223372036854775808) :
    SA w (D + 2) ⟨k, t, ao, an, none, 0, 0, bo, bn, none, 0, 0, none, 0, 0, none, 0, 0⟩ (.node k t (.node ao an []) (.node bo bn []) [] []) :=
  SA.mk ⟨rfl, rfl, rfl, rfl⟩ ⟨h1, h2, h3, by simp, by simp⟩ (at_leaf _ _ _ _ _ _ _ _ a1 a2 a3) (at_leaf _ _ _ _ _ _ _ _ b1 b2 b3) (SK.nil _ _ _) (SK.nil _ _ _)
theorem at_plus {w : World} {g o o' : Nat} {n n' : Int} {T : TypeId} (h : w.heap[g]? = some (.cells #[.int .u8 o, .int .i64 n, .slice none 0 0, .int .u8 o', .int .i64 n', .slice none 0 0] T (0, 0))) (D : Nat) (a1 : o < 256) (a2 : -9223372036854775808 ≤ n) (a3 : n < 9223372036854775808) (b1 : o' < 256) (b2 : -9223372036854775808 ≤ n') (b3 : n' < 9223372036854775808) :
    At w 0 w.heap.size (D + 2) (.agg #[.int .u8 4, .int .i64 0, .slice (some ⟨g, 0, none⟩) 2 2]) (.node 4 0 [.node o n [], .node o' n' []]) := by
  have hg := (Array.getElem?_eq_some_iff.1 h).1
  have hc : ∀ i, w.cell? ⟨g, i, none⟩ = (#[.int .u8 o, .int .i64 n, .slice none 0 0, .int .u8 o', .int .i64 n', .slice none 0 0] : Array Value)[i]? := fun i => by simp [World.cell?, h]
  refine ⟨by decide, by decide, by decide, by simp, _, _, rfl, fun k hk => ?_⟩
  have hk2 : k = 0 ∨ k = 1 := by simp at hk; omega
  rcases hk2 with rfl | rfl
  · refine ⟨⟨g, 0, none⟩, .int .u8 o, .int .i64 n, .slice none 0 0, rfl, Nat.zero_le _, hg, ?_, ?_, ?_, at_leaf _ _ _ _ _ _ _ _ a1 a2 a3⟩
    · rw [ad8_zero, hc]; rfl
    · rw [ad8_zero]; exact hc 1
    · rw [ad8_zero]; exact hc 2
  · refine ⟨⟨g, 0, none⟩, .int .u8 o', .int .i64 n', .slice none 0 0, rfl, Nat.zero_le _, hg, ?_, ?_, ?_, at_leaf _ _ _ _ _ _ _ _ b1 b2 b3⟩
    · rw [ad8_zero, hc]; rfl
    · rw [ad8_zero]; exact hc 4
    · rw [ad8_zero]; exact hc 5
/-- The cells of some statements, one behind the other. -/
def rowR (rs : List Raw) : List Value := rs.flatMap Raw.cells
theorem rowR_get (rs : List Raw) : ∀ (j : Nat) (hj : j < rs.length) (i : Nat), i < 10 → (rowR rs)[j * 10 + i]? = (rs[j].cells)[i]? := by
  induction rs with
  | nil => intro j hj; exact absurd hj (by simp)
  | cons f r ih =>
    intro j hj i hi
    have h10 : f.cells.length = 10 := rfl
    rw [rowR, List.flatMap_cons]
    cases j with
    | zero => rw [List.getElem?_append_left (by rw [h10]; omega)]; simp
    | succ j =>
      rw [List.getElem?_append_right (by rw [h10]; omega), h10, show (j + 1) * 10 + i - 10 = j * 10 + i from by omega]
      exact ih j (by simpa using hj) i hi
/-- One by one. -/
def All2 {α β : Type} (P : α → β → Prop) : List α → List β → Prop
  | [], [] => True
  | a :: r, b :: s => P a b ∧ All2 P r s
  | _, _ => False
theorem all2_get {α β : Type} {P : α → β → Prop} : ∀ {r : List α} {s : List β}, All2 P r s → r.length = s.length ∧ ∀ j (h : j < r.length) (h' : j < s.length), P r[j] s[j] := by
  intro r
  induction r with
  | nil =>
    intro s h
    cases s with
    | nil => exact ⟨rfl, fun j hj => absurd hj (by simp)⟩
    | cons b s => exact h.elim
  | cons a r ih =>
    intro s h
    cases s with
    | nil => exact h.elim
    | cons b s =>
      obtain ⟨h1, h2⟩ := h
      obtain ⟨h3, h4⟩ := ih h2
      refine ⟨by simp [h3], fun j hj hj' => ?_⟩
      cases j with
      | zero => exact h1
      | succ j => exact h4 j (by simpa using hj) (by simpa using hj')
theorem sk_list {w : World} {g D : Nat} {rs : List Raw} {tx : List St} (h : w.heap[g]? = some (.cells (rowR rs).toArray 43 (0, 0))) (hs : All2 (SA w D) rs tx) : SK w D (some ⟨g, 0, none⟩) tx := fun j hj => by
  obtain ⟨h1, h2⟩ := all2_get hs
  have hj' : j < rs.length := by omega
  refine ⟨⟨g, 0, none⟩, rs[j], rfl, Nat.zero_le _, (Array.getElem?_eq_some_iff.1 h).1, ?_, h2 j hj' hj⟩
  rw [row_add]
  exact ten_row h fun i hi => by rw [List.getElem?_toArray]; exact rowR_get rs j hj' i hi
theorem endV8 (k : Nat) (a x : Int) (W : List Pr) (l0 l1 l2 l3 l4 l5 l6 l7 : Int) (n : Nat) (B : Option Addr) (d : Nat) (va : Value) : endV ⟨k, a, x, W, [l0, l1, l2, l3, l4, l5, l6, l7], n⟩ B d va = .agg #[.int .u8 k, .int .i64 a, .int .i64 x, .slice B W.length d, .int .i64 l0, .int .i64 l1, .int .i64 l2, .int .i64 l3, .int .i64 l4, .int .i64 l5, .int .i64 l6, .int .i64 l7, .int .i64 n, va, .bool true] := by simp [endV]
/-- A run, its result written out. -/
theorem run9_at {D : Nat} {A : Option Addr} {tx : List St} {w : World} (hk : SK w D A tx) (c : Nat) {vars : Int} {G : Option Addr} {cg : Nat} {got : List Int} {g : Nat} {X : Option Addr} {cx : Nat} {l : List Int} (hkd : Kd w) (hD : D ≤ 1000) (hl : tx.length ≤ 1000) (hv1 : 1 ≤ vars) (hv2 : vars ≤ 32) (hgot : Ints w w.heap.size G got) (hgl : got.length ≤ 1000) (hgw : ∀ e ∈ got, wfI e) (hmay : mayF D tx got.length = true)
    (hc : w.cell? ⟨g, 0, none⟩ = some (.slice X l.length cx)) (hg : g < w.heap.size) (hx : Ints w w.heap.size X l) (hwf : ∀ e ∈ l, wfI e) {k : Nat} {a x : Int} {W : List Pr} {l0 l1 l2 l3 l4 l5 l6 l7 : Int} {n : Nat} (hres : runI vars got (valL l) 2001 (startI tx) = some ⟨k, a, x, W, [l0, l1, l2, l3, l4, l5, l6, l7], n⟩) (hn9 : n ≤ 900) :
    Calls Tryz.prog 14 #[.slice A tx.length c, .int .i64 vars, .slice G got.length cg, .func (.func 39) #[] #[.pointer (some ⟨g, 0, none⟩)]] w fun e w' => ∃ B d VA vn vc, e = .returned (.agg #[.int .u8 k, .int .i64 a, .int .i64 x, .slice B W.length d, .int .i64 l0, .int .i64 l1, .int .i64 l2, .int .i64 l3, .int .i64 l4, .int .i64 l5, .int .i64 l6, .int .i64 l7, .int .i64 n, .slice VA vn vc, .bool true]) ∧ PairsAt w' w'.heap.size B W ∧ Below w.heap.size w w' := by
  refine (run9_any mach9 D A c tx vars G cg got g X cx l w hkd hk hD hl hv1 hv2 hgot hgl hgw hmay hc hg hx hwf _ hres hn9).mono ?_
  rintro e w' ⟨B, d, VA, vn, vc, he, hp, hb⟩
  rw [endV8] at he
  exact ⟨B, d, VA, vn, vc, he, hp, hb⟩
theorem ints_nil (w : World) : Ints w w.heap.size none [] := ⟨by simp, fun k hk => absurd hk (by simp)⟩
theorem ints_row {w : World} {g : Nat} {cs : Array Value} {T : TypeId} (l : List Int) (h : w.heap[g]? = some (.cells cs T (0, 0))) (hc : cs = (l.map (Value.int .i64)).toArray) (hl : l.length ≤ 1000) : Ints w w.heap.size (some ⟨g, 0, none⟩) l :=
  ⟨by omega, fun k hk => ⟨_, rfl, (Array.getElem?_eq_some_iff.1 h).1, by rw [ad8_zero]; subst hc; simp [World.cell?, h, hk]⟩⟩
theorem all2_mono {α β : Type} {P Q : α → β → Prop} (hpq : ∀ a b, P a b → Q a b) : ∀ {r : List α} {s : List β}, All2 P r s → All2 Q r s := by
  intro r
  induction r with
  | nil =>
    intro s h
    cases s with
    | nil => trivial
    | cons b s => exact h.elim
  | cons a r ih =>
    intro s h
    cases s with
    | nil => exact h.elim
    | cons b s => exact ⟨hpq _ _ h.1, ih h.2⟩
/-- A run of a transaction just laid, by no values. -/
theorem run_nil (w : World) (hkd : Kd w) {D : Nat} (rs : List Raw) (tx : List St) (hs : All2 (SA w D) rs tx) (hD : D ≤ 1000) (hl : tx.length ≤ 1000) (cs : Array Value) (hcs : cs = (rowR rs).toArray) (c m : Nat) (hm : m = tx.length) (vars : Int) (hv1 : 1 ≤ vars) (hv2 : vars ≤ 32) (hmay : mayF D tx 0 = true) {k : Nat} {a x : Int} {W : List Pr} {l0 l1 l2 l3 l4 l5 l6 l7 : Int} {n : Nat} (hres : runI vars [] (valL []) 2001 (startI tx) = some ⟨k, a, x, W, [l0, l1, l2, l3, l4, l5, l6, l7], n⟩) (hn9 : n ≤ 900) (bx : Nat) (hbx : bx = w.heap.size + 1) :
    Calls Tryz.prog 14 #[.slice (some ⟨w.heap.size, 0, none⟩) m c, .int .i64 vars, .slice none 0 0, .func (.func 39) #[] #[.pointer (some ⟨bx, 0, none⟩)]] ((w.alloc (.cells cs 43)).alloc (.cells #[.slice none 0 0] 44)) fun e w' => ∃ B d VA vn vc, e = .returned (.agg #[.int .u8 k, .int .i64 a, .int .i64 x, .slice B W.length d, .int .i64 l0, .int .i64 l1, .int .i64 l2, .int .i64 l3, .int .i64 l4, .int .i64 l5, .int .i64 l6, .int .i64 l7, .int .i64 n, .slice VA vn vc, .bool true]) ∧ PairsAt w' w'.heap.size B W ∧ Below w.heap.size w w' := by
  subst hcs hm hbx
  have b1 : Below w.heap.size w (w.alloc (.cells (rowR rs).toArray 43)) := (Below.refl _ _).alloc (Nat.le_refl _) _
  have z1 : (w.alloc (.cells (rowR rs).toArray 43)).heap.size = w.heap.size + 1 := by simp
  have h1 := World.alloc_heap_new w (.cells (rowR rs).toArray 43)
  obtain ⟨W1, hW1⟩ : ∃ W1, W1 = w.alloc (.cells (rowR rs).toArray 43) := ⟨_, rfl⟩
  rw [← hW1] at b1 z1 h1 ⊢
  have b3 : Below W1.heap.size W1 (W1.alloc (.cells #[.slice none 0 0] 44)) := (Below.refl _ _).alloc (Nat.le_refl _) _
  have z3 : (W1.alloc (.cells #[.slice none 0 0] 44)).heap.size = w.heap.size + 2 := by simp [z1]
  have h3 := World.alloc_heap_new W1 (.cells #[.slice none 0 0] 44)
  rw [z1] at h3
  obtain ⟨W3, hW3⟩ : ∃ W3, W3 = W1.alloc (.cells #[.slice none 0 0] 44) := ⟨_, rfl⟩
  rw [← hW3] at b3 z3 h3 ⊢
  clear hW1 hW3
  have hbt := b1.trans (b3.mono (by omega))
  have hk := sk_list (w := W3) (g := w.heap.size) (rs := rs) (tx := tx) ((b3.block _ (by omega)).trans h1) (all2_mono (fun r s h => h.below hbt) hs)
  refine (run9_at (X := none) (cx := 0) (l := []) (got := []) (g := w.heap.size + 1) hk c (hkd.below hbt (Nat.le_refl _)) hD hl hv1 hv2 (ints_nil _) (by decide) (fun e he => by cases he) hmay (by simp [World.cell?, h3]) (by omega) (ints_nil _) (fun e he => by cases he) hres hn9).mono ?_
  rintro e w' ⟨B, d, VA, vn, vc, he, hp, hb⟩
  exact ⟨B, d, VA, vn, vc, he, hp, hbt.trans (hb.mono (by omega))⟩
/-- .. by some values, laid too. -/
theorem run_row (w : World) (hkd : Kd w) {D : Nat} (rs : List Raw) (tx : List St) (hs : All2 (SA w D) rs tx) (hD : D ≤ 1000) (hl : tx.length ≤ 1000) (cs : Array Value) (hcs : cs = (rowR rs).toArray) (c m : Nat) (hm : m = tx.length) (vars : Int) (hv1 : 1 ≤ vars) (hv2 : vars ≤ 32) (hmay : mayF D tx 0 = true) (l : List Int) (hll : l.length ≤ 1000) (hlw : ∀ e ∈ l, wfI e) (ls : Array Value) (hls : ls = (l.map (Value.int .i64)).toArray) (ln cx : Nat) (hln : ln = l.length) {k : Nat} {a x : Int} {W : List Pr} {l0 l1 l2 l3 l4 l5 l6 l7 : Int} {n : Nat} (hres : runI vars [] (valL l) 2001 (startI tx) = some ⟨k, a, x, W, [l0, l1, l2, l3, l4, l5, l6, l7], n⟩) (hn9 : n ≤ 900) (bl bx : Nat) (hbl : bl = w.heap.size + 1) (hbx : bx = w.heap.size + 2) :
    Calls Tryz.prog 14 #[.slice (some ⟨w.heap.size, 0, none⟩) m c, .int .i64 vars, .slice none 0 0, .func (.func 39) #[] #[.pointer (some ⟨bx, 0, none⟩)]] (((w.alloc (.cells cs 43)).alloc (.cells ls 2)).alloc (.cells #[.slice (some ⟨bl, 0, none⟩) ln cx] 44)) fun e w' => ∃ B d VA vn vc, e = .returned (.agg #[.int .u8 k, .int .i64 a, .int .i64 x, .slice B W.length d, .int .i64 l0, .int .i64 l1, .int .i64 l2, .int .i64 l3, .int .i64 l4, .int .i64 l5, .int .i64 l6, .int .i64 l7, .int .i64 n, .slice VA vn vc, .bool true]) ∧ PairsAt w' w'.heap.size B W ∧ Below w.heap.size w w' := by
  subst hcs hm hbx hbl hls hln
  have b1 : Below w.heap.size w (w.alloc (.cells (rowR rs).toArray 43)) := (Below.refl _ _).alloc (Nat.le_refl _) _
  have z1 : (w.alloc (.cells (rowR rs).toArray 43)).heap.size = w.heap.size + 1 := by simp
  have h1 := World.alloc_heap_new w (.cells (rowR rs).toArray 43)
  obtain ⟨W1, hW1⟩ : ∃ W1, W1 = w.alloc (.cells (rowR rs).toArray 43) := ⟨_, rfl⟩
  rw [← hW1] at b1 z1 h1 ⊢
  have b2 : Below W1.heap.size W1 (W1.alloc (.cells (l.map (Value.int .i64)).toArray 2)) := (Below.refl _ _).alloc (Nat.le_refl _) _
  have z2 : (W1.alloc (.cells (l.map (Value.int .i64)).toArray 2)).heap.size = w.heap.size + 2 := by simp [z1]
  have h2 := World.alloc_heap_new W1 (.cells (l.map (Value.int .i64)).toArray 2)
  rw [z1] at h2
  obtain ⟨W2, hW2⟩ : ∃ W2, W2 = W1.alloc (.cells (l.map (Value.int .i64)).toArray 2) := ⟨_, rfl⟩
  rw [← hW2] at b2 z2 h2 ⊢
  have b3 : Below W2.heap.size W2 (W2.alloc (.cells #[.slice (some ⟨w.heap.size + 1, 0, none⟩) l.length cx] 44)) := (Below.refl _ _).alloc (Nat.le_refl _) _
  have z3 : (W2.alloc (.cells #[.slice (some ⟨w.heap.size + 1, 0, none⟩) l.length cx] 44)).heap.size = w.heap.size + 3 := by simp [z2]
  have h3 := World.alloc_heap_new W2 (.cells #[.slice (some ⟨w.heap.size + 1, 0, none⟩) l.length cx] 44)
  rw [z2] at h3
  obtain ⟨W3, hW3⟩ : ∃ W3, W3 = W2.alloc (.cells #[.slice (some ⟨w.heap.size + 1, 0, none⟩) l.length cx] 44) := ⟨_, rfl⟩
  rw [← hW3] at b3 z3 h3 ⊢
  clear hW1 hW2 hW3
  have hbt := (b1.trans (b2.mono (by omega))).trans (b3.mono (by omega))
  have hk := sk_list (w := W3) (g := w.heap.size) (rs := rs) (tx := tx) ((b3.block _ (by omega)).trans ((b2.block _ (by omega)).trans h1)) (all2_mono (fun r s h => h.below hbt) hs)
  refine (run9_at (X := some ⟨w.heap.size + 1, 0, none⟩) (cx := cx) (l := l) (got := []) (g := w.heap.size + 2) hk c (hkd.below hbt (Nat.le_refl _)) hD hl hv1 hv2 (ints_nil _) (by decide) (fun e he => by cases he) hmay (by simp [World.cell?, h3]) (by omega) (ints_row l ((b3.block _ (by omega)).trans h2) rfl hll) hlw hres hn9).mono ?_
  rintro e w' ⟨B, d, VA, vn, vc, he, hp, hb⟩
  exact ⟨B, d, VA, vn, vc, he, hp, hbt.trans (hb.mono (by omega))⟩
theorem sa_mk {w : World} {D k : Nat} {t : Int} {ao : Nat} {an : Int} {aA : Option Addr} {al ac bo : Nat} {bn : Int} {bA : Option Addr} {bl bc : Nat} {yA : Option Addr} {yl yc : Nat} {eA : Option Addr} {el ec : Nat} {a b : Ex} {y e : List St} (ha : At w 0 w.heap.size D (.agg #[.int .u8 ao, .int .i64 an, .slice aA al ac]) a) (hb : At w 0 w.heap.size D (.agg #[.int .u8 bo, .int .i64 bn, .slice bA bl bc]) b) (hy : SK w D yA y) (he : SK w D eA e) (h1 : k < 256 ∧ -9223372036854775808 ≤ t ∧ t < 9223372036854775808 ∧ y.length ≤ 9223372036854775807 ∧ e.length ≤ 9223372036854775807) (hl : yl = y.length ∧ el = e.length) :
    SA w (D + 1) ⟨k, t, ao, an, aA, al, ac, bo, bn, bA, bl, bc, yA, yl, yc, eA, el, ec⟩ (.node k t a b y e) :=
  SA.mk ⟨rfl, rfl, hl.1, hl.2⟩ h1 ha hb hy he
theorem at_lf (w : World) (d o : Nat) (n : Int) (h : o < 256 ∧ -9223372036854775808 ≤ n ∧ n < 9223372036854775808) : At w 0 w.heap.size (d + 1) (.agg #[.int .u8 o, .int .i64 n, .slice none 0 0]) (.node o n []) := at_leaf _ _ _ _ _ _ _ _ h.1 h.2.1 h.2.2
theorem sa_lf (w : World) (D k : Nat) (t : Int) (ao : Nat) (an : Int) (bo : Nat) (bn : Int) (h : (k < 256 ∧ -9223372036854775808 ≤ t ∧ t < 9223372036854775808) ∧ (ao < 256 ∧ -9223372036854775808 ≤ an ∧ an < 9223372036854775808) ∧ (bo < 256 ∧ -9223372036854775808 ≤ bn ∧ bn < 9223372036854775808)) : SA w (D + 2) ⟨k, t, ao, an, none, 0, 0, bo, bn, none, 0, 0, none, 0, 0, none, 0, 0⟩ (.node k t (.node ao an []) (.node bo bn []) [] []) :=
  sa_leaf w D k t ao an bo bn h.1.1 h.1.2.1 h.1.2.2 h.2.1.1 h.2.1.2.1 h.2.1.2.2 h.2.2.1 h.2.2.2.1 h.2.2.2.2
/-- A block of statements just laid. -/
theorem sk_new (w : World) {D : Nat} (rs : List Raw) (tx : List St) (hs : All2 (SA w D) rs tx) (cs : Array Value) (hcs : cs = (rowR rs).toArray) : SK (w.alloc (.cells cs 43)) D (some ⟨w.heap.size, 0, none⟩) tx := by
  subst hcs
  exact sk_list (World.alloc_heap_new w _) (all2_mono (fun r s h => h.below ((Below.refl _ _).alloc (Nat.le_refl _) _)) hs)
theorem eql_ask (x y a b c d : Int) (w : World) : (Go.binOp .eql 25 (.agg #[.int .u8 x, .int .i64 a, .int .i64 c]) (.agg #[.int .u8 y, .int .i64 b, .int .i64 d])).run Tryz.prog w = .ok (.bool (x == y && (a == b && c == d))) w := by
  have hu := Tryz.underlying25
  rw [run_eql_struct, show (10000 : Nat) = 9999 + 1 from rfl, run_equalIn_agg w 9999 25 _ _ (by kernel_rfl) (by kernel_rfl)]
  simp only [Program.fieldsOf, hu]
  rw [show (9999 : Nat) = 9998 + 1 from rfl]
  have hsz := Tryz.sizeOf5
  have hia := Tryz.isAgg5
  have hsz2 := Tryz.sizeOf3
  have hia2 := Tryz.isAgg3
  have hsz3 := Tryz.sizeOf2
  have hia3 := Tryz.isAgg2
  simp [Op.eqFields, go_sem]
  by_cases h1 : x = y <;> by_cases h2 : a = b <;> by_cases h3 : c = d <;> simp [*]
/-- The cells of an end. -/
theorem end_cells {w : World} {g k : Nat} {a x : Int} {B : Option Addr} {m d : Nat} {l0 l1 l2 l3 l4 l5 l6 l7 : Int} {n : Nat} {VA : Option Addr} {vn vc : Nat} (h : w.heap[g]? = some (.cells #[.int .u8 k, .int .i64 a, .int .i64 x, .slice B m d, .int .i64 l0, .int .i64 l1, .int .i64 l2, .int .i64 l3, .int .i64 l4, .int .i64 l5, .int .i64 l6, .int .i64 l7, .int .i64 n, .slice VA vn vc, .bool true] 48 (0, 0))) :
    w.cell? ⟨g, 0, none⟩ = some (.int .u8 k) ∧ w.cell? ⟨g, 1, none⟩ = some (.int .i64 a) ∧ w.cell? ⟨g, 2, none⟩ = some (.int .i64 x) ∧ w.cell? ⟨g, 3, none⟩ = some (.slice B m d) ∧ w.cell? ⟨g, 7, none⟩ = some (.int .i64 l3) ∧ w.cell? ⟨g, 12, none⟩ = some (.int .i64 n) ∧ w.cell? ⟨g, 14, none⟩ = some (.bool true) := by
  have hc : ∀ i, w.cell? ⟨g, i, none⟩ = (#[.int .u8 k, .int .i64 a, .int .i64 x, .slice B m d, .int .i64 l0, .int .i64 l1, .int .i64 l2, .int .i64 l3, .int .i64 l4, .int .i64 l5, .int .i64 l6, .int .i64 l7, .int .i64 n, .slice VA vn vc, .bool true] : Array Value)[i]? := fun i => by simp [World.cell?, h]
  exact ⟨hc 0, hc 1, hc 2, hc 3, hc 7, hc 12, hc 14⟩
/-- One pair just laid. -/
theorem pairs9_one (w : World) (a x : Int) : PairsAt (w.alloc (.cells #[.int .i64 a, .int .i64 x] 59)) (w.heap.size + 1) (some ⟨w.heap.size, 0, none⟩) [(a, x)] := fun k hk => by
  have h := World.alloc_heap_new w (.cells #[.int .i64 a, .int .i64 x] 59)
  have hk0 : k = 0 := by simp at hk; omega
  subst hk0
  obtain ⟨W, hW⟩ : ∃ W, W = w.alloc (.cells #[.int .i64 a, .int .i64 x] 59) := ⟨_, rfl⟩
  rw [← hW] at h ⊢
  refine ⟨⟨w.heap.size, 0, none⟩, rfl, Nat.lt_succ_self _, ?_, ?_⟩
  · rw [ad8_zero]; simp [World.cell?, h]
  · rw [ad8_zero]; simp [World.cell?, h]
theorem pairs_same (w : World) {a : List Pr} {B : Option Addr} {hi : Nat} (h : PairsAt w hi B a) (hhi : hi ≤ w.heap.size) (p x : Int) (d c : Nat) (m : Nat) (hm : m = a.length) (ha : a.length ≤ 1000) (he : a = [(p, x)]) : Calls Tryz.prog 22 #[.slice B m d, .slice (some ⟨w.heap.size, 0, none⟩) 1 c] (w.alloc (.cells #[.int .i64 p, .int .i64 x] 59)) fun e w' => e = .returned (.bool true) ∧ Below w.heap.size w w' := by
  subst hm he
  have b1 : Below w.heap.size w (w.alloc (.cells #[.int .i64 p, .int .i64 x] 59)) := (Below.refl _ _).alloc (Nat.le_refl _) _
  have h2 := pairs9_one w p x
  have hz : (w.alloc (.cells #[.int .i64 p, .int .i64 x] 59)).heap.size = w.heap.size + 1 := by simp
  have h1 : PairsAt (w.alloc (.cells #[.int .i64 p, .int .i64 x] 59)) (w.heap.size + 1) B [(p, x)] := fun k hk => by
    obtain ⟨q, e, m, c⟩ := (h.below b1 hhi) k hk
    exact ⟨q, e, by omega, c⟩
  refine (pairs_any [(p, x)] [(p, x)] (w.heap.size + 1) B (some ⟨w.heap.size, 0, none⟩) d c _ h1 h2 (by rw [hz]; exact Nat.le_refl _) (by simp) (by simp)).mono ?_
  rintro e w' ⟨he, hb⟩
  refine ⟨by rw [he]; simp, ?_⟩
  first
    | (subst hb; exact b1)
    | exact b1.trans (hb.mono (by rw [hz]; omega))
end Go.Proofs.YthdcdffdpdoeoaaGreatDoor
