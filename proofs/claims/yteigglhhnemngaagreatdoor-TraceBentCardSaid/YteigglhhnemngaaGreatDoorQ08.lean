/-
  SEVERAL TEXTS IN ONE (a claim has sixty files at most): Oe, Rv, Yh, Sk: the head of each stands ahead of it. No condition but theirs.
-/
import Derived.Test.YteigglhhnemngaaGreatDoorQ07
import Derived.Test.YteigglhhnemngaaGreatDoorQ04
namespace Go.Proofs.YteigglhhnemngaaGreatDoor
set_option maxRecDepth 100000
open Go.ChangeShapes Go.WideShapes Go.RowKit Go.Deep
set_option linter.unusedVariables false
instance : Inhabited Ev := ⟨ev0⟩
def nthE (L : List Ev) (i : Nat) : Ev := L.getD i ev0
theorem nthE_of {L : List Ev} {i : Nat} (h : i < L.length) : L[i]? = some (nthE L i) := by
  unfold nthE
  rw [List.getD_eq_getElem?_getD, List.getElem?_eq_getElem h]
  rfl
structure EvAt (w : World) (p : Addr) (e : Ev) : Prop where
  c0 : w.cell? p = some (.int .u8 e.kd)
  c1 : w.cell? ⟨p.block, p.off + 1, none⟩ = some (.int .i64 e.th)
  c2 : w.cell? ⟨p.block, p.off + 2, none⟩ = some (.int .i64 e.tx)
  c3 : w.cell? ⟨p.block, p.off + 3, none⟩ = some (.int .i64 e.pl)
  c4 : w.cell? ⟨p.block, p.off + 4, none⟩ = some (.int .i64 e.v)
  c5 : w.cell? ⟨p.block, p.off + 5, none⟩ = some (.int .i64 e.x)
  c6 : w.cell? ⟨p.block, p.off + 6, none⟩ = some (.int .u8 e.why)
  ok : EvOk e
def EvsAt (w : World) (B : Nat) (A : Option Addr) (L : List Ev) : Prop := ∀ i, i < L.length → ∃ a, A = some a ∧ a.block < B ∧ EvAt w (a.add (i * 7)) (nthE L i)
theorem add_blockO (a : Addr) (n : Nat) : (a.add n).block = a.block := by unfold Addr.add; split <;> rfl
theorem EvAt.below {w w' : World} {B : Nat} {p : Addr} {e : Ev} (h : EvAt w p e) (hb : Below B w w') (hp : p.block < B) : EvAt w' p e :=
  ⟨(hb.cell hp).trans h.c0, (hb.cell (p := ⟨p.block, _, none⟩) hp).trans h.c1, (hb.cell (p := ⟨p.block, _, none⟩) hp).trans h.c2, (hb.cell (p := ⟨p.block, _, none⟩) hp).trans h.c3, (hb.cell (p := ⟨p.block, _, none⟩) hp).trans h.c4, (hb.cell (p := ⟨p.block, _, none⟩) hp).trans h.c5, (hb.cell (p := ⟨p.block, _, none⟩) hp).trans h.c6, h.ok⟩
theorem EvsAt.below {w w' : World} {B B' : Nat} {A : Option Addr} {L : List Ev} (h : EvsAt w B A L) (hb : Below B' w w') (hB : B ≤ B') : EvsAt w' B A L := fun i hi => by
  obtain ⟨a, e, ha, hs⟩ := h i hi
  exact ⟨a, e, ha, hs.below hb (by rw [add_blockO]; omega)⟩
theorem EvsAt.mono {w : World} {B B' : Nat} {A : Option Addr} {L : List Ev} (h : EvsAt w B A L) (hB : B ≤ B') : EvsAt w B' A L := fun i hi => by
  obtain ⟨a, e, ha, hs⟩ := h i hi
  exact ⟨a, e, by omega, hs⟩
theorem EvsAt.take {w : World} {B : Nat} {A : Option Addr} {L : List Ev} (h : EvsAt w B A L) (n : Nat) : EvsAt w B A (L.take n) := fun i hi => by
  rw [List.length_take] at hi
  obtain ⟨a, e, ha, hs⟩ := h i (by omega)
  refine ⟨a, e, ha, ?_⟩
  have : nthE (L.take n) i = nthE L i := by
    unfold nthE
    rw [List.getD_eq_getElem?_getD, List.getElem?_take, if_pos (by omega), ← List.getD_eq_getElem?_getD]
  rw [this]
  exact hs
theorem EvsAt.ok {w : World} {B : Nat} {A : Option Addr} {L : List Ev} (h : EvsAt w B A L) {i : Nat} (hi : i < L.length) : EvOk (nthE L i) := by
  obtain ⟨a, _, _, hs⟩ := h i hi
  exact hs.ok
def evsC (L : List Ev) : List Value := L.flatMap fun e => (evC e).toList
theorem evsC_at (L : List Ev) (i j : Nat) (hi : i < L.length) (hj : j < 7) : (evsC L)[i * 7 + j]? = (evC (nthE L i))[j]? := by
  induction L generalizing i with
  | nil => simp at hi
  | cons e r ih =>
    have h0 : evsC (e :: r) = (evC e).toList ++ evsC r := rfl
    have h7 : (evC e).toList.length = 7 := rfl
    rw [h0]
    cases i with
    | zero =>
      rw [List.getElem?_append_left (by omega)]
      simp [nthE]
    | succ i =>
      rw [List.getElem?_append_right (by omega), h7, show (i + 1) * 7 + j - 7 = i * 7 + j by omega, ih i (by simpa using hi)]
      rfl
theorem EvsAt.row {w : World} {g B : Nat} {L : List Ev} (h : w.heap[g]? = some (.cells (evsC L).toArray 50 (0, 0))) (hg : g < B) (hok : ∀ e ∈ L, EvOk e) : EvsAt w B (some ⟨g, 0, none⟩) L := fun i hi => by
  refine ⟨⟨g, 0, none⟩, rfl, hg, ?_⟩
  have hp : (⟨g, 0, none⟩ : Addr).add (i * 7) = ⟨g, i * 7, none⟩ := by
    by_cases h0 : i * 7 = 0
    · rw [h0]
      rfl
    · simp [Addr.add, h0]
  rw [hp]
  have hc : ∀ j, j < 7 → w.cell? ⟨g, i * 7 + j, none⟩ = (evC (nthE L i))[j]? := fun j hj => by
    rw [cell_of_row w g _ _ _ _ h, ← evsC_at L i j hi hj]
    simp
  exact ⟨hc 0 (by omega), hc 1 (by omega), hc 2 (by omega), hc 3 (by omega), hc 4 (by omega), hc 5 (by omega), hc 6 (by omega), hok _ (List.mem_of_getElem? (nthE_of hi))⟩
def trV (T V S : Int) (A : Option Addr) (n c : Nat) : Value := .agg #[.int .i64 T, .int .i64 V, .int .i64 S, .slice A n c]
section
variable {H : Type} {enc : TypeId × Value → H} {w : World} {base : Nat} {spare : Nat → Bool} {held : Bool}
theorem open_trace {r : Reach} {b0 : Nat} {v : Value} {d : DataW H} {ps : List MemPlace} (hv : Value.okWide Tryz.prog w r b0 25 v) (h : DataW.Trod enc Tryz.prog w base spare held 25 v d ps) :
    ∃ (T V S : Int) (A : Option Addr) (L : List Ev) (c : Nat), v = trV T V S A L.length c ∧ (-9223372036854775808 ≤ T ∧ T ≤ 9223372036854775807) ∧ (-9223372036854775808 ≤ V ∧ V ≤ 9223372036854775807) ∧ (-9223372036854775808 ≤ S ∧ S ≤ 9223372036854775807) ∧ L.length ≤ 9223372036854775807 ∧ EvsAt w w.heap.size A L ∧ L.length ≤ c ∧ (A = none → c = 0) := by
  obtain ⟨fuel, hf⟩ := h
  obtain ⟨cs, rfl, _⟩ := okWide_struct Tryz.underlying25 hv
  obtain ⟨xs, m, rfl, _, hl, hxl, hf⟩ := DataW.trod_struct Tryz.underlying25 hf
  have hl4 : (Value.agg cs).cells.toList.length = 4 := hl.trans (by kernel_rfl)
  have hL : (Value.agg cs).cells.toList = cs.toList := rfl
  rw [hL] at hl4 hf
  obtain ⟨v0, t0, g0⟩ := one_ofW hl4 (show 0 < 4 by omega)
  obtain ⟨v1, t1, g1⟩ := one_ofW hl4 (show 1 < 4 by omega)
  obtain ⟨v2, t2, g2⟩ := one_ofW hl4 (show 2 < 4 by omega)
  obtain ⟨v3, t3, g3⟩ := one_ofW hl4 (show 3 < 4 by omega)
  have hx : xs.length = 4 := hxl
  obtain ⟨y0, _, z0⟩ := one_ofW hx (show 0 < 4 by omega)
  obtain ⟨y1, _, z1⟩ := one_ofW hx (show 1 < 4 by omega)
  obtain ⟨y2, _, z2⟩ := one_ofW hx (show 2 < 4 by omega)
  obtain ⟨y3, _, z3⟩ := one_ofW hx (show 3 < 4 by omega)
  have cells_evs : Tryz.prog.cellsOf 23 = 1 := by kernel_rfl
  have h0 : DataW.trod enc Tryz.prog w base spare held m 3 ((cs.toList.drop 0).take (Tryz.prog.cellsOf 3)) = xs[0]? := hf 0 _ rfl
  have h1 : DataW.trod enc Tryz.prog w base spare held m 3 ((cs.toList.drop 1).take (Tryz.prog.cellsOf 3)) = xs[1]? := hf 1 _ rfl
  have h2 : DataW.trod enc Tryz.prog w base spare held m 3 ((cs.toList.drop 2).take (Tryz.prog.cellsOf 3)) = xs[2]? := hf 2 _ rfl
  have h3 : DataW.trod enc Tryz.prog w base spare held m 23 ((cs.toList.drop 3).take (Tryz.prog.cellsOf 23)) = xs[3]? := hf 3 _ rfl
  simp only [cells_intW, cells_evs, t0, t1, t2, t3, z0, z1, z2, z3] at h0 h1 h2 h3
  obtain ⟨a0, e0, _, w0⟩ := DataW.trod_int Tryz.underlying3 h0
  obtain ⟨a1, e1, _, w1⟩ := DataW.trod_int Tryz.underlying3 h1
  obtain ⟨a2, e2, _, w2⟩ := DataW.trod_int Tryz.underlying3 h2
  cases e0; cases e1; cases e2
  have b0 := wf_i64W w0
  have b1 := wf_i64W w1
  have b2 := wf_i64W w2
  have hcs : ∀ v3', cs.toList[3]? = some v3' → cs = #[.int .i64 a0, .int .i64 a1, .int .i64 a2, v3'] := fun v3' hv3 => by
    apply Array.toList_inj.1
    apply List.ext_getElem?
    intro j
    match j with
    | 0 => exact g0
    | 1 => exact g1
    | 2 => exact g2
    | 3 => exact hv3
    | j + 4 => rw [List.getElem?_eq_none (by omega), List.getElem?_eq_none (by simp)]
  rcases DataW.trod_slice Tryz.underlying23 h3 with ⟨hn, _⟩ | ⟨a, len, cap, elems, rest, n, hm, hs, hyy, hb, hle, hmx, hlen, hel2, hsp, hns⟩
  · cases hn
    exact ⟨a0, a1, a2, none, [], 0, congrArg Value.agg (hcs _ g3), b0, b1, b2, by simp, fun k hk => absurd hk (by simp), by simp, fun _ => rfl⟩
  · cases hs
    subst hm
    have hst : ∀ i, i < len → ∃ e : Ev, EvAt w (a.add (i * 7)) e := fun i hi => by
      have hh := hel2 i hi
      rw [List.getElem?_eq_getElem (by omega), Option.bind_eq_some_iff] at hh
      obtain ⟨cs', hc', ht⟩ := hh
      rw [ev_cellsW] at hc'
      obtain ⟨_, hl7, hat⟩ := World.cells?_some hc'
      obtain ⟨e, ok, he⟩ := open_cellsW hl7 ht
      subst he
      exact ⟨e, hat 0 (by omega), hat 1 (by omega), hat 2 (by omega), hat 3 (by omega), hat 4 (by omega), hat 5 (by omega), hat 6 (by omega), ok⟩
    obtain ⟨F, hF⟩ := choose_lt hst
    have hl2 : ((List.range len).map F).length = len := by simp
    unfold maxLen at hmx
    refine ⟨a0, a1, a2, some a, (List.range len).map F, cap, by rw [hl2]; exact congrArg Value.agg (hcs _ g3), b0, b1, b2, by rw [hl2]; omega, fun i hi => ?_, by rw [hl2]; exact hle, fun h => by cases h⟩
    rw [hl2] at hi
    have hg : nthE ((List.range len).map F) i = F i := by
      rw [nthE, List.getD_eq_getElem?_getD, List.getElem?_map, List.getElem?_range hi]
      rfl
    rw [hg]
    have hp := hF i hi
    have hlt := there_blockW hp.c0
    exact ⟨a, rfl, by rwa [add_blockO] at hlt, hp⟩
end
end Go.Proofs.YteigglhhnemngaaGreatDoor
namespace Go.Proofs.YteigglhhnemngaaGreatDoor
set_option maxRecDepth 100000
open Go.RowKit
set_option linter.unusedVariables false
section
variable {P : Program} {ops : Array Oper} {Q : Exit → Act → World → Prop}
def waitsV (ops : Array Oper) (i j : Nat) : Bool := match ops[i]? with
  | some o => o.after.any fun e => Region.binds .any e && e.on == j
  | none => false
def okV (ds : List Nat) (on : List Bool) (ops : Array Oper) : Bool := decide (ops.size = ds.length) && (List.range ops.size).all fun i => match ops[i]? with
  | some o => o.dst == ds[i]? && (match o.guard with | none => on.getD i false | some (j, _) => on.getD j false && decide (j < ops.size) && o.after.any fun e => Region.binds .any e && e.on == j) && o.after.all fun e => !Region.binds .any e || decide (e.on < i)
  | none => false
theorem okV_spec {ds : List Nat} {on : List Bool} {ops : Array Oper} (h : okV ds on ops = true) : ops.size = ds.length ∧ ∀ (i : Nat) (o : Oper), ops[i]? = some o → o.dst = ds[i]? ∧ (o.guard = none → on.getD i false = true) ∧ (∀ j want, o.guard = some (j, want) → on.getD j false = true ∧ j < ops.size ∧ ∃ e ∈ o.after.toList, Region.binds .any e = true ∧ e.on = j) ∧ ∀ e ∈ o.after.toList, Region.binds .any e = true → e.on < i := by
  unfold okV at h
  rw [Bool.and_eq_true, decide_eq_true_eq] at h
  refine ⟨h.1, fun i o ho => ?_⟩
  have hi : i < ops.size := (Array.getElem?_eq_some_iff.1 ho).1
  have h1 := List.all_eq_true.1 h.2 i (by simpa using hi)
  rw [ho] at h1
  simp only [Bool.and_eq_true, beq_iff_eq] at h1
  refine ⟨h1.1.1, fun hg => ?_, fun j want hg => ?_, fun e he hb => ?_⟩
  · have h2 := h1.1.2
    rw [hg] at h2
    exact h2
  · have h2 := h1.1.2
    rw [hg] at h2
    simp only [Bool.and_eq_true, decide_eq_true_eq] at h2
    obtain ⟨e, he, h6⟩ := Array.any_eq_true'.1 h2.2
    simp only [Bool.and_eq_true, beq_iff_eq] at h6
    exact ⟨h2.1.1, h2.1.2, e, by simpa using he, h6.1, h6.2⟩
  · have h2 := Array.all_eq_true'.1 h1.2 e (by simpa using he)
    simpa [hb] using h2
end
end Go.Proofs.YteigglhhnemngaaGreatDoor
namespace Go.Proofs.YteigglhhnemngaaGreatDoor
set_option maxRecDepth 100000
open Go.RowKit
set_option linter.unusedVariables false
section
variable {P : Program} {ops : Array Oper} {Q : Exit → Act → World → Prop}
def pairsS (D : List (Option Nat)) (vals : List Value) : List (Nat × Value) := (List.range D.length).filterMap fun i => (D.getD i none).map fun d => (d, vals.getD i undef)
theorem mem_pairsS {D : List (Option Nat)} {vals : List Value} {i d : Nat} (h : D.getD i none = some d) : (d, vals.getD i undef) ∈ pairsS D vals := by
  refine List.mem_filterMap.2 ⟨i, ?_, by rw [h]; rfl⟩
  rcases Nat.lt_or_ge i D.length with h1 | h1
  · simpa using h1
  · rw [List.getD_eq_getElem?_getD, List.getElem?_eq_none h1] at h; cases h
theorem don_set {listed : Array Bool} {i : Nat} (hi : i < listed.size) : (fun j => (listed.setIfInBounds i true).getD j false) = fun j => j == i || listed.getD j false := by
  funext j
  by_cases hji : j = i
  · subst hji
    rw [Array.getD_eq_getD_getElem?, Array.getElem?_setIfInBounds_self_of_lt hi]
    simp
  · rw [Array.getD_eq_getD_getElem?, Array.getElem?_setIfInBounds_ne (by omega), ← Array.getD_eq_getD_getElem?, beq_eq_false_iff_ne.2 hji, Bool.false_or]
end
end Go.Proofs.YteigglhhnemngaaGreatDoor
namespace Go.Proofs.YteigglhhnemngaaGreatDoor
set_option maxRecDepth 100000
open Go.RowKit
set_option linter.unusedVariables false
section
variable {P : Program} {ops : Array Oper} {Q : Exit → Act → World → Prop}
def okT (D : List (Option Nat)) (on : List Bool) (ops : Array Oper) : Bool := decide (ops.size = D.length) && ((List.range ops.size).all fun i => match ops[i]? with
  | some o => o.dst == D.getD i none && (match o.guard with | none => on.getD i false | some (j, _) => on.getD j false && decide (j < ops.size) && (D.getD j none).isSome && o.after.any fun e => Region.binds .any e && e.on == j) && o.after.all fun e => !Region.binds .any e || decide (e.on < i)
  | none => false) && (List.range D.length).all fun i => (List.range D.length).all fun j => i == j || (D.getD i none).isNone || D.getD i none != D.getD j none
theorem okT_spec {D : List (Option Nat)} {on : List Bool} {ops : Array Oper} (h : okT D on ops = true) : ops.size = D.length ∧ (∀ (i : Nat) (o : Oper), ops[i]? = some o → o.dst = D.getD i none ∧ (o.guard = none → on.getD i false = true) ∧ (∀ j want, o.guard = some (j, want) → on.getD j false = true ∧ j < ops.size ∧ (∃ d, D.getD j none = some d) ∧ ∃ e ∈ o.after.toList, Region.binds .any e = true ∧ e.on = j) ∧ ∀ e ∈ o.after.toList, Region.binds .any e = true → e.on < i) ∧ ∀ i j d, D.getD i none = some d → D.getD j none = some d → i = j := by
  unfold okT at h
  rw [Bool.and_eq_true, Bool.and_eq_true, decide_eq_true_eq] at h
  obtain ⟨⟨h0, h1⟩, h2⟩ := h
  refine ⟨h0, fun i o ho => ?_, fun i j d hi hj => ?_⟩
  · have hi : i < ops.size := (Array.getElem?_eq_some_iff.1 ho).1
    have h3 := List.all_eq_true.1 h1 i (by simpa using hi)
    rw [ho] at h3
    simp only [Bool.and_eq_true, beq_iff_eq] at h3
    refine ⟨h3.1.1, fun hg => ?_, fun j want hg => ?_, fun e he hb => ?_⟩
    · have h4 := h3.1.2
      rw [hg] at h4
      exact h4
    · have h4 := h3.1.2
      rw [hg] at h4
      simp only [Bool.and_eq_true, decide_eq_true_eq] at h4
      obtain ⟨⟨⟨a1, a2⟩, a3⟩, a4⟩ := h4
      obtain ⟨e, he, h6⟩ := Array.any_eq_true'.1 a4
      simp only [Bool.and_eq_true, beq_iff_eq] at h6
      exact ⟨a1, a2, Option.isSome_iff_exists.1 a3, e, by simpa using he, h6.1, h6.2⟩
    · have h4 := Array.all_eq_true'.1 h3.2 e (by simpa using he)
      simpa [hb] using h4
  · have li : i < D.length := by
      rcases Nat.lt_or_ge i D.length with h | h
      · exact h
      · rw [List.getD_eq_getElem?_getD, List.getElem?_eq_none h] at hi; cases hi
    have lj : j < D.length := by
      rcases Nat.lt_or_ge j D.length with h | h
      · exact h
      · rw [List.getD_eq_getElem?_getD, List.getElem?_eq_none h] at hj; cases hj
    have h3 := List.all_eq_true.1 (List.all_eq_true.1 h2 i (by simpa using li)) j (by simpa using lj)
    rw [hi, hj] at h3
    simpa using h3
theorem wp_region_valsG {id : Nat} (vals : List Value) (on : List Bool) (D : List (Option Nat)) (M : (Nat → Bool) → World → Prop) (W : World) (T : Array Value) (hn : ((pairsS D vals).map (·.1)).Nodup) (hd : ∀ d ∈ (pairsS D vals).map (·.1), d < T.size) (hm : P.follows .mixedOrders = true) (hops : okT D on ops = true)
    (hguard : ∀ (i : Nat) (o : Oper) (j : Nat) (want : Bool), ops[i]? = some o → o.guard = some (j, want) → vals.getD j undef = .bool (if on.getD i false = true then want else !want))
    (hoff : ∀ i, i < D.length → on.getD i false = false → vals.getD i undef = undef)
    (hskip : ∀ i, i < D.length → on.getD i false = false → ∀ don w, M don w → M (fun j => j == i || don j) w)
    (h0 : M (fun _ => false) W.drew)
    (hstep : ∀ i o, ops[i]? = some o → i < D.length → on.getD i false = true → ∀ (don : Nat → Bool) (a : Act) (w : World), (∀ t, t ∉ (pairsS D vals).map (·.1) → a.tmps[t]?.getD undef = T[t]?.getD undef) → (∀ j, waitsV ops i j = true → don j = true ∧ ∀ d, D.getD j none = some d → a.tmps[d]?.getD undef = vals.getD j undef) → don i = false → M don w →
      ∀ K : Act → World → Prop, (∀ w', M (fun j => j == i || don j) w' → K (a.put o.dst (vals.getD i undef)) w') → Oper.wp P o a w K Q)
    (hend : ∀ w : World, M (fun j => decide (j < D.length)) w → Q .normal ⟨putAll T ((pairsS D vals).map (·.1)) ((pairsS D vals).map (·.2)), []⟩ w) :
    (Code.region id ops true).wp P Q ⟨T, []⟩ W := by
  obtain ⟨hsz, hsp, hinj⟩ := okT_spec hops
  obtain ⟨ds, hds⟩ : ∃ ds, ds = (pairsS D vals).map (·.1) := ⟨_, rfl⟩
  rw [← hds] at hn hd hstep hend
  refine wp_region_any hm ?_
  refine wpAny_inv (I := fun listed a w => listed.size = ops.size ∧ ∃ tm : Array Value, a = ⟨tm, []⟩ ∧ tm.size = T.size ∧ (∀ t, t ∉ ds → tm[t]? = T[t]?) ∧ (∀ i d, D.getD i none = some d → listed.getD i false = true → tm[d]? = some (vals.getD i undef)) ∧ M (fun j => listed.getD j false) w) (fun _ _ _ h => h.1) ?_ ?_ _ _ _ _ ⟨by simp, T, rfl, rfl, fun _ _ => rfl, fun i d _ h => ?_, ?_⟩ ?_
  · rintro listed a w ⟨hs, tm, rfl, hts, hfar, hat, hM⟩ i hi
    obtain ⟨h1, h2, h3⟩ := ready_of hi
    have ho : ops[i]? = some ops[i] := Array.getElem?_eq_getElem h1
    obtain ⟨o1, o2, o4, o3⟩ := hsp i _ ho
    have hid : i < D.length := by omega
    have h2' : listed.getD i false = false := by
      rw [Array.getD_eq_getD_getElem?, Array.getElem?_eq_getElem (by omega)] at h2 ⊢
      simpa using h2
    unfold wpOp
    rw [ho]
    have hw : Region.wanted ops[i] (yielded ops tm) = on.getD i false := by
      cases hg : ops[i].guard with
      | none => rw [o2 hg]; simp [Region.wanted, hg]
      | some x =>
        obtain ⟨j, want⟩ := x
        obtain ⟨p1, p2, ⟨d, hd3⟩, e, he, hbn, hej⟩ := o4 j want hg
        have hv := hguard i _ j want ho hg
        have h7 := h3 _ ho e he hbn
        rw [hej] at h7
        have hq := hat j d hd3 h7
        have hdj : ops[j].dst = some d := by rw [(hsp j _ (Array.getElem?_eq_getElem p2)).1, hd3]
        have hy : yielded ops tm j = some (if on.getD i false = true then want else !want) := by
          unfold yielded
          rw [Array.getElem?_eq_getElem p2]
          simp only [Option.bind_some]
          rw [hdj]
          simp only [Option.bind_some]
          rw [hq, hv]
        cases hon : on.getD i false <;> rw [hon] at hy <;> cases want <;> simp [Region.wanted, hg, hy]
    simp only [hw]
    have hput : ∀ w', M (fun j => j == i || listed.getD j false) w' → ((listed.setIfInBounds i true).size = ops.size ∧ ∃ tm2 : Array Value, (⟨tm, []⟩ : Act).put ops[i].dst (vals.getD i undef) = ⟨tm2, []⟩ ∧ tm2.size = T.size ∧ (∀ t, t ∉ ds → tm2[t]? = T[t]?) ∧ (∀ i_1 d, D.getD i_1 none = some d → (listed.setIfInBounds i true).getD i_1 false = true → tm2[d]? = some (vals.getD i_1 undef)) ∧ M (fun j => (listed.setIfInBounds i true).getD j false) w') := by
      intro w' hM'
      refine ⟨by simpa using hs, ?_⟩
      rw [o1]
      cases hDi : D.getD i none with
      | none =>
        refine ⟨tm, rfl, hts, hfar, fun j d hj hl => ?_, ?_⟩
        · have hji : j ≠ i := by rintro rfl; rw [hDi] at hj; cases hj
          rw [Array.getD_eq_getD_getElem?, Array.getElem?_setIfInBounds_ne (by omega), ← Array.getD_eq_getD_getElem?] at hl
          exact hat j d hj hl
        · rw [don_set (by omega)]
          exact hM'
      | some d0 =>
        have hd0 : d0 ∈ ds := by rw [hds]; exact List.mem_map.2 ⟨_, mem_pairsS (vals := vals) hDi, rfl⟩
        refine ⟨tm.setIfInBounds d0 (vals.getD i undef), rfl, by simpa using hts, fun t ht => ?_, fun j d hj hl => ?_, ?_⟩
        · rw [Array.getElem?_setIfInBounds_ne (by rintro rfl; exact ht hd0)]
          exact hfar t ht
        · by_cases hji : j = i
          · subst hji
            rw [hDi] at hj
            cases hj
            exact Array.getElem?_setIfInBounds_self_of_lt (by rw [hts]; exact hd _ hd0)
          · rw [Array.getD_eq_getD_getElem?, Array.getElem?_setIfInBounds_ne (by omega), ← Array.getD_eq_getD_getElem?] at hl
            rw [Array.getElem?_setIfInBounds_ne (by rintro rfl; exact hji (hinj _ _ _ hj hDi))]
            exact hat j d hj hl
        · rw [don_set (by omega)]
          exact hM'
    cases hon : on.getD i false with
    | true =>
      simp only [if_true]
      refine .inl (hstep i _ ho hid hon _ _ w (fun t ht => by show tm[t]?.getD undef = _; rw [hfar t ht]) (fun j hj => ?_) h2' hM _ fun w' hM' => hput w' hM')
      unfold waitsV at hj
      rw [ho] at hj
      obtain ⟨e, he, h6⟩ := Array.any_eq_true'.1 hj
      simp only [Bool.and_eq_true, beq_iff_eq] at h6
      obtain ⟨h6, rfl⟩ := h6
      have h7 := h3 _ ho e (by simpa using he) h6
      refine ⟨h7, fun d hd' => ?_⟩
      show tm[d]?.getD undef = _
      rw [hat _ d hd' h7]
      rfl
    | false =>
      simp only [Bool.false_eq_true, if_false]
      have h9 := hput w (hskip i hid hon _ _ hM)
      rw [hoff i hid hon] at h9
      exact h9
  · rintro listed a w ⟨hs, tm, rfl, hts, hfar, hat, hM⟩ hr
    have hall := ready_some (fun i o ho => (hsp i o ho).2.2.2) hr hs
    have hfun : (fun j => listed.getD j false) = fun j => decide (j < D.length) := by
      funext j
      by_cases hj : j < D.length
      · have := hall j (by omega)
        rw [Array.getD_eq_getD_getElem?, Array.getElem?_eq_getElem (by omega)] at this ⊢
        rw [decide_eq_true hj]
        simpa using this
      · rw [Array.getD_eq_getD_getElem?, Array.getElem?_eq_none (by omega), decide_eq_false hj]
        rfl
    rw [hfun] at hM
    have htm : tm = putAll T ds ((pairsS D vals).map (·.2)) := by
      apply Array.ext_getElem?
      intro t
      by_cases ht : t ∈ ds
      · obtain ⟨k, hk, hkt⟩ := List.mem_iff_getElem.1 ht
        have hk2 : k < (pairsS D vals).length := by rw [hds] at hk; simpa using hk
        have e1 : ds[k] = ((pairsS D vals)[k]).1 := by simp [hds]
        have hmem := List.getElem_mem hk2
        obtain ⟨i, _, hi⟩ := List.mem_filterMap.1 hmem
        obtain ⟨d2, h2, h3⟩ := Option.map_eq_some_iff.1 hi
        have hd2 : d2 = t := by rw [← hkt, e1, ← h3]
        subst hd2
        have hil : i < D.length := by
          rcases Nat.lt_or_ge i D.length with h | h
          · exact h
          · rw [List.getD_eq_getElem?_getD, List.getElem?_eq_none h] at h2; cases h2
        have h5 := hat i d2 h2 (by
          have h9 : listed.getD i false = decide (i < D.length) := congrFun hfun i
          rw [h9, decide_eq_true hil])
        rw [h5]
        have h6 := putAll_at T ds ((pairsS D vals).map (·.2)) k hk (by rw [hds]; simp) hn (hd _ (List.getElem_mem hk))
        rw [hkt] at h6
        rw [h6, List.getElem?_map, List.getElem?_eq_getElem hk2, ← h3]
        rfl
      · rw [hfar t ht, putAll_far ds _ T t ht]
    rw [htm]
    exact hend w hM
  · rw [Array.getD_eq_getD_getElem?] at h
    by_cases hi : i < ops.size
    · rw [Array.getElem?_replicate, if_pos hi] at h
      cases h
    · rw [Array.getElem?_replicate, if_neg hi] at h
      cases h
  · have : (fun j => (Array.replicate ops.size false).getD j false) = fun _ => false := by
      funext j
      rw [Array.getD_eq_getD_getElem?, Array.getElem?_replicate]
      split <;> rfl
    rw [this]
    exact h0
  · have hle : ∀ (p : Nat → Bool) n, cntR p n ≤ n := fun p n => by
      induction n with
      | zero => exact Nat.le_refl _
      | succ n ih => rw [cntR]; split <;> omega
    exact hle _ _
end
end Go.Proofs.YteigglhhnemngaaGreatDoor
