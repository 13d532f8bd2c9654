/-
  SEVERAL TEXTS IN ONE (a claim has sixty files at most): Dpa, Trq, Dpb: the head of each stands ahead of it. No condition but theirs.
-/
import Derived.Test.YtkfcglgikemefaaDoorDnh
import Derived.Test.YtkfcglgikemefaaDoorDlu
import Derived.Test.YtkfcglgikemefaaDoorSk
/-
  THE DOCUMENT'S CODER: told; what its Read keeps. Conditions: a coder, a reader; bounds below 2^62.
-/
namespace Go.Proofs.YtkfcglgikemefaaDoor
set_option maxRecDepth 100000
open Go.RowKit Go.Deep
set_option linter.unusedVariables false
set_option linter.unusedSimpArgs false
theorem nmR_0 {S : ByteArray} {x : Nat × Int} (n : Int) {m : Int} (hm : 0 ≤ m) : nmR S x n 0 m = ((rNum m S x.1 x.2).1, ((rNum m S x.1 x.2).2.2.1, (rNum m S x.1 x.2).2.2.2)) := by
  have h := (rNum_val hm S x.1 x.2).1
  unfold nmR
  rw [if_neg (by omega)]
theorem rtold_any (gr : Nat) (S : ByteArray) (x : Nat × Int) (n m : Int) (hm : 0 ≤ m ∧ m ≤ 4611686018427387904) (w : World) (h : RRd w gr S x.1 x.2) :
    Calls Tryd.prog 43 #[.pointer (some ⟨gr, 0, none⟩), .int .i64 m] w fun r w' => r = .returned (.int .i64 (nmR S x n 0 m).1) ∧ RRd w' gr S (nmR S x n 0 m).2.1 (nmR S x n 0 m).2.2 ∧ Kp gr none w w' := by
  rw [nmR_0 n hm.1]
  obtain ⟨v0, v1⟩ := rNum_val hm.1 S x.1 x.2
  have HN := Lib.hid (rref_num m gr S x.1 x.2 w h)
  unfold RRdPost at HN
  obtain ⟨z, hz⟩ : ∃ z, z = rNum m S x.1 x.2 := ⟨_, rfl⟩
  rw [← hz] at HN v0 v1 ⊢
  obtain ⟨z1, z2, z3, z4⟩ := z
  simp only at HN v0 v1 ⊢
  have hw1 : IntKind.u64.wrap m = m := IntWalk.u64_in _ ⟨by omega, by omega⟩
  have hw2 : IntKind.i64.wrap z1 = z1 := IntWalk.i64_in _ ⟨by omega, by omega⟩
  clear h hz
  go_enter Tryd.func43, Tryd.ntmps43
  go_wp2_with fail
  refine HN.out.mono ?_
  rintro _ w1 ⟨rfl, h1, h2⟩
  go_wp2_with fail
  go_ret
  exact ⟨rfl, h1, h2⟩
theorem kp_setD {w0 w : World} {gr g i : Nat} {v : Value} (h : Kp gr none w0 w) (hg : w0.heap.size ≤ g) : Kp gr none w0 (w.setCell ⟨g, i, none⟩ v) :=
  ⟨h.os, h.tape, h.output, by rw [show (w.setCell ⟨g, i, none⟩ v).heap.size = w.heap.size by simp [World.setCell]]; exact h.size, fun k hk h1 h2 => (Below.heap_setCell w ⟨g, i, none⟩ v k (by show k ≠ g; omega)).trans (h.block k hk h1 h2)⟩
/-- What Read keeps: the reader, the coder, its answer. -/
structure RdB (w0 : World) (gr gc g4 : Nat) (S : ByteArray) (q : Cd) (x : Nat × Int) (w : World) : Prop where
  rd : RRd w gr S x.1 x.2
  cd : RCod w gc q
  rs : EvO w g4 ev0
  kp : Kp gr none w0 w
  n1 : gr < w0.heap.size
  n2 : gc < w0.heap.size
  n3 : gr ≠ gc
  n4 : w0.heap.size ≤ g4
/-- And its event. -/
structure RdM (w0 : World) (gr gc g4 g7 : Nat) (S : ByteArray) (q : Cd) (e : Ev) (x : Nat × Int) (w : World) : Prop where
  b : RdB w0 gr gc g4 S q x w
  ev : EvO w g7 e
  n5 : g4 < g7
section
variable {w0 w w' : World} {gr gc g4 g7 : Nat} {S : ByteArray} {q : Cd} {e e' : Ev} {x y : Nat × Int}
theorem RdB.told (h : RdB w0 gr gc g4 S q x w) (h1 : RRd w' gr S y.1 y.2) (k : Kp gr none w w') : RdB w0 gr gc g4 S q y w' := by
  have n1 := h.n1; have n2 := h.n2; have n4 := h.n4
  refine ⟨h1, h.cd.same (k.block gc h.cd.lt (Ne.symm h.n3) (by simp)), h.rs.same (k.block g4 h.rs.lt (by omega) (by simp)), ?_, h.n1, h.n2, h.n3, h.n4⟩
  exact ⟨k.os.trans h.kp.os, k.tape.trans h.kp.tape, k.output.trans h.kp.output, Nat.le_trans h.kp.size k.size, fun i hi a b => (k.block i (Nat.lt_of_lt_of_le hi h.kp.size) a b).trans (h.kp.block i hi a b)⟩
theorem RdB.below (h : RdB w0 gr gc g4 S q x w) (k : Below w.heap.size w w') : RdB w0 gr gc g4 S q x w' := by
  refine ⟨⟨(k.block gr (Nat.lt_of_lt_of_le h.n1 h.kp.size)).trans h.rd.1, h.rd.2⟩, h.cd.below k, h.rs.below k, ?_, h.n1, h.n2, h.n3, h.n4⟩
  exact ⟨k.os.trans h.kp.os, k.tape.trans h.kp.tape, k.output.trans h.kp.output, Nat.le_trans h.kp.size k.size, fun i hi a b => (k.block i (Nat.lt_of_lt_of_le hi h.kp.size)).trans (h.kp.block i hi a b)⟩
theorem RdB.set (h : RdB w0 gr gc g4 S q x w) (i : Nat) (u : Value) (n5 : g4 < g7) : RdB w0 gr gc g4 S q x (w.setCell ⟨g7, i, none⟩ u) := by
  have n1 := h.n1; have n2 := h.n2; have n4 := h.n4
  have hb : ∀ b, b ≠ g7 → (w.setCell ⟨g7, i, none⟩ u).heap[b]? = w.heap[b]? := fun b hb => Below.heap_setCell _ ⟨g7, i, none⟩ _ b hb
  exact ⟨⟨(hb gr (by omega)).trans h.rd.1, h.rd.2⟩, h.cd.same (hb gc (by omega)), h.rs.same (hb g4 (by omega)), kp_setD h.kp (by omega), h.n1, h.n2, h.n3, h.n4⟩
theorem RdM.told (h : RdM w0 gr gc g4 g7 S q e x w) (h1 : RRd w' gr S y.1 y.2) (k : Kp gr none w w') : RdM w0 gr gc g4 g7 S q e y w' := by
  have n1 := h.b.n1; have n4 := h.b.n4; have n5 := h.n5
  exact ⟨h.b.told h1 k, h.ev.same (k.block g7 h.ev.lt (by omega) (by simp)), h.n5⟩
theorem RdM.set (h : RdM w0 gr gc g4 g7 S q e x w) (i : Nat) (u : Value) (he : (evC e).setIfInBounds i u = evC e') : RdM w0 gr gc g4 g7 S q e' x (w.setCell ⟨g7, i, none⟩ u) :=
  ⟨h.b.set i u h.n5, h.ev.set i u he, h.n5⟩
end
end Go.Proofs.YtkfcglgikemefaaDoor
/-
  A REGION THAT DRAWS ITS ORDER, WITH GUARDS, as XSk's, but a guard's own operation may be off too (a guard behind a guard). Laid by gen/gen_trq.py. Conditions: as they stand.
-/
namespace Go.Proofs.YtkfcglgikemefaaDoor
set_option maxRecDepth 100000
open Go.RowKit
set_option linter.unusedVariables false
section
variable {P : Program} {ops : Array Oper} {Q : Exit → Act → World → Prop}
def okN (D : List (Option Nat)) (on : List Bool) (ops : Array Oper) : Bool := decide (ops.size = D.length) && ((List.range ops.size).all fun i => match ops[i]? with
  | some o => o.dst == D.getD i none && (match o.guard with | none => on.getD i false | some (j, _) => decide (j < ops.size) && (D.getD j none).isSome && o.after.any fun e => Region.binds .any e && e.on == j) && o.after.all fun e => !Region.binds .any e || decide (e.on < i)
  | none => false) && (List.range D.length).all fun i => (List.range D.length).all fun j => i == j || (D.getD i none).isNone || D.getD i none != D.getD j none
theorem okN_spec {D : List (Option Nat)} {on : List Bool} {ops : Array Oper} (h : okN D on ops = true) : ops.size = D.length ∧ (∀ (i : Nat) (o : Oper), ops[i]? = some o → o.dst = D.getD i none ∧ (o.guard = none → on.getD i false = true) ∧ (∀ j want, o.guard = some (j, want) → j < ops.size ∧ (∃ d, D.getD j none = some d) ∧ ∃ e ∈ o.after.toList, Region.binds .any e = true ∧ e.on = j) ∧ ∀ e ∈ o.after.toList, Region.binds .any e = true → e.on < i) ∧ ∀ i j d, D.getD i none = some d → D.getD j none = some d → i = j := by
  unfold okN at h
  rw [Bool.and_eq_true, Bool.and_eq_true, decide_eq_true_eq] at h
  obtain ⟨⟨h0, h1⟩, h2⟩ := h
  refine ⟨h0, fun i o ho => ?_, fun i j d hi hj => ?_⟩
  · have hi : i < ops.size := (Array.getElem?_eq_some_iff.1 ho).1
    have h3 := List.all_eq_true.1 h1 i (by simpa using hi)
    rw [ho] at h3
    simp only [Bool.and_eq_true, beq_iff_eq] at h3
    refine ⟨h3.1.1, fun hg => ?_, fun j want hg => ?_, fun e he hb => ?_⟩
    · have h4 := h3.1.2
      rw [hg] at h4
      exact h4
    · have h4 := h3.1.2
      rw [hg] at h4
      simp only [Bool.and_eq_true, decide_eq_true_eq] at h4
      obtain ⟨⟨a2, a3⟩, a4⟩ := h4
      obtain ⟨e, he, h6⟩ := Array.any_eq_true'.1 a4
      simp only [Bool.and_eq_true, beq_iff_eq] at h6
      exact ⟨a2, Option.isSome_iff_exists.1 a3, e, by simpa using he, h6.1, h6.2⟩
    · have h4 := Array.all_eq_true'.1 h3.2 e (by simpa using he)
      simpa [hb] using h4
  · have li : i < D.length := by
      rcases Nat.lt_or_ge i D.length with h | h
      · exact h
      · rw [List.getD_eq_getElem?_getD, List.getElem?_eq_none h] at hi; cases hi
    have lj : j < D.length := by
      rcases Nat.lt_or_ge j D.length with h | h
      · exact h
      · rw [List.getD_eq_getElem?_getD, List.getElem?_eq_none h] at hj; cases hj
    have h3 := List.all_eq_true.1 (List.all_eq_true.1 h2 i (by simpa using li)) j (by simpa using lj)
    rw [hi, hj] at h3
    simpa using h3
theorem wp_region_valsN {id : Nat} (vals : List Value) (on : List Bool) (D : List (Option Nat)) (M : (Nat → Bool) → World → Prop) (W : World) (T : Array Value) (hn : ((pairsS D vals).map (·.1)).Nodup) (hd : ∀ d ∈ (pairsS D vals).map (·.1), d < T.size) (hm : P.follows .mixedOrders = true) (hops : okN D on ops = true)
    (hguard : ∀ (i : Nat) (o : Oper) (j : Nat) (want : Bool), ops[i]? = some o → o.guard = some (j, want) → vals.getD j undef = .bool (if on.getD i false = true then want else !want) ∨ (on.getD i false = false ∧ vals.getD j undef = undef))
    (hoff : ∀ i, i < D.length → on.getD i false = false → vals.getD i undef = undef)
    (hskip : ∀ i, i < D.length → on.getD i false = false → ∀ don w, M don w → M (fun j => j == i || don j) w)
    (h0 : M (fun _ => false) W.drew)
    (hstep : ∀ i o, ops[i]? = some o → i < D.length → on.getD i false = true → ∀ (don : Nat → Bool) (a : Act) (w : World), (∀ t, t ∉ (pairsS D vals).map (·.1) → a.tmps[t]?.getD undef = T[t]?.getD undef) → (∀ j, waitsV ops i j = true → don j = true ∧ ∀ d, D.getD j none = some d → a.tmps[d]?.getD undef = vals.getD j undef) → don i = false → M don w →
      ∀ K : Act → World → Prop, (∀ w', M (fun j => j == i || don j) w' → K (a.put o.dst (vals.getD i undef)) w') → Oper.wp P o a w K Q)
    (hend : ∀ w : World, M (fun j => decide (j < D.length)) w → Q .normal ⟨putAll T ((pairsS D vals).map (·.1)) ((pairsS D vals).map (·.2)), []⟩ w) :
    (Code.region id ops true).wp P Q ⟨T, []⟩ W := by
  obtain ⟨hsz, hsp, hinj⟩ := okN_spec hops
  obtain ⟨ds, hds⟩ : ∃ ds, ds = (pairsS D vals).map (·.1) := ⟨_, rfl⟩
  rw [← hds] at hn hd hstep hend
  refine wp_region_any hm ?_
  refine wpAny_inv (I := fun listed a w => listed.size = ops.size ∧ ∃ tm : Array Value, a = ⟨tm, []⟩ ∧ tm.size = T.size ∧ (∀ t, t ∉ ds → tm[t]? = T[t]?) ∧ (∀ i d, D.getD i none = some d → listed.getD i false = true → tm[d]? = some (vals.getD i undef)) ∧ M (fun j => listed.getD j false) w) (fun _ _ _ h => h.1) ?_ ?_ _ _ _ _ ⟨by simp, T, rfl, rfl, fun _ _ => rfl, fun i d _ h => ?_, ?_⟩ ?_
  · rintro listed a w ⟨hs, tm, rfl, hts, hfar, hat, hM⟩ i hi
    obtain ⟨h1, h2, h3⟩ := ready_of hi
    have ho : ops[i]? = some ops[i] := Array.getElem?_eq_getElem h1
    obtain ⟨o1, o2, o4, o3⟩ := hsp i _ ho
    have hid : i < D.length := by omega
    have h2' : listed.getD i false = false := by
      rw [Array.getD_eq_getD_getElem?, Array.getElem?_eq_getElem (by omega)] at h2 ⊢
      simpa using h2
    unfold wpOp
    rw [ho]
    have hw : Region.wanted ops[i] (yielded ops tm) = on.getD i false := by
      cases hg : ops[i].guard with
      | none => rw [o2 hg]; simp [Region.wanted, hg]
      | some x =>
        obtain ⟨j, want⟩ := x
        obtain ⟨p2, ⟨d, hd3⟩, e, he, hbn, hej⟩ := o4 j want hg
        have hv := hguard i _ j want ho hg
        have h7 := h3 _ ho e he hbn
        rw [hej] at h7
        have hq := hat j d hd3 h7
        have hdj : ops[j].dst = some d := by rw [(hsp j _ (Array.getElem?_eq_getElem p2)).1, hd3]
        rcases hv with hv | ⟨hoo, hv⟩
        · have hy : yielded ops tm j = some (if on.getD i false = true then want else !want) := by
            unfold yielded
            rw [Array.getElem?_eq_getElem p2]
            simp only [Option.bind_some]
            rw [hdj]
            simp only [Option.bind_some]
            rw [hq, hv]
          cases hon : on.getD i false <;> rw [hon] at hy <;> cases want <;> simp [Region.wanted, hg, hy]
        · have hy : yielded ops tm j = none := by
            unfold yielded
            rw [Array.getElem?_eq_getElem p2]
            simp only [Option.bind_some]
            rw [hdj]
            simp only [Option.bind_some]
            rw [hq, hv]
            rfl
          rw [hoo]
          simp [Region.wanted, hg, hy]
    simp only [hw]
    have hput : ∀ w', M (fun j => j == i || listed.getD j false) w' → ((listed.setIfInBounds i true).size = ops.size ∧ ∃ tm2 : Array Value, (⟨tm, []⟩ : Act).put ops[i].dst (vals.getD i undef) = ⟨tm2, []⟩ ∧ tm2.size = T.size ∧ (∀ t, t ∉ ds → tm2[t]? = T[t]?) ∧ (∀ i_1 d, D.getD i_1 none = some d → (listed.setIfInBounds i true).getD i_1 false = true → tm2[d]? = some (vals.getD i_1 undef)) ∧ M (fun j => (listed.setIfInBounds i true).getD j false) w') := by
      intro w' hM'
      refine ⟨by simpa using hs, ?_⟩
      rw [o1]
      cases hDi : D.getD i none with
      | none =>
        refine ⟨tm, rfl, hts, hfar, fun j d hj hl => ?_, ?_⟩
        · have hji : j ≠ i := by rintro rfl; rw [hDi] at hj; cases hj
          rw [Array.getD_eq_getD_getElem?, Array.getElem?_setIfInBounds_ne (by omega), ← Array.getD_eq_getD_getElem?] at hl
          exact hat j d hj hl
        · rw [don_set (by omega)]
          exact hM'
      | some d0 =>
        have hd0 : d0 ∈ ds := by rw [hds]; exact List.mem_map.2 ⟨_, mem_pairsS (vals := vals) hDi, rfl⟩
        refine ⟨tm.setIfInBounds d0 (vals.getD i undef), rfl, by simpa using hts, fun t ht => ?_, fun j d hj hl => ?_, ?_⟩
        · rw [Array.getElem?_setIfInBounds_ne (by rintro rfl; exact ht hd0)]
          exact hfar t ht
        · by_cases hji : j = i
          · subst hji
            rw [hDi] at hj
            cases hj
            exact Array.getElem?_setIfInBounds_self_of_lt (by rw [hts]; exact hd _ hd0)
          · rw [Array.getD_eq_getD_getElem?, Array.getElem?_setIfInBounds_ne (by omega), ← Array.getD_eq_getD_getElem?] at hl
            rw [Array.getElem?_setIfInBounds_ne (by rintro rfl; exact hji (hinj _ _ _ hj hDi))]
            exact hat j d hj hl
        · rw [don_set (by omega)]
          exact hM'
    cases hon : on.getD i false with
    | true =>
      simp only [if_true]
      refine .inl (hstep i _ ho hid hon _ _ w (fun t ht => by show tm[t]?.getD undef = _; rw [hfar t ht]) (fun j hj => ?_) h2' hM _ fun w' hM' => hput w' hM')
      unfold waitsV at hj
      rw [ho] at hj
      obtain ⟨e, he, h6⟩ := Array.any_eq_true'.1 hj
      simp only [Bool.and_eq_true, beq_iff_eq] at h6
      obtain ⟨h6, rfl⟩ := h6
      have h7 := h3 _ ho e (by simpa using he) h6
      refine ⟨h7, fun d hd' => ?_⟩
      show tm[d]?.getD undef = _
      rw [hat _ d hd' h7]
      rfl
    | false =>
      simp only [Bool.false_eq_true, if_false]
      have h9 := hput w (hskip i hid hon _ _ hM)
      rw [hoff i hid hon] at h9
      exact h9
  · rintro listed a w ⟨hs, tm, rfl, hts, hfar, hat, hM⟩ hr
    have hall := ready_some (fun i o ho => (hsp i o ho).2.2.2) hr hs
    have hfun : (fun j => listed.getD j false) = fun j => decide (j < D.length) := by
      funext j
      by_cases hj : j < D.length
      · have := hall j (by omega)
        rw [Array.getD_eq_getD_getElem?, Array.getElem?_eq_getElem (by omega)] at this ⊢
        rw [decide_eq_true hj]
        simpa using this
      · rw [Array.getD_eq_getD_getElem?, Array.getElem?_eq_none (by omega), decide_eq_false hj]
        rfl
    rw [hfun] at hM
    have htm : tm = putAll T ds ((pairsS D vals).map (·.2)) := by
      apply Array.ext_getElem?
      intro t
      by_cases ht : t ∈ ds
      · obtain ⟨k, hk, hkt⟩ := List.mem_iff_getElem.1 ht
        have hk2 : k < (pairsS D vals).length := by rw [hds] at hk; simpa using hk
        have e1 : ds[k] = ((pairsS D vals)[k]).1 := by simp [hds]
        have hmem := List.getElem_mem hk2
        obtain ⟨i, _, hi⟩ := List.mem_filterMap.1 hmem
        obtain ⟨d2, h2, h3⟩ := Option.map_eq_some_iff.1 hi
        have hd2 : d2 = t := by rw [← hkt, e1, ← h3]
        subst hd2
        have hil : i < D.length := by
          rcases Nat.lt_or_ge i D.length with h | h
          · exact h
          · rw [List.getD_eq_getElem?_getD, List.getElem?_eq_none h] at h2; cases h2
        have h5 := hat i d2 h2 (by
          have h9 : listed.getD i false = decide (i < D.length) := congrFun hfun i
          rw [h9, decide_eq_true hil])
        rw [h5]
        have h6 := putAll_at T ds ((pairsS D vals).map (·.2)) k hk (by rw [hds]; simp) hn (hd _ (List.getElem_mem hk))
        rw [hkt] at h6
        rw [h6, List.getElem?_map, List.getElem?_eq_getElem hk2, ← h3]
        rfl
      · rw [hfar t ht, putAll_far ds _ T t ht]
    rw [htm]
    exact hend w hM
  · rw [Array.getD_eq_getD_getElem?] at h
    by_cases hi : i < ops.size
    · rw [Array.getElem?_replicate, if_pos hi] at h
      cases h
    · rw [Array.getElem?_replicate, if_neg hi] at h
      cases h
  · have : (fun j => (Array.replicate ops.size false).getD j false) = fun _ => false := by
      funext j
      rw [Array.getD_eq_getD_getElem?, Array.getElem?_replicate]
      split <;> rfl
    rw [this]
    exact h0
  · have hle : ∀ (p : Nat → Bool) n, cntR p n ≤ n := fun p n => by
      induction n with
      | zero => exact Nat.le_refl _
      | succ n ih => rw [cntR]; split <;> omega
    exact hle _ _
end
end Go.Proofs.YtkfcglgikemefaaDoor
/-
  THE DOCUMENT'S CODER: drawn regions of its Read. Laid by gen/gen_dpb.py. Conditions: as they stand.
-/
namespace Go.Proofs.YtkfcglgikemefaaDoor
set_option maxRecDepth 100000
open Go.RowKit Go.Deep
set_option linter.unusedVariables false
set_option linter.unusedSimpArgs false
section
variable {a : Act} {w : World} {K : Act → World → Prop} {Q : Exit → Act → World → Prop} {o : Oper}
theorem d_nil (x : Nat) {g q : Nat} (ho : o.op = .nilCheck (.tmp x)) (hx : a.tmps[x]?.getD undef = .pointer (some ⟨g, q, none⟩)) (hK : K (a.put o.dst (.pointer (some ⟨g, q, none⟩))) w) : Oper.wp Tryd.prog o a w K Q := by
  obtain ⟨dst, op, type, pos, after, guard⟩ := o
  have ho' : op = _ := ho
  subst ho'
  clear ho
  go_simp
  exact hK
theorem d_c0 (x : Nat) {g : Nat} (ho : o.op = .fieldAddr 82 (.tmp x) 0) (hx : a.tmps[x]?.getD undef = .pointer (some ⟨g, 0, none⟩)) (hK : K (a.put o.dst (.pointer (some ⟨g, 0, none⟩))) w) : Oper.wp Tryd.prog o a w K Q := by
  obtain ⟨dst, op, type, pos, after, guard⟩ := o
  have ho' : op = _ := ho
  subst ho'
  clear ho
  go_simp
  exact hK
theorem d_c1 (x : Nat) {g : Nat} (ho : o.op = .fieldAddr 82 (.tmp x) 1) (hx : a.tmps[x]?.getD undef = .pointer (some ⟨g, 0, none⟩)) (hK : K (a.put o.dst (.pointer (some ⟨g, 1, none⟩))) w) : Oper.wp Tryd.prog o a w K Q := by
  obtain ⟨dst, op, type, pos, after, guard⟩ := o
  have ho' : op = _ := ho
  subst ho'
  clear ho
  go_simp
  exact hK
theorem d_c2 (x : Nat) {g : Nat} (ho : o.op = .fieldAddr 82 (.tmp x) 2) (hx : a.tmps[x]?.getD undef = .pointer (some ⟨g, 0, none⟩)) (hK : K (a.put o.dst (.pointer (some ⟨g, 2, none⟩))) w) : Oper.wp Tryd.prog o a w K Q := by
  obtain ⟨dst, op, type, pos, after, guard⟩ := o
  have ho' : op = _ := ho
  subst ho'
  clear ho
  go_simp
  exact hK
theorem d_c3 (x : Nat) {g : Nat} (ho : o.op = .fieldAddr 82 (.tmp x) 3) (hx : a.tmps[x]?.getD undef = .pointer (some ⟨g, 0, none⟩)) (hK : K (a.put o.dst (.pointer (some ⟨g, 3, none⟩))) w) : Oper.wp Tryd.prog o a w K Q := by
  obtain ⟨dst, op, type, pos, after, guard⟩ := o
  have ho' : op = _ := ho
  subst ho'
  clear ho
  go_simp
  exact hK
theorem d_c4 (x : Nat) {g : Nat} (ho : o.op = .fieldAddr 82 (.tmp x) 4) (hx : a.tmps[x]?.getD undef = .pointer (some ⟨g, 0, none⟩)) (hK : K (a.put o.dst (.pointer (some ⟨g, 4, none⟩))) w) : Oper.wp Tryd.prog o a w K Q := by
  obtain ⟨dst, op, type, pos, after, guard⟩ := o
  have ho' : op = _ := ho
  subst ho'
  clear ho
  go_simp
  exact hK
theorem d_c5 (x : Nat) {g : Nat} (ho : o.op = .fieldAddr 82 (.tmp x) 5) (hx : a.tmps[x]?.getD undef = .pointer (some ⟨g, 0, none⟩)) (hK : K (a.put o.dst (.pointer (some ⟨g, 5, none⟩))) w) : Oper.wp Tryd.prog o a w K Q := by
  obtain ⟨dst, op, type, pos, after, guard⟩ := o
  have ho' : op = _ := ho
  subst ho'
  clear ho
  go_simp
  exact hK
theorem d_c6 (x : Nat) {g : Nat} (ho : o.op = .fieldAddr 82 (.tmp x) 6) (hx : a.tmps[x]?.getD undef = .pointer (some ⟨g, 0, none⟩)) (hK : K (a.put o.dst (.pointer (some ⟨g, 11, none⟩))) w) : Oper.wp Tryd.prog o a w K Q := by
  obtain ⟨dst, op, type, pos, after, guard⟩ := o
  have ho' : op = _ := ho
  subst ho'
  clear ho
  go_simp
  exact hK
theorem d_c7 (x : Nat) {g : Nat} (ho : o.op = .fieldAddr 82 (.tmp x) 7) (hx : a.tmps[x]?.getD undef = .pointer (some ⟨g, 0, none⟩)) (hK : K (a.put o.dst (.pointer (some ⟨g, 17, none⟩))) w) : Oper.wp Tryd.prog o a w K Q := by
  obtain ⟨dst, op, type, pos, after, guard⟩ := o
  have ho' : op = _ := ho
  subst ho'
  clear ho
  go_simp
  exact hK
theorem d_e0 (x : Nat) {g : Nat} (ho : o.op = .fieldAddr 46 (.tmp x) 0) (hx : a.tmps[x]?.getD undef = .pointer (some ⟨g, 0, none⟩)) (hK : K (a.put o.dst (.pointer (some ⟨g, 0, none⟩))) w) : Oper.wp Tryd.prog o a w K Q := by
  obtain ⟨dst, op, type, pos, after, guard⟩ := o
  have ho' : op = _ := ho
  subst ho'
  clear ho
  go_simp
  exact hK
theorem d_e1 (x : Nat) {g : Nat} (ho : o.op = .fieldAddr 46 (.tmp x) 1) (hx : a.tmps[x]?.getD undef = .pointer (some ⟨g, 0, none⟩)) (hK : K (a.put o.dst (.pointer (some ⟨g, 1, none⟩))) w) : Oper.wp Tryd.prog o a w K Q := by
  obtain ⟨dst, op, type, pos, after, guard⟩ := o
  have ho' : op = _ := ho
  subst ho'
  clear ho
  go_simp
  exact hK
theorem d_e2 (x : Nat) {g : Nat} (ho : o.op = .fieldAddr 46 (.tmp x) 2) (hx : a.tmps[x]?.getD undef = .pointer (some ⟨g, 0, none⟩)) (hK : K (a.put o.dst (.pointer (some ⟨g, 2, none⟩))) w) : Oper.wp Tryd.prog o a w K Q := by
  obtain ⟨dst, op, type, pos, after, guard⟩ := o
  have ho' : op = _ := ho
  subst ho'
  clear ho
  go_simp
  exact hK
theorem d_e3 (x : Nat) {g : Nat} (ho : o.op = .fieldAddr 46 (.tmp x) 3) (hx : a.tmps[x]?.getD undef = .pointer (some ⟨g, 0, none⟩)) (hK : K (a.put o.dst (.pointer (some ⟨g, 3, none⟩))) w) : Oper.wp Tryd.prog o a w K Q := by
  obtain ⟨dst, op, type, pos, after, guard⟩ := o
  have ho' : op = _ := ho
  subst ho'
  clear ho
  go_simp
  exact hK
theorem d_e4 (x : Nat) {g : Nat} (ho : o.op = .fieldAddr 46 (.tmp x) 4) (hx : a.tmps[x]?.getD undef = .pointer (some ⟨g, 0, none⟩)) (hK : K (a.put o.dst (.pointer (some ⟨g, 4, none⟩))) w) : Oper.wp Tryd.prog o a w K Q := by
  obtain ⟨dst, op, type, pos, after, guard⟩ := o
  have ho' : op = _ := ho
  subst ho'
  clear ho
  go_simp
  exact hK
theorem d_e5 (x : Nat) {g : Nat} (ho : o.op = .fieldAddr 46 (.tmp x) 5) (hx : a.tmps[x]?.getD undef = .pointer (some ⟨g, 0, none⟩)) (hK : K (a.put o.dst (.pointer (some ⟨g, 5, none⟩))) w) : Oper.wp Tryd.prog o a w K Q := by
  obtain ⟨dst, op, type, pos, after, guard⟩ := o
  have ho' : op = _ := ho
  subst ho'
  clear ho
  go_simp
  exact hK
theorem d_e6 (x : Nat) {g : Nat} (ho : o.op = .fieldAddr 46 (.tmp x) 6) (hx : a.tmps[x]?.getD undef = .pointer (some ⟨g, 0, none⟩)) (hK : K (a.put o.dst (.pointer (some ⟨g, 6, none⟩))) w) : Oper.wp Tryd.prog o a w K Q := by
  obtain ⟨dst, op, type, pos, after, guard⟩ := o
  have ho' : op = _ := ho
  subst ho'
  clear ho
  go_simp
  exact hK
theorem d_ldi (x : Nat) {g q : Nat} {n : Int} (ho : o.op = .load 3 (.tmp x)) (hx : a.tmps[x]?.getD undef = .pointer (some ⟨g, q, none⟩)) (hc : w.cell? ⟨g, q, none⟩ = some (.int .i64 n)) (hK : K (a.put o.dst (.int .i64 n)) w) : Oper.wp Tryd.prog o a w K Q := by
  obtain ⟨dst, op, type, pos, after, guard⟩ := o
  have ho' : op = _ := ho
  subst ho'
  clear ho
  go_simp
  exact hK
theorem d_ldl (x : Nat) {g q : Nat} {n : Int} (ho : o.op = .load 2 (.tmp x)) (hx : a.tmps[x]?.getD undef = .pointer (some ⟨g, q, none⟩)) (hc : w.cell? ⟨g, q, none⟩ = some (.int .i64 n)) (hK : K (a.put o.dst (.int .i64 n)) w) : Oper.wp Tryd.prog o a w K Q := by
  obtain ⟨dst, op, type, pos, after, guard⟩ := o
  have ho' : op = _ := ho
  subst ho'
  clear ho
  go_simp
  exact hK
theorem d_ix6 (x y : Nat) {g q k : Nat} (ho : o.op = .indexAddr 80 (.tmp x) (.tmp y)) (hx : a.tmps[x]?.getD undef = .pointer (some ⟨g, q, none⟩)) (hy : a.tmps[y]?.getD undef = .int .i64 (k : Int)) (hk : k < 6) (hK : K (a.put o.dst (.pointer (some ⟨g, q + k, none⟩))) w) : Oper.wp Tryd.prog o a w K Q := by
  obtain ⟨dst, op, type, pos, after, guard⟩ := o
  have ho' : op = _ := ho
  subst ho'
  clear ho
  have hk2 : (k : Int) < 6 := by omega
  go_simp
  exact hK
theorem d_ix32 (x y : Nat) {g q k : Nat} (ho : o.op = .indexAddr 77 (.tmp x) (.tmp y)) (hx : a.tmps[x]?.getD undef = .pointer (some ⟨g, q, none⟩)) (hy : a.tmps[y]?.getD undef = .int .i64 (k : Int)) (hk : k < 32) (hK : K (a.put o.dst (.pointer (some ⟨g, q + k, none⟩))) w) : Oper.wp Tryd.prog o a w K Q := by
  obtain ⟨dst, op, type, pos, after, guard⟩ := o
  have ho' : op = _ := ho
  subst ho'
  clear ho
  have hk2 : (k : Int) < 32 := by omega
  go_simp
  exact hK
theorem d_add (x y : Nat) {n m : Int} (ho : o.op = .binOp .add 3 (.tmp x) (.tmp y) 3) (hx : a.tmps[x]?.getD undef = .int .i64 n) (hy : a.tmps[y]?.getD undef = .int .i64 m) (hb : -9223372036854775808 ≤ n + m ∧ n + m ≤ 9223372036854775807) (hK : K (a.put o.dst (.int .i64 (n + m))) w) : Oper.wp Tryd.prog o a w K Q := by
  obtain ⟨dst, op, type, pos, after, guard⟩ := o
  have ho' : op = _ := ho
  subst ho'
  clear ho
  have hw : IntKind.i64.wrap (n + m) = n + m := IntWalk.i64_in _ hb
  go_simp
  exact hK
theorem d_sub (x y : Nat) {n m : Int} (ho : o.op = .binOp .sub 3 (.tmp x) (.tmp y) 3) (hx : a.tmps[x]?.getD undef = .int .i64 n) (hy : a.tmps[y]?.getD undef = .int .i64 m) (hb : -9223372036854775808 ≤ n - m ∧ n - m ≤ 9223372036854775807) (hK : K (a.put o.dst (.int .i64 (n - m))) w) : Oper.wp Tryd.prog o a w K Q := by
  obtain ⟨dst, op, type, pos, after, guard⟩ := o
  have ho' : op = _ := ho
  subst ho'
  clear ho
  have hw : IntKind.i64.wrap (n - m) = n - m := IntWalk.i64_in _ hb
  go_simp
  exact hK
theorem d_addc (x : Nat) {n : Int} (ho : o.op = .binOp .add 3 (.tmp x) (.const (.int .i64 1)) 3) (hx : a.tmps[x]?.getD undef = .int .i64 n) (hb : -9223372036854775808 ≤ n + 1 ∧ n + 1 ≤ 9223372036854775807) (hK : K (a.put o.dst (.int .i64 (n + 1))) w) : Oper.wp Tryd.prog o a w K Q := by
  obtain ⟨dst, op, type, pos, after, guard⟩ := o
  have ho' : op = _ := ho
  subst ho'
  clear ho
  have hw : IntKind.i64.wrap (n + 1) = n + 1 := IntWalk.i64_in _ hb
  go_simp
  exact hK
theorem d_subk (x : Nat) {n : Int} (ho : o.op = .binOp .sub 3 (.const (.int .i64 1099511627776)) (.tmp x) 3) (hx : a.tmps[x]?.getD undef = .int .i64 n) (hb : -9223372036854775808 ≤ 1099511627776 - n ∧ 1099511627776 - n ≤ 9223372036854775807) (hK : K (a.put o.dst (.int .i64 (1099511627776 - n))) w) : Oper.wp Tryd.prog o a w K Q := by
  obtain ⟨dst, op, type, pos, after, guard⟩ := o
  have ho' : op = _ := ho
  subst ho'
  clear ho
  have hw : IntKind.i64.wrap (1099511627776 - n) = 1099511627776 - n := IntWalk.i64_in _ hb
  go_simp
  exact hK
theorem d_addl (x y : Nat) {n m : Int} (ho : o.op = .binOp .add 2 (.tmp x) (.tmp y) 2) (hx : a.tmps[x]?.getD undef = .int .i64 n) (hy : a.tmps[y]?.getD undef = .int .i64 m) (hK : K (a.put o.dst (.int .i64 (i64w (n + m)))) w) : Oper.wp Tryd.prog o a w K Q := by
  obtain ⟨dst, op, type, pos, after, guard⟩ := o
  have ho' : op = _ := ho
  subst ho'
  clear ho
  unfold i64w at hK
  go_simp
  exact hK
theorem d_quo (x y : Nat) {n m : Int} (ho : o.op = .binOp .quo 3 (.tmp x) (.tmp y) 3) (hx : a.tmps[x]?.getD undef = .int .i64 n) (hy : a.tmps[y]?.getD undef = .int .i64 m) (hm : 1 ≤ m) (hb : -9223372036854775808 ≤ n.tdiv m ∧ n.tdiv m ≤ 9223372036854775807) (hK : K (a.put o.dst (.int .i64 (n.tdiv m))) w) : Oper.wp Tryd.prog o a w K Q := by
  obtain ⟨dst, op, type, pos, after, guard⟩ := o
  have ho' : op = _ := ho
  subst ho'
  clear ho
  have h0 : (m == 0) = false := beq_eq_false_iff_ne.2 (by omega)
  have h00 : m ≠ 0 := by omega
  have hw : IntKind.i64.wrap (n.tdiv m) = n.tdiv m := IntWalk.i64_in _ hb
  go_simp
  exact hK
theorem d_rem (x y : Nat) {n m : Int} (ho : o.op = .binOp .rem 3 (.tmp x) (.tmp y) 3) (hx : a.tmps[x]?.getD undef = .int .i64 n) (hy : a.tmps[y]?.getD undef = .int .i64 m) (hm : 1 ≤ m) (hb : -9223372036854775808 ≤ n.tmod m ∧ n.tmod m ≤ 9223372036854775807) (hK : K (a.put o.dst (.int .i64 (n.tmod m))) w) : Oper.wp Tryd.prog o a w K Q := by
  obtain ⟨dst, op, type, pos, after, guard⟩ := o
  have ho' : op = _ := ho
  subst ho'
  clear ho
  have h0 : (m == 0) = false := beq_eq_false_iff_ne.2 (by omega)
  have h00 : m ≠ 0 := by omega
  have hw : IntKind.i64.wrap (n.tmod m) = n.tmod m := IntWalk.i64_in _ hb
  go_simp
  exact hK
theorem d_cv8 (x : Nat) {n : Int} (ho : o.op = .convert 3 5 (.tmp x)) (hx : a.tmps[x]?.getD undef = .int .i64 n) (hb : 0 ≤ n ∧ n ≤ 255) (hK : K (a.put o.dst (.int .u8 n)) w) : Oper.wp Tryd.prog o a w K Q := by
  obtain ⟨dst, op, type, pos, after, guard⟩ := o
  have ho' : op = _ := ho
  subst ho'
  clear ho
  have hw : IntKind.u8.wrap n = n := IntWalk.u8_in _ hb
  go_simp
  exact hK
theorem d_sti (x y : Nat) {g q : Nat} {n : Int} (ho : o.op = .store 3 (.tmp x) (.tmp y)) (hd : o.dst = none) (hx : a.tmps[x]?.getD undef = .pointer (some ⟨g, q, none⟩)) (hy : a.tmps[y]?.getD undef = .int .i64 n) {u : Value} (hc : w.cell? ⟨g, q, none⟩ = some u) (hf : w.frozen? ⟨g, q, none⟩ = false) (hK : K a (w.setCell ⟨g, q, none⟩ (.int .i64 n))) : Oper.wp Tryd.prog o a w K Q := by
  obtain ⟨dst, op, type, pos, after, guard⟩ := o
  have ho' : op = _ := ho
  subst ho'
  clear ho
  have hd' : dst = none := hd
  subst hd'
  clear hd
  go_simp
  exact hK
theorem d_stl (x y : Nat) {g q : Nat} {n : Int} (ho : o.op = .store 2 (.tmp x) (.tmp y)) (hd : o.dst = none) (hx : a.tmps[x]?.getD undef = .pointer (some ⟨g, q, none⟩)) (hy : a.tmps[y]?.getD undef = .int .i64 n) {u : Value} (hc : w.cell? ⟨g, q, none⟩ = some u) (hf : w.frozen? ⟨g, q, none⟩ = false) (hK : K a (w.setCell ⟨g, q, none⟩ (.int .i64 n))) : Oper.wp Tryd.prog o a w K Q := by
  obtain ⟨dst, op, type, pos, after, guard⟩ := o
  have ho' : op = _ := ho
  subst ho'
  clear ho
  have hd' : dst = none := hd
  subst hd'
  clear hd
  go_simp
  exact hK
end
theorem RdM.drew' {w0 w : World} {gr gc g4 g7 : Nat} {S : ByteArray} {q : Cd} {e : Ev} {x : Nat × Int} (h : RdM w0 gr gc g4 g7 S q e x w) : RdM w0 gr gc g4 g7 S q e x w.drew := ⟨h.b.below ((Below.refl _ _).drew), h.ev.below ((Below.refl _ _).drew), h.n5⟩
noncomputable def rgRd2_ops : Array Oper := opsW Tryd.f21 2
def rgRd2_D : List (Option Nat) := [some 23, some 24, some 25, some 26, some 27, some 28, some 29, some 30, some 31, some 32, some 33, some 34, some 35, some 36, some 37, some 38, some 39, some 40, some 41, some 42, some 43, some 44, some 45, some 46, some 47, some 7, none]
set_option maxRecDepth 100000 in
set_option maxHeartbeats 4000000 in
theorem rgRd2 {id : Nat} {ops : Array Oper} (hops : ops = rgRd2_ops) (T0 : Array Value) (hsz : 48 ≤ T0.size) (W : World) (w0 : World) (gr gc g4 : Nat) (S : ByteArray) (q : Cd) (x : Nat × Int) (z : Int) (hq : CdOk q) (hz : 0 ≤ z ∧ z ≤ 13 * q.T - 1) (hb : RdB w0 gr gc g4 S q x W) (h0 : T0[0]? = some (.pointer (some ⟨gc, 0, none⟩))) (h6 : T0[6]? = some (.int .i64 z)) {Q : Exit → Act → World → Prop}
    (hend : ∀ w : World, RdB w0 gr gc g4 S q x w ∧ w.heap.size = W.heap.size + 1 ∧ EvO w W.heap.size (⟨z.tdiv q.T + 1, (z.tmod q.T + q.last).tmod q.T, 0, 0, 0, 0, 0⟩) → Q .normal ⟨putAll T0 [23, 24, 25, 26, 27, 28, 29, 30, 31, 32, 33, 34, 35, 36, 37, 38, 39, 40, 41, 42, 43, 44, 45, 46, 47, 7] [.int .i64 z, .pointer (some ⟨gc, 0, none⟩), .pointer (some ⟨gc, 0, none⟩), .pointer (some ⟨gc, 0, none⟩), .int .i64 q.T, .int .i64 (z.tdiv q.T), .int .i64 (z.tdiv q.T + 1), .int .u8 (z.tdiv q.T + 1), .int .i64 z, .pointer (some ⟨gc, 0, none⟩), .pointer (some ⟨gc, 0, none⟩), .pointer (some ⟨gc, 0, none⟩), .int .i64 q.T, .int .i64 (z.tmod q.T), .pointer (some ⟨gc, 0, none⟩), .pointer (some ⟨gc, 0, none⟩), .pointer (some ⟨gc, 3, none⟩), .int .i64 q.last, .int .i64 (z.tmod q.T + q.last), .pointer (some ⟨gc, 0, none⟩), .pointer (some ⟨gc, 0, none⟩), .pointer (some ⟨gc, 0, none⟩), .int .i64 q.T, .int .i64 ((z.tmod q.T + q.last).tmod q.T), evV ⟨z.tdiv q.T + 1, (z.tmod q.T + q.last).tmod q.T, 0, 0, 0, 0, 0⟩, .pointer (some ⟨W.heap.size, 0, none⟩)], []⟩ w) : (Code.region id ops true).wp Tryd.prog Q ⟨T0, []⟩ W := by
  subst hops
  have hos : rgRd2_ops.size = 27 := by kernel_rfl
  have hga : (List.range 27).all (fun i => match rgRd2_ops[i]? with | some o => o.guard == ([none, none, none, none, none, none, none, none, none, none, none, none, none, none, none, none, none, none, none, none, none, none, none, none, none, none, none] : List (Option (Nat × Bool))).getD i none | none => false) = true := by kernel_rfl
  have hds : ((pairsS rgRd2_D ([.int .i64 z, .pointer (some ⟨gc, 0, none⟩), .pointer (some ⟨gc, 0, none⟩), .pointer (some ⟨gc, 0, none⟩), .int .i64 q.T, .int .i64 (z.tdiv q.T), .int .i64 (z.tdiv q.T + 1), .int .u8 (z.tdiv q.T + 1), .int .i64 z, .pointer (some ⟨gc, 0, none⟩), .pointer (some ⟨gc, 0, none⟩), .pointer (some ⟨gc, 0, none⟩), .int .i64 q.T, .int .i64 (z.tmod q.T), .pointer (some ⟨gc, 0, none⟩), .pointer (some ⟨gc, 0, none⟩), .pointer (some ⟨gc, 3, none⟩), .int .i64 q.last, .int .i64 (z.tmod q.T + q.last), .pointer (some ⟨gc, 0, none⟩), .pointer (some ⟨gc, 0, none⟩), .pointer (some ⟨gc, 0, none⟩), .int .i64 q.T, .int .i64 ((z.tmod q.T + q.last).tmod q.T), evV ⟨z.tdiv q.T + 1, (z.tmod q.T + q.last).tmod q.T, 0, 0, 0, 0, 0⟩, .pointer (some ⟨W.heap.size, 0, none⟩), undef] : List Value)).map (·.1)) = [23, 24, 25, 26, 27, 28, 29, 30, 31, 32, 33, 34, 35, 36, 37, 38, 39, 40, 41, 42, 43, 44, 45, 46, 47, 7] := rfl
  refine wp_region_valsN ([.int .i64 z, .pointer (some ⟨gc, 0, none⟩), .pointer (some ⟨gc, 0, none⟩), .pointer (some ⟨gc, 0, none⟩), .int .i64 q.T, .int .i64 (z.tdiv q.T), .int .i64 (z.tdiv q.T + 1), .int .u8 (z.tdiv q.T + 1), .int .i64 z, .pointer (some ⟨gc, 0, none⟩), .pointer (some ⟨gc, 0, none⟩), .pointer (some ⟨gc, 0, none⟩), .int .i64 q.T, .int .i64 (z.tmod q.T), .pointer (some ⟨gc, 0, none⟩), .pointer (some ⟨gc, 0, none⟩), .pointer (some ⟨gc, 3, none⟩), .int .i64 q.last, .int .i64 (z.tmod q.T + q.last), .pointer (some ⟨gc, 0, none⟩), .pointer (some ⟨gc, 0, none⟩), .pointer (some ⟨gc, 0, none⟩), .int .i64 q.T, .int .i64 ((z.tmod q.T + q.last).tmod q.T), evV ⟨z.tdiv q.T + 1, (z.tmod q.T + q.last).tmod q.T, 0, 0, 0, 0, 0⟩, .pointer (some ⟨W.heap.size, 0, none⟩), undef] : List Value) [true, true, true, true, true, true, true, true, true, true, true, true, true, true, true, true, true, true, true, true, true, true, true, true, true, true, true] rgRd2_D (fun don w => RdB w0 gr gc g4 S q x w ∧ (don 26 = true → don 25 = true) ∧ (if don 25 = true then w.heap.size = W.heap.size + 1 ∧ EvO w W.heap.size (if don 26 = true then ⟨z.tdiv q.T + 1, (z.tmod q.T + q.last).tmod q.T, 0, 0, 0, 0, 0⟩ else ev0) else w.heap.size = W.heap.size)) W T0 (by rw [hds]; decide) (fun x hx => ?_) (by kernel_rfl) (by kernel_rfl) (fun i o j want ho hg => ?_) (fun i hi hon => ?_) (fun i hi hon don w hM => ?_) (⟨hb.below ((Below.refl _ _).drew), fun h => h, rfl⟩) ?_ ?_
  · rw [hds] at hx
    have hall : (([23, 24, 25, 26, 27, 28, 29, 30, 31, 32, 33, 34, 35, 36, 37, 38, 39, 40, 41, 42, 43, 44, 45, 46, 47, 7] : List Nat).all fun d => decide (d < 48)) = true := by decide
    have := List.all_eq_true.1 hall x hx
    simp only [decide_eq_true_eq] at this
    omega
  · have hi : i < 27 := by rw [← hos]; exact (Array.getElem?_eq_some_iff.1 ho).1
    have h1 := List.all_eq_true.1 hga i (by simpa using hi)
    rw [ho] at h1
    simp only [hg, beq_iff_eq] at h1
    match i, hi with
    | 0, _ => cases h1
    | 1, _ => cases h1
    | 2, _ => cases h1
    | 3, _ => cases h1
    | 4, _ => cases h1
    | 5, _ => cases h1
    | 6, _ => cases h1
    | 7, _ => cases h1
    | 8, _ => cases h1
    | 9, _ => cases h1
    | 10, _ => cases h1
    | 11, _ => cases h1
    | 12, _ => cases h1
    | 13, _ => cases h1
    | 14, _ => cases h1
    | 15, _ => cases h1
    | 16, _ => cases h1
    | 17, _ => cases h1
    | 18, _ => cases h1
    | 19, _ => cases h1
    | 20, _ => cases h1
    | 21, _ => cases h1
    | 22, _ => cases h1
    | 23, _ => cases h1
    | 24, _ => cases h1
    | 25, _ => cases h1
    | 26, _ => cases h1
    | i + 27, h => exact absurd (show i + 27 < 27 from h) (by omega)
  · match i, hi with
    | 0, _ => cases hon
    | 1, _ => cases hon
    | 2, _ => cases hon
    | 3, _ => cases hon
    | 4, _ => cases hon
    | 5, _ => cases hon
    | 6, _ => cases hon
    | 7, _ => cases hon
    | 8, _ => cases hon
    | 9, _ => cases hon
    | 10, _ => cases hon
    | 11, _ => cases hon
    | 12, _ => cases hon
    | 13, _ => cases hon
    | 14, _ => cases hon
    | 15, _ => cases hon
    | 16, _ => cases hon
    | 17, _ => cases hon
    | 18, _ => cases hon
    | 19, _ => cases hon
    | 20, _ => cases hon
    | 21, _ => cases hon
    | 22, _ => cases hon
    | 23, _ => cases hon
    | 24, _ => cases hon
    | 25, _ => cases hon
    | 26, _ => cases hon
    | i + 27, h => exact absurd (show i + 27 < 27 from h) (by omega)
  · match i, hi with
    | 0, _ => cases hon
    | 1, _ => cases hon
    | 2, _ => cases hon
    | 3, _ => cases hon
    | 4, _ => cases hon
    | 5, _ => cases hon
    | 6, _ => cases hon
    | 7, _ => cases hon
    | 8, _ => cases hon
    | 9, _ => cases hon
    | 10, _ => cases hon
    | 11, _ => cases hon
    | 12, _ => cases hon
    | 13, _ => cases hon
    | 14, _ => cases hon
    | 15, _ => cases hon
    | 16, _ => cases hon
    | 17, _ => cases hon
    | 18, _ => cases hon
    | 19, _ => cases hon
    | 20, _ => cases hon
    | 21, _ => cases hon
    | 22, _ => cases hon
    | 23, _ => cases hon
    | 24, _ => cases hon
    | 25, _ => cases hon
    | 26, _ => cases hon
    | i + 27, h => exact absurd (show i + 27 < 27 from h) (by omega)
  · intro i oo ho hi hon don a w hT hU hdi hM K hK
    rw [hds] at hT
    have hT0 : ∀ t v, t ∉ ([23, 24, 25, 26, 27, 28, 29, 30, 31, 32, 33, 34, 35, 36, 37, 38, 39, 40, 41, 42, 43, 44, 45, 46, 47, 7] : List Nat) → T0[t]? = some v → a.tmps[t]?.getD undef = v := fun t v ht hv => by rw [hT t ht, hv]; rfl
    match i, hi with
    | 0, _ => exact v_move 6 (opAtW ho (by kernel_rfl)) (hT0 6 _ (by decide) h6) (hK w hM)
    | 1, _ => exact v_move 0 (opAtW ho (by kernel_rfl)) (hT0 0 _ (by decide) h0) (hK w hM)
    | 2, _ =>
      exact d_nil 24 (opAtW ho (by kernel_rfl)) ((hU 1 (by kernel_rfl)).2 24 rfl) (hK w hM)
    | 3, _ =>
      exact d_c0 25 (opAtW ho (by kernel_rfl)) ((hU 2 (by kernel_rfl)).2 25 rfl) (hK w hM)
    | 4, _ =>
      exact d_ldi 26 (opAtW ho (by kernel_rfl)) ((hU 3 (by kernel_rfl)).2 26 rfl) ((hM.1.cd).cT) (hK w hM)
    | 5, _ =>
      exact d_quo 23 27 (opAtW ho (by kernel_rfl)) ((hU 0 (by kernel_rfl)).2 23 rfl) ((hU 4 (by kernel_rfl)).2 27 rfl) (by have := hq.T0; omega) (by have := div13 hz.1 hz.2 (by have := hq.T0; omega); omega) (hK w hM)
    | 6, _ =>
      exact d_addc 28 (opAtW ho (by kernel_rfl)) ((hU 5 (by kernel_rfl)).2 28 rfl) (by have := div13 hz.1 hz.2 (by have := hq.T0; omega); omega) (hK w hM)
    | 7, _ =>
      exact d_cv8 29 (opAtW ho (by kernel_rfl)) ((hU 6 (by kernel_rfl)).2 29 rfl) (by have := div13 hz.1 hz.2 (by have := hq.T0; omega); omega) (hK w hM)
    | 8, _ => exact v_move 6 (opAtW ho (by kernel_rfl)) (hT0 6 _ (by decide) h6) (hK w hM)
    | 9, _ => exact v_move 0 (opAtW ho (by kernel_rfl)) (hT0 0 _ (by decide) h0) (hK w hM)
    | 10, _ =>
      exact d_nil 32 (opAtW ho (by kernel_rfl)) ((hU 9 (by kernel_rfl)).2 32 rfl) (hK w hM)
    | 11, _ =>
      exact d_c0 33 (opAtW ho (by kernel_rfl)) ((hU 10 (by kernel_rfl)).2 33 rfl) (hK w hM)
    | 12, _ =>
      exact d_ldi 34 (opAtW ho (by kernel_rfl)) ((hU 11 (by kernel_rfl)).2 34 rfl) ((hM.1.cd).cT) (hK w hM)
    | 13, _ =>
      exact d_rem 31 35 (opAtW ho (by kernel_rfl)) ((hU 8 (by kernel_rfl)).2 31 rfl) ((hU 12 (by kernel_rfl)).2 35 rfl) (by have := hq.T0; omega) (by have := modT hz.1 (show 1 ≤ q.T by have := hq.T0; omega); have := hq.T1; omega) (hK w hM)
    | 14, _ => exact v_move 0 (opAtW ho (by kernel_rfl)) (hT0 0 _ (by decide) h0) (hK w hM)
    | 15, _ =>
      exact d_nil 37 (opAtW ho (by kernel_rfl)) ((hU 14 (by kernel_rfl)).2 37 rfl) (hK w hM)
    | 16, _ =>
      exact d_c3 38 (opAtW ho (by kernel_rfl)) ((hU 15 (by kernel_rfl)).2 38 rfl) (hK w hM)
    | 17, _ =>
      exact d_ldi 39 (opAtW ho (by kernel_rfl)) ((hU 16 (by kernel_rfl)).2 39 rfl) ((hM.1.cd).cl) (hK w hM)
    | 18, _ =>
      exact d_add 36 40 (opAtW ho (by kernel_rfl)) ((hU 13 (by kernel_rfl)).2 36 rfl) ((hU 17 (by kernel_rfl)).2 40 rfl) (by have := modT hz.1 (show 1 ≤ q.T by have := hq.T0; omega); have := hq.T1; have := hq.l0; have := hq.l1; omega) (hK w hM)
    | 19, _ => exact v_move 0 (opAtW ho (by kernel_rfl)) (hT0 0 _ (by decide) h0) (hK w hM)
    | 20, _ =>
      exact d_nil 42 (opAtW ho (by kernel_rfl)) ((hU 19 (by kernel_rfl)).2 42 rfl) (hK w hM)
    | 21, _ =>
      exact d_c0 43 (opAtW ho (by kernel_rfl)) ((hU 20 (by kernel_rfl)).2 43 rfl) (hK w hM)
    | 22, _ =>
      exact d_ldi 44 (opAtW ho (by kernel_rfl)) ((hU 21 (by kernel_rfl)).2 44 rfl) ((hM.1.cd).cT) (hK w hM)
    | 23, _ =>
      exact d_rem 41 45 (opAtW ho (by kernel_rfl)) ((hU 18 (by kernel_rfl)).2 41 rfl) ((hU 22 (by kernel_rfl)).2 45 rfl) (by have := hq.T0; omega) (by have h1 := modT hz.1 (show 1 ≤ q.T by have := hq.T0; omega); have := modT (show 0 ≤ z.tmod q.T + q.last by have := hq.l0; omega) (show 1 ≤ q.T by have := hq.T0; omega); have := hq.T1; omega) (hK w hM)
    | 24, _ =>
      have x30 : a.tmps[30]?.getD undef = .int .u8 (z.tdiv q.T + 1) := ((hU 7 (by kernel_rfl)).2 30 rfl)
      have x46 : a.tmps[46]?.getD undef = .int .i64 ((z.tmod q.T + q.last).tmod q.T) := ((hU 23 (by kernel_rfl)).2 46 rfl)
      obtain ⟨dst, op, type, pos, after, guard⟩ := oo
      have ho' : op = .build 46 #[(0, .tmp 30), (1, .tmp 46)] := (opAtW ho (by kernel_rfl))
      subst ho'
      clear ho hT hU hT0
      go_simp
      exact hK w hM
    | 25, _ =>
      obtain ⟨m1, m2, m3⟩ := hM
      rw [if_neg (by rw [hdi]; decide)] at m3
      have h26 : don 26 = false := by
        cases h : don 26 with
        | false => rfl
        | true => exact absurd (m2 h) (by rw [hdi]; decide)
      obtain ⟨dst, op, type, pos, after, guard⟩ := oo
      have ho' : op = .alloc 46 := (opAtW ho (by kernel_rfl))
      subst ho'
      clear ho hT hU hT0
      go_simp
      refine hK (w.alloc (.cells (evC ev0) 46)) ⟨m1.below ((Below.refl _ _).alloc (Nat.le_refl _) _), fun _ => rfl, ?_⟩
      rw [if_pos (by rfl)]
      have h26' : ((26 : Nat) == 25 || don 26) = false := by rw [h26]; rfl
      refine ⟨?_, ?_⟩
      · rw [← m3]; exact Array.size_push _
      · rw [if_neg (by show ¬ ((26 == 25 || don 26) = true); rw [h26']; decide), ← m3]; exact heap_alloc_new w _
    | 26, _ =>
      obtain ⟨m1, m2, m3⟩ := hM
      have h25 : don 25 = true := (hU 25 (by kernel_rfl)).1
      rw [if_pos h25, hdi] at m3
      obtain ⟨m3, m4⟩ := m3
      have hd : oo.dst = none := dstW ho (by kernel_rfl)
      have x7 : a.tmps[7]?.getD undef = .pointer (some ⟨W.heap.size, 0, none⟩) := ((hU 25 (by kernel_rfl)).2 7 rfl)
      have x47 : a.tmps[47]?.getD undef = .agg (evC ⟨z.tdiv q.T + 1, (z.tmod q.T + q.last).tmod q.T, 0, 0, 0, 0, 0⟩) := ((hU 24 (by kernel_rfl)).2 47 rfl)
      obtain ⟨q1, q2⟩ := row_set (cs := evC ⟨z.tdiv q.T + 1, (z.tmod q.T + q.last).tmod q.T, 0, 0, 0, 0, 0⟩) m4
      have hR : RdB w0 gr gc g4 S q x (w.setRow W.heap.size (evC ⟨z.tdiv q.T + 1, (z.tmod q.T + q.last).tmod q.T, 0, 0, 0, 0, 0⟩)) := by
        have n5 := m1.rs.lt
        have n1 := m1.n1; have n2 := m1.n2; have n4 := m1.n4; have k1 := m1.kp.size; have n6 := hb.rs.lt
        have hbk : ∀ j, j < w.heap.size → j ≠ W.heap.size → (w.setRow W.heap.size (evC ⟨z.tdiv q.T + 1, (z.tmod q.T + q.last).tmod q.T, 0, 0, 0, 0, 0⟩)).heap[j]? = w.heap[j]? := fun j h1 h2 => q2.block j h1 h2 (by simp)
        have g1 := hb.kp.size
        exact ⟨⟨(hbk gr (by omega) (by omega)).trans m1.rd.1, m1.rd.2⟩, m1.cd.same (hbk gc (by omega) (by omega)), m1.rs.same (hbk g4 n5 (by omega)), ⟨q2.os.trans m1.kp.os, q2.tape.trans m1.kp.tape, q2.output.trans m1.kp.output, Nat.le_trans m1.kp.size q2.size, fun j h1 h2 h3 => (hbk j (by omega) (by omega)).trans (m1.kp.block j h1 h2 h3)⟩, n1, n2, m1.n3, n4⟩
      refine wp_store_row 46 (.tmp 7) (.tmp 47) (opAtW ho (by kernel_rfl)) W.heap.size (evC ⟨z.tdiv q.T + 1, (z.tmod q.T + q.last).tmod q.T, 0, 0, 0, 0, 0⟩) (by simpa [Act.eval, Array.getD_eq_getD_getElem?] using x7) (by simpa [Act.eval, Array.getD_eq_getD_getElem?] using x47) 46 _ m4 (by kernel_rfl) rfl (by simp [evC, Value.oneCell']) ?_
      refine hK _ ⟨hR, fun _ => by show (25 == 26 || don 25) = true; rw [h25]; rfl, ?_⟩
      rw [if_pos (by show (25 == 26 || don 25) = true; rw [h25]; rfl), if_pos (by rfl)]
      exact ⟨by rw [← m3]; simp [World.setRow], q1⟩
    | i + 27, h => exact absurd (show i + 27 < 27 from h) (by omega)
  · intro w hM
    exact hend w (⟨hM.1, hM.2.2⟩)

noncomputable def rgRd6_ops : Array Oper := opsW Tryd.f21 6
def rgRd6_D : List (Option Nat) := [some 55, some 56, some 57, some 58, some 59, some 60, some 61, some 62, some 63, some 64, some 65, some 66, some 67, none]
set_option maxRecDepth 100000 in
set_option maxHeartbeats 4000000 in
theorem rgRd6 {id : Nat} {ops : Array Oper} (hops : ops = rgRd6_ops) (T0 : Array Value) (hsz : 68 ≤ T0.size) (W : World) (w0 : World) (gr gc g4 g7 : Nat) (S : ByteArray) (q : Cd) (e e' : Ev) (x y : Nat × Int) (z : Int) (hq : CdOk q) (hb : RdM w0 gr gc g4 g7 S q e x W) (hz : 0 ≤ z ∧ z ≤ 1099511627776 - q.clk) (he' : e' = { e with v := q.clk + z }) (HT : ∀ w, RRd w gr S x.1 x.2 → Calls Tryd.prog 43 #[.pointer (some ⟨gr, 0, none⟩), .int .i64 (1099511627776 - q.clk)] w fun r w' => r = .returned (.int .i64 z) ∧ RRd w' gr S y.1 y.2 ∧ Kp gr none w w') (h0 : T0[0]? = some (.pointer (some ⟨gc, 0, none⟩))) (h1 : T0[1]? = some (.pointer (some ⟨gr, 0, none⟩))) (h7 : T0[7]? = some (.pointer (some ⟨g7, 0, none⟩))) {Q : Exit → Act → World → Prop}
    (hend : ∀ w : World, RdM w0 gr gc g4 g7 S q e' y w → Q .normal ⟨putAll T0 [55, 56, 57, 58, 59, 60, 61, 62, 63, 64, 65, 66, 67] [.pointer (some ⟨gc, 0, none⟩), .pointer (some ⟨gc, 0, none⟩), .pointer (some ⟨gc, 4, none⟩), .int .i64 q.clk, .pointer (some ⟨gr, 0, none⟩), .pointer (some ⟨gc, 0, none⟩), .pointer (some ⟨gc, 0, none⟩), .pointer (some ⟨gc, 4, none⟩), .int .i64 q.clk, .int .i64 (1099511627776 - q.clk), .int .i64 z, .int .i64 (q.clk + z), .pointer (some ⟨g7, 4, none⟩)], []⟩ w) : (Code.region id ops true).wp Tryd.prog Q ⟨T0, []⟩ W := by
  subst hops
  have hos : rgRd6_ops.size = 14 := by kernel_rfl
  have hga : (List.range 14).all (fun i => match rgRd6_ops[i]? with | some o => o.guard == ([none, none, none, none, none, none, none, none, none, none, none, none, none, none] : List (Option (Nat × Bool))).getD i none | none => false) = true := by kernel_rfl
  have hds : ((pairsS rgRd6_D ([.pointer (some ⟨gc, 0, none⟩), .pointer (some ⟨gc, 0, none⟩), .pointer (some ⟨gc, 4, none⟩), .int .i64 q.clk, .pointer (some ⟨gr, 0, none⟩), .pointer (some ⟨gc, 0, none⟩), .pointer (some ⟨gc, 0, none⟩), .pointer (some ⟨gc, 4, none⟩), .int .i64 q.clk, .int .i64 (1099511627776 - q.clk), .int .i64 z, .int .i64 (q.clk + z), .pointer (some ⟨g7, 4, none⟩), undef] : List Value)).map (·.1)) = [55, 56, 57, 58, 59, 60, 61, 62, 63, 64, 65, 66, 67] := rfl
  refine wp_region_valsN ([.pointer (some ⟨gc, 0, none⟩), .pointer (some ⟨gc, 0, none⟩), .pointer (some ⟨gc, 4, none⟩), .int .i64 q.clk, .pointer (some ⟨gr, 0, none⟩), .pointer (some ⟨gc, 0, none⟩), .pointer (some ⟨gc, 0, none⟩), .pointer (some ⟨gc, 4, none⟩), .int .i64 q.clk, .int .i64 (1099511627776 - q.clk), .int .i64 z, .int .i64 (q.clk + z), .pointer (some ⟨g7, 4, none⟩), undef] : List Value) [true, true, true, true, true, true, true, true, true, true, true, true, true, true] rgRd6_D (fun don w => RdM w0 gr gc g4 g7 S q (if don 13 = true then e' else e) (if don 10 = true then y else x) w) W T0 (by rw [hds]; decide) (fun x hx => ?_) (by kernel_rfl) (by kernel_rfl) (fun i o j want ho hg => ?_) (fun i hi hon => ?_) (fun i hi hon don w hM => ?_) (hb.drew') ?_ ?_
  · rw [hds] at hx
    have hall : (([55, 56, 57, 58, 59, 60, 61, 62, 63, 64, 65, 66, 67] : List Nat).all fun d => decide (d < 68)) = true := by decide
    have := List.all_eq_true.1 hall x hx
    simp only [decide_eq_true_eq] at this
    omega
  · have hi : i < 14 := by rw [← hos]; exact (Array.getElem?_eq_some_iff.1 ho).1
    have h1 := List.all_eq_true.1 hga i (by simpa using hi)
    rw [ho] at h1
    simp only [hg, beq_iff_eq] at h1
    match i, hi with
    | 0, _ => cases h1
    | 1, _ => cases h1
    | 2, _ => cases h1
    | 3, _ => cases h1
    | 4, _ => cases h1
    | 5, _ => cases h1
    | 6, _ => cases h1
    | 7, _ => cases h1
    | 8, _ => cases h1
    | 9, _ => cases h1
    | 10, _ => cases h1
    | 11, _ => cases h1
    | 12, _ => cases h1
    | 13, _ => cases h1
    | i + 14, h => exact absurd (show i + 14 < 14 from h) (by omega)
  · match i, hi with
    | 0, _ => cases hon
    | 1, _ => cases hon
    | 2, _ => cases hon
    | 3, _ => cases hon
    | 4, _ => cases hon
    | 5, _ => cases hon
    | 6, _ => cases hon
    | 7, _ => cases hon
    | 8, _ => cases hon
    | 9, _ => cases hon
    | 10, _ => cases hon
    | 11, _ => cases hon
    | 12, _ => cases hon
    | 13, _ => cases hon
    | i + 14, h => exact absurd (show i + 14 < 14 from h) (by omega)
  · match i, hi with
    | 0, _ => cases hon
    | 1, _ => cases hon
    | 2, _ => cases hon
    | 3, _ => cases hon
    | 4, _ => cases hon
    | 5, _ => cases hon
    | 6, _ => cases hon
    | 7, _ => cases hon
    | 8, _ => cases hon
    | 9, _ => cases hon
    | 10, _ => cases hon
    | 11, _ => cases hon
    | 12, _ => cases hon
    | 13, _ => cases hon
    | i + 14, h => exact absurd (show i + 14 < 14 from h) (by omega)
  · intro i oo ho hi hon don a w hT hU hdi hM K hK
    rw [hds] at hT
    have hT0 : ∀ t v, t ∉ ([55, 56, 57, 58, 59, 60, 61, 62, 63, 64, 65, 66, 67] : List Nat) → T0[t]? = some v → a.tmps[t]?.getD undef = v := fun t v ht hv => by rw [hT t ht, hv]; rfl
    match i, hi with
    | 0, _ => exact v_move 0 (opAtW ho (by kernel_rfl)) (hT0 0 _ (by decide) h0) (hK w hM)
    | 1, _ =>
      exact d_nil 55 (opAtW ho (by kernel_rfl)) ((hU 0 (by kernel_rfl)).2 55 rfl) (hK w hM)
    | 2, _ =>
      exact d_c4 56 (opAtW ho (by kernel_rfl)) ((hU 1 (by kernel_rfl)).2 56 rfl) (hK w hM)
    | 3, _ =>
      exact d_ldi 57 (opAtW ho (by kernel_rfl)) ((hU 2 (by kernel_rfl)).2 57 rfl) ((hM.b.cd).cc) (hK w hM)
    | 4, _ => exact v_move 1 (opAtW ho (by kernel_rfl)) (hT0 1 _ (by decide) h1) (hK w hM)
    | 5, _ => exact v_move 0 (opAtW ho (by kernel_rfl)) (hT0 0 _ (by decide) h0) (hK w hM)
    | 6, _ =>
      exact d_nil 60 (opAtW ho (by kernel_rfl)) ((hU 5 (by kernel_rfl)).2 60 rfl) (hK w hM)
    | 7, _ =>
      exact d_c4 61 (opAtW ho (by kernel_rfl)) ((hU 6 (by kernel_rfl)).2 61 rfl) (hK w hM)
    | 8, _ =>
      exact d_ldi 62 (opAtW ho (by kernel_rfl)) ((hU 7 (by kernel_rfl)).2 62 rfl) ((hM.b.cd).cc) (hK w hM)
    | 9, _ =>
      exact d_subk 63 (opAtW ho (by kernel_rfl)) ((hU 8 (by kernel_rfl)).2 63 rfl) (by have := hq.c0; have := hq.c1; omega) (hK w hM)
    | 10, _ =>
      have hMx : RdM w0 gr gc g4 g7 S q (if don 13 = true then e' else e) x w := by
        have h := hM
        simp only [hdi, Bool.false_eq_true, if_false] at h
        exact h
      have xr : a.tmps[59]?.getD undef = .pointer (some ⟨gr, 0, none⟩) := ((hU 4 (by kernel_rfl)).2 59 rfl)
      have xb : a.tmps[64]?.getD undef = .int .i64 (1099511627776 - q.clk) := ((hU 9 (by kernel_rfl)).2 64 rfl)
      obtain ⟨dst, op, type, pos, after, guard⟩ := oo
      have ho' : op = .call { callee := .value (.func 43), args := #[.tmp 59, .tmp 64], argTypes := #[55, 3] } := (opAtW ho (by kernel_rfl))
      subst ho'
      clear ho hT hU hT0
      have hfun := Tryd.func43
      have HTT := Lib.hid (HT w hMx.b.rd)
      go_simp
      refine HTT.out.mono ?_
      rintro _ w' ⟨rfl, h1, h2⟩
      exact hK w' (show RdM w0 gr gc g4 g7 S q (if don 13 = true then e' else e) y w' from hMx.told h1 h2)
    | 11, _ =>
      exact d_add 58 65 (opAtW ho (by kernel_rfl)) ((hU 3 (by kernel_rfl)).2 58 rfl) ((hU 10 (by kernel_rfl)).2 65 rfl) (by have := hq.c0; have := hq.c1; omega) (hK w hM)
    | 12, _ =>
      exact d_e4 7 (opAtW ho (by kernel_rfl)) (hT0 7 _ (by decide) h7) (hK w hM)
    | 13, _ =>
      have h10 : don 10 = true := (hU 10 (by kernel_rfl)).1
      have hMx : RdM w0 gr gc g4 g7 S q e y w := by
        have h := hM
        simp only [hdi, h10, Bool.false_eq_true, if_false, if_true] at h
        exact h
      have xx : a.tmps[67]?.getD undef = .pointer (some ⟨g7, 4, none⟩) := ((hU 12 (by kernel_rfl)).2 67 rfl)
      have xy : a.tmps[66]?.getD undef = .int .i64 (q.clk + z) := ((hU 11 (by kernel_rfl)).2 66 rfl)
      exact d_sti 67 66 (opAtW ho (by kernel_rfl)) (dstW ho (by kernel_rfl)) xx xy hMx.ev.c4 (hMx.ev.fr 4) (by
        have hd : oo.dst = none := dstW ho (by kernel_rfl)
        have h9 := hK (w.setCell ⟨g7, 4, none⟩ (.int .i64 (q.clk + z))) (by
          have h8 : RdM w0 gr gc g4 g7 S q e' y (w.setCell ⟨g7, 4, none⟩ (.int .i64 (q.clk + z))) := hMx.set 4 (.int .i64 (q.clk + z)) (by rw [he']; rfl)
          show RdM w0 gr gc g4 g7 S q e' (if don 10 = true then y else x) _
          rw [if_pos h10]
          exact h8)
        rw [hd] at h9
        exact h9)
    | i + 14, h => exact absurd (show i + 14 < 14 from h) (by omega)
  · intro w hM
    exact hend w (hM)

noncomputable def rgRd9_ops : Array Oper := opsW Tryd.f21 9
def rgRd9_D : List (Option Nat) := [some 78, some 79, some 80, some 81, some 82, some 83, some 84, some 85, some 86, some 87, some 88, some 89, some 90, some 91, some 92, some 93, some 94, some 95, none]
set_option maxRecDepth 100000 in
set_option maxHeartbeats 4000000 in
theorem rgRd9 {id : Nat} {ops : Array Oper} (hops : ops = rgRd9_ops) (T0 : Array Value) (hsz : 96 ≤ T0.size) (W : World) (w0 : World) (gr gc g4 g7 : Nat) (S : ByteArray) (q : Cd) (e e' : Ev) (x y : Nat × Int) (z : Int) (hq : CdOk q) (hb : RdM w0 gr gc g4 g7 S q e x W) (th : Nat) (hth : th < 6) (hth1 : e.th = (th : Int)) (hth2 : e'.th = (th : Int)) (hz : 0 ≤ z ∧ z ≤ q.bg th) (hbg : q.bg th ≤ 4611686018427387904) (he' : e' = { e with v := q.bg th - z }) (HT : ∀ w, RRd w gr S x.1 x.2 → Calls Tryd.prog 43 #[.pointer (some ⟨gr, 0, none⟩), .int .i64 (q.bg th)] w fun r w' => r = .returned (.int .i64 z) ∧ RRd w' gr S y.1 y.2 ∧ Kp gr none w w') (h0 : T0[0]? = some (.pointer (some ⟨gc, 0, none⟩))) (h1 : T0[1]? = some (.pointer (some ⟨gr, 0, none⟩))) (h7 : T0[7]? = some (.pointer (some ⟨g7, 0, none⟩))) {Q : Exit → Act → World → Prop}
    (hend : ∀ w : World, RdM w0 gr gc g4 g7 S q e' y w → Q .normal ⟨putAll T0 [78, 79, 80, 81, 82, 83, 84, 85, 86, 87, 88, 89, 90, 91, 92, 93, 94, 95] [.pointer (some ⟨gc, 0, none⟩), .pointer (some ⟨g7, 1, none⟩), .int .i64 (th : Int), .pointer (some ⟨gc, 0, none⟩), .pointer (some ⟨gc, 5, none⟩), .pointer (some ⟨gc, 5 + th, none⟩), .int .i64 (q.bg th), .pointer (some ⟨gr, 0, none⟩), .pointer (some ⟨gc, 0, none⟩), .pointer (some ⟨g7, 1, none⟩), .int .i64 (th : Int), .pointer (some ⟨gc, 0, none⟩), .pointer (some ⟨gc, 5, none⟩), .pointer (some ⟨gc, 5 + th, none⟩), .int .i64 (q.bg th), .int .i64 z, .int .i64 (q.bg th - z), .pointer (some ⟨g7, 4, none⟩)], []⟩ w) : (Code.region id ops true).wp Tryd.prog Q ⟨T0, []⟩ W := by
  subst hops
  have hos : rgRd9_ops.size = 19 := by kernel_rfl
  have hga : (List.range 19).all (fun i => match rgRd9_ops[i]? with | some o => o.guard == ([none, none, none, none, none, none, none, none, none, none, none, none, none, none, none, none, none, none, none] : List (Option (Nat × Bool))).getD i none | none => false) = true := by kernel_rfl
  have hds : ((pairsS rgRd9_D ([.pointer (some ⟨gc, 0, none⟩), .pointer (some ⟨g7, 1, none⟩), .int .i64 (th : Int), .pointer (some ⟨gc, 0, none⟩), .pointer (some ⟨gc, 5, none⟩), .pointer (some ⟨gc, 5 + th, none⟩), .int .i64 (q.bg th), .pointer (some ⟨gr, 0, none⟩), .pointer (some ⟨gc, 0, none⟩), .pointer (some ⟨g7, 1, none⟩), .int .i64 (th : Int), .pointer (some ⟨gc, 0, none⟩), .pointer (some ⟨gc, 5, none⟩), .pointer (some ⟨gc, 5 + th, none⟩), .int .i64 (q.bg th), .int .i64 z, .int .i64 (q.bg th - z), .pointer (some ⟨g7, 4, none⟩), undef] : List Value)).map (·.1)) = [78, 79, 80, 81, 82, 83, 84, 85, 86, 87, 88, 89, 90, 91, 92, 93, 94, 95] := rfl
  refine wp_region_valsN ([.pointer (some ⟨gc, 0, none⟩), .pointer (some ⟨g7, 1, none⟩), .int .i64 (th : Int), .pointer (some ⟨gc, 0, none⟩), .pointer (some ⟨gc, 5, none⟩), .pointer (some ⟨gc, 5 + th, none⟩), .int .i64 (q.bg th), .pointer (some ⟨gr, 0, none⟩), .pointer (some ⟨gc, 0, none⟩), .pointer (some ⟨g7, 1, none⟩), .int .i64 (th : Int), .pointer (some ⟨gc, 0, none⟩), .pointer (some ⟨gc, 5, none⟩), .pointer (some ⟨gc, 5 + th, none⟩), .int .i64 (q.bg th), .int .i64 z, .int .i64 (q.bg th - z), .pointer (some ⟨g7, 4, none⟩), undef] : List Value) [true, true, true, true, true, true, true, true, true, true, true, true, true, true, true, true, true, true, true] rgRd9_D (fun don w => RdM w0 gr gc g4 g7 S q (if don 18 = true then e' else e) (if don 15 = true then y else x) w) W T0 (by rw [hds]; decide) (fun x hx => ?_) (by kernel_rfl) (by kernel_rfl) (fun i o j want ho hg => ?_) (fun i hi hon => ?_) (fun i hi hon don w hM => ?_) (hb.drew') ?_ ?_
  · rw [hds] at hx
    have hall : (([78, 79, 80, 81, 82, 83, 84, 85, 86, 87, 88, 89, 90, 91, 92, 93, 94, 95] : List Nat).all fun d => decide (d < 96)) = true := by decide
    have := List.all_eq_true.1 hall x hx
    simp only [decide_eq_true_eq] at this
    omega
  · have hi : i < 19 := by rw [← hos]; exact (Array.getElem?_eq_some_iff.1 ho).1
    have h1 := List.all_eq_true.1 hga i (by simpa using hi)
    rw [ho] at h1
    simp only [hg, beq_iff_eq] at h1
    match i, hi with
    | 0, _ => cases h1
    | 1, _ => cases h1
    | 2, _ => cases h1
    | 3, _ => cases h1
    | 4, _ => cases h1
    | 5, _ => cases h1
    | 6, _ => cases h1
    | 7, _ => cases h1
    | 8, _ => cases h1
    | 9, _ => cases h1
    | 10, _ => cases h1
    | 11, _ => cases h1
    | 12, _ => cases h1
    | 13, _ => cases h1
    | 14, _ => cases h1
    | 15, _ => cases h1
    | 16, _ => cases h1
    | 17, _ => cases h1
    | 18, _ => cases h1
    | i + 19, h => exact absurd (show i + 19 < 19 from h) (by omega)
  · match i, hi with
    | 0, _ => cases hon
    | 1, _ => cases hon
    | 2, _ => cases hon
    | 3, _ => cases hon
    | 4, _ => cases hon
    | 5, _ => cases hon
    | 6, _ => cases hon
    | 7, _ => cases hon
    | 8, _ => cases hon
    | 9, _ => cases hon
    | 10, _ => cases hon
    | 11, _ => cases hon
    | 12, _ => cases hon
    | 13, _ => cases hon
    | 14, _ => cases hon
    | 15, _ => cases hon
    | 16, _ => cases hon
    | 17, _ => cases hon
    | 18, _ => cases hon
    | i + 19, h => exact absurd (show i + 19 < 19 from h) (by omega)
  · match i, hi with
    | 0, _ => cases hon
    | 1, _ => cases hon
    | 2, _ => cases hon
    | 3, _ => cases hon
    | 4, _ => cases hon
    | 5, _ => cases hon
    | 6, _ => cases hon
    | 7, _ => cases hon
    | 8, _ => cases hon
    | 9, _ => cases hon
    | 10, _ => cases hon
    | 11, _ => cases hon
    | 12, _ => cases hon
    | 13, _ => cases hon
    | 14, _ => cases hon
    | 15, _ => cases hon
    | 16, _ => cases hon
    | 17, _ => cases hon
    | 18, _ => cases hon
    | i + 19, h => exact absurd (show i + 19 < 19 from h) (by omega)
  · intro i oo ho hi hon don a w hT hU hdi hM K hK
    rw [hds] at hT
    have hT0 : ∀ t v, t ∉ ([78, 79, 80, 81, 82, 83, 84, 85, 86, 87, 88, 89, 90, 91, 92, 93, 94, 95] : List Nat) → T0[t]? = some v → a.tmps[t]?.getD undef = v := fun t v ht hv => by rw [hT t ht, hv]; rfl
    match i, hi with
    | 0, _ => exact v_move 0 (opAtW ho (by kernel_rfl)) (hT0 0 _ (by decide) h0) (hK w hM)
    | 1, _ =>
      exact d_e1 7 (opAtW ho (by kernel_rfl)) (hT0 7 _ (by decide) h7) (hK w hM)
    | 2, _ =>
      exact d_ldi 79 (opAtW ho (by kernel_rfl)) ((hU 1 (by kernel_rfl)).2 79 rfl) (by have h := hM.ev.c1; split at h <;> first | (rw [hth2] at h; exact h) | (rw [hth1] at h; exact h)) (hK w hM)
    | 3, _ =>
      exact d_nil 78 (opAtW ho (by kernel_rfl)) ((hU 0 (by kernel_rfl)).2 78 rfl) (hK w hM)
    | 4, _ =>
      exact d_c5 81 (opAtW ho (by kernel_rfl)) ((hU 3 (by kernel_rfl)).2 81 rfl) (hK w hM)
    | 5, _ =>
      exact d_ix6 82 80 (opAtW ho (by kernel_rfl)) ((hU 4 (by kernel_rfl)).2 82 rfl) ((hU 2 (by kernel_rfl)).2 80 rfl) hth (hK w hM)
    | 6, _ =>
      exact d_ldi 83 (opAtW ho (by kernel_rfl)) ((hU 5 (by kernel_rfl)).2 83 rfl) ((hM.b.cd).cbg hth) (hK w hM)
    | 7, _ => exact v_move 1 (opAtW ho (by kernel_rfl)) (hT0 1 _ (by decide) h1) (hK w hM)
    | 8, _ => exact v_move 0 (opAtW ho (by kernel_rfl)) (hT0 0 _ (by decide) h0) (hK w hM)
    | 9, _ =>
      exact d_e1 7 (opAtW ho (by kernel_rfl)) (hT0 7 _ (by decide) h7) (hK w hM)
    | 10, _ =>
      exact d_ldi 87 (opAtW ho (by kernel_rfl)) ((hU 9 (by kernel_rfl)).2 87 rfl) (by have h := hM.ev.c1; split at h <;> first | (rw [hth2] at h; exact h) | (rw [hth1] at h; exact h)) (hK w hM)
    | 11, _ =>
      exact d_nil 86 (opAtW ho (by kernel_rfl)) ((hU 8 (by kernel_rfl)).2 86 rfl) (hK w hM)
    | 12, _ =>
      exact d_c5 89 (opAtW ho (by kernel_rfl)) ((hU 11 (by kernel_rfl)).2 89 rfl) (hK w hM)
    | 13, _ =>
      exact d_ix6 90 88 (opAtW ho (by kernel_rfl)) ((hU 12 (by kernel_rfl)).2 90 rfl) ((hU 10 (by kernel_rfl)).2 88 rfl) hth (hK w hM)
    | 14, _ =>
      exact d_ldi 91 (opAtW ho (by kernel_rfl)) ((hU 13 (by kernel_rfl)).2 91 rfl) ((hM.b.cd).cbg hth) (hK w hM)
    | 15, _ =>
      have hMx : RdM w0 gr gc g4 g7 S q (if don 18 = true then e' else e) x w := by
        have h := hM
        simp only [hdi, Bool.false_eq_true, if_false] at h
        exact h
      have xr : a.tmps[85]?.getD undef = .pointer (some ⟨gr, 0, none⟩) := ((hU 7 (by kernel_rfl)).2 85 rfl)
      have xb : a.tmps[92]?.getD undef = .int .i64 (q.bg th) := ((hU 14 (by kernel_rfl)).2 92 rfl)
      obtain ⟨dst, op, type, pos, after, guard⟩ := oo
      have ho' : op = .call { callee := .value (.func 43), args := #[.tmp 85, .tmp 92], argTypes := #[55, 3] } := (opAtW ho (by kernel_rfl))
      subst ho'
      clear ho hT hU hT0
      have hfun := Tryd.func43
      have HTT := Lib.hid (HT w hMx.b.rd)
      go_simp
      refine HTT.out.mono ?_
      rintro _ w' ⟨rfl, h1, h2⟩
      exact hK w' (show RdM w0 gr gc g4 g7 S q (if don 18 = true then e' else e) y w' from hMx.told h1 h2)
    | 16, _ =>
      exact d_sub 84 93 (opAtW ho (by kernel_rfl)) ((hU 6 (by kernel_rfl)).2 84 rfl) ((hU 15 (by kernel_rfl)).2 93 rfl) (by omega) (hK w hM)
    | 17, _ =>
      exact d_e4 7 (opAtW ho (by kernel_rfl)) (hT0 7 _ (by decide) h7) (hK w hM)
    | 18, _ =>
      have h10 : don 15 = true := (hU 15 (by kernel_rfl)).1
      have hMx : RdM w0 gr gc g4 g7 S q e y w := by
        have h := hM
        simp only [hdi, h10, Bool.false_eq_true, if_false, if_true] at h
        exact h
      have xx : a.tmps[95]?.getD undef = .pointer (some ⟨g7, 4, none⟩) := ((hU 17 (by kernel_rfl)).2 95 rfl)
      have xy : a.tmps[94]?.getD undef = .int .i64 (q.bg th - z) := ((hU 16 (by kernel_rfl)).2 94 rfl)
      exact d_sti 95 94 (opAtW ho (by kernel_rfl)) (dstW ho (by kernel_rfl)) xx xy hMx.ev.c4 (hMx.ev.fr 4) (by
        have hd : oo.dst = none := dstW ho (by kernel_rfl)
        have h9 := hK (w.setCell ⟨g7, 4, none⟩ (.int .i64 (q.bg th - z))) (by
          have h8 : RdM w0 gr gc g4 g7 S q e' y (w.setCell ⟨g7, 4, none⟩ (.int .i64 (q.bg th - z))) := hMx.set 4 (.int .i64 (q.bg th - z)) (by rw [he']; rfl)
          show RdM w0 gr gc g4 g7 S q e' (if don 15 = true then y else x) _
          rw [if_pos h10]
          exact h8)
        rw [hd] at h9
        exact h9)
    | i + 19, h => exact absurd (show i + 19 < 19 from h) (by omega)
  · intro w hM
    exact hend w (hM)

noncomputable def rgRd14_ops : Array Oper := opsW Tryd.f21 14
def rgRd14_D : List (Option Nat) := [some 112, some 113, some 114, some 115, some 116, some 117, some 118, some 119, some 120, some 121, none]
set_option maxRecDepth 100000 in
set_option maxHeartbeats 4000000 in
theorem rgRd14 {id : Nat} {ops : Array Oper} (hops : ops = rgRd14_ops) (T0 : Array Value) (hsz : 122 ≤ T0.size) (W : World) (w0 : World) (gr gc g4 g7 : Nat) (S : ByteArray) (q : Cd) (e e' : Ev) (x y : Nat × Int) (z : Int) (hq : CdOk q) (hb : RdM w0 gr gc g4 g7 S q e x W) (pl : Nat) (hpl : pl < 32) (hpl1 : e.pl = (pl : Int)) (hpl2 : e'.pl = (pl : Int)) (he' : e' = { e with x := i64w (q.xs pl + z) }) (h0 : T0[0]? = some (.pointer (some ⟨gc, 0, none⟩))) (h7 : T0[7]? = some (.pointer (some ⟨g7, 0, none⟩))) (h8 : T0[8]? = some (.int .i64 z)) {Q : Exit → Act → World → Prop}
    (hend : ∀ w : World, RdM w0 gr gc g4 g7 S q e' x w → Q .normal ⟨putAll T0 [112, 113, 114, 115, 116, 117, 118, 119, 120, 121] [.pointer (some ⟨gc, 0, none⟩), .pointer (some ⟨g7, 3, none⟩), .int .i64 (pl : Int), .pointer (some ⟨gc, 0, none⟩), .pointer (some ⟨gc, 17, none⟩), .pointer (some ⟨gc, 17 + pl, none⟩), .int .i64 (q.xs pl), .int .i64 z, .int .i64 (i64w (q.xs pl + z)), .pointer (some ⟨g7, 5, none⟩)], []⟩ w) : (Code.region id ops true).wp Tryd.prog Q ⟨T0, []⟩ W := by
  subst hops
  have hos : rgRd14_ops.size = 11 := by kernel_rfl
  have hga : (List.range 11).all (fun i => match rgRd14_ops[i]? with | some o => o.guard == ([none, none, none, none, none, none, none, none, none, none, none] : List (Option (Nat × Bool))).getD i none | none => false) = true := by kernel_rfl
  have hds : ((pairsS rgRd14_D ([.pointer (some ⟨gc, 0, none⟩), .pointer (some ⟨g7, 3, none⟩), .int .i64 (pl : Int), .pointer (some ⟨gc, 0, none⟩), .pointer (some ⟨gc, 17, none⟩), .pointer (some ⟨gc, 17 + pl, none⟩), .int .i64 (q.xs pl), .int .i64 z, .int .i64 (i64w (q.xs pl + z)), .pointer (some ⟨g7, 5, none⟩), undef] : List Value)).map (·.1)) = [112, 113, 114, 115, 116, 117, 118, 119, 120, 121] := rfl
  refine wp_region_valsN ([.pointer (some ⟨gc, 0, none⟩), .pointer (some ⟨g7, 3, none⟩), .int .i64 (pl : Int), .pointer (some ⟨gc, 0, none⟩), .pointer (some ⟨gc, 17, none⟩), .pointer (some ⟨gc, 17 + pl, none⟩), .int .i64 (q.xs pl), .int .i64 z, .int .i64 (i64w (q.xs pl + z)), .pointer (some ⟨g7, 5, none⟩), undef] : List Value) [true, true, true, true, true, true, true, true, true, true, true] rgRd14_D (fun don w => RdM w0 gr gc g4 g7 S q (if don 10 = true then e' else e) x w) W T0 (by rw [hds]; decide) (fun x hx => ?_) (by kernel_rfl) (by kernel_rfl) (fun i o j want ho hg => ?_) (fun i hi hon => ?_) (fun i hi hon don w hM => ?_) (hb.drew') ?_ ?_
  · rw [hds] at hx
    have hall : (([112, 113, 114, 115, 116, 117, 118, 119, 120, 121] : List Nat).all fun d => decide (d < 122)) = true := by decide
    have := List.all_eq_true.1 hall x hx
    simp only [decide_eq_true_eq] at this
    omega
  · have hi : i < 11 := by rw [← hos]; exact (Array.getElem?_eq_some_iff.1 ho).1
    have h1 := List.all_eq_true.1 hga i (by simpa using hi)
    rw [ho] at h1
    simp only [hg, beq_iff_eq] at h1
    match i, hi with
    | 0, _ => cases h1
    | 1, _ => cases h1
    | 2, _ => cases h1
    | 3, _ => cases h1
    | 4, _ => cases h1
    | 5, _ => cases h1
    | 6, _ => cases h1
    | 7, _ => cases h1
    | 8, _ => cases h1
    | 9, _ => cases h1
    | 10, _ => cases h1
    | i + 11, h => exact absurd (show i + 11 < 11 from h) (by omega)
  · match i, hi with
    | 0, _ => cases hon
    | 1, _ => cases hon
    | 2, _ => cases hon
    | 3, _ => cases hon
    | 4, _ => cases hon
    | 5, _ => cases hon
    | 6, _ => cases hon
    | 7, _ => cases hon
    | 8, _ => cases hon
    | 9, _ => cases hon
    | 10, _ => cases hon
    | i + 11, h => exact absurd (show i + 11 < 11 from h) (by omega)
  · match i, hi with
    | 0, _ => cases hon
    | 1, _ => cases hon
    | 2, _ => cases hon
    | 3, _ => cases hon
    | 4, _ => cases hon
    | 5, _ => cases hon
    | 6, _ => cases hon
    | 7, _ => cases hon
    | 8, _ => cases hon
    | 9, _ => cases hon
    | 10, _ => cases hon
    | i + 11, h => exact absurd (show i + 11 < 11 from h) (by omega)
  · intro i oo ho hi hon don a w hT hU hdi hM K hK
    rw [hds] at hT
    have hT0 : ∀ t v, t ∉ ([112, 113, 114, 115, 116, 117, 118, 119, 120, 121] : List Nat) → T0[t]? = some v → a.tmps[t]?.getD undef = v := fun t v ht hv => by rw [hT t ht, hv]; rfl
    match i, hi with
    | 0, _ => exact v_move 0 (opAtW ho (by kernel_rfl)) (hT0 0 _ (by decide) h0) (hK w hM)
    | 1, _ =>
      exact d_e3 7 (opAtW ho (by kernel_rfl)) (hT0 7 _ (by decide) h7) (hK w hM)
    | 2, _ =>
      exact d_ldi 113 (opAtW ho (by kernel_rfl)) ((hU 1 (by kernel_rfl)).2 113 rfl) (by have h := hM.ev.c3; split at h <;> first | (rw [hpl2] at h; exact h) | (rw [hpl1] at h; exact h)) (hK w hM)
    | 3, _ =>
      exact d_nil 112 (opAtW ho (by kernel_rfl)) ((hU 0 (by kernel_rfl)).2 112 rfl) (hK w hM)
    | 4, _ =>
      exact d_c7 115 (opAtW ho (by kernel_rfl)) ((hU 3 (by kernel_rfl)).2 115 rfl) (hK w hM)
    | 5, _ =>
      exact d_ix32 116 114 (opAtW ho (by kernel_rfl)) ((hU 4 (by kernel_rfl)).2 116 rfl) ((hU 2 (by kernel_rfl)).2 114 rfl) hpl (hK w hM)
    | 6, _ =>
      exact d_ldl 117 (opAtW ho (by kernel_rfl)) ((hU 5 (by kernel_rfl)).2 117 rfl) ((hM.b.cd).cx hpl) (hK w hM)
    | 7, _ => exact v_move 8 (opAtW ho (by kernel_rfl)) (hT0 8 _ (by decide) h8) (hK w hM)
    | 8, _ =>
      exact d_addl 118 119 (opAtW ho (by kernel_rfl)) ((hU 6 (by kernel_rfl)).2 118 rfl) ((hU 7 (by kernel_rfl)).2 119 rfl) (hK w hM)
    | 9, _ =>
      exact d_e5 7 (opAtW ho (by kernel_rfl)) (hT0 7 _ (by decide) h7) (hK w hM)
    | 10, _ =>
      have hMx : RdM w0 gr gc g4 g7 S q e x w := by
        have h := hM
        simp only [hdi, Bool.false_eq_true, if_false] at h
        exact h
      have xx : a.tmps[121]?.getD undef = .pointer (some ⟨g7, 5, none⟩) := ((hU 9 (by kernel_rfl)).2 121 rfl)
      have xy : a.tmps[120]?.getD undef = .int .i64 (i64w (q.xs pl + z)) := ((hU 8 (by kernel_rfl)).2 120 rfl)
      exact d_stl 121 120 (opAtW ho (by kernel_rfl)) (dstW ho (by kernel_rfl)) xx xy hMx.ev.c5 (hMx.ev.fr 5) (by
        have hd : oo.dst = none := dstW ho (by kernel_rfl)
        have h9 := hK (w.setCell ⟨g7, 5, none⟩ (.int .i64 (i64w (q.xs pl + z)))) (by
          have h8 : RdM w0 gr gc g4 g7 S q e' x (w.setCell ⟨g7, 5, none⟩ (.int .i64 (i64w (q.xs pl + z)))) := hMx.set 5 (.int .i64 (i64w (q.xs pl + z))) (by rw [he']; rfl)
          show RdM w0 gr gc g4 g7 S q e' x _
          exact h8)
        rw [hd] at h9
        exact h9)
    | i + 11, h => exact absurd (show i + 11 < 11 from h) (by omega)
  · intro w hM
    exact hend w (hM)

noncomputable def rgRd29_ops : Array Oper := opsW Tryd.f21 29
def rgRd29_D : List (Option Nat) := [some 169, some 170, some 171, some 172, some 173, some 174, some 175, some 176, none]
set_option maxRecDepth 100000 in
set_option maxHeartbeats 4000000 in
theorem rgRd29 {id : Nat} {ops : Array Oper} (hops : ops = rgRd29_ops) (T0 : Array Value) (hsz : 177 ≤ T0.size) (W : World) (w0 : World) (gr gc g4 g7 : Nat) (S : ByteArray) (q : Cd) (e e' : Ev) (x y : Nat × Int) (z : Int) (hq : CdOk q) (hb : RdM w0 gr gc g4 g7 S q e x W) (th : Nat) (hth : th < 6) (hth1 : e.th = (th : Int)) (hth2 : e'.th = (th : Int)) (he' : e' = { e with v := q.bp th }) (h0 : T0[0]? = some (.pointer (some ⟨gc, 0, none⟩))) (h7 : T0[7]? = some (.pointer (some ⟨g7, 0, none⟩))) {Q : Exit → Act → World → Prop}
    (hend : ∀ w : World, RdM w0 gr gc g4 g7 S q e' x w → Q .normal ⟨putAll T0 [169, 170, 171, 172, 173, 174, 175, 176] [.pointer (some ⟨gc, 0, none⟩), .pointer (some ⟨g7, 1, none⟩), .int .i64 (th : Int), .pointer (some ⟨gc, 0, none⟩), .pointer (some ⟨gc, 11, none⟩), .pointer (some ⟨gc, 11 + th, none⟩), .int .i64 (q.bp th), .pointer (some ⟨g7, 4, none⟩)], []⟩ w) : (Code.region id ops true).wp Tryd.prog Q ⟨T0, []⟩ W := by
  subst hops
  have hos : rgRd29_ops.size = 9 := by kernel_rfl
  have hga : (List.range 9).all (fun i => match rgRd29_ops[i]? with | some o => o.guard == ([none, none, none, none, none, none, none, none, none] : List (Option (Nat × Bool))).getD i none | none => false) = true := by kernel_rfl
  have hds : ((pairsS rgRd29_D ([.pointer (some ⟨gc, 0, none⟩), .pointer (some ⟨g7, 1, none⟩), .int .i64 (th : Int), .pointer (some ⟨gc, 0, none⟩), .pointer (some ⟨gc, 11, none⟩), .pointer (some ⟨gc, 11 + th, none⟩), .int .i64 (q.bp th), .pointer (some ⟨g7, 4, none⟩), undef] : List Value)).map (·.1)) = [169, 170, 171, 172, 173, 174, 175, 176] := rfl
  refine wp_region_valsN ([.pointer (some ⟨gc, 0, none⟩), .pointer (some ⟨g7, 1, none⟩), .int .i64 (th : Int), .pointer (some ⟨gc, 0, none⟩), .pointer (some ⟨gc, 11, none⟩), .pointer (some ⟨gc, 11 + th, none⟩), .int .i64 (q.bp th), .pointer (some ⟨g7, 4, none⟩), undef] : List Value) [true, true, true, true, true, true, true, true, true] rgRd29_D (fun don w => RdM w0 gr gc g4 g7 S q (if don 8 = true then e' else e) x w) W T0 (by rw [hds]; decide) (fun x hx => ?_) (by kernel_rfl) (by kernel_rfl) (fun i o j want ho hg => ?_) (fun i hi hon => ?_) (fun i hi hon don w hM => ?_) (hb.drew') ?_ ?_
  · rw [hds] at hx
    have hall : (([169, 170, 171, 172, 173, 174, 175, 176] : List Nat).all fun d => decide (d < 177)) = true := by decide
    have := List.all_eq_true.1 hall x hx
    simp only [decide_eq_true_eq] at this
    omega
  · have hi : i < 9 := by rw [← hos]; exact (Array.getElem?_eq_some_iff.1 ho).1
    have h1 := List.all_eq_true.1 hga i (by simpa using hi)
    rw [ho] at h1
    simp only [hg, beq_iff_eq] at h1
    match i, hi with
    | 0, _ => cases h1
    | 1, _ => cases h1
    | 2, _ => cases h1
    | 3, _ => cases h1
    | 4, _ => cases h1
    | 5, _ => cases h1
    | 6, _ => cases h1
    | 7, _ => cases h1
    | 8, _ => cases h1
    | i + 9, h => exact absurd (show i + 9 < 9 from h) (by omega)
  · match i, hi with
    | 0, _ => cases hon
    | 1, _ => cases hon
    | 2, _ => cases hon
    | 3, _ => cases hon
    | 4, _ => cases hon
    | 5, _ => cases hon
    | 6, _ => cases hon
    | 7, _ => cases hon
    | 8, _ => cases hon
    | i + 9, h => exact absurd (show i + 9 < 9 from h) (by omega)
  · match i, hi with
    | 0, _ => cases hon
    | 1, _ => cases hon
    | 2, _ => cases hon
    | 3, _ => cases hon
    | 4, _ => cases hon
    | 5, _ => cases hon
    | 6, _ => cases hon
    | 7, _ => cases hon
    | 8, _ => cases hon
    | i + 9, h => exact absurd (show i + 9 < 9 from h) (by omega)
  · intro i oo ho hi hon don a w hT hU hdi hM K hK
    rw [hds] at hT
    have hT0 : ∀ t v, t ∉ ([169, 170, 171, 172, 173, 174, 175, 176] : List Nat) → T0[t]? = some v → a.tmps[t]?.getD undef = v := fun t v ht hv => by rw [hT t ht, hv]; rfl
    match i, hi with
    | 0, _ => exact v_move 0 (opAtW ho (by kernel_rfl)) (hT0 0 _ (by decide) h0) (hK w hM)
    | 1, _ =>
      exact d_e1 7 (opAtW ho (by kernel_rfl)) (hT0 7 _ (by decide) h7) (hK w hM)
    | 2, _ =>
      exact d_ldi 170 (opAtW ho (by kernel_rfl)) ((hU 1 (by kernel_rfl)).2 170 rfl) (by have h := hM.ev.c1; split at h <;> first | (rw [hth2] at h; exact h) | (rw [hth1] at h; exact h)) (hK w hM)
    | 3, _ =>
      exact d_nil 169 (opAtW ho (by kernel_rfl)) ((hU 0 (by kernel_rfl)).2 169 rfl) (hK w hM)
    | 4, _ =>
      exact d_c6 172 (opAtW ho (by kernel_rfl)) ((hU 3 (by kernel_rfl)).2 172 rfl) (hK w hM)
    | 5, _ =>
      exact d_ix6 173 171 (opAtW ho (by kernel_rfl)) ((hU 4 (by kernel_rfl)).2 173 rfl) ((hU 2 (by kernel_rfl)).2 171 rfl) hth (hK w hM)
    | 6, _ =>
      exact d_ldi 174 (opAtW ho (by kernel_rfl)) ((hU 5 (by kernel_rfl)).2 174 rfl) ((hM.b.cd).cbp hth) (hK w hM)
    | 7, _ =>
      exact d_e4 7 (opAtW ho (by kernel_rfl)) (hT0 7 _ (by decide) h7) (hK w hM)
    | 8, _ =>
      have hMx : RdM w0 gr gc g4 g7 S q e x w := by
        have h := hM
        simp only [hdi, Bool.false_eq_true, if_false] at h
        exact h
      have xx : a.tmps[176]?.getD undef = .pointer (some ⟨g7, 4, none⟩) := ((hU 7 (by kernel_rfl)).2 176 rfl)
      have xy : a.tmps[175]?.getD undef = .int .i64 (q.bp th) := ((hU 6 (by kernel_rfl)).2 175 rfl)
      exact d_sti 176 175 (opAtW ho (by kernel_rfl)) (dstW ho (by kernel_rfl)) xx xy hMx.ev.c4 (hMx.ev.fr 4) (by
        have hd : oo.dst = none := dstW ho (by kernel_rfl)
        have h9 := hK (w.setCell ⟨g7, 4, none⟩ (.int .i64 (q.bp th))) (by
          have h8 : RdM w0 gr gc g4 g7 S q e' x (w.setCell ⟨g7, 4, none⟩ (.int .i64 (q.bp th))) := hMx.set 4 (.int .i64 (q.bp th)) (by rw [he']; rfl)
          show RdM w0 gr gc g4 g7 S q e' x _
          exact h8)
        rw [hd] at h9
        exact h9)
    | i + 9, h => exact absurd (show i + 9 < 9 from h) (by omega)
  · intro w hM
    exact hend w (hM)

end Go.Proofs.YtkfcglgikemefaaDoor
