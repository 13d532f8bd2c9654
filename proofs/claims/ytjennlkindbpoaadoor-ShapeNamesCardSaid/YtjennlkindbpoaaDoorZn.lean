/-
  SEVERAL TEXTS IN ONE (a claim has sixty files at most): Nna, Nnb, Sna: the head of each stands ahead of it. No condition but theirs.
-/
import Derived.Test.YtjennlkindbpoaaDoorOf
import Derived.Test.YtjennlkindbpoaaDoorSf
import Derived.Deep.WholeRow
import Derived.Test.YtjennlkindbpoaaDoorOp
import Derived.Test.YtjennlkindbpoaaDoorOz
import Derived.Test.YtjennlkindbpoaaDoorOh
import Derived.Test.YtjennlkindbpoaaDoorSl
/-
  FOR ShapeNames: what package shape's methods answer of nil; why, many. Conditions: none.
-/
namespace Go.Proofs.YtjennlkindbpoaaDoor
set_option maxRecDepth 100000
open Go.RowKit Go.Deep
set_option linter.unusedVariables false
set_option linter.unusedSimpArgs false
set_option maxHeartbeats 2000000
theorem why_any (y at_ : Int) (w : World) :
    Calls Tryd.prog 22 #[.int .u8 y, .int .i64 at_] w fun r w' => r = .returned (evV ⟨10, 0, 0, at_, 0, 0, y⟩) ∧ Below w.heap.size w w' := by
  unfold evV
  simp only
  go_enter Tryd.func22, Tryd.ntmps22
  go_wp2_with fail
  refine bodyPost_ret (results_cell_row rfl _ _ w.heap.size 27 #[.int .u8 10, .int .i64 0, .int .i64 0, .int .i64 at_, .int .i64 0, .int .i64 0, .int .u8 y] (0, 0) _ rfl (heap_alloc_new w _) Tryd.underlying27 rfl (by kernel_rfl)) rfl ⟨rfl, (Below.refl _ _).alloc (Nat.le_refl _) _⟩
theorem many_any (A : Option Addr) (n c : Nat) (w : World) :
    Calls Tryd.prog 21 #[.slice A n c] w fun r w' => r = .returned (.slice A n c) ∧ Below w.heap.size w w' := by
  go_enter Tryd.func21, Tryd.ntmps21
  go_wp2_with fail
  go_ret
  exact ⟨rfl, Below.refl _ _⟩
theorem stripe_nil (n : Int) (w : World) :
    Calls Tryd.prog 26 #[.pointer none, .int .i64 n] w fun r w' => r = .returned (.agg #[.int .i64 (-1), .int .i64 0]) ∧ Below w.heap.size w w' := by
  go_enter Tryd.func26, Tryd.ntmps26
  go_wp2_with fail
  refine bodyPost_ret (results_cell_row rfl _ _ w.heap.size 50 #[.int .i64 (-1), .int .i64 0] (0, 0) _ rfl (heap_alloc_new w _) Tryd.underlying50 rfl (by kernel_rfl)) rfl ⟨rfl, (Below.refl _ _).alloc (Nat.le_refl _) _⟩
theorem fld58 (a b : Int) (W : World) : (Instr.field 50 (.agg #[.int .i64 a, .int .i64 b]) 0).run Tryd.prog W = .ok (.int .i64 a) W ∧ (Instr.field 50 (.agg #[.int .i64 a, .int .i64 b]) 1).run Tryd.prog W = .ok (.int .i64 b) W := ⟨by kernel_rfl, by kernel_rfl⟩
theorem owner_nil (n : Int) (w : World) :
    Calls Tryd.prog 8 #[.pointer none, .int .i64 n] w fun r w' => r = .returned (.int .i64 (-1)) ∧ Below w.heap.size w w' := by
  have H := stripe_nil
  have hf0 := fun W => (fld58 (-1) 0 W).1
  have hf1 := fun W => (fld58 (-1) 0 W).2
  go_enter Tryd.func8, Tryd.ntmps8
  go_wp2_with fail
  refine (H n _).mono ?_
  rintro _ w1 ⟨rfl, b1⟩
  go_wp2_with fail
  go_ret
  exact ⟨rfl, by first | exact b1 | exact Below.trans (by exact (Below.refl _ _).alloc (Nat.le_refl _) _) (b1.mono (by simp))⟩
theorem version_nil (n : Int) (w : World) :
    Calls Tryd.prog 9 #[.pointer none, .int .i64 n] w fun r w' => r = .returned (.int .i64 0) ∧ Below w.heap.size w w' := by
  have H := stripe_nil
  have hf0 := fun W => (fld58 (-1) 0 W).1
  have hf1 := fun W => (fld58 (-1) 0 W).2
  go_enter Tryd.func9, Tryd.ntmps9
  go_wp2_with fail
  refine (H n _).mono ?_
  rintro _ w1 ⟨rfl, b1⟩
  go_wp2_with fail
  go_ret
  exact ⟨rfl, by first | exact b1 | exact Below.trans (by exact (Below.refl _ _).alloc (Nat.le_refl _) _) (b1.mono (by simp))⟩
theorem clock_nil (w : World) :
    Calls Tryd.prog 10 #[.pointer none] w fun r w' => r = .returned (.int .i64 0) ∧ Below w.heap.size w w' := by
  go_enter Tryd.func10, Tryd.ntmps10
  go_wp2_with fail
  go_ret
  exact ⟨rfl, Below.refl _ _⟩
theorem copy_nil (w : World) :
    Calls Tryd.prog 13 #[.pointer none] w fun r w' => r = .returned (.pointer none) ∧ Below w.heap.size w w' := by
  go_enter Tryd.func13, Tryd.ntmps13
  go_wp2_with fail
  go_ret
  exact ⟨rfl, Below.refl _ _⟩
theorem next_nil13 (e : Ev) (w : World) :
    Calls Tryd.prog 6 #[.pointer none, evV e] w fun r w' => r = .returned (.int .i64 2) ∧ Below w.heap.size w w' := by
  obtain ⟨kd, th, tx, pl, v, x, y⟩ := e
  unfold evV
  simp only
  go_enter Tryd.func6, Tryd.ntmps6
  go_wp2_with fail
  go_ret
  exact ⟨rfl, by first | exact Below.refl _ _ | exact (Below.refl _ _).alloc (Nat.le_refl _) _⟩
/-- A thread at first. -/
def thrF (j : Nat) : Value := if j < 6 ∨ j = 70 then .int .i64 0 else .bool false
@[irreducible] def thr0 : Array Value := rowV 71 thrF
theorem thr0_eq : thr0 = rowV 71 thrF := by unfold thr0; rfl
theorem thr0_len : thr0.toList.length = 71 := by rw [thr0_eq]; simp [rowV]
theorem thr0_at {j : Nat} {v : Value} (h : thr0.toList[j]? = some v) : thrF j = v := by
  have hj : j < 71 := by have := (List.getElem?_eq_some_iff.1 h).1; rwa [thr0_len] at this
  have h2 : thr0[j]? = some v := by simpa using h
  rw [thr0_eq] at h2
  rw [rowV_get _ _ hj] at h2
  exact Option.some.inj h2
theorem zc63 : Tryd.zeroCells55 = thr0 := by kernel_rfl
theorem fld63 (W : World) : (Instr.field 55 (.agg thr0) 0).run Tryd.prog W = .ok (.int .i64 0) W ∧ (Instr.field 55 (.agg thr0) 1).run Tryd.prog W = .ok (.int .i64 0) W := ⟨by kernel_rfl, by kernel_rfl⟩
theorem thr0_one : thr0.all (·.oneCell') = true := by kernel_rfl
theorem thr0_info : (Tryd.prog.info? 55).map (·.size) = some thr0.size := by kernel_rfl
theorem thr0_size : thr0.size = 71 := by rw [thr0_eq]; exact rowV_size _ _
theorem thread_nil (n : Int) (w : World) :
    Calls Tryd.prog 27 #[.pointer none, .int .i64 n] w fun r w' => r = .returned (.agg thr0) ∧ Below w.heap.size w w' := by
  have hb := zc63
  have hs := thr0_size
  have hst := run_storeCells_new (P := Tryd.prog) w 55 thr0 thr0 thr0_info rfl thr0_one
  go_enter Tryd.func27, Tryd.ntmps27
  go_wp2_with fail
  refine bodyPost_ret (results_cell_row rfl _ _ w.heap.size 55 thr0 (0, 0) _ rfl (heap_alloc_new w _) Tryd.underlying55 rfl thr0_info) rfl ⟨rfl, (Below.refl _ _).alloc (Nat.le_refl _) _⟩
theorem commits_nil (n : Int) (w : World) :
    Calls Tryd.prog 11 #[.pointer none, .int .i64 n] w fun r w' => r = .returned (.int .i64 0) ∧ Below w.heap.size w w' := by
  have H := thread_nil
  have hf0 := fun W => (fld63 W).1
  have hf1 := fun W => (fld63 W).2
  go_enter Tryd.func11, Tryd.ntmps11
  go_wp2_with fail
  refine (H n _).mono ?_
  rintro _ w1 ⟨rfl, b1⟩
  go_wp2_with fail
  go_ret
  exact ⟨rfl, b1⟩
theorem open_nil (n : Int) (w : World) :
    Calls Tryd.prog 12 #[.pointer none, .int .i64 n] w fun r w' => r = .returned (.bool false) ∧ Below w.heap.size w w' := by
  have H := thread_nil
  have hf0 := fun W => (fld63 W).1
  have hf1 := fun W => (fld63 W).2
  go_enter Tryd.func12, Tryd.ntmps12
  go_wp2_with fail
  refine (H n _).mono ?_
  rintro _ w1 ⟨rfl, b1⟩
  go_wp2_with fail
  go_ret
  exact ⟨rfl, b1⟩
end Go.Proofs.YtjennlkindbpoaaDoor
/-
  FOR ShapeNames: join = events of lists, one list behind the other. Conditions: the lists lie in memory, at most 1000 events.
-/
namespace Go.Proofs.YtjennlkindbpoaaDoor
set_option maxRecDepth 100000
open Go.RowKit Go.Deep
set_option linter.unusedVariables false
set_option linter.unusedSimpArgs false
/-- At S lie these lists of events. -/
def LsAt (w : World) (B : Nat) (S : Option Addr) (Ls : List (List Ev)) : Prop := ∀ j (h : j < Ls.length), ∃ a A c, S = some a ∧ a.block < B ∧ w.cell? (a.add j) = some (.slice A Ls[j].length c) ∧ EvsAt w B A Ls[j]
theorem evsC_app (L M : List Ev) : evsC (L ++ M) = evsC L ++ evsC M := by simp [evsC]
theorem wpList_joinO {ops : Array Oper} {rest : List Oper} {o : Oper} {a : Act} {Q : Exit → Act → World → Prop} {W w : World} {base k ln : Nat} {sA : Option Addr} {scap : Nat} {M : List Ev} {c : Nat} {A : Option Addr} {L : List Ev}
    (own : w.ownsRow base 27 7 (.slice sA k scap) k (evsC M)) (hb : base ≤ w.heap.size) (hB : Below base W w) (hI : EvsAt w w.heap.size A L) (hln : L.length = ln) (hk : k + ln ≤ 100000) (hgd : o.guard = none) (s x : Operand) (ho : o.op = .call { callee := .builtin .append, args := #[s, x], argTypes := #[33, 33] }) (hs : a.eval s = .slice sA k scap) (hx : a.eval x = .slice A ln c)
    (h : ∀ A' c' w', w'.ownsRow base 27 7 (.slice A' (k + ln) c') (k + ln) (evsC (M ++ L)) → Below base W w' → wpList Tryd.prog ops Q rest (a.put o.dst (.slice A' (k + ln) c')) w') :
    wpList Tryd.prog ops Q (o :: rest) a w := by
  obtain ⟨ie, bt, hie, hz, hs1, hb1, hb2⟩ := i_evs
  subst hln
  refine wpList_plain hgd fun K hK => ?_
  refine append_genO u_evs hie hz hs1 hb1 rfl (by decide) hb2 own hb (evsC_len L) (fun hp => news_evs hI hp) (fun u hu => one_evs hu) hk s x ho hs hx ?_
  intro A' c' w' o2 g2 _
  exact hK _ _ (h A' c' w' (by rw [evsC_app]; exact o2) (hB.grown g2 hb (fun q hq => (own.lt q hq).1)))
theorem flat_next {Ls : List (List Ev)} {k : Nat} (h : k < Ls.length) : (Ls.take (k + 1)).flatten = (Ls.take k).flatten ++ Ls[k] := by
  rw [List.take_succ_eq_append_getElem h, List.flatten_append]
  simp
theorem flat_le {Ls : List (List Ev)} (k : Nat) : (Ls.take k).flatten.length ≤ Ls.flatten.length := by
  have h := congrArg List.length (congrArg List.flatten (List.take_append_drop k Ls))
  rw [List.flatten_append, List.length_append] at h
  omega
theorem LsAt.ok {w : World} {B : Nat} {S : Option Addr} {Ls : List (List Ev)} (h : LsAt w B S Ls) (i : Nat) (hi : i < Ls.flatten.length) : EvOk (nthE Ls.flatten i) := by
  obtain ⟨l, hl, hx⟩ := List.mem_flatten.1 (List.mem_of_getElem? (nthE_of hi))
  obtain ⟨j, hj, he⟩ := List.mem_iff_getElem.1 hl
  obtain ⟨k, hk, hk2⟩ := List.mem_iff_getElem.1 hx
  obtain ⟨_, _, _, _, _, _, hE⟩ := h j hj
  rw [he] at hE
  have h1 := hE.ok hk
  have h2 := nthE_of hk
  rw [List.getElem?_eq_getElem hk, hk2] at h2
  rw [Option.some.inj h2]
  exact h1
set_option maxHeartbeats 4000000 in
theorem join_any (w : World) (S : Option Addr) (cS : Nat) (Ls : List (List Ev)) (hn : Ls.length ≤ 1000) (hm : Ls.flatten.length ≤ 1000) (hS : LsAt w w.heap.size S Ls) :
    Calls Tryd.prog 20 #[.slice S Ls.length cS] w fun r w' => ∃ A c, r = .returned (.slice A Ls.flatten.length c) ∧ EvsAt w' w'.heap.size A Ls.flatten ∧ Ls.flatten.length ≤ c ∧ Below w.heap.size w w' := by
  have HS := Lib.hid hS
  have HM := Lib.hid hm
  obtain ⟨n, hnn⟩ : ∃ n, n = Ls.length := ⟨_, rfl⟩
  rw [← hnn] at hn ⊢
  have HN := Lib.hid hnn
  have R0 : Hid (w.ownsRow w.heap.size 27 7 (.slice none 0 0) 0 (evsC (Ls.take 0).flatten)) := World.ownsRow_nil _ _ _ _
  clear hS hm hnn
  go_enter Tryd.func20, Tryd.ntmps20
  go_wp2_with fail
  go_loopw [3, 4] (fun sv kv wr => ∃ (k m : Nat) (A : Option Addr) (c : Nat), k ≤ n ∧ kv = .int .i64 k ∧ sv = .slice A m c ∧ Hid (m = (Ls.take k).flatten.length) ∧ Hid (wr.ownsRow w.heap.size 27 7 (.slice A m c) m (evsC (Ls.take k).flatten)) ∧ Hid (Below w.heap.size w wr)) (fun _ kv _ => n - (intOf kv).toNat)
  case atStart => exact ⟨0, 0, none, 0, by omega, rfl, rfl, rfl, R0, Below.refl _ _⟩
  case round =>
    obtain ⟨k, m, A, c, hk, rfl, rfl, hmm, hown, hB⟩ := hrel
    by_cases hlt : k < n
    · obtain ⟨a, A1, c1, rfl, ha, hc, he⟩ := HS.out k (by rw [← HN.out]; exact hlt)
      have hc := (hB.out.cell (p := a.add k) (by rw [add_blockO]; exact ha)).trans hc
      have HE : Hid (EvsAt wr wr.heap.size A1 (Ls[k]'(by rw [← HN.out]; exact hlt))) := (he.below hB.out (Nat.le_refl _)).mono hB.out.size
      obtain ⟨l, hl⟩ : ∃ l, l = (Ls[k]'(by rw [← HN.out]; exact hlt)).length := ⟨_, rfl⟩
      rw [← hl] at hc
      have HL := Lib.hid hl
      have hfn := flat_next (Ls := Ls) (k := k) (by rw [← HN.out]; exact hlt)
      have HF := Lib.hid hfn
      have hml : m + l ≤ 1000 := by
        have h1 := flat_le (Ls := Ls) (k + 1)
        rw [hfn, List.length_append, ← hl, ← hmm.out] at h1
        have := HM.out
        omega
      have hkk : (k : Int) < (n : Int) := by omega
      clear he ha hl hfn
      go_wp2_with (first | (at_builtin; refine wpList_joinO hown.out hB.out.size hB.out HE.out HL.out.symm (by omega) rfl _ _ rfl rfl rfl ?_; intro A2 c2 w2 own2 B2) | fail)
      have O2 := Lib.hid own2
      have H2 := Lib.hid B2
      clear own2 B2 hc
      go_wp2_with fail
      refine ⟨?_, ?measure⟩
      · exact ⟨k + 1, m + l, A2, c2, by omega, by go_num, rfl, (by show _ = _; rw [HF.out, List.length_append, ← HL.out, ← hmm.out]), by rw [HF.out]; exact O2, H2⟩
      case measure => simp [intOf]; omega
    · obtain rfl : k = n := by omega
      have hfl : Ls.take k = Ls := by rw [HN.out, List.take_length]
      have hm2 : m = Ls.flatten.length := by rw [hmm.out, hfl]
      have O2 := hown.out
      rw [hfl] at O2
      have HE : Hid (EvsAt wr wr.heap.size A Ls.flatten) := (EvsAt.ownK O2 hm2.symm HS.out.ok).1
      have HC2 : Hid (m ≤ c) := (EvsAt.ownK O2 hm2.symm HS.out.ok).2.1
      clear O2 hown hmm
      subst hm2
      go_wp2_with fail
      go_ret
      exact ⟨A, c, rfl, HE.out, HC2.out, hB.out⟩
end Go.Proofs.YtjennlkindbpoaaDoor
/-
  FOR ShapeNames: kinds of values, one law a kind of operation; a region whose operations go in their row, by kinds. Conditions: as they stand.
-/
namespace Go.Proofs.YtjennlkindbpoaaDoor
set_option maxRecDepth 100000
open Go.RowKit Go.Deep
set_option linter.unusedVariables false
set_option linter.unusedSimpArgs false
/-- A pointer to an event of its own. -/
def PtE (e : Ev) (v : Value) (w : World) : Prop := ∃ g, v = .pointer (some ⟨g, 0, none⟩) ∧ w.heap[g]? = some (.cells (evC e) 27 (0, 0))
/-- A pointer to an event. -/
def PaE (e : Ev) (v : Value) (w : World) : Prop := ∃ p : Addr, v = .pointer (some p) ∧ p.block < w.heap.size ∧ EvAt w p e
/-- A slice of these events. -/
def SlA (L : List Ev) (v : Value) (w : World) : Prop := ∃ A c, v = .slice A L.length c ∧ L.length ≤ c ∧ EvsAt w w.heap.size A L
/-- A trace of these events. -/
def TrA (T V S : Int) (L : List Ev) (v : Value) (w : World) : Prop := ∃ A c, v = trV T V S A L.length c ∧ EvsAt w w.heap.size A L
/-- A slice of such slices. -/
def LsA (Ls : List (List Ev)) (v : Value) (w : World) : Prop := ∃ A c, v = .slice A Ls.length c ∧ LsAt w w.heap.size A Ls
theorem EvsAt.stays {w w' : World} {A : Option Addr} {L : List Ev} (h : EvsAt w w.heap.size A L) (b : Below w.heap.size w w') : EvsAt w' w'.heap.size A L := (h.below b (Nat.le_refl _)).mono b.size
theorem PtE.stays {e : Ev} {v : Value} {w w' : World} (h : PtE e v w) (b : Below w.heap.size w w') : PtE e v w' := by
  obtain ⟨g, h1, h2⟩ := h
  exact ⟨g, h1, row_stays h2 b⟩
theorem PaE.stays {e : Ev} {v : Value} {w w' : World} (h : PaE e v w) (b : Below w.heap.size w w') : PaE e v w' := by
  obtain ⟨p, h1, h2, h3⟩ := h
  exact ⟨p, h1, Nat.lt_of_lt_of_le h2 b.size, h3.below b h2⟩
theorem SlA.stays {L : List Ev} {v : Value} {w w' : World} (h : SlA L v w) (b : Below w.heap.size w w') : SlA L v w' := by
  obtain ⟨A, c, h1, h2, h3⟩ := h
  exact ⟨A, c, h1, h2, h3.stays b⟩
theorem TrA.stays {T V S : Int} {L : List Ev} {v : Value} {w w' : World} (h : TrA T V S L v w) (b : Below w.heap.size w w') : TrA T V S L v w' := by
  obtain ⟨A, c, h1, h3⟩ := h
  exact ⟨A, c, h1, h3.stays b⟩
theorem LsA.stays {L : List (List Ev)} {v : Value} {w w' : World} (h : LsA L v w) (b : Below w.heap.size w w') : LsA L v w' := by
  obtain ⟨A, c, h1, h3⟩ := h
  refine ⟨A, c, h1, fun j hj => ?_⟩
  obtain ⟨a, A1, c1, e, hb, hc, he⟩ := h3 j hj
  exact ⟨a, A1, c1, e, Nat.lt_of_lt_of_le hb b.size, (b.cell (p := a.add j) (by rw [add_blockO]; exact hb)).trans hc, he.stays b⟩
theorem SlE.toA {L : List Ev} {v : Value} {w : World} (h : SlE L v w) (hok : okL L = true) : SlA L v w := by
  obtain ⟨g, h1, h2⟩ := h
  exact ⟨_, _, h1, Nat.le_refl _, EvsAt.row h2 (Array.getElem?_eq_some_iff.1 h2).1 (ok_of hok)⟩
section
variable {a : Act} {w : World} {K : Act → World → Prop} {Q : Exit → Act → World → Prop} {o : Oper}
theorem o_why {u : Value} {y p : Int} (ho : o.op = .call { callee := .value (.func 22), args := #[.const (.int .u8 y), .const (.int .i64 p)], argTypes := #[5, 3] })  (hc : Calls Tryd.prog 22 #[.int .u8 y, .int .i64 p] w fun r w' => r = .returned u ∧ Below w.heap.size w w') (hK : ∀ w', Below w.heap.size w w' → K (a.put o.dst u) w') : Oper.wp Tryd.prog o a w K Q := by
  obtain ⟨dst, op, type, pos, after, guard⟩ := o
  have ho' : op = _ := ho
  subst ho'
  clear ho
  have h1 := Tryd.func22
  have HC := Lib.hid hc
  clear hc
  go_simp
  refine HC.out.mono ?_
  rintro r w' ⟨rfl, hb⟩
  exact hK w' hb
theorem o_many (x : Nat) {u v : Value} (ho : o.op = .call { callee := .value (.func 21), args := #[.tmp x], argTypes := #[33] }) (hx : a.tmps[x]?.getD undef = v) (hc : Calls Tryd.prog 21 #[v] w fun r w' => r = .returned u ∧ Below w.heap.size w w') (hK : ∀ w', Below w.heap.size w w' → K (a.put o.dst u) w') : Oper.wp Tryd.prog o a w K Q := by
  obtain ⟨dst, op, type, pos, after, guard⟩ := o
  have ho' : op = _ := ho
  subst ho'
  clear ho
  have h1 := Tryd.func21
  have HC := Lib.hid hc
  clear hc
  go_simp
  refine HC.out.mono ?_
  rintro r w' ⟨rfl, hb⟩
  exact hK w' hb
theorem o_join (x : Nat) {v : Value} {S : Value → World → Prop} (ho : o.op = .call { callee := .value (.func 20), args := #[.tmp x], argTypes := #[65] }) (hx : a.tmps[x]?.getD undef = v) (hc : Calls Tryd.prog 20 #[v] w fun r w' => ∃ u, r = .returned u ∧ S u w' ∧ Below w.heap.size w w') (hK : ∀ u w', Below w.heap.size w w' → S u w' → K (a.put o.dst u) w') : Oper.wp Tryd.prog o a w K Q := by
  obtain ⟨dst, op, type, pos, after, guard⟩ := o
  have ho' : op = _ := ho
  subst ho'
  clear ho
  have h1 := Tryd.func20
  have HC := Lib.hid hc
  clear hc
  go_simp
  refine HC.out.mono ?_
  rintro r w' ⟨u, rfl, hs, hb⟩
  exact hK u w' hb hs
theorem n_join (x : Nat) {Ls : List (List Ev)} (L : List Ev) (ho : o.op = .call { callee := .value (.func 20), args := #[.tmp x], argTypes := #[65] }) (hv : LsA Ls (a.tmps[x]?.getD undef) w) (h1 : decide (Ls.length ≤ 1000) = true) (h2 : decide (Ls.flatten.length ≤ 1000) = true) (hL : Ls.flatten = L) (hK : ∀ u w', Below w.heap.size w w' → SlA L u w' → K (a.put o.dst u) w') : Oper.wp Tryd.prog o a w K Q := by
  obtain ⟨A, c, hx, hl⟩ := hv
  subst hL
  refine o_join x (S := SlA Ls.flatten) ho hx ((join_any w A c Ls (by simpa using h1) (by simpa using h2) hl).mono ?_) hK
  rintro r w' ⟨A', c', rfl, he, hc, hb⟩
  exact ⟨_, rfl, ⟨A', c', rfl, hc, he⟩, hb⟩
theorem n_many (x : Nat) {L : List Ev} (ho : o.op = .call { callee := .value (.func 21), args := #[.tmp x], argTypes := #[33] }) (hv : SlA L (a.tmps[x]?.getD undef) w) (hK : ∀ u w', Below w.heap.size w w' → SlA L u w' → K (a.put o.dst u) w') : Oper.wp Tryd.prog o a w K Q := by
  obtain ⟨A, c, hx, hl⟩ := hv
  exact o_many x ho hx (many_any A _ c w) (fun w' hb => hK _ w' hb (SlA.stays ⟨A, c, rfl, hl⟩ hb))
theorem n_over (x : Nat) {L : List Ev} (ho : o.op = .call { callee := .value (.func 18), args := #[.tmp x], argTypes := #[33] }) (hv : SlA L (a.tmps[x]?.getD undef) w) (hK : ∀ u w', Below w.heap.size w w' → TrA 3 4 2 L u w' → K (a.put o.dst u) w') : Oper.wp Tryd.prog o a w K Q := by
  obtain ⟨A, c, hx, _, hl⟩ := hv
  exact o_over x ho hx (over_any A _ c w) (fun w' hb => hK _ w' hb (TrA.stays ⟨A, c, rfl, hl⟩ hb))
theorem n_fine {Tb : World → Prop} (HC : CheckC Tb) (ht : Tb w) (x : Nat) {T V S : Int} {L : List Ev} (b : Bool) (ho : o.op = .call { callee := .value (.func 15), args := #[.tmp x], argTypes := #[35] }) (hv : TrA T V S L (a.tmps[x]?.getD undef) w) (hT : decide (0 ≤ T ∧ T ≤ 100) = true) (hV : decide (0 ≤ V ∧ V ≤ 100) = true) (hS : decide (0 ≤ S ∧ S ≤ 100) = true) (hl : decide (L.length ≤ 2000) = true) (hb : fineB T V S L = b) (hK : ∀ w', Below w.heap.size w w' → K (a.put o.dst (.bool b)) w') : Oper.wp Tryd.prog o a w K Q := by
  obtain ⟨A, c, hx, he⟩ := hv
  have h9 := fine_any HC w ht T V S A L c (by unfold i64P; have := of_decide_eq_true hT; omega) (by unfold i64P; have := of_decide_eq_true hV; omega) (by unfold i64P; have := of_decide_eq_true hS; omega) (of_decide_eq_true hl) he
  rw [hb] at h9
  exact o_fine x ho hx h9 hK
theorem n_bad {Tb : World → Prop} (HC : CheckC Tb) (ht : Tb w) (x : Nat) {L : List Ev} (b : Bool) (ho : o.op = .call { callee := .value (.func 16), args := #[.tmp x], argTypes := #[33] }) (hv : SlA L (a.tmps[x]?.getD undef) w) (h0 : decide (0 < L.length) = true) (hl : decide (L.length ≤ 2000) = true) (hb : badB L = b) (hK : ∀ w', Below w.heap.size w w' → K (a.put o.dst (.bool b)) w') : Oper.wp Tryd.prog o a w K Q := by
  obtain ⟨A, c, hx, _, he⟩ := hv
  have h9 := bad_any HC w ht A L c (of_decide_eq_true h0) (of_decide_eq_true hl) he
  rw [hb] at h9
  exact o_bad x ho hx h9 hK
theorem n_load (x : Nat) {e : Ev} (ho : o.op = .load 27 (.tmp x)) (hv : PtE e (a.tmps[x]?.getD undef) w) (hK : K (a.put o.dst (evV e)) w) : Oper.wp Tryd.prog o a w K Q := by
  obtain ⟨g, hx, hr⟩ := hv
  exact v_loadE x ho hx hr rfl hK
theorem n_loadA (x : Nat) {e : Ev} (ho : o.op = .load 27 (.tmp x)) (hv : PaE e (a.tmps[x]?.getD undef) w) (hK : K (a.put o.dst (evV e)) w) : Oper.wp Tryd.prog o a w K Q := by
  obtain ⟨p, hx, _, hr⟩ := hv
  exact z_loadE x ho hx hr hK
theorem o_idxc (x : Nat) {p : Addr} {i n c : Nat} (hi : i < n) (ho : o.op = .indexAddr 33 (.tmp x) (.const (.int .i64 (i : Int)))) (hx : a.tmps[x]?.getD undef = .slice (some p) n c) (hK : K (a.put o.dst (.pointer (some (p.add (i * 7))))) w) : Oper.wp Tryd.prog o a w K Q := by
  obtain ⟨dst, op, type, pos, after, guard⟩ := o
  have ho' : op = _ := ho
  subst ho'
  clear ho
  have i1 : (0 : Int) ≤ (i : Int) := by omega
  have i2 : (i : Int) < (n : Int) := by omega
  go_simp
  exact hK
theorem n_idx (x i : Nat) {L : List Ev} {z : Int} (e : Ev) (hz : z = (i : Int)) (ho : o.op = .indexAddr 33 (.tmp x) (.const (.int .i64 z))) (hv : SlA L (a.tmps[x]?.getD undef) w) (hi : decide (i < L.length) = true) (he : nthE L i = e) (hK : ∀ u, PaE e u w → K (a.put o.dst u) w) : Oper.wp Tryd.prog o a w K Q := by
  subst hz
  obtain ⟨A, c, hx, _, hE⟩ := hv
  obtain ⟨p, rfl, hp, hev⟩ := hE i (of_decide_eq_true hi)
  rw [he] at hev
  exact o_idxc x (of_decide_eq_true hi) ho hx (hK _ ⟨_, rfl, by rw [add_blockO]; exact hp, hev⟩)
theorem o_hi4 (x : Nat) {A : Option Addr} {n c : Nat} (h4 : 4 ≤ c) (ho : o.op = .slice 33 (.tmp x) none (some (.const (.int .i64 4))) none) (hx : a.tmps[x]?.getD undef = .slice A n c) (hA : A ≠ none) (hK : K (a.put o.dst (.slice A 4 c)) w) : Oper.wp Tryd.prog o a w K Q := by
  obtain ⟨dst, op, type, pos, after, guard⟩ := o
  have ho' : op = _ := ho
  subst ho'
  clear ho
  obtain ⟨p, rfl⟩ : ∃ p, A = some p := by cases A with | none => exact absurd rfl hA | some p => exact ⟨p, rfl⟩
  have i1 : (4 : Int) ≤ (c : Int) := by omega
  go_simp
  exact hK
theorem n_hi4 (x : Nat) {L : List Ev} (ho : o.op = .slice 33 (.tmp x) none (some (.const (.int .i64 4))) none) (hv : SlA L (a.tmps[x]?.getD undef) w) (h4 : decide (4 ≤ L.length) = true) (hK : ∀ u, SlA (L.take 4) u w → K (a.put o.dst u) w) : Oper.wp Tryd.prog o a w K Q := by
  obtain ⟨A, c, hx, hc, hE⟩ := hv
  have h4 := of_decide_eq_true h4
  have hA : A ≠ none := by
    obtain ⟨p, rfl, _⟩ := hE 0 (by omega)
    exact fun h => by cases h
  have hl : (L.take 4).length = 4 := by rw [List.length_take]; omega
  exact o_hi4 x (by omega) ho hx hA (hK _ ⟨A, c, by rw [hl], by rw [hl]; omega, hE.take 4⟩)
theorem n_slice (L : List Ev) (parts : Array (Nat × Operand)) {n : Nat} (ho : o.op = .buildSlice 33 n parts) (hn : n = L.length) (hok : okL L = true) (h0 : decide (0 < L.length) = true) (h1 : decide (L.length ≤ 1000) = true) (hp : (parts.map fun (i, x) => (i, a.eval x)).toList = ((L.map evV).zipIdx 0).map fun x => (x.2, x.1))
    (hK : ∀ v w', Below w.heap.size w w' → SlA L v w' → K (a.put o.dst v) w') : Oper.wp Tryd.prog o a w K Q := by
  subst hn
  exact e_slice L parts ho (of_decide_eq_true h0) (of_decide_eq_true h1) hp (fun v w' hb hs => hK v w' hb (hs.toA hok))
theorem u_lss : Tryd.prog.underlying 65 = some (.slice 33) := by kernel_rfl
theorem n_lists (Ls : List (List Ev)) (vs : List Value) (parts : Array (Nat × Operand)) {n : Nat} (ho : o.op = .buildSlice 65 n parts) (hn : n = Ls.length) (hlen : vs.length = Ls.length) (h0 : decide (0 < Ls.length) = true) (h1 : decide (Ls.length ≤ 1000) = true) (hv : ∀ j (h : j < Ls.length), SlA Ls[j] (vs.getD j undef) w) (hp : (parts.map fun (i, x) => (i, a.eval x)).toList = (vs.zipIdx 0).map fun x => (x.2, x.1))
    (hK : ∀ v w', Below w.heap.size w w' → LsA Ls v w' → K (a.put o.dst v) w') : Oper.wp Tryd.prog o a w K Q := by
  subst hn
  have h0 := of_decide_eq_true h0
  have h1 := of_decide_eq_true h1
  obtain ⟨ie, hie, hz1, hz2, _⟩ : ∃ ie, Tryd.prog.info? 33 = some ie ∧ ie.size = 1 ∧ ie.zero = some (.slice none 0 0) ∧ True := ⟨_, rfl, rfl, rfl, trivial⟩
  have hone : ∀ v ∈ vs, v.cells.size = 1 := fun v hm => by
    obtain ⟨j, hj, he⟩ := List.mem_iff_getElem.1 hm
    obtain ⟨A, c, h, _⟩ := hv j (by omega)
    rw [List.getD_eq_getElem?_getD, List.getElem?_eq_getElem hj, he] at h
    have h : v = .slice A _ c := h
    rw [h]
    rfl
  obtain ⟨r, hr, hs, hk⟩ := Great.fill_dense (s := 1) (by decide) vs 0 ((Array.range (Ls.length * 1)).map ((Value.slice none 0 0).cells[· % (Value.slice none 0 0).cells.size]!)) hone (by simp; omega)
  refine wp_buildSlice 65 33 Ls.length parts ho r ie _ u_lss hie hz2 (by rw [hz1]; omega) (by rw [hz1]; omega) (by rw [hp, hz1]; exact hr) (hK _ _ ((Below.refl _ _).alloc (Nat.le_refl _) _) ⟨_, _, rfl, fun j hj => ?_⟩)
  obtain ⟨A, c, h, _, he⟩ := hv j hj
  have hb : Below w.heap.size w (w.alloc (.cells r 33)) := (Below.refl _ _).alloc (Nat.le_refl _) _
  have hg := heap_alloc_new w (.cells r 33 (0, 0))
  refine ⟨_, A, c, rfl, (Array.getElem?_eq_some_iff.1 hg).1, ?_, he.stays hb⟩
  have hp : (⟨w.heap.size, 0, none⟩ : Addr).add j = ⟨w.heap.size, j, none⟩ := by
    by_cases h0 : j = 0
    · rw [h0]
      rfl
    · simp [Addr.add, h0]
  have hjv : j < vs.length := by omega
  rw [hp, cell_of_row _ w.heap.size _ _ _ _ hg, hk j, if_pos ⟨by omega, by omega⟩, Nat.div_one, Nat.sub_zero, List.getElem?_eq_getElem hjv]
  rw [List.getD_eq_getElem?_getD, List.getElem?_eq_getElem hjv] at h
  have h : vs[j] = .slice A _ c := h
  rw [h, Nat.mod_one]
  rfl
end
section
variable {P : Program} {ops : Array Oper} {Q : Exit → Act → World → Prop}
theorem wp_region_kindsS {id : Nat} (S : Nat → Value → World → Prop) (ds : List Nat) (W : World) (T : Array Value) (hn : ds.Nodup) (hd : ∀ d ∈ ds, d < T.size) (hops : okV ds (List.replicate ds.length true) ops = true)
    (hguard : ∀ (i : Nat) (o : Oper) (j : Nat) (want : Bool), ops[i]? = some o → o.guard = some (j, want) → ∀ v w, S j v w → v = .bool want)
    (hmono : ∀ i v w w', Below w.heap.size w w' → S i v w → S i v w')
    (hstep : ∀ i o, ops[i]? = some o → i < ds.length → ∀ (a : Act) (w : World), (∀ t, t ∉ ds → a.tmps[t]?.getD undef = T[t]?.getD undef) → (∀ j, decide (j < i) = true → S j (a.tmps[ds.getD j 0]?.getD undef) w) → Below W.heap.size W w →
      ∀ K : Act → World → Prop, (∀ v w', Below w.heap.size w w' → S i v w' → K (a.put o.dst v) w') → Oper.wp P o a w K Q)
    (hend : ∀ (us : List Value) (w : World), us.length = ds.length → Below W.heap.size W w → (∀ i, i < ds.length → S i (us.getD i undef) w) → Q .normal ⟨putAll T ds us, []⟩ w) :
    (Code.region id ops false).wp P Q ⟨T, []⟩ W := by
  obtain ⟨hsz, hsp⟩ := okV_spec hops
  refine wp_region_list ?_
  have key : ∀ m k, k + m = ds.length → ∀ (us : List Value) (w : World), us.length = ds.length → Below W.heap.size W w → (∀ i, i < k → S i (us.getD i undef) w) → wpList P ops Q (ops.toList.drop k) ⟨putAll T ds us, []⟩ w := by
    intro m
    induction m with
    | zero =>
      intro k hk us w hu hb hS
      rw [List.drop_eq_nil_of_le (by simp; omega)]
      exact wpList_nil (hend us w hu hb fun i hi => hS i (by omega))
    | succ m ih =>
      intro k hk us w hu hb hS
      have hkl : k < ops.toList.length := by simp; omega
      have ho : ops[k]? = some ops[k] := Array.getElem?_eq_getElem (by omega)
      obtain ⟨o1, o2, o4, o3⟩ := hsp k _ ho
      have hid : k < ds.length := by omega
      have hat : ∀ j, j < ds.length → (putAll T ds us)[ds.getD j 0]? = us[j]? := fun j hj => by
        rw [List.getD_eq_getElem?_getD, List.getElem?_eq_getElem hj]
        exact putAll_at T ds us j hj hu.symm hn (hd _ (List.getElem_mem hj))
      have hw : Region.wanted ops[k] (yielded ops (putAll T ds us)) = true := by
        cases hg : ops[k].guard with
        | none => simp [Region.wanted, hg]
        | some x =>
          obtain ⟨j, want⟩ := x
          obtain ⟨p1, p2, e, he, hbn, hej⟩ := o4 j want hg
          have hjk : j < k := by have := o3 e he hbn; omega
          have hv := hguard k _ j want ho hg _ _ (hS j hjk)
          have hj : j < ds.length := by omega
          have hg2 := hat j hj
          rw [List.getElem?_eq_getElem (show j < us.length by omega)] at hg2
          rw [List.getD_eq_getElem?_getD, List.getElem?_eq_getElem (show j < us.length by omega)] at hv
          have hdj : ops[j].dst = some (ds.getD j 0) := by
            rw [(hsp j _ (Array.getElem?_eq_getElem p2)).1, List.getD_eq_getElem?_getD, List.getElem?_eq_getElem hj]
            rfl
          have hy : yielded ops (putAll T ds us) j = some want := by
            unfold yielded
            rw [Array.getElem?_eq_getElem p2]
            simp only [Option.bind_some]
            rw [hdj]
            simp only [Option.bind_some]
            rw [hg2]
            simp only [Option.getD_some] at hv
            rw [hv]
          cases want <;> simp [Region.wanted, hg, hy]
      rw [List.drop_eq_getElem_cons hkl]
      unfold wpList
      rw [Array.getElem_toList, if_pos hw]
      refine .inl (hstep k _ ho hid _ w (fun t ht => by rw [putAll_far ds us T t ht]) (fun j hj => ?_) hb _ fun v w' hb' hv' => ?_)
      · have hj := of_decide_eq_true hj
        show S j ((putAll T ds us)[ds.getD j 0]?.getD undef) w
        rw [hat j (by omega), ← List.getD_eq_getElem?_getD]
        exact hS j hj
      · have h9 := ih (k + 1) (by omega) (us.set k v) w' (by simpa using hu) (hb.trans (hb'.mono hb.size)) fun i hi => by
          by_cases hik : i = k
          · subst hik
            rw [List.getD_eq_getElem?_getD, List.getElem?_set_self (by omega)]
            exact hv'
          · rw [List.getD_eq_getElem?_getD, List.getElem?_set_ne (by omega), ← List.getD_eq_getElem?_getD]
            exact hmono _ _ _ _ hb' (hS i (by omega))
        rw [putAll_set ds us T k v hid hu.symm hn] at h9
        have e : (⟨putAll T ds us, []⟩ : Act).put ops[k].dst v = ⟨(putAll T ds us).setIfInBounds ds[k] v, []⟩ := by
          rw [o1, List.getElem?_eq_getElem hid]
          rfl
        rw [e]
        exact h9
  have h0 := key ds.length 0 (by omega) (ds.map fun d => T.getD d undef) W (by simp) (Below.refl _ _) (fun i hi => absurd hi (by omega))
  rwa [putAll_id ds T hn hd, List.drop_zero] at h0
end
end Go.Proofs.YtjennlkindbpoaaDoor
