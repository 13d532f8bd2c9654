/-
  PACKAGE trace (layer 15): CONTRACT OF read. Conditions: a reader; the table of names lies.
-/
import Derived.Test.YteigglhhnemngaaGreatDoorTrf
import Derived.RangeFuncKeeps
namespace Go.Proofs.YteigglhhnemngaaGreatDoor
set_option maxRecDepth 100000
open Go.RowKit Go.Deep Go.Shelf
set_option linter.unusedVariables false
set_option linter.unusedSimpArgs false
attribute [local go_sem] Oper.semAt_some
section
variable {a : Act} {w : World} {K : Act → World → Prop} {Q : Exit → Act → World → Prop} {o : Oper}
theorem wp_addE {base k q : Nat} {sA : Option Addr} {scap : Nat} {M : List Ev} {e : Ev} (own : w.ownsRow base 50 7 (.slice sA k scap) k (evsC M)) (hb : base ≤ w.heap.size) (hq : w.heap[q]? = some (.cells (evC e) 50 (0, 0))) (hk : k + 1 ≤ 100000) (s x : Operand) (ho : o.op = .call { callee := .builtin .append, args := #[s, x], argTypes := #[23, 23] }) (hs : a.eval s = .slice sA k scap) (hx : a.eval x = .slice (some ⟨q, 0, none⟩) 1 1)
    (h : ∀ A' c' w', w'.ownsRow base 50 7 (.slice A' (k + 1) c') (k + 1) (evsC (M ++ [e])) → w.grownBy w' (Value.ownBlock (.slice sA k scap)) → K (a.put o.dst (.slice A' (k + 1) c')) w') : Oper.wp Tryz.prog o a w K Q := by
  obtain ⟨ie, bt, hie, hz, hs1, hb1, hb2⟩ := i_evsB
  refine wp_append_lies w s x 23 ho base 50 ie (evV ev0) 7 bt u_evsB hie hz hs1 hb1 rfl (by decide) _ k (evsC M) hs own ⟨q, 0, none⟩ 1 1 (evC e).toList hx rfl (news_rowB (V := (evC e).toList) hq) (fun u hu => by
    simp [evC] at hu
    rcases hu with rfl | rfl | rfl | rfl | rfl | rfl | rfl <;> rfl) (by omega) (by unfold maxLen; omega) (by have : (k + 1) * bt ≤ 100000 * 200 := Nat.mul_le_mul hk hb2; omega) hb w.heap.size rfl ?_
  intro g cap w' a1 a2 a3 a4
  exact h _ _ w' (by rw [evsC_app, show evsC [e] = (evC e).toList by simp [evsC]]; exact a1) a2
end
theorem wpIn_ofT {l n : Nat} {P : Program} {o : Oper} {a : Act} {w : World} {K : Act → World → Prop} {Q : Exit → Act → World → Prop} (hd : ∀ c, o.op ≠ .defer c) (h : Oper.wp P o a w K Q) : Oper.wpIn (Fence.wide.inRound l) n P o a w K Q := by
  refine ⟨fun _ _ => trivial, ?_⟩
  rw [Oper.semAt_eq _ _ _ hd]
  unfold Oper.wp at h
  generalize (execOp a.eval o).run P w = r at *
  cases r with
  | ok x w' =>
    cases x <;> simp only [Oper.upon, Oper.uponIn] at h ⊢
    case value u => exact h
    case skip => exact h
    case defer d => exact h
    case enter f args => exact ⟨fun h => (by cases h), CallsIn.inRound l (callsIn_wide.2 h)⟩
    case row row args => exact ⟨fun h => (by cases h), fun c cs _ => let ⟨v, w2, r, s⟩ := h c cs; ⟨v, w2, r, stepsIn_wide.2 s⟩⟩
  | halt x w' =>
    cases x <;> simp only [Oper.upon, Oper.uponIn] at h ⊢
    case panic u => exact h
theorem wpIn_ofW {n : Nat} {P : Program} {o : Oper} {a : Act} {w : World} {K : Act → World → Prop} {Q : Exit → Act → World → Prop} (hd : ∀ c, o.op ≠ .defer c) (h : Oper.wp P o a w K Q) : Oper.wpIn Fence.wide n P o a w K Q := by
  refine ⟨fun _ _ => trivial, ?_⟩
  rw [Oper.semAt_eq _ _ _ hd]
  unfold Oper.wp at h
  generalize (execOp a.eval o).run P w = r at *
  cases r with
  | ok x w' =>
    cases x <;> simp only [Oper.upon, Oper.uponIn] at h ⊢
    case value u => exact h
    case skip => exact h
    case defer d => exact h
    case enter f args => exact ⟨fun h => (by cases h), callsIn_wide.2 h⟩
    case row row args => exact ⟨fun h => (by cases h), fun c cs _ => let ⟨v, w2, r, s⟩ := h c cs; ⟨v, w2, r, stepsIn_wide.2 s⟩⟩
  | halt x w' =>
    cases x <;> simp only [Oper.upon, Oper.uponIn] at h ⊢
    case panic u => exact h
structure RJ (w0 : World) (gr gt : Nat) (T V Z : Int) (L : List Ev) (w : World) : Prop where
  kp : Kp gr none w0 w
  row : ∃ A c, w.heap[gt]? = some (.cells #[.int .i64 T, .int .i64 V, .int .i64 Z, .slice A L.length c] 25 (0, 0)) ∧ w.ownsRow w0.heap.size 50 7 (.slice A L.length c) L.length (evsC L)
  n1 : w0.heap.size ≤ gt
  n2 : gr < w0.heap.size
theorem RJ.stays {w0 A C : World} {gr gt : Nat} {T V Z : Int} {L : List Ev} (h : RJ w0 gr gt T V Z L A) (k : KcT gr w0.heap.size A C) : RJ w0 gr gt T V Z L C := by
  obtain ⟨A0, c, hr, ho⟩ := h.row
  have n1 := h.n1
  have n2 := h.n2
  refine ⟨⟨k.os.trans h.kp.os, k.tape.trans h.kp.tape, k.output.trans h.kp.output, Nat.le_trans h.kp.size k.size, fun i hi h1 h2 => ?_⟩, ⟨A0, c, ?_, own_below ho fun r hr' => ?_⟩, n1, n2⟩
  · have e1 := h.kp.block i hi h1 h2
    have hlt := Nat.lt_of_lt_of_le hi h.kp.size
    have hA : A.heap[i]? = some A.heap[i] := Array.getElem?_eq_getElem hlt
    have e2 := k.block i _ hA (.inr ⟨h1, .inl hi⟩)
    rw [e2, ← hA]
    exact e1
  · exact k.block gt _ hr (.inr ⟨by omega, .inr fun cs t f x => by
      injection x with _ x
      subst x
      exact ⟨by decide, by decide⟩⟩)
  · obtain ⟨hb, cur, hcur⟩ := own_at ho r hr'
    rw [hcur]
    exact k.block r _ hcur (.inr ⟨by omega, .inr fun cs t f x => by
      injection x with _ x
      subst x
      exact ⟨by decide, by decide⟩⟩)
theorem RJ.own {w0 A C : World} {gr gt B : Nat} {T V Z : Int} {L : List Ev} {row : Option Nat} (h : RJ w0 gr gt T V Z L A) (hB : w0.heap.size ≤ B) (hg : A.grownBy C row) (hr : ∀ r, row = some r → B ≤ r ∧ ∃ o : Go.Obj, A.heap[r]? = some o ∧ o.isCells = false) : RJ w0 gr gt T V Z L C := by
  obtain ⟨A0, c, hr0, ho⟩ := h.row
  refine ⟨⟨hg.os.trans h.kp.os, hg.tape.trans h.kp.tape, hg.output.trans h.kp.output, Nat.le_trans h.kp.size hg.size, fun i hi h1 h2 => (hg.block i (Nat.lt_of_lt_of_le hi h.kp.size) (fun x => by have := (hr i x.symm).1; omega)).trans (h.kp.block i hi h1 h2)⟩, ⟨A0, c, row_own hr0 hg hr, own_below ho fun r hr' => ?_⟩, h.n1, h.n2⟩
  obtain ⟨hb, cur, hcur⟩ := own_at ho r hr'
  rw [hcur]
  exact row_own hcur hg hr
theorem RJ.below {w0 A C : World} {gr gt : Nat} {T V Z : Int} {L : List Ev} (h : RJ w0 gr gt T V Z L A) (b : Below A.heap.size A C) : RJ w0 gr gt T V Z L C := h.stays (KcT.of_below b)
theorem grow_kr {n₀ B base k c : Nat} {S : Option Addr} {X : List Value} {A C : World} (own : A.ownsRow base 50 7 (.slice S k c) k X) (g : A.grownBy C (Value.ownBlock (.slice S k c))) (hb : n₀ ≤ base) (hs : n₀ ≤ A.heap.size) : KR n₀ A C ∧ KeepsFrom B A C := by
  refine ⟨⟨⟨g.os, g.tape, g.output, g.size, fun i hi => g.block i (by omega) (fun x => by have := (own_at own i x.symm).1; omega)⟩, fun i cs f t ht hA => (g.block i (Array.getElem?_eq_some_iff.1 hA).1 (fun x => ?_)).trans hA⟩, (KeepsOthers.of_grownBy g fun j o hj hA => ?_).from B⟩
  · obtain ⟨_, cur, hcur⟩ := own_at own i x.symm
    rw [hA] at hcur
    injection hcur with hcur
    injection hcur with _ e
    subst e
    rcases ht with e | e | e <;> exact absurd e (by decide)
  · obtain ⟨_, cur, hcur⟩ := own_at own j hj
    rw [hA] at hcur
    injection hcur with hcur
    rw [hcur]
    rfl
theorem set_kr {n₀ B gt i : Nat} {cs : Array Value} {v : Value} {A : World} (h : A.heap[gt]? = some (.cells cs 25 (0, 0))) (hn : n₀ ≤ gt) : KR n₀ A (A.setCell ⟨gt, i, none⟩ v) ∧ KeepsFrom B A (A.setCell ⟨gt, i, none⟩ v) := by
  refine ⟨⟨(Below.refl n₀ A).setCell (p := ⟨gt, i, none⟩) hn v, fun j cs' f t ht hA => (Below.heap_setCell A ⟨gt, i, none⟩ v j (by
    rintro rfl
    rw [h] at hA
    injection hA with hA
    injection hA with _ e
    subst e
    rcases ht with e | e | e <;> exact absurd e (by decide))).trans hA⟩, (KeepsOthers.setCell _ _ _).from B⟩
theorem evs_seq (n : Nat) (hn : 3 ≤ n) (B1 B2 B3 n₀ gr : Nat) (S : ByteArray) (w : World) (hrd : Rd w gr S (z4 S).2.1 (z4 S).2.2) (hgl : gr < n₀) (hn₀ : n₀ ≤ w.heap.size) (hek : Ek w) (hg : 1 < n₀)
    (b1 : w.heap[B1]? = some (.cells #[.int .i64 (z1 S).1, .int .i64 (z2 S).1, .int .i64 (z3 S).1, .slice none 0 0] 25 (0, 0))) (b2 : w.heap[B2]? = some (.cells #[.int .i64 (z4 S).1] 3 (0, 0))) (b3 : w.heap[B3]? = some (.cells #[.pointer (some ⟨gr, 0, none⟩)] 63 (0, 0))) :
    SeqC Fence.wide n Tryz.prog 103 #[.pointer (some ⟨B1, 0, none⟩), .pointer (some ⟨B2, 0, none⟩), .pointer (some ⟨B3, 0, none⟩)] encE (KR n₀) (KcT gr n₀) (EvsP gr S (evsS S)) S.size w := fun l J W hW hJ hY h0 => by
  by_cases h4 : (z4 S).2.2 = 0 ∧ (z4 S).1 ≠ 0
  · obtain ⟨h4, hne⟩ := h4
    obtain ⟨_, _, _, _, hmb, _, _⟩ := zs_back S h4
    have hcast : (((z4 S).1.toNat : Nat) : Int) = (z4 S).1 := Int.toNat_of_nonneg hmb.1
    have e2 : (z4 S).2 = ((z4 S).2.1, 0) := by rw [← h4]
    refine events_some n hn l B1 B2 B3 n₀ gr S (z1 S).1 (z2 S).1 (z3 S).1 (z4 S).1.toNat (z4 S).2.1 (evsS S) (by omega) (zs_cod S h4 hne) (by rw [← e2]; rfl) J W hY hJ (by rw [← h4]; exact rd_more hrd hW) hgl (Nat.le_trans hn₀ hW.size) (hek.below hW) hg (row_stays b1 hW) (by rw [hcast]; exact row_stays b2 hW) (row_stays b3 hW) h0
  · have hz : (z4 S).1 = 0 := by
      by_cases h5 : (z4 S).2.2 = 0
      · exact Classical.byContradiction fun h => h4 ⟨h5, h⟩
      · exact z4_bad S h5
    have eR : evsS S = ([], (z4 S).2) := by unfold evsS; rw [hz]; rfl
    rw [hz] at b2
    rw [eR]
    exact events_zero n hn l B1 B2 B3 gr n₀ S (z1 S).1 (z2 S).1 (z3 S).1 (z4 S).2 J W hJ (rd_more hrd hW) (row_stays b1 hW) (row_stays b2 hW) h0
theorem evsp_own {gr B : Nat} {S : ByteArray} {R : List Ev × (Nat × Int)} : OwnFrom B (EvsP gr S R) := fun s A C row hs hg hr => ⟨hs.1, (row_own (t := 109) hs.2.1 hg hr), hs.2.2⟩
set_option maxHeartbeats 8000000 in
theorem tread_in (n : Nat) (hn : 8 ≤ n) (gr : Nat) (S : ByteArray) (w : World) (hek : Ek w) (hrd : Rd w gr S 0 0) (hS : S.size ≤ 99999) :
    CallsIn Fence.wide n Tryz.prog 30 #[.pointer (some ⟨gr, 0, none⟩)] w fun r w' => ∃ A c, r = .returned (trV (z1 S).1 (z2 S).1 (z3 S).1 A (evsS S).1.length c) ∧ w'.ownsRow w.heap.size 50 7 (.slice A (evsS S).1.length c) (evsS S).1.length (evsC (evsS S).1) ∧ Rd w' gr S (evsS S).2.1 (evsS S).2.2 ∧ Kp gr none w w' := by
  have h1 : 1 ≤ n := by omega
  have fS : Fence.wide.fn 58 := trivial
  have fE : Fence.wide.fn 59 := trivial
  obtain ⟨wa, hwa⟩ : ∃ W, w.alloc (.cells #[.int .i64 0, .int .i64 0, .int .i64 0, .slice none 0 0] 25) = W := ⟨_, rfl⟩
  have ba : Below w.heap.size w wa := by rw [← hwa]; exact (Below.refl _ _).alloc (Nat.le_refl _) _
  have ra : wa.heap[w.heap.size]? = some (.cells #[.int .i64 0, .int .i64 0, .int .i64 0, .slice none 0 0] 25 (0, 0)) := by rw [← hwa]; exact heap_alloc_new w _
  have hSZ := callsIn_wide (n := n - 1).2 (tsizes_any gr S wa (rd_more hrd ba))
  unfold trV at hSZ
  have hgr : gr < w.heap.size := hrd.1.lt
  have hsq := fun (n : Nat) (hn : 3 ≤ n) B1 B2 B3 W h1 h2 h3 => evs_seq n hn B1 B2 B3 w.heap.size gr S W h1 hgr h2 h3 (there_blockW (hek.nm 0 (by omega)))
  obtain ⟨T, hT⟩ : ∃ T, T = (z1 S).1 := ⟨_, rfl⟩
  obtain ⟨V, hV⟩ : ∃ T, T = (z2 S).1 := ⟨_, rfl⟩
  obtain ⟨Z, hZ⟩ : ∃ T, T = (z3 S).1 := ⟨_, rfl⟩
  obtain ⟨N, hN⟩ : ∃ T, T = (z4 S).1 := ⟨_, rfl⟩
  rw [← hT, ← hV, ← hZ, ← hN] at hSZ hsq
  rw [← hT, ← hV, ← hZ]
  have HSZ := Lib.hid hSZ
  have HSQ := Lib.hid hsq
  have HWA := Lib.hid hwa
  have HBA := Lib.hid ba
  have HRA := Lib.hid ra
  have HEK := Lib.hid hek
  have HRD := Lib.hid hrd
  have HGR := Lib.hid hgr
  clear hwa ba ra hek hrd hSZ hsq hT hV hZ hN hgr
  refine callsIn_of_wp_marks Tryz.func30 rfl trivial ?_ rfl
  simp only [Tryz.ntmps30, List.size_toArray, List.length_cons, List.length_nil, Nat.reduceAdd, Nat.reduceSub, Array.replicate_succ, Array.replicate_zero, List.push_toArray, List.append_toArray, List.nil_append, List.cons_append]
  gi_wp2_with fail
  rw [HWA.out]
  refine HSZ.out.mono ?_
  rintro _ w1 ⟨rfl, r1, k1⟩
  obtain ⟨w2, hw2⟩ : ∃ W, w1.alloc (.cells #[.int .i64 T, .int .i64 V, .int .i64 Z, .slice none 0 0] 25) = W := ⟨_, rfl⟩
  have b2 : Below w1.heap.size w1 w2 := by rw [← hw2]; exact (Below.refl _ _).alloc (Nat.le_refl _) _
  have t2 : w2.heap[w1.heap.size]? = some (.cells #[.int .i64 T, .int .i64 V, .int .i64 Z, .slice none 0 0] 25 (0, 0)) := by rw [← hw2]; exact heap_alloc_new w1 _
  have hEV := evs_call gr T V Z N w2
  unfold trV at hEV
  have HEV := Lib.hid (callsIn_wide (n := n - 1).2 hEV)
  obtain ⟨gt, hgt⟩ : ∃ g, g = w1.heap.size := ⟨_, rfl⟩
  rw [← hgt] at t2
  -- the result's box, and all that was there
  have KA : Hid (Kp gr none w w1) := Kp.of_below HBA.out k1
  have ra1 : w1.heap[w.heap.size]? = some (.cells #[.int .i64 0, .int .i64 0, .int .i64 0, .slice none 0 0] 25 (0, 0)) := (k1.block w.heap.size (Array.getElem?_eq_some_iff.1 HRA.out).1 (by have := HGR.out; omega) (by simp)).trans HRA.out
  have RA2 := Lib.hid (row_stays ra1 b2)
  have K2 : Hid (Kp gr none w w2) := KA.out.then_below b2
  have EK2 := Lib.hid ((ek_rd (HEK.out.below HBA.out) (rd_more HRD.out HBA.out) k1).below b2)
  have R2 := Lib.hid (rd_more r1 b2)
  have T2 := Lib.hid t2
  have NG : Hid (w.heap.size < gt) := by show _ < _; rw [hgt]; exact (Array.getElem?_eq_some_iff.1 ra1).1
  have x0 := cell_of_row w2 gt 0 _ _ _ t2
  have x1 := cell_of_row w2 gt 1 _ _ _ t2
  have x2 := cell_of_row w2 gt 2 _ _ _ t2
  have x3 := cell_of_row w2 gt 3 _ _ _ t2
  simp only [List.getElem?_toArray, List.getElem?_cons_zero, List.getElem?_cons_succ] at x0 x1 x2 x3
  have HW2 := Lib.hid hw2
  have HGT := Lib.hid hgt
  clear hw2 hgt hEV r1 k1 b2 t2 ra1 HSZ HWA HBA HRA HEK HRD KA
  gi_wp2_with fail
  rw [HW2.out, ← HGT.out]
  refine HEV.out.mono ?_
  rintro _ w3 ⟨rfl, h3⟩
  have ba : Below w2.heap.size w2 (w2.alloc (.cells #[.pointer (some ⟨gr, 0, none⟩)] 63)) := (Below.refl _ _).alloc (Nat.le_refl _) _
  have bb : Below w2.heap.size w2 w3 := by rw [h3]; exact ((ba.alloc ba.size _).alloc (by simp; omega) _)
  have e3 : w3.heap[w2.heap.size]? = some (.cells #[.pointer (some ⟨gr, 0, none⟩)] 63 (0, 0)) := by
    rw [h3]
    exact row_stays (row_stays (heap_alloc_new w2 _) ((Below.refl _ _).alloc (Nat.le_refl _) _)) ((Below.refl _ _).alloc (Nat.le_refl _) _)
  have e4 : w3.heap[w2.heap.size + 1]? = some (.cells #[.int .i64 T, .int .i64 V, .int .i64 Z, .slice none 0 0] 25 (0, 0)) := by
    rw [h3]
    have h9 := row_stays (heap_alloc_new (w2.alloc (.cells #[.pointer (some ⟨gr, 0, none⟩)] 63)) (.cells #[.int .i64 T, .int .i64 V, .int .i64 Z, .slice none 0 0] 25 (0, 0))) ((Below.refl _ _).alloc (Nat.le_refl _) (.cells #[.int .i64 N] 3 (0, 0)))
    rw [World.size_alloc] at h9
    exact h9
  have e5 : w3.heap[w2.heap.size + 1 + 1]? = some (.cells #[.int .i64 N] 3 (0, 0)) := by
    rw [h3]
    have h9 := heap_alloc_new ((w2.alloc (.cells #[.pointer (some ⟨gr, 0, none⟩)] 63)).alloc (.cells #[.int .i64 T, .int .i64 V, .int .i64 Z, .slice none 0 0] 25)) (.cells #[.int .i64 N] 3 (0, 0))
    rw [World.size_alloc, World.size_alloc] at h9
    exact h9
  have hseq := HSQ.out (n - 1) (by omega) (w2.heap.size + 1) (w2.heap.size + 1 + 1) w2.heap.size w3 (rd_more R2.out bb) (Nat.le_trans K2.out.size bb.size) (EK2.out.below bb) e4 e5 e3
  have J3 : RJ w gr gt T V Z [] w3 := ⟨K2.out.then_below bb, ⟨none, 0, row_stays T2.out bb, World.ownsRow_nil _ _ _ _⟩, Nat.le_of_lt NG.out, HGR.out⟩
  have RA3 := Lib.hid (row_stays RA2.out bb)
  have hn3 : w.heap.size ≤ w3.heap.size := Nat.le_trans K2.out.size bb.size
  have HN3 := Lib.hid hn3
  have hgt3 : gt < w3.heap.size := (Array.getElem?_eq_some_iff.1 (row_stays T2.out bb)).1
  have HGT3 := Lib.hid hgt3
  clear h3 ba bb e3 e4 e5 x0 x1 x2 x3 HEV HSQ hgt3
  gi_wp2_with fail
  refine loopC (F := Fence.wide) (Kp := KR w.heap.size) (Kc := KcT gr w.heap.size) KR.trans (kc_cells gr w.heap.size) rfl h1 (gf := 103) (lb := #[.pointer (some ⟨w2.heap.size + 1, 0, none⟩), .pointer (some ⟨w2.heap.size + 1 + 1, 0, none⟩), .pointer (some ⟨w2.heap.size, 0, none⟩)]) rfl trivial (enters_of Tryz.func103 (by kernel_rfl) rfl)
    (n₀ := w.heap.size) (fun o o' hl h hc => KR.putObj o o' hl h hc) evsp_own hseq hn3 (fun _ => rfl)
    (fun pre W => RJ w gr gt T V Z pre W ∧ w3.heap.size ≤ W.heap.size ∧ W.heap[w.heap.size]? = some (.cells #[.int .i64 0, .int .i64 0, .int .i64 0, .slice none 0 0] 25 (0, 0))) ?own ?stays ⟨J3, Nat.le_refl _, RA3.out⟩
    (fun x b => { tmps := #[.pointer (some ⟨gr, 0, none⟩), undef, .pointer (some ⟨w.heap.size, 0, none⟩), .pointer (some ⟨gt, 0, none⟩), .int .i64 N, .pointer (some ⟨b, 0, none⟩), .tuple #[.agg #[.int .i64 T, .int .i64 V, .int .i64 Z, .slice none 0 0], .int .i64 N], .pointer (some ⟨gr, 0, none⟩), .tuple #[.agg #[.int .i64 T, .int .i64 V, .int .i64 Z, .slice none 0 0], .int .i64 N], .agg #[.int .i64 T, .int .i64 V, .int .i64 Z, .slice none 0 0], .int .i64 N, .pointer (some ⟨gr, 0, none⟩), .agg #[.int .i64 T, .int .i64 V, .int .i64 Z, .slice none 0 0], .int .i64 N, .func (.func 103) #[] #[.pointer (some ⟨w2.heap.size + 1, 0, none⟩), .pointer (some ⟨w2.heap.size + 1 + 1, 0, none⟩), .pointer (some ⟨w2.heap.size, 0, none⟩)], .agg #[.int .u8 x.kd, .int .i64 x.th, .int .i64 x.tx, .int .i64 x.pl, .int .i64 x.v, .int .i64 x.x, .int .u8 x.why], undef, undef, undef, undef, undef, undef, undef], defers := [] })
    (fun pre x b W => (RJ w gr gt T V Z pre W ∧ w3.heap.size ≤ W.heap.size ∧ W.heap[w.heap.size]? = some (.cells #[.int .i64 0, .int .i64 0, .int .i64 0, .slice none 0 0] 25 (0, 0))) ∧ W.heap[b]? = some (.cells (evC x) 50 (0, 0)) ∧ w.heap.size ≤ b)
    ?own1 ?assign ?body ?done
  case own =>
    intro s A C row hs hg hr
    exact ⟨hs.1.own hn3 hg hr, Nat.le_trans hs.2.1 hg.size, row_own hs.2.2 hg hr⟩
  case stays =>
    intro s A C hs hk
    exact ⟨hs.1.stays hk, Nat.le_trans hs.2.1 hk.size, hk.block _ _ hs.2.2 (.inr ⟨by have := HGR.out; omega, .inr fun cs t f x => by
      injection x with _ x
      subst x
      exact ⟨by decide, by decide⟩⟩)⟩
  case own1 =>
    intro s A C row hs hg hr
    exact ⟨⟨hs.1.1.own hn3 hg hr, Nat.le_trans hs.1.2.1 hg.size, row_own hs.1.2.2 hg hr⟩, row_own hs.2.1 hg hr, hs.2.2⟩
  case assign =>
    intro l2 pre x W4 K hi4 hsz4 hK
    have hK := Lib.hid hK
    have hi4 := Lib.hid hi4
    have hb4 : Below W4.heap.size W4 (W4.alloc (.cells #[.int .u8 x.kd, .int .i64 x.th, .int .i64 x.tx, .int .i64 x.pl, .int .i64 x.v, .int .i64 x.x, .int .u8 x.why] 50)) := (Below.refl _ _).alloc (Nat.le_refl _) _
    have HB4 := Lib.hid hb4
    have HEN : encE x = #[.agg #[.int .u8 x.kd, .int .i64 x.th, .int .i64 x.tx, .int .i64 x.pl, .int .i64 x.v, .int .i64 x.x, .int .u8 x.why]] := rfl
    rw [HEN]
    clear hb4 HEN
    gi_wp2
    exact hK.out W4.heap.size _ (KeepsFrom.of_grownBy (World.grownBy_alloc W4 _ none) (fun j e => by cases e)) (KR.of_below HB4.out (Nat.le_trans hn3 hi4.out.2.1)) ⟨⟨hi4.out.1.below HB4.out, Nat.le_trans hi4.out.2.1 HB4.out.size, row_stays hi4.out.2.2 HB4.out⟩, heap_alloc_new W4 _, Nat.le_trans hn3 hi4.out.2.1⟩
  case body =>
    rintro l2 pre x b W4 ⟨⟨hJ, hle, hra⟩, hbx, hbn⟩ hlen
    obtain ⟨A, c, hr, ho⟩ := hJ.row
    have y3 := cell_of_row W4 gt 3 _ _ _ hr
    simp only [List.getElem?_toArray, List.getElem?_cons_zero, List.getElem?_cons_succ] at y3
    obtain ⟨e0, e1, e2, e3, e4, e5, e6⟩ := evsix (show EvO W4 b x from hbx)
    have hb5 : Below W4.heap.size W4 (W4.alloc (.cells (evC x) 50)) := (Below.refl _ _).alloc (Nat.le_refl _) _
    have hn4 : w.heap.size ≤ W4.heap.size := Nat.le_trans hn3 hle
    have HO := Lib.hid (own_more ho hb5)
    have HR5 := Lib.hid (row_stays hr hb5)
    have HB5 := Lib.hid hb5
    have HJ := Lib.hid hJ
    have HRA := Lib.hid hra
    have HLE := Lib.hid hle
    have HSZ5 : Hid (w.heap.size ≤ (W4.alloc (.cells (evC x) 50)).heap.size) := Nat.le_trans hn4 hb5.size
    obtain ⟨m, hm⟩ : ∃ m, m = pre.length := ⟨_, rfl⟩
    have HM := Lib.hid hm
    rw [← hm] at y3 HO HR5
    have hm9 : m + 1 ≤ 100000 := by omega
    clear hJ hle hra hbx hr ho hb5 hm
    gi_wp2_with (first
      | (refine wpListIn_plain rfl fun KK hKK => wpIn_ofT (by intro d h; cases h) (b_lit1 18 x rfl rfl (hKK _ _ ?_)))
      | (refine wpListIn_plain rfl fun KK hKK => wpIn_ofT (by intro d h; cases h) (wp_addE HO.out HSZ5.out (heap_alloc_new W4 _) hm9 (.tmp 17) (.tmp 19) rfl rfl rfl ?_); intro A6 c6' w6 own6 g6; refine hKK _ _ ?_; have r6 := (g6.block gt (Array.getElem?_eq_some_iff.1 HR5.out).1 (own_far HO.out HR5.out (by decide))).trans HR5.out; have y6 := cell_of_row w6 gt 3 _ _ _ r6; simp only [List.getElem?_toArray, List.getElem?_cons_zero, List.getElem?_cons_succ] at y6; have f6 := frozen_of_row w6 gt 3 _ _ r6)
      | gi_in)
    obtain ⟨k2, f2⟩ := grow_kr (n₀ := w.heap.size) (B := w3.heap.size) HO.out g6 (Nat.le_refl _) HSZ5.out
    obtain ⟨k3, f3⟩ := set_kr (n₀ := w.heap.size) (B := w3.heap.size) (i := 3) (v := .slice A6 (m + 1) c6') r6 HJ.out.n1
    have k1 := KR.of_below (n₀ := w.heap.size) HB5.out hn4
    have f1 : KeepsFrom w3.heap.size W4 (W4.alloc (.cells (evC x) 50)) := KeepsFrom.of_grownBy (World.grownBy_alloc W4 _ none) (fun j e => by cases e)
    have r7 := Obj.store (w := w6) (g := gt) (t := 25) r6 3 (.slice A6 (m + 1) c6')
    have a6 := (g6.block w.heap.size (by have := HSZ5.out; have := (Array.getElem?_eq_some_iff.1 (row_stays HRA.out HB5.out)).1; omega) (own_far HO.out (row_stays HRA.out HB5.out) (by decide))).trans (row_stays HRA.out HB5.out)
    have o7 : (w6.setCell ⟨gt, 3, none⟩ (.slice A6 (m + 1) c6')).ownsRow w.heap.size 50 7 (.slice A6 (m + 1) c6') (m + 1) (evsC (pre ++ [x])) := own_below own6 fun r hr' => Below.heap_setCell w6 ⟨gt, 3, none⟩ _ r (by
      intro e
      have e : r = gt := e
      exact own_far own6 r6 (by decide) (by rw [← e]; exact hr'.symm))
    have kp6 : Kp gr none w w6 := ⟨g6.os.trans (HJ.out.kp.then_below HB5.out).os, g6.tape.trans (HJ.out.kp.then_below HB5.out).tape, g6.output.trans (HJ.out.kp.then_below HB5.out).output, Nat.le_trans (HJ.out.kp.then_below HB5.out).size g6.size, fun i hi a1 a2 => (g6.block i (Nat.lt_of_lt_of_le hi (HJ.out.kp.then_below HB5.out).size) (fun x => by have := (own_at HO.out i x.symm).1; omega)).trans ((HJ.out.kp.then_below HB5.out).block i hi a1 a2)⟩
    have hlen2 : (pre ++ [x]).length = m + 1 := by rw [List.length_append, List.length_singleton, HM.out]
    have h37 : w3.heap.size ≤ (w6.setCell ⟨gt, 3, none⟩ (.slice A6 (m + 1) c6')).heap.size := Nat.le_trans HLE.out ((f1.trans f2).trans f3).size
    exact ⟨(f1.trans f2).trans f3, (k1.trans k2).trans k3, ⟨kp_set2 kp6 HJ.out.n1, ⟨A6, c6', by rw [hlen2]; exact r7, by rw [hlen2]; exact o7⟩, HJ.out.n1, HJ.out.n2⟩, h37, (Below.heap_setCell w6 ⟨gt, 3, none⟩ _ w.heap.size (by have := NG.out; show w.heap.size ≠ gt; omega)).trans a6⟩
  case done =>
    rintro xs W4 ⟨rfl, hrd4⟩ ⟨hJ, hle, hra⟩ hK
    obtain ⟨A, c, hr, ho⟩ := hJ.row
    have y0 := cell_of_row W4 gt 0 _ _ _ hr
    have y1 := cell_of_row W4 gt 1 _ _ _ hr
    have y2 := cell_of_row W4 gt 2 _ _ _ hr
    have y3 := cell_of_row W4 gt 3 _ _ _ hr
    simp only [List.getElem?_toArray, List.getElem?_cons_zero, List.getElem?_cons_succ] at y0 y1 y2 y3
    have HRA := Lib.hid hra
    obtain ⟨q1, q2⟩ := row_set (cs := #[.int .i64 T, .int .i64 V, .int .i64 Z, .slice A (evsS S).1.length c]) hra
    obtain ⟨W5, hW5⟩ : ∃ W, W4.setRow w.heap.size #[.int .i64 T, .int .i64 V, .int .i64 Z, .slice A (evsS S).1.length c] = W := ⟨_, rfl⟩
    rw [hW5] at q1 q2
    have hK5 : W5.heap[w3.heap.size]? = some (.deferred (some [])) := (q2.block w3.heap.size (Array.getElem?_eq_some_iff.1 hK).1 (by have := NG.out; have := HGT3.out; omega) (by simp)).trans hK
    have hne : w.heap.size ≠ gr := by have := HGR.out; omega
    have hrd5 : Rd W5 gr S (evsS S).2.1 (evsS S).2.2 := ⟨(q2.block gr hrd4.1.lt (Ne.symm hne) (by simp)).trans hrd4.1, hrd4.2⟩
    have ho5 : W5.ownsRow w.heap.size 50 7 (.slice A (evsS S).1.length c) (evsS S).1.length (evsC (evsS S).1) := own_below ho fun r hr' => by
      obtain ⟨_, cur, hcur⟩ := own_at ho r hr'
      exact q2.block r (Array.getElem?_eq_some_iff.1 hcur).1 (fun x => own_far ho hra (by decide) (by rw [← x]; exact hr'.symm)) (by simp)
    have hkp5 : Kp gr none w W5 := ⟨q2.os.trans hJ.kp.os, q2.tape.trans hJ.kp.tape, q2.output.trans hJ.kp.output, Nat.le_trans hJ.kp.size q2.size, fun i hi a1 a2 => (q2.block i (Nat.lt_of_lt_of_le hi hJ.kp.size) (by omega) (by simp)).trans (hJ.kp.block i hi a1 a2)⟩
    have hp : W5.grownBy (W5.putObj w3.heap.size (.deferred none)) (some w3.heap.size) := grownBy_putObj' W5 w3.heap.size (.deferred none)
    have hfin : (W5.putObj w3.heap.size (.deferred none)).ownsRow w.heap.size 50 7 (.slice A (evsS S).1.length c) (evsS S).1.length (evsC (evsS S).1) ∧ Rd (W5.putObj w3.heap.size (.deferred none)) gr S (evsS S).2.1 (evsS S).2.2 ∧ Kp gr none w (W5.putObj w3.heap.size (.deferred none)) := by
      refine ⟨ownsRow_putObj ho5 (.deferred none) hK5 rfl, ⟨(World.putObj_heap_other (by
        intro x
        have h9 := hrd5.1
        unfold Obj at h9
        rw [x, hK5] at h9
        cases h9)).trans hrd5.1, hrd5.2⟩, ⟨hp.os.trans hkp5.os, hp.tape.trans hkp5.tape, hp.output.trans hkp5.output, Nat.le_trans hkp5.size hp.size, fun i hi a1 a2 => (World.putObj_heap_other (by omega)).trans (hkp5.block i hi a1 a2)⟩⟩
    have hrow : (W5.putObj w3.heap.size (.deferred none)).heap[w.heap.size]? = some (.cells #[.int .i64 T, .int .i64 V, .int .i64 Z, .slice A (evsS S).1.length c] 25 (0, 0)) := (World.putObj_heap_other (by have := NG.out; have := HGT3.out; omega)).trans q1
    have HFIN := Lib.hid hfin
    have HROW := Lib.hid hrow
    have HK5 := Lib.hid hK5
    have HW5 := Lib.hid hW5
    clear q1 q2 hK5 hrd5 ho5 hkp5 hp hfin hrow hr ho hrd4 hJ hK hra hW5
    gi_wp2_with (first
      | (refine wpListIn_plain rfl fun KK hKK => (wpIn_ofW (by intro d h; cases h) (wp_store_row 25 _ _ rfl w.heap.size #[.int .i64 T, .int .i64 V, .int .i64 Z, .slice A (evsS S).1.length c] rfl rfl 25 _ HRA.out (by kernel_rfl) rfl (by simp [Value.oneCell']) (hKK _ _ ?_))))
      | gi_in)
    rw [HW5.out]
    refine ⟨by simp, .inl ⟨_, _, rfl, run_takeDeferred HK5.out, ?_⟩⟩
    exact ⟨_, results_cell_row rfl _ _ w.heap.size 25 _ (0, 0) _ rfl HROW.out Tryz.underlying25 rfl (by kernel_rfl), A, c, rfl, HFIN.out.1, HFIN.out.2.1, HFIN.out.2.2⟩
theorem tread_any (gr : Nat) (S : ByteArray) (w : World) (hek : Ek w) (hrd : Rd w gr S 0 0) (hS : S.size ≤ 99999) :
    Calls Tryz.prog 30 #[.pointer (some ⟨gr, 0, none⟩)] w fun r w' => ∃ A c, r = .returned (trV (z1 S).1 (z2 S).1 (z3 S).1 A (evsS S).1.length c) ∧ w'.ownsRow w.heap.size 50 7 (.slice A (evsS S).1.length c) (evsS S).1.length (evsC (evsS S).1) ∧ Rd w' gr S (evsS S).2.1 (evsS S).2.2 ∧ Kp gr none w w' := callsIn_wide.1 (tread_in 8 (by omega) gr S w hek hrd hS)
end Go.Proofs.YteigglhhnemngaaGreatDoor
