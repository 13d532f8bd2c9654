/-
  CONTRACT OF PACKAGE event's read. Laid by gen/gen_wp.py. Conditions: as they stand.
-/
import Derived.Test.YtfbnigikofidoaaDoorWo
import Derived.Lib.ParseIntBTie
namespace Go.Proofs.YtfbnigikofidoaaDoor
set_option maxRecDepth 100000
open Go.RowKit Go.Shelf
set_option linter.unusedVariables false
attribute [local go_sem] Oper.semAt_some
theorem numF_range (l : List UInt8) : -9223372036854775808 ≤ numF l ∧ numF l ≤ 9223372036854775807 := by
  unfold numF
  cases h : Lib.parseIntB 64 l with
  | ok n =>
    have := Lib.parseIntB_bounds h
    simp only
    omega
  | range =>
    simp only [Lib.intSat]
    split <;> decide
  | _ => simp
theorem fill_range (l : List Part) (s : List UInt8) (c : Nat → Int) (hc : ∀ i, -9223372036854775808 ≤ c i ∧ c i ≤ 9223372036854775807) : ∀ i, -9223372036854775808 ≤ (fillF l s c).2 i ∧ (fillF l s c).2 i ≤ 9223372036854775807 := by
  induction l generalizing s c with
  | nil => exact hc
  | cons p r ih =>
    refine ih _ _ fun i => ?_
    unfold put5
    split
    · exact numF_range _
    · exact hc i
theorem read_ok (s : List UInt8) : EvOk (readF s) := by
  unfold readF
  simp only
  split
  · constructor <;> simp [ev0]
  · have hf := fill_range (partsK (kindF (cut1 (cut1 s).2).1) 32 32) (cut1 (cut1 s).2).2 zeroC (fun i => by unfold zeroC; omega)
    have hk := kindF_le (cut1 (cut1 s).2).1
    have hn := numF_range (cut1 s).1
    generalize fillF (partsK (kindF (cut1 (cut1 s).2).1) 32 32) (cut1 (cut1 s).2).2 zeroC = F at *
    constructor <;> simp only [evOf] <;> first | omega | exact hn.1 | exact hn.2 | exact (hf _).1 | exact (hf _).2
theorem wpIn_of_wpW {n : Nat} {P : Program} {o : Oper} {a : Act} {w : World} {K : Act → World → Prop} {Q : Exit → Act → World → Prop} (hd : ∀ c, o.op ≠ .defer c) (h : Oper.wp P o a w K Q) : Oper.wpIn Fence.wide n P o a w K Q := by
  refine ⟨fun _ _ => trivial, ?_⟩
  rw [Oper.semAt_eq _ _ _ hd]
  unfold Oper.wp at h
  generalize (execOp a.eval o).run P w = r at *
  cases r with
  | ok x w' =>
    cases x <;> simp only [Oper.upon, Oper.uponIn] at h ⊢
    case value u => exact h
    case skip => exact h
    case defer d => exact h
    case enter f args => exact ⟨fun h => (by cases h), callsIn_wide.2 h⟩
    case row row args => exact ⟨fun h => (by cases h), fun c cs _ => let ⟨v, w2, r, s⟩ := h c cs; ⟨v, w2, r, stepsIn_wide.2 s⟩⟩
  | halt x w' =>
    cases x <;> simp only [Oper.upon, Oper.uponIn] at h ⊢
    case panic u => exact h
theorem bsW_size (l : List UInt8) : (bsW l).size = l.length := by
  show l.toArray.size = _
  simp
theorem cutV_bsW (l : List UInt8) : cutV (bsW l).data.toList = cutV l := by rw [bsW_list]
set_option maxHeartbeats 2000000 in
theorem read_no (s : ByteArray) (hs : s.size ≤ 281474976710656) (h : kindF (cut1 (cut1 s.data.toList).2).1 = 0) (w : World) (he : Ek w) :
    Calls Tryd.prog 19 #[.string s] w fun r w' => r = .returned (evV ev0) ∧ Below w.heap.size w w' := by
  have hsl : s.data.toList.length = s.size := by rw [Array.length_toList]; rfl
  have H1 := Lib.hid (fun w1 => cut_any s hs w1)
  obtain ⟨la, hla⟩ : ∃ la, la = (cut1 s.data.toList).1 := ⟨_, rfl⟩
  obtain ⟨ra, hra⟩ : ∃ ra, ra = (cut1 s.data.toList).2 := ⟨_, rfl⟩
  have hral : ra.length ≤ s.size := by rw [hra, ← hsl]; exact (cut1_len _).2
  have H2 := Lib.hid (fun w1 => cut_any (bsW ra) (by rw [bsW_size]; omega) w1)
  rw [cutV_bsW] at H2
  obtain ⟨lb, hlb⟩ : ∃ lb, lb = (cut1 ra).1 := ⟨_, rfl⟩
  obtain ⟨rb, hrb⟩ : ∃ rb, rb = (cut1 ra).2 := ⟨_, rfl⟩
  rw [← hra, ← hlb] at h
  obtain ⟨f1, hf1⟩ : ∃ f, f = decide (0 ≤ Lib.indexByte s.data.toList 32) := ⟨_, rfl⟩
  obtain ⟨f2, hf2⟩ : ∃ f, f = decide (0 ≤ Lib.indexByte ra 32) := ⟨_, rfl⟩
  unfold cutV at H1 H2
  rw [← hla, ← hra, ← hf1] at H1
  rw [← hlb, ← hrb, ← hf2] at H2
  have H3 : Hid (∀ w1, Below w.heap.size w w1 → Calls Tryd.prog 41 #[.string (bsW lb)] w1 fun r w' => r = .returned (.tuple #[.int .u8 0, .bool false]) ∧ w1 = w') := fun w1 b => by
    have := kind_any (bsW lb) w1 (he.below b)
    rw [bsW_list, h] at this
    exact this
  clear h hla hra hlb hrb hf1 hf2 hsl he hral hs
  unfold evV ev0
  simp only
  go_enter Tryd.func19, Tryd.ntmps19
  go_wp2_with fail
  refine (H1.out _).mono ?_
  rintro _ w1 ⟨rfl, b1⟩
  have q1 : _root_.Go.Boxed w1 w.heap.size 9 (.string s) := (b1.block _ (by simp; omega)).trans (heap_alloc2_old w _ _)
  have q2 : w1.heap[w.heap.size + 1]? = some (.cells #[.int .u8 0, .int .i64 0, .int .i64 0, .int .i64 0, .int .i64 0, .int .i64 0, .int .u8 0] 23 (0, 0)) := (b1.block _ (by simp)).trans (heap_alloc2_new w _ _)
  have c1 := q1.cell
  have f1' := q1.frozen
  have B1 : Hid (Below w.heap.size w w1) := by
    refine Lib.hid (Below.trans (B := w.heap.size) ?_ (b1.mono (by simp; omega)))
    go_grown
  have Q1 := Lib.hid q1
  have Q2 := Lib.hid q2
  clear b1 q1 q2
  go_wp2_with fail
  refine (H2.out _).mono ?_
  rintro _ w2 ⟨rfl, b2⟩
  have q1 : _root_.Go.Boxed w2 w.heap.size 9 (.string (bsW ra)) := (b2.block _ (by rw [World.size_setCell]; exact Q1.out.lt)).trans (Q1.out.set _)
  have q2 := (b2.block _ (by rw [World.size_setCell]; exact (Array.getElem?_eq_some_iff.1 Q2.out).1)).trans ((heap_setCell_other w1 ⟨w.heap.size, 0, none⟩ (w.heap.size + 1) _ (by simp)).trans Q2.out)
  have B2 : Hid (Below w.heap.size w w2) := (B1.out.setCell (p := ⟨w.heap.size, 0, none⟩) (Nat.le_refl _) _).trans (b2.mono (by rw [World.size_setCell]; exact B1.out.size))
  have c1 := q1.cell
  have f1' := q1.frozen
  have QB := Lib.hid q1
  have QE := Lib.hid q2
  clear b2 q1 q2 B1 Q1 Q2
  go_wp2_with fail
  refine (H3.out _ (B2.out.setCell (p := ⟨w.heap.size, 0, none⟩) (Nat.le_refl _) _)).mono ?_
  rintro _ w3 ⟨rfl, rfl⟩
  have HE : Hid ((w2.setCell ⟨w.heap.size, 0, none⟩ (.string (bsW rb))).heap[w.heap.size + 1]? = some (.cells #[.int .u8 0, .int .i64 0, .int .i64 0, .int .i64 0, .int .i64 0, .int .i64 0, .int .u8 0] 23 (0, 0))) := (heap_setCell_other w2 ⟨w.heap.size, 0, none⟩ (w.heap.size + 1) _ (by simp)).trans QE.out
  have BE := Lib.hid (B2.out.setCell (p := ⟨w.heap.size, 0, none⟩) (Nat.le_refl _) (.string (bsW rb)))
  obtain ⟨w4, hw4⟩ : ∃ w4, w4 = w2.setCell ⟨w.heap.size, 0, none⟩ (.string (bsW rb)) := ⟨_, rfl⟩
  rw [← hw4] at HE BE ⊢
  clear hw4 c1 f1' QB QE B2
  go_wp2_with (first
    | (refine wpList_store_row rfl _ _ _ rfl (w.heap.size + 1) #[.int .u8 0, .int .i64 0, .int .i64 0, .int .i64 0, .int .i64 0, .int .i64 0, .int .u8 0] rfl rfl 23 _ HE.out (by kernel_rfl) rfl (by simp [Value.oneCell']) ?_)
    | fail)
  refine bodyPost_ret (results_cell_row rfl _ _ (w.heap.size + 1) 23 #[.int .u8 0, .int .i64 0, .int .i64 0, .int .i64 0, .int .i64 0, .int .i64 0, .int .u8 0] (0, 0) _ rfl (setRow_heap _ _ _ _ _ _ HE.out) Tryd.underlying23 rfl (by kernel_rfl)) rfl ⟨rfl, ?_⟩
  exact below_setRowW BE.out (by omega) _
set_option maxRecDepth 100000 in
set_option maxHeartbeats 8000000 in
theorem read_yes (n : Nat) (hn : 8 ≤ n) (s : ByteArray) (hs : s.size ≤ 281474976710656) (h : kindF (cut1 (cut1 s.data.toList).2).1 ≠ 0) (w : World) (he : Ek w) :
    CallsIn Fence.wide n Tryd.prog 19 #[.string s] w fun r w' => r = .returned (evV (readF s.data.toList)) ∧ Below w.heap.size w w' := by
  have h1 : 1 ≤ n := by omega
  have hsl : s.data.toList.length = s.size := by rw [Array.length_toList]; rfl
  have hread : readF s.data.toList = evOf (kindF (cut1 (cut1 s.data.toList).2).1) (numF (cut1 s.data.toList).1) (fillF (partsK (kindF (cut1 (cut1 s.data.toList).2).1) 32 32) (cut1 (cut1 s.data.toList).2).2 zeroC).2 := by
    unfold readF
    simp only
    rw [if_neg h]
  rw [hread]
  have H1 := Lib.hid (fun w1 => callsIn_wide (n := n - 1).2 (cut_any s hs w1))
  obtain ⟨la, hla⟩ : ∃ la, la = (cut1 s.data.toList).1 := ⟨_, rfl⟩
  obtain ⟨ra, hra⟩ : ∃ ra, ra = (cut1 s.data.toList).2 := ⟨_, rfl⟩
  have hlal : la.length ≤ s.size := by rw [hla, ← hsl]; exact (cut1_len _).1
  have hral : ra.length ≤ s.size := by rw [hra, ← hsl]; exact (cut1_len _).2
  have H2 := Lib.hid (fun w1 => callsIn_wide (n := n - 1).2 (cut_any (bsW ra) (by rw [bsW_size]; omega) w1))
  rw [cutV_bsW] at H2
  rw [← hla, ← hra]
  rw [← hra] at h
  obtain ⟨lb, hlb⟩ : ∃ lb, lb = (cut1 ra).1 := ⟨_, rfl⟩
  obtain ⟨rb, hrb⟩ : ∃ rb, rb = (cut1 ra).2 := ⟨_, rfl⟩
  have hrbl : rb.length ≤ s.size := by have := (cut1_len ra).2; rw [hrb]; omega
  rw [← hlb, ← hrb]
  rw [← hlb] at h
  obtain ⟨k, hk⟩ : ∃ k, k = kindF lb := ⟨_, rfl⟩
  rw [← hk]
  rw [← hk] at h
  have hk14 : k < 14 := by have := kindF_le lb; omega
  obtain ⟨f1, hf1⟩ : ∃ f, f = decide (0 ≤ Lib.indexByte s.data.toList 32) := ⟨_, rfl⟩
  obtain ⟨f2, hf2⟩ : ∃ f, f = decide (0 ≤ Lib.indexByte ra 32) := ⟨_, rfl⟩
  unfold cutV at H1 H2
  rw [← hla, ← hra, ← hf1] at H1
  rw [← hlb, ← hrb, ← hf2] at H2
  have H3 : Hid (∀ w1, Below w.heap.size w w1 → CallsIn Fence.wide (n - 1) Tryd.prog 41 #[.string (bsW lb)] w1 fun r w' => r = .returned (.tuple #[.int .u8 k, .bool true]) ∧ w1 = w') := fun w1 b => by
    have := kind_any (bsW lb) w1 (he.below b)
    rw [bsW_list, ← hk, show (k != 0) = true by simpa using h] at this
    exact callsIn_wide.2 this
  have H4 : Hid (∀ w1, Below w.heap.size w w1 → CallsIn Fence.wide (n - 1) Tryd.prog 42 #[.string (bsW la)] w1 fun r w' => r = .returned (.int .i64 (numF la)) ∧ Below w1.heap.size w1 w') := fun w1 b => by
    have := number_any (bsW la) (by rw [bsW_size]; omega) w1 (he.below b)
    rw [bsW_list] at this
    exact callsIn_wide.2 this
  obtain ⟨F, hF⟩ : ∃ F, F = fillF (partsK k 32 32) rb zeroC := ⟨_, rfl⟩
  rw [← hF, ← evN_eq]
  have HF := Lib.hid hF
  have HEK := Lib.hid he
  have HFL := Lib.hid (fun l => Nat.le_trans (fillF_len l rb zeroC) hrbl)
  have HS := Lib.hid hs
  have fC : Fence.wide.fn 40 := trivial
  have fK : Fence.wide.fn 41 := trivial
  have fP : Fence.wide.fn 13 := trivial
  have fN : Fence.wide.fn 42 := trivial
  have fE : Fence.wide.fn 43 := trivial
  clear h hla hra hlb hrb hf1 hf2 hsl he hral hlal hrbl hs hread hk hF
  obtain ⟨rv, hrv⟩ : ∃ rv, rv = evN k (numF la) F.2 := ⟨_, rfl⟩
  rw [← hrv]
  have RV := Lib.hid hrv
  clear hrv
  refine callsIn_of_wp_marks Tryd.func19 rfl trivial ?_ rfl
  simp only [Tryd.ntmps19, List.size_toArray, List.length_cons, List.length_nil, Nat.reduceAdd, Nat.reduceSub, Array.replicate_succ, Array.replicate_zero, List.push_toArray, List.append_toArray, List.nil_append, List.cons_append]
  gi_wp2_with fail
  refine (H1.out _).mono ?_
  rintro _ w1 ⟨rfl, b1⟩
  have q1 : _root_.Go.Boxed w1 w.heap.size 9 (.string s) := (b1.block _ (by simp; omega)).trans (heap_alloc2_old w _ _)
  have q2 : w1.heap[w.heap.size + 1]? = some (.cells #[.int .u8 0, .int .i64 0, .int .i64 0, .int .i64 0, .int .i64 0, .int .i64 0, .int .u8 0] 23 (0, 0)) := (b1.block _ (by simp)).trans (heap_alloc2_new w _ _)
  have c1 := q1.cell
  have f1' := q1.frozen
  have B1 : Hid (Below w.heap.size w w1) := by
    refine Lib.hid (Below.trans (B := w.heap.size) ?_ (b1.mono (by simp; omega)))
    go_grown
  have Q1 := Lib.hid q1
  have Q2 := Lib.hid q2
  clear b1 q1 q2
  gi_wp2_with fail
  refine (H2.out _).mono ?_
  rintro _ w2 ⟨rfl, b2⟩
  have q1 : _root_.Go.Boxed w2 w.heap.size 9 (.string (bsW ra)) := (b2.block _ (by rw [World.size_setCell]; exact Q1.out.lt)).trans (Q1.out.set _)
  have q2 := (b2.block _ (by rw [World.size_setCell]; exact (Array.getElem?_eq_some_iff.1 Q2.out).1)).trans ((heap_setCell_other w1 ⟨w.heap.size, 0, none⟩ (w.heap.size + 1) _ (by simp)).trans Q2.out)
  have B2 : Hid (Below w.heap.size w w2) := (B1.out.setCell (p := ⟨w.heap.size, 0, none⟩) (Nat.le_refl _) _).trans (b2.mono (by rw [World.size_setCell]; exact B1.out.size))
  have c1 := q1.cell
  have f1' := q1.frozen
  have QB := Lib.hid q1
  have QE := Lib.hid q2
  clear b2 q1 q2 B1 Q1 Q2
  gi_wp2_with fail
  refine (H3.out _ (B2.out.setCell (p := ⟨w.heap.size, 0, none⟩) (Nat.le_refl _) _)).mono ?_
  rintro _ w3 ⟨rfl, rfl⟩
  have HE : Hid ((w2.setCell ⟨w.heap.size, 0, none⟩ (.string (bsW rb))).heap[w.heap.size + 1]? = some (.cells #[.int .u8 0, .int .i64 0, .int .i64 0, .int .i64 0, .int .i64 0, .int .i64 0, .int .u8 0] 23 (0, 0))) := (heap_setCell_other w2 ⟨w.heap.size, 0, none⟩ (w.heap.size + 1) _ (by simp)).trans QE.out
  have HSb : Hid (_root_.Go.Boxed (w2.setCell ⟨w.heap.size, 0, none⟩ (.string (bsW rb))) w.heap.size 9 (.string (bsW rb))) := QB.out.set _
  have BE := Lib.hid (B2.out.setCell (p := ⟨w.heap.size, 0, none⟩) (Nat.le_refl _) (.string (bsW rb)))
  obtain ⟨w4, hw4⟩ : ∃ w4, w4 = w2.setCell ⟨w.heap.size, 0, none⟩ (.string (bsW rb)) := ⟨_, rfl⟩
  rw [← hw4] at HE BE HSb ⊢
  clear hw4 c1 f1' QB QE B2 H1 H2 H3
  gi_wp2_with fail
  obtain ⟨W3, hW3⟩ : ∃ W3, W3 = w4.alloc (.cells #[.int .i64 0, .int .i64 0, .int .i64 0, .int .i64 0, .int .i64 0] 36) := ⟨_, rfl⟩
  obtain ⟨g5, hg5⟩ : ∃ g, g = w4.heap.size := ⟨_, rfl⟩
  have g3 : W3.heap[g5]? = some (.cells (numR zeroC) 36 (0, 0)) := by rw [hW3, hg5]; exact World.alloc_heap_new w4 _
  have b3 : Below w4.heap.size w4 W3 := by rw [hW3]; exact (Below.refl _ _).alloc (Nat.le_refl _) _
  have bs3 := box_belowW HSb.out b3
  have be3 : W3.heap[w.heap.size + 1]? = some (.cells #[.int .u8 0, .int .i64 0, .int .i64 0, .int .i64 0, .int .i64 0, .int .i64 0, .int .u8 0] 23 (0, 0)) := (b3.block _ (Array.getElem?_eq_some_iff.1 HE.out).1).trans HE.out
  have bw3 : Below w.heap.size w W3 := BE.out.trans (b3.mono BE.out.size)
  have hg5n : w.heap.size + 2 ≤ g5 := by
    have := (Array.getElem?_eq_some_iff.1 HE.out).1
    omega
  rw [← hW3, ← hg5]
  clear hW3 hg5 HE BE HSb b3
  refine (parts_call Fence.wide (n - 1) trivial rfl k 32 32 W3).mono ?_
  rintro e w' ⟨rfl, rfl⟩
  gi_wp2_with fail
  obtain ⟨W0, hW0⟩ : ∃ W0, W0 = ((W3.alloc (.cells #[.int .u8 k] 5)).alloc (.cells #[.int .i64 32] 3)).alloc (.cells #[.int .i64 32] 3) := ⟨_, rfl⟩
  have q3 : _root_.Go.Boxed W0 W3.heap.size 5 (.int .u8 k) := by rw [hW0]; exact ((_root_.Go.Boxed.new W3 _ _).alloc _).alloc _
  have q4 : _root_.Go.Boxed W0 (W3.heap.size + 1) 3 (.int .i64 32) := by
    rw [hW0]
    have := (_root_.Go.Boxed.new (W3.alloc (.cells #[.int .u8 k] 5)) 3 (.int .i64 32)).alloc (.cells #[.int .i64 32] 3)
    rwa [World.size_alloc] at this
  have q5 : _root_.Go.Boxed W0 (W3.heap.size + 1 + 1) 3 (.int .i64 32) := by
    rw [hW0]
    have := _root_.Go.Boxed.new ((W3.alloc (.cells #[.int .u8 k] 5)).alloc (.cells #[.int .i64 32] 3)) 3 (.int .i64 32)
    rwa [World.size_alloc, World.size_alloc] at this
  have k30 : Below W3.heap.size W3 W0 := by rw [hW0]; exact (((Below.refl _ W3).alloc (Nat.le_refl _) _).alloc (by simp) _).alloc (by simp; omega) _
  have g0 : W0.heap[g5]? = some (.cells (numR zeroC) 36 (0, 0)) := (k30.block g5 (Array.getElem?_eq_some_iff.1 g3).1).trans g3
  have bs0 := box_belowW bs3 k30
  have be0 : W0.heap[w.heap.size + 1]? = some (.cells #[.int .u8 0, .int .i64 0, .int .i64 0, .int .i64 0, .int .i64 0, .int .i64 0, .int .u8 0] 23 (0, 0)) := (k30.block _ (Array.getElem?_eq_some_iff.1 be3).1).trans be3
  have hB0 : Below w.heap.size w W0 := bw3.trans (k30.mono bw3.size)
  have hw0 : w.heap.size ≤ W0.heap.size := hB0.size
  rw [← hW0]
  clear hW0 k30 g3 bs3 be3 bw3
  refine loopT (F := Fence.wide) (Kp := KT w.heap.size 43) KT.trans rfl h1 (gf := 28) (lb := #[.pointer (some ⟨W3.heap.size + 1 + 1, 0, none⟩), .pointer (some ⟨W3.heap.size + 1, 0, none⟩), .pointer (some ⟨W3.heap.size, 0, none⟩)]) rfl trivial (enters_of Tryd.func28 (by kernel_rfl) rfl)
    (n₀ := w.heap.size) (fun o o' hl h hc => KT.putObj o o' hl h hc) (parts_seq (n - 1) (by omega) W3.heap.size (W3.heap.size + 1) (W3.heap.size + 1 + 1) w.heap.size k hk14 32 32 (by omega) (by omega) (by omega) (by omega) W0 hB0.size q3 q4 q5) hB0.size (fun _ => rfl)
    (fun pre W => ((_root_.Go.Boxed W w.heap.size 9 (.string (bsW (fillF pre rb zeroC).1)) ∧ W.heap[g5]? = some (.cells (numR (fillF pre rb zeroC).2) 36 (0, 0))) ∧ W.heap[w.heap.size + 1]? = some (.cells #[.int .u8 0, .int .i64 0, .int .i64 0, .int .i64 0, .int .i64 0, .int .i64 0, .int .u8 0] 23 (0, 0))) ∧ Below w.heap.size w W)
    (fun pre W => False)
    ?own ?ownX ⟨⟨⟨bs0, g0⟩, be0⟩, hB0⟩
    (fun x b => { tmps := #[.string s, .pointer (some ⟨w.heap.size, 0, none⟩), .pointer (some ⟨w.heap.size + 1, 0, none⟩), .string (bsW la), .bool f1, .string (bsW lb), .bool f2, .int .u8 k, .bool true, .pointer (some ⟨g5, 0, none⟩), .pointer (some ⟨b, 0, none⟩), undef, .tuple #[.string (bsW la), .string (bsW ra), .bool f1], .string s, .tuple #[.string (bsW la), .string (bsW ra), .bool f1], .string (bsW la), .string (bsW ra), .bool f1, .tuple #[.string (bsW lb), .string (bsW rb), .bool f2], .string (bsW ra), .tuple #[.string (bsW lb), .string (bsW rb), .bool f2], .string (bsW lb), .string (bsW rb), .bool f2, .tuple #[.int .u8 k, .bool true], .string (bsW lb), .tuple #[.int .u8 k, .bool true], .int .u8 k, .bool true, .bool true, .bool false, undef, .int .u8 k, .func (.func 28) #[] #[.pointer (some ⟨W3.heap.size + 1 + 1, 0, none⟩), .pointer (some ⟨W3.heap.size + 1, 0, none⟩), .pointer (some ⟨W3.heap.size, 0, none⟩)], partV x, undef, undef, undef, undef, undef, undef, undef, undef, undef, undef, undef, undef, undef, undef, undef, undef], defers := [] })
    (fun pre x b W => (((_root_.Go.Boxed W w.heap.size 9 (.string (bsW (fillF pre rb zeroC).1)) ∧ W.heap[g5]? = some (.cells (numR (fillF pre rb zeroC).2) 36 (0, 0))) ∧ W.heap[w.heap.size + 1]? = some (.cells #[.int .u8 0, .int .i64 0, .int .i64 0, .int .i64 0, .int .i64 0, .int .i64 0, .int .u8 0] 23 (0, 0))) ∧ Below w.heap.size w W) ∧ W.heap[b]? = some (.cells (partC x).toArray 43 (0, 0)))
    ?own1 ?assign ?body ?done ?stop
  case own => exact OwnFrom.and (OwnFrom.and (OwnFrom.and (fun s A B row hs hg hr => row_own hs hg hr) (fun s A B row hs hg hr => row_own hs hg hr)) (fun s A B row hs hg hr => row_own hs hg hr)) (ownFrom_below (Nat.le_refl _) (by omega))
  case ownX => exact fun s A B row hs hg hr => hs
  case own1 => exact OwnFrom.and (OwnFrom.and (OwnFrom.and (OwnFrom.and (fun s A B row hs hg hr => row_own hs hg hr) (fun s A B row hs hg hr => row_own hs hg hr)) (fun s A B row hs hg hr => row_own hs hg hr)) (ownFrom_below (Nat.le_refl _) (by omega))) (fun s A B row hs hg hr => row_own hs hg hr)
  case assign =>
    intro l2 pre x W4 K hi4 hsz4 hK
    have hK := Lib.hid hK
    have hi4 := Lib.hid hi4
    have st := fun (w : World) (a : Addr) (m : Mode) => run_store Tryd.prog w a (.func (.func (fnP x.wh)) #[] #[]) m rfl
    have hsz : w.heap.size ≤ W4.heap.size := hi4.out.2.size
    unfold encP partV
    gi_wp2
    have ba : Below W4.heap.size W4 (W4.alloc (.cells #[.func (.func (fnP x.wh)) #[] #[], .int .i64 x.lo, .int .i64 x.hi] 43)) := (Below.refl _ _).alloc (Nat.le_refl _) _
    exact hK.out W4.heap.size _ (KeepsFrom.of_grownBy (World.grownBy_alloc W4 _ none) (fun j e => by cases e)) (KT.alloc _ hsz) ⟨⟨⟨⟨box_belowW hi4.out.1.1.1 ba, (ba.block _ (Array.getElem?_eq_some_iff.1 hi4.out.1.1.2).1).trans hi4.out.1.1.2⟩, (ba.block _ (Array.getElem?_eq_some_iff.1 hi4.out.1.2).1).trans hi4.out.1.2⟩, hi4.out.2.alloc hsz _⟩, World.alloc_heap_new W4 _⟩
  case body =>
    rintro l2 pre x b W4 ⟨⟨⟨⟨bs, hg4⟩, be⟩, hB4⟩, hbx⟩ hlen
    have hwh := x.wh.isLt
    obtain ⟨i, hi⟩ : ∃ i : Nat, i = x.wh := ⟨_, rfl⟩
    rw [← hi] at hwh
    have hsn := fillF_snoc pre x rb zeroC
    rw [← hi] at hsn
    have hll := HFL.out pre
    obtain ⟨l, hl⟩ : ∃ l, l = (fillF pre rb zeroC).1 := ⟨_, rfl⟩
    obtain ⟨c, hc⟩ : ∃ c, c = (fillF pre rb zeroC).2 := ⟨_, rfl⟩
    rw [← hl, ← hc] at hsn
    rw [← hl] at bs hll
    rw [← hc] at hg4
    obtain ⟨wa, hwa⟩ : ∃ wa, wa = (cut1 l).1 := ⟨_, rfl⟩
    obtain ⟨wr, hwr⟩ : ∃ wr, wr = (cut1 l).2 := ⟨_, rfl⟩
    obtain ⟨fw, hfw⟩ : ∃ f, f = decide (0 ≤ Lib.indexByte l 32) := ⟨_, rfl⟩
    have hwal : wa.length ≤ s.size := by have := (cut1_len l).1; rw [hwa]; omega
    rw [← hwa, ← hwr] at hsn
    have HD : Fence.wide.depth.isSome = true → 1 ≤ n - 1 - 1 := fun h => by cases h
    have hs := HS.out
    have HC : Hid (∀ k W5, CallsIn (Fence.wide.inRound l2) k Tryd.prog 40 #[.string (bsW l), .string ⟨#[32]⟩] W5 fun e w' => e = .returned (.tuple #[.string (bsW wa), .string (bsW wr), .bool fw]) ∧ Below W5.heap.size W5 w') := fun k W5 => by
      have := cut_any (bsW l) (by rw [bsW_size]; omega) W5
      rw [cutV_bsW] at this
      unfold cutV at this
      rw [← hwa, ← hwr, ← hfw] at this
      exact CallsIn.inRound l2 (callsIn_wide.2 this)
    obtain ⟨y, hy⟩ : ∃ y, y = numF wa := ⟨_, rfl⟩
    have HN : Hid (∀ k W5, Below w.heap.size w W5 → CallsIn (Fence.wide.inRound l2) k Tryd.prog 42 #[.string (bsW wa)] W5 fun e w' => e = .returned (.int .i64 y) ∧ Below W5.heap.size W5 w') := fun k W5 hb => by
      have := number_any (bsW wa) (by rw [bsW_size]; omega) W5 (HEK.out.below hb)
      rw [bsW_list, ← hy] at this
      exact CallsIn.inRound l2 (callsIn_wide.2 this)
    rw [← hy] at hsn
    obtain ⟨fp, hfp⟩ : ∃ fp, fp = fnP x.wh := ⟨_, rfl⟩
    have eg : ∀ args w, (callFunc fp args).run Tryd.prog w = .ok (.enter fp args) w := by rw [hfp]; exact fnP_enters x.wh.isLt
    have ffp : Fence.wide.fn fp := trivial
    have M : Hid (∀ k W5, CallsIn (Fence.wide.inRound l2) k Tryd.prog fp #[.pointer (some ⟨g5, 0, none⟩)] W5 fun e w' => e = .returned (.pointer (some ⟨g5, i, none⟩)) ∧ W5 = w') := fun k W5 => by
      rw [hfp, hi]
      exact CallsIn.inRound l2 (callsIn_wide.2 (meth_any x.wh x.wh.isLt g5 W5))
    have hbx2 : W4.cell? ⟨b, 0, none⟩ = some (.func (.func fp) #[] #[]) := by rw [hfp]; exact (cell_of_row W4 b 0 _ _ _ hbx).trans rfl
    have hbN : b ≠ w.heap.size := by
      rintro rfl
      have h5 := Option.some.inj (hbx.symm.trans (show W4.heap[w.heap.size]? = some (.cells #[.string (bsW l)] 9 (0, 0)) from bs))
      injection h5 with _ h6
      exact absurd h6 (by decide)
    have c1 := bs.cell
    have HB := Lib.hid hB4
    have HG := Lib.hid hg4
    have HE := Lib.hid be
    have HBS := Lib.hid bs
    have HSN := Lib.hid hsn
    have HI := Lib.hid hwh
    clear hi hwh hl hc hwa hwr hfw hwal hs hy hfp hbx hB4 hg4 be hsn hll bs
    gi_wp2_with fail
    refine ⟨HD, (HC.out _ _).mono ?_⟩
    rintro _ W5 ⟨rfl, b5⟩
    have bs5 := box_belowW HBS.out b5
    have c1 := bs5.cell
    have f1' := bs5.frozen
    have cb5 := (b5.cell (there_blockW hbx2)).trans hbx2
    have hg5' := (b5.block _ (Array.getElem?_eq_some_iff.1 HG.out).1).trans HG.out
    have he5 := (b5.block _ (Array.getElem?_eq_some_iff.1 HE.out).1).trans HE.out
    have hlN := bs5.lt
    have B5 : Hid (Below w.heap.size w (W5.setCell ⟨w.heap.size, 0, none⟩ (.string (bsW wr)))) := (HB.out.trans (b5.mono HB.out.size)).setCell (p := ⟨w.heap.size, 0, none⟩) (Nat.le_refl _) _
    have KF5 : Hid (KeepsFrom W0.heap.size W4 (W5.setCell ⟨w.heap.size, 0, none⟩ (.string (bsW wr)))) := ((keepsO_below b5).trans (KeepsOthers.setCell _ _ _)).from _
    have KT5 : Hid (KT w.heap.size 43 W4 (W5.setCell ⟨w.heap.size, 0, none⟩ (.string (bsW wr)))) := (KT.of_below b5 HB.out.size).trans (KT.set _ (Nat.le_refl _) bs5 (by decide))
    have G5 : Hid ((W5.setCell ⟨w.heap.size, 0, none⟩ (.string (bsW wr))).heap[g5]? = some (.cells (numR c) 36 (0, 0))) := (heap_setCell_other _ ⟨w.heap.size, 0, none⟩ _ _ (by show g5 ≠ w.heap.size; omega)).trans hg5'
    have E5 : Hid ((W5.setCell ⟨w.heap.size, 0, none⟩ (.string (bsW wr))).heap[w.heap.size + 1]? = some (.cells #[.int .u8 0, .int .i64 0, .int .i64 0, .int .i64 0, .int .i64 0, .int .i64 0, .int .u8 0] 23 (0, 0))) := (heap_setCell_other _ ⟨w.heap.size, 0, none⟩ _ _ (by show w.heap.size + 1 ≠ w.heap.size; omega)).trans he5
    have S5 : Hid (_root_.Go.Boxed (W5.setCell ⟨w.heap.size, 0, none⟩ (.string (bsW wr))) w.heap.size 9 (.string (bsW wr))) := bs5.set _
    clear b5 hg5' he5 bs5 hbx2
    gi_wp2_with fail
    refine ⟨HD, (M.out _ _).mono ?_⟩
    rintro _ W6 ⟨rfl, rfl⟩
    gi_wp2_with fail
    refine ⟨HD, (HN.out _ _ B5.out).mono ?_⟩
    rintro _ W7 ⟨rfl, b7⟩
    have hg7 := (b7.block _ (Array.getElem?_eq_some_iff.1 G5.out).1).trans G5.out
    have he7 := (b7.block _ (Array.getElem?_eq_some_iff.1 E5.out).1).trans E5.out
    have hs7 := box_belowW S5.out b7
    have cg : W7.cell? ⟨g5, i, none⟩ = some (.int .i64 (c i)) := (cell_of_row W7 g5 i _ _ _ hg7).trans (numR_get c HI.out)
    have fg : W7.frozen? ⟨g5, i, none⟩ = false := frozen_of_row W7 g5 i _ _ hg7
    have G7 := Lib.hid hg7
    have E7 := Lib.hid he7
    have S7' := Lib.hid hs7
    have B7 := Lib.hid b7
    clear hg7 he7 hs7 b7 cb5 c1 f1'
    gi_wp2_with fail
    refine ⟨KF5.out.trans (((keepsO_below B7.out).trans (KeepsOthers.setCell _ _ _)).from _), (KT5.out.trans (KT.of_below B7.out B5.out.size)).trans (KT.set _ (by omega) G7.out (by decide)), ⟨⟨?_, ?_⟩, ?_⟩, (B5.out.trans (B7.out.mono B5.out.size)).setCell (p := ⟨g5, i, none⟩) (by show w.heap.size ≤ g5; omega) _⟩
    · rw [HSN.out]
      exact (heap_setCell_other _ ⟨g5, i, none⟩ _ _ (by show w.heap.size ≠ g5; omega)).trans S7'.out
    · rw [HSN.out]
      show _ = some (Obj.cells (numR (put5 c i y)) _ _)
      rw [← numR_set c HI.out y]
      exact heap_setCell_same _ g5 i _ _ _ G7.out
    · exact (heap_setCell_other _ ⟨g5, i, none⟩ _ _ (by show w.heap.size + 1 ≠ g5; omega)).trans E7.out
  case done =>
    rintro xs W4 hxs ⟨⟨⟨bs, hg4⟩, be⟩, hB4⟩ hK
    subst hxs
    rw [← HF.out] at hg4
    have HB := Lib.hid hB4
    have HG := Lib.hid hg4
    have HE := Lib.hid be
    have HK := Lib.hid hK
    clear bs hg4 be hB4 hK
    gi_wp2_with fail
    refine (H4.out _ HB.out).mono ?_
    rintro _ W5 ⟨rfl, b5⟩
    have hg5' := (b5.block _ (Array.getElem?_eq_some_iff.1 HG.out).1).trans HG.out
    have he5 := (b5.block _ (Array.getElem?_eq_some_iff.1 HE.out).1).trans HE.out
    have hk5 := (b5.block _ (Array.getElem?_eq_some_iff.1 HK.out).1).trans HK.out
    have HV := Lib.hid (callsIn_wide (n := n - 1).2 (event_any k (numF la) F.2 g5 W5 hg5'))
    have B5 : Hid (Below w.heap.size w W5) := HB.out.trans (b5.mono HB.out.size)
    have E5 := Lib.hid he5
    have K5 := Lib.hid hk5
    clear b5 hg5' he5 hk5 HB HG HE HK
    unfold evN at RV HV
    obtain ⟨th, hth⟩ : ∃ th, th = numF la := ⟨_, rfl⟩
    rw [← hth] at RV HV ⊢
    clear hth
    gi_wp2_with fail
    refine HV.out.mono ?_
    rintro _ W6 ⟨rfl, b6⟩
    have he6 := (b6.block _ (Array.getElem?_eq_some_iff.1 E5.out).1).trans E5.out
    have hk6 := (b6.block _ (Array.getElem?_eq_some_iff.1 K5.out).1).trans K5.out
    have B6 : Hid (Below w.heap.size w W6) := B5.out.trans (b6.mono B5.out.size)
    have E6 := Lib.hid he6
    have K6 := Lib.hid hk6
    clear b6 he6 hk6 B5 E5 K5
    gi_wp2_with (first
      | (refine wpListIn_plain rfl fun K hK => wpIn_of_wpW (by intro d h; cases h) (wp_store_row 23 _ _ rfl (w.heap.size + 1) #[.int .u8 k, .int .i64 th, .int .i64 (F.2 0), .int .i64 (F.2 1), .int .i64 (F.2 2), .int .i64 (F.2 3), .int .u8 (F.2 4 % 256)] rfl rfl 23 _ E6.out (by kernel_rfl) rfl (by simp [Value.oneCell']) (hK _ _ ?_)))
      | fail)
    have hk7 : (W6.setRow (w.heap.size + 1) #[.int .u8 k, .int .i64 th, .int .i64 (F.2 0), .int .i64 (F.2 1), .int .i64 (F.2 2), .int .i64 (F.2 3), .int .u8 (F.2 4 % 256)]).heap[W0.heap.size]? = some (.deferred (some [])) := (setRow_other _ _ _ _ (by
      intro h
      have h2 := E6.out
      rw [← h, K6.out] at h2
      cases h2)).trans K6.out
    have hb7 := below_setRowW B6.out (g := w.heap.size + 1) (by omega) #[.int .u8 k, .int .i64 th, .int .i64 (F.2 0), .int .i64 (F.2 1), .int .i64 (F.2 2), .int .i64 (F.2 3), .int .u8 (F.2 4 % 256)]
    have he7 := setRow_heap W6 (w.heap.size + 1) _ #[.int .u8 k, .int .i64 th, .int .i64 (F.2 0), .int .i64 (F.2 1), .int .i64 (F.2 2), .int .i64 (F.2 3), .int .u8 (F.2 4 % 256)] _ _ E6.out
    refine ⟨by simp, .inl ⟨_, _, rfl, run_takeDeferred hk7, ?_⟩⟩
    refine ⟨rv, ?_, rfl, hb7.trans (belowK_b (w := w) (Nat.le_refl _) _ _ _ _ (by omega) hk7 rfl rfl)⟩
    rw [RV.out]
    refine results_cell_row rfl _ _ (w.heap.size + 1) 23 _ (0, 0) _ rfl ?_ Tryd.underlying23 rfl (by kernel_rfl)
    exact (World.putObj_heap_other (by
      intro h
      have h2 := E6.out
      rw [h, K6.out] at h2
      cases h2)).trans he7
  case stop =>
    rintro pre W4 hsp h hK
    exact h.elim
end Go.Proofs.YtfbnigikofidoaaDoor
