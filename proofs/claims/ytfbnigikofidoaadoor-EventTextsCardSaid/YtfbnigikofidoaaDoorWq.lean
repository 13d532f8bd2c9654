/-
  CONTRACT OF PACKAGE event's Parse. Conditions: as they stand.
-/
import Derived.Test.YtfbnigikofidoaaDoorWp
namespace Go.Proofs.YtfbnigikofidoaaDoor
set_option maxRecDepth 100000
open Go.RowKit Go.Shelf
set_option linter.unusedVariables false
theorem results_ctW {P : Program} {fn : Func} {p q : Tmp} {ty : TypeId} (h : fn.results = #[.cell p ty, .tmp q]) (tmps : Array Value) (w : World) (g : Nat) (t : TypeId) (cs : Array Value) (fr : Nat × Nat) (d : TypeDesc)
    (hp : tmps.getD p undef = .pointer (some ⟨g, 0, none⟩)) (hg : w.heap[g]? = some (.cells cs t fr))
    (hu : P.underlying ty = some d) (hd : (match d with | .struct _ | .array _ _ => true | _ => false) = true) (hi : (P.info? ty).map (·.size) = some cs.size) :
    (results fn tmps).run P w = .ok (.tuple #[.agg cs, tmps.getD q undef]) w := by
  have hp' : tmps[p]?.getD undef = .pointer (some ⟨g, 0, none⟩) := by simpa using hp
  simp [results, h, hp', asAddr, run_loadVar_row w g t ty cs fr d hg hu hd hi]
theorem read_any (s : ByteArray) (hs : s.size ≤ 281474976710656) (w : World) (he : Ek w) :
    Calls Tryd.prog 19 #[.string s] w fun r w' => r = .returned (evV (readF s.data.toList)) ∧ Below w.heap.size w w' := by
  by_cases h : kindF (cut1 (cut1 s.data.toList).2).1 = 0
  · have : readF s.data.toList = ev0 := by
      unfold readF
      simp only
      rw [if_pos h]
    rw [this]
    exact read_no s hs h w he
  · exact callsIn_wide.1 (read_yes 8 (by omega) s hs h w he)
/-- The event of a text, and what is wrong. -/
def parseR (l : List UInt8) : Value := .tuple #[evV (parseF l).1, .int .i64 (parseF l).2]
set_option maxHeartbeats 4000000 in
theorem parse_no (s : ByteArray) (hs : s.size ≤ 281474976710656) (h : ¬ (mayB (readF s.data.toList) 6 32 32 = true ∧ showF (readF s.data.toList) = s.data.toList)) (w : World) (he : Ek w) :
    Calls Tryd.prog 7 #[.string s] w fun r w' => r = .returned (.tuple #[evV ev0, .int .i64 4]) ∧ Below w.heap.size w w' := by
  have H1 : Hid (∀ w1, Below w.heap.size w w1 → Calls Tryd.prog 19 #[.string s] w1 fun r w' => r = .returned (evV (readF s.data.toList)) ∧ Below w1.heap.size w1 w') := fun w1 b => read_any s hs w1 (he.below b)
  have H2 : Hid (∀ w1, Below w.heap.size w w1 → Calls Tryd.prog 5 #[evV (readF s.data.toList)] w1 fun r w' => r = .returned (showR (readF s.data.toList)) ∧ Below w1.heap.size w1 w') := fun w1 b => show_any _ (read_ok _) w1 (he.below b)
  obtain ⟨e, hE⟩ : ∃ e, e = readF s.data.toList := ⟨_, rfl⟩
  rw [← hE] at H1 H2 h
  clear hE he
  obtain ⟨kd, th, tx, pl, ve, xe, why⟩ := e
  unfold evV at H1 H2 ⊢
  simp only at H1 H2 ⊢
  unfold ev0
  simp only
  by_cases hm : mayB ⟨kd, th, tx, pl, ve, xe, why⟩ 6 32 32 = true
  · have hs2 : showF ⟨kd, th, tx, pl, ve, xe, why⟩ ≠ s.data.toList := fun h2 => h ⟨hm, h2⟩
    unfold showR at H2
    rw [if_pos hm] at H2
    obtain ⟨b, hb⟩ : ∃ b, b = bsW (showF ⟨kd, th, tx, pl, ve, xe, why⟩) := ⟨_, rfl⟩
    rw [← hb] at H2
    have hq : (b.toList != s.toList) = true := by
      have h1 : (b.toList == s.toList) = false := by rw [hb, testW]; simpa using hs2
      rw [bne, h1]; rfl
    have hq2 : (b.toList == s.toList) = false := by rw [hb, testW]; simpa using hs2
    clear hm hs2 hb h
    go_enter Tryd.func7, Tryd.ntmps7
    go_wp2_with fail
    refine (H1.out _ (by go_grown)).mono ?_
    rintro _ w1 ⟨rfl, b1⟩
    have q2 : w1.heap[w.heap.size]? = some (.cells #[.int .u8 0, .int .i64 0, .int .i64 0, .int .i64 0, .int .i64 0, .int .i64 0, .int .u8 0] 23 (0, 0)) := (b1.block _ (by simp)).trans (World.alloc_heap_new w _)
    have B1 : Hid (Below w.heap.size w w1) := by
      refine Lib.hid (Below.trans (B := w.heap.size) ?_ (b1.mono (by simp)))
      go_grown
    have Q2 := Lib.hid q2
    have hlt := (Array.getElem?_eq_some_iff.1 q2).1
    clear b1 q2
    go_wp2_with fail
    refine (H2.out _ (B1.out.alloc B1.out.size _)).mono ?_
    rintro _ w2 ⟨rfl, b2⟩
    have QE : Hid (w2.heap[w.heap.size]? = some (.cells #[.int .u8 0, .int .i64 0, .int .i64 0, .int .i64 0, .int .i64 0, .int .i64 0, .int .u8 0] 23 (0, 0))) := (b2.block _ (by simp; omega)).trans ((heap_alloc_old w1 _ hlt).trans Q2.out)
    have B2 : Hid (Below w.heap.size w w2) := (B1.out.alloc B1.out.size _).trans (b2.mono (by have := B1.out.size; simp; omega))
    clear b2 hlt Q2 B1
    go_wp2_with (first
      | (refine wpList_store_row rfl _ _ _ rfl w.heap.size #[.int .u8 0, .int .i64 0, .int .i64 0, .int .i64 0, .int .i64 0, .int .i64 0, .int .u8 0] rfl rfl 23 _ QE.out (by kernel_rfl) rfl (by simp [Value.oneCell']) ?_)
      | fail)
    refine bodyPost_ret (results_ctW rfl _ _ w.heap.size 23 #[.int .u8 0, .int .i64 0, .int .i64 0, .int .i64 0, .int .i64 0, .int .i64 0, .int .u8 0] (0, 0) _ rfl (setRow_heap _ _ _ _ _ _ QE.out) Tryd.underlying23 rfl (by kernel_rfl)) rfl ⟨rfl, ?_⟩
    exact below_setRowW B2.out (Nat.le_refl _) _
  · unfold showR at H2
    rw [if_neg hm] at H2
    clear hm h
    go_enter Tryd.func7, Tryd.ntmps7
    go_wp2_with fail
    refine (H1.out _ (by go_grown)).mono ?_
    rintro _ w1 ⟨rfl, b1⟩
    have q2 : w1.heap[w.heap.size]? = some (.cells #[.int .u8 0, .int .i64 0, .int .i64 0, .int .i64 0, .int .i64 0, .int .i64 0, .int .u8 0] 23 (0, 0)) := (b1.block _ (by simp)).trans (World.alloc_heap_new w _)
    have B1 : Hid (Below w.heap.size w w1) := by
      refine Lib.hid (Below.trans (B := w.heap.size) ?_ (b1.mono (by simp)))
      go_grown
    have Q2 := Lib.hid q2
    have hlt := (Array.getElem?_eq_some_iff.1 q2).1
    clear b1 q2
    go_wp2_with fail
    refine (H2.out _ (B1.out.alloc B1.out.size _)).mono ?_
    rintro _ w2 ⟨rfl, b2⟩
    have QE : Hid (w2.heap[w.heap.size]? = some (.cells #[.int .u8 0, .int .i64 0, .int .i64 0, .int .i64 0, .int .i64 0, .int .i64 0, .int .u8 0] 23 (0, 0))) := (b2.block _ (by simp; omega)).trans ((heap_alloc_old w1 _ hlt).trans Q2.out)
    have B2 : Hid (Below w.heap.size w w2) := (B1.out.alloc B1.out.size _).trans (b2.mono (by have := B1.out.size; simp; omega))
    clear b2 hlt Q2 B1
    go_wp2_with (first
      | (refine wpList_store_row rfl _ _ _ rfl w.heap.size #[.int .u8 0, .int .i64 0, .int .i64 0, .int .i64 0, .int .i64 0, .int .i64 0, .int .u8 0] rfl rfl 23 _ QE.out (by kernel_rfl) rfl (by simp [Value.oneCell']) ?_)
      | fail)
    refine bodyPost_ret (results_ctW rfl _ _ w.heap.size 23 #[.int .u8 0, .int .i64 0, .int .i64 0, .int .i64 0, .int .i64 0, .int .i64 0, .int .u8 0] (0, 0) _ rfl (setRow_heap _ _ _ _ _ _ QE.out) Tryd.underlying23 rfl (by kernel_rfl)) rfl ⟨rfl, ?_⟩
    exact below_setRowW B2.out (Nat.le_refl _) _
set_option maxHeartbeats 4000000 in
theorem parse_yes (s : ByteArray) (hs : s.size ≤ 281474976710656) (h : mayB (readF s.data.toList) 6 32 32 = true ∧ showF (readF s.data.toList) = s.data.toList) (w : World) (he : Ek w) :
    Calls Tryd.prog 7 #[.string s] w fun r w' => r = .returned (.tuple #[evV (readF s.data.toList), .int .i64 0]) ∧ Below w.heap.size w w' := by
  have H1 : Hid (∀ w1, Below w.heap.size w w1 → Calls Tryd.prog 19 #[.string s] w1 fun r w' => r = .returned (evV (readF s.data.toList)) ∧ Below w1.heap.size w1 w') := fun w1 b => read_any s hs w1 (he.below b)
  have H2 : Hid (∀ w1, Below w.heap.size w w1 → Calls Tryd.prog 5 #[evV (readF s.data.toList)] w1 fun r w' => r = .returned (.tuple #[.string s, .int .i64 0]) ∧ Below w1.heap.size w1 w') := fun w1 b => by
    have := show_any _ (read_ok s.data.toList) w1 (he.below b)
    unfold showR at this
    rw [if_pos h.1, h.2, bsW_of] at this
    exact this
  obtain ⟨e, hE⟩ : ∃ e, e = readF s.data.toList := ⟨_, rfl⟩
  rw [← hE] at H1 H2 ⊢
  clear hE he h
  obtain ⟨kd, th, tx, pl, ve, xe, why⟩ := e
  unfold evV at H1 H2 ⊢
  simp only at H1 H2 ⊢
  have hq : (s.toList != s.toList) = false := by simp
  have hq2 : (s.toList == s.toList) = true := by simp
  go_enter Tryd.func7, Tryd.ntmps7
  go_wp2_with fail
  refine (H1.out _ (by go_grown)).mono ?_
  rintro _ w1 ⟨rfl, b1⟩
  have q2 : w1.heap[w.heap.size]? = some (.cells #[.int .u8 0, .int .i64 0, .int .i64 0, .int .i64 0, .int .i64 0, .int .i64 0, .int .u8 0] 23 (0, 0)) := (b1.block _ (by simp)).trans (World.alloc_heap_new w _)
  have B1 : Hid (Below w.heap.size w w1) := by
    refine Lib.hid (Below.trans (B := w.heap.size) ?_ (b1.mono (by simp)))
    go_grown
  have Q2 := Lib.hid q2
  have hlt := (Array.getElem?_eq_some_iff.1 q2).1
  clear b1 q2
  go_wp2_with fail
  refine (H2.out _ (B1.out.alloc B1.out.size _)).mono ?_
  rintro _ w2 ⟨rfl, b2⟩
  have QE : Hid (w2.heap[w.heap.size]? = some (.cells #[.int .u8 0, .int .i64 0, .int .i64 0, .int .i64 0, .int .i64 0, .int .i64 0, .int .u8 0] 23 (0, 0))) := (b2.block _ (by simp; omega)).trans ((heap_alloc_old w1 _ hlt).trans Q2.out)
  have B2 : Hid (Below w.heap.size w w2) := (B1.out.alloc B1.out.size _).trans (b2.mono (by have := B1.out.size; simp; omega))
  have qe : w2.heap[w1.heap.size]? = some (.cells #[.int .u8 kd, .int .i64 th, .int .i64 tx, .int .i64 pl, .int .i64 ve, .int .i64 xe, .int .u8 why] 23 (0, 0)) := (b2.block _ (by simp)).trans (World.alloc_heap_new w1 _)
  have QV := Lib.hid qe
  clear b2 hlt Q2 B1 qe
  go_wp2_with (first
    | (refine wpList_load_row rfl _ _ rfl w1.heap.size rfl 23 #[.int .u8 kd, .int .i64 th, .int .i64 tx, .int .i64 pl, .int .i64 ve, .int .i64 xe, .int .u8 why] (0, 0) _ QV.out Tryd.underlying23 rfl (by kernel_rfl) ?_)
    | (refine wpList_store_row rfl _ _ _ rfl w.heap.size #[.int .u8 kd, .int .i64 th, .int .i64 tx, .int .i64 pl, .int .i64 ve, .int .i64 xe, .int .u8 why] rfl rfl 23 _ QE.out (by kernel_rfl) rfl (by simp [Value.oneCell']) ?_)
    | fail)
  refine bodyPost_ret (results_ctW rfl _ _ w.heap.size 23 #[.int .u8 kd, .int .i64 th, .int .i64 tx, .int .i64 pl, .int .i64 ve, .int .i64 xe, .int .u8 why] (0, 0) _ rfl (setRow_heap _ _ _ _ _ _ QE.out) Tryd.underlying23 rfl (by kernel_rfl)) rfl ⟨rfl, ?_⟩
  exact below_setRowW B2.out (Nat.le_refl _) _
theorem parse_any (s : ByteArray) (hs : s.size ≤ 281474976710656) (w : World) (he : Ek w) :
    Calls Tryd.prog 7 #[.string s] w fun r w' => r = .returned (parseR s.data.toList) ∧ Below w.heap.size w w' := by
  unfold parseR parseF
  by_cases h : mayB (readF s.data.toList) 6 32 32 = true ∧ showF (readF s.data.toList) = s.data.toList
  · rw [if_pos h]
    exact parse_yes s hs h w he
  · rw [if_neg h]
    exact parse_no s hs h w he
end Go.Proofs.YtfbnigikofidoaaDoor
