/-
  CONTRACT OF PACKAGE event's Show. Conditions: as they stand.
-/
import Derived.Test.YtfbnigikofidoaaDoorWm
import Derived.Lib.ItoaLen
namespace Go.Proofs.YtfbnigikofidoaaDoor
set_option maxRecDepth 100000
open Go.RowKit Go.Shelf
set_option linter.unusedVariables false
attribute [local go_sem] Oper.semAt_some
theorem join_len (l : List (List UInt8)) (h : ∀ x ∈ l, x.length ≤ 21) : (Lib.join l [32]).length ≤ l.length * 22 := by
  cases l with
  | nil => simp [Lib.join_nil]
  | cons x r =>
    rw [Lib.join_cons]
    have key : ∀ t : List (List UInt8), (∀ x ∈ t, x.length ≤ 21) → (Lib.joinTail [32] t).length ≤ t.length * 22 := by
      intro t
      induction t with
      | nil => intro _; simp [Lib.joinTail]
      | cons y s ih =>
        intro hy
        have h1 := ih fun z hz => hy z (by simp [hz])
        have h2 := hy y (by simp)
        simp only [Lib.joinTail, List.map_cons, List.flatten_cons, List.length_append, List.length_cons, List.length_nil] at h1 ⊢
        omega
    have h1 := key r fun z hz => h z (by simp [hz])
    have h2 := h x (by simp)
    simp only [List.length_append, List.length_cons]
    omega
theorem words_len {e : Ev} (h : mayB e 6 32 32 = true) : ∀ x ∈ wordsF e, x.length ≤ 21 := by
  have hi := may_i64 h
  obtain ⟨_, ht, _⟩ := (may_iff _ _ _ _).1 h
  intro x hx
  rcases List.mem_cons.1 hx with rfl | hx
  · have := Lib.itoa_length_le e.th (by omega) (by omega)
    unfold Lib.itoa at this
    rwa [if_neg (by omega)] at this
  · rcases List.mem_cons.1 hx with rfl | hx
    · unfold nmL
      split <;> simp
    · obtain ⟨p, _, rfl⟩ := List.mem_map.1 hx
      exact Lib.itoa_length_le _ (hi p.wh).1 (hi p.wh).2
theorem show_len {e : Ev} (h : mayB e 6 32 32 = true) : (showF e).length ≤ 88 := by
  have h1 := join_len (wordsF e) (words_len h)
  have h2 : (wordsF e).length ≤ 4 := by
    have := parts_len e.kd.toNat 32 32
    simp [wordsF, partW]
    omega
  unfold showF
  omega
set_option maxHeartbeats 1000000 in
theorem show_no (e : Ev) (ok : EvOk e) (h : mayB e 6 32 32 = false) (w : World) (he : Ek w) :
    Calls Tryd.prog 5 #[evV e] w fun r w' => r = .returned (.tuple #[.string ⟨#[]⟩, .int .i64 4]) ∧ Below w.heap.size w w' := by
  have H1 : Hid (∀ w1, Below w.heap.size w w1 → Calls Tryd.prog 9 #[evV e, .int .i64 6, .int .i64 32, .int .i64 32] w1 fun r w' => r = .returned (.bool false) ∧ Below w1.heap.size w1 w') := fun w1 b => by
    have := may_any e ok 6 32 32 w1 (he.below b)
    rwa [h] at this
  clear h ok he
  unfold evV at H1 ⊢
  go_enter Tryd.func5, Tryd.ntmps5
  go_wp2_with fail
  refine (H1.out _ (by go_grown)).mono ?_
  rintro _ w1 ⟨rfl, b1⟩
  have B1 : Hid (Below w.heap.size w w1) := by
    refine Lib.hid (Below.trans (B := w.heap.size) ?_ (b1.mono (by simp)))
    go_grown
  clear b1
  go_wp2_with fail
  go_ret2
  exact ⟨rfl, B1.out⟩
def strW (l : List (List UInt8)) : List Value := l.map fun x => .string (bsW x)
set_option maxRecDepth 100000 in
set_option maxHeartbeats 8000000 in
theorem show_yes (n : Nat) (hn : 8 ≤ n) (e : Ev) (ok : EvOk e) (h : mayB e 6 32 32 = true) (w : World) (he : Ek w) :
    CallsIn Fence.wide n Tryd.prog 5 #[evV e] w fun r w' => r = .returned (.tuple #[.string (bsW (showF e)), .int .i64 0]) ∧ Below w.heap.size w w' := by
  have h1 : 1 ≤ n := by omega
  have H1 : Hid (∀ w1, Below w.heap.size w w1 → CallsIn Fence.wide (n - 1) Tryd.prog 9 #[evV e, .int .i64 6, .int .i64 32, .int .i64 32] w1 fun r w' => r = .returned (.bool true) ∧ Below w1.heap.size w1 w') := fun w1 b => by
    have := may_any e ok 6 32 32 w1 (he.below b)
    rw [h] at this
    exact callsIn_wide.2 this
  have H5 := Lib.hid (fun w1 => callsIn_wide (n := n - 1).2 (of_any e ok w1))
  have HE := Lib.hid he
  have hi := may_i64 h
  obtain ⟨_, ht, hm⟩ := (may_iff _ _ _ _).1 h
  have hkd : 1 ≤ e.kd ∧ e.kd ≤ 13 := by
    unfold MayK at hm
    omega
  have hsl := show_len h
  have HSL := Lib.hid hsl
  have HT := Lib.hid ht
  have HKD := Lib.hid hkd
  have HI := Lib.hid hi
  have fM : Fence.wide.fn 9 := trivial
  have fO : Fence.wide.fn 12 := trivial
  have fP : Fence.wide.fn 13 := trivial
  have fJ : Fence.wide.fn 15 := trivial
  obtain ⟨c, hc⟩ : ∃ c, c = numC e := ⟨_, rfl⟩
  rw [← hc] at H5
  have hci : ∀ i, -9223372036854775808 ≤ c i ∧ c i ≤ 9223372036854775807 := by rw [hc]; exact hi
  obtain ⟨res, hres⟩ : ∃ res, res = showF e := ⟨_, rfl⟩
  rw [← hres]
  have hres2 : res = Lib.join (Lib.decDigits e.th.toNat :: nmL e.kd.toNat :: partW c (partsK e.kd.toNat 32 32)) [32] := by rw [hres, hc]; rfl
  have hres3 : res.length ≤ 88 := by rw [hres]; exact hsl
  have hplen := parts_len e.kd.toNat 32 32
  have RES := Lib.hid (And.intro hres2 hres3)
  have HCI := Lib.hid hci
  obtain ⟨k, hk⟩ : ∃ k : Nat, e.kd = k := ⟨e.kd.toNat, by omega⟩
  have t0 : 0 ≤ e.th := by omega
  have t5 : e.th ≤ 5 := by omega
  have hk14 : k < 14 := by omega
  clear h ok he hi ht hm hkd hsl hres hres2 hres3 hc hci HSL HT HKD HI
  unfold numV at H5
  unfold evV at H1 H5 ⊢
  obtain ⟨kd, th, tx, pl, ve, xe, why⟩ := e
  simp only at *
  subst hk
  simp only [Int.toNat_natCast] at *
  refine callsIn_of_wp_marks Tryd.func5 rfl trivial ?_ rfl
  simp only [Tryd.ntmps5, List.size_toArray, List.length_cons, List.length_nil, Nat.reduceAdd, Nat.reduceSub, Array.replicate_succ, Array.replicate_zero, List.push_toArray, List.append_toArray, List.nil_append, List.cons_append]
  gi_wp2_with fail
  refine (H1.out _ (by go_grown)).mono ?_
  rintro _ w1 ⟨rfl, b1⟩
  have a0 : w1.heap[w.heap.size]? = some (.cells (evC ⟨k, th, tx, pl, ve, xe, why⟩) 23 (0, 0)) := (b1.block _ (by simp)).trans (World.alloc_heap_new w _)
  have B1 : Hid (Below w.heap.size w w1) := by
    refine Lib.hid (Below.trans (B := w.heap.size) ?_ (b1.mono (by simp)))
    go_grown
  have A0 := Lib.hid a0
  clear b1 a0 H1
  gi_wp2_with fail
  refine wpIn_wide.2 (regS3 rfl _ (by simp) _ ⟨k, th, tx, pl, ve, xe, why⟩ w.heap.size rfl A0.out t0 (by simp only; omega) (by simp only; omega) (by simp only; omega) (HE.out.below B1.out) ?_)
  intro us g4 g w2 hu b2 hg4 hg bx hrow hz7
  obtain ⟨z0, z1, z2, z3, z4, z5, z6, z7, rfl⟩ : ∃ z0 z1 z2 z3 z4 z5 z6 z7 : Value, us = [z0, z1, z2, z3, z4, z5, z6, z7] := by
    obtain ⟨z0, r0, rfl, h0⟩ := cons_ofW hu
    obtain ⟨z1, r1, rfl, h1⟩ := cons_ofW h0
    obtain ⟨z2, r2, rfl, h2⟩ := cons_ofW h1
    obtain ⟨z3, r3, rfl, h3⟩ := cons_ofW h2
    obtain ⟨z4, r4, rfl, h4⟩ := cons_ofW h3
    obtain ⟨z5, r5, rfl, h5⟩ := cons_ofW h4
    obtain ⟨z6, r6, rfl, h6⟩ := cons_ofW h5
    obtain ⟨z7, r7, rfl, h7⟩ := cons_ofW h6
    obtain rfl := List.length_eq_zero_iff.1 h7
    exact ⟨z0, z1, z2, z3, z4, z5, z6, z7, rfl⟩
  obtain rfl : z7 = .pointer (some ⟨g4, 0, none⟩) := hz7
  simp only [Int.toNat_natCast] at hrow
  have hzw1 := B1.out.size
  have own2 : w2.ownsRow w.heap.size 9 1 (.slice (some ⟨g, 0, none⟩) 2 2) 2 (strW [Lib.decDigits th.toNat, nmL k]) := ⟨rfl, .inr ⟨g, 2, _, rfl, by omega, hrow, by omega, by unfold maxLen; omega, rfl, rfl⟩⟩
  have a2 : w2.heap[w.heap.size]? = some (.cells (evC ⟨k, th, tx, pl, ve, xe, why⟩) 23 (0, 0)) := (b2.block _ (Array.getElem?_eq_some_iff.1 A0.out).1).trans A0.out
  have a1 : ∀ (i : Nat) (u : Value), (evC ⟨k, th, tx, pl, ve, xe, why⟩)[i]? = some u → w2.cell? ⟨w.heap.size, i, none⟩ = some u := fun i u hu => (cell_of_row w2 _ i _ _ _ a2).trans hu
  have e0 : w2.cell? ⟨w.heap.size, 0, none⟩ = some (.int .u8 k) := a1 0 _ rfl
  have e1 : w2.cell? ⟨w.heap.size, 1, none⟩ = some (.int .i64 th) := a1 1 _ rfl
  have e2 : w2.cell? ⟨w.heap.size, 2, none⟩ = some (.int .i64 tx) := a1 2 _ rfl
  have e3 : w2.cell? ⟨w.heap.size, 3, none⟩ = some (.int .i64 pl) := a1 3 _ rfl
  have e4 : w2.cell? ⟨w.heap.size, 4, none⟩ = some (.int .i64 ve) := a1 4 _ rfl
  have e5 : w2.cell? ⟨w.heap.size, 5, none⟩ = some (.int .i64 xe) := a1 5 _ rfl
  have e6 : w2.cell? ⟨w.heap.size, 6, none⟩ = some (.int .u8 why) := a1 6 _ rfl
  have B2 : Hid (Below w.heap.size w w2) := B1.out.trans (b2.mono B1.out.size)
  have OW := Lib.hid own2
  have BX := Lib.hid bx
  have hg4n : w.heap.size ≤ g4 := by omega
  clear a1 a2 own2 bx hrow hg4 hg b2 hu B1 A0 hzw1
  simp only [dsS3, putAll, List.setIfInBounds_toArray, List.set_cons_succ, List.set_cons_zero]
  gi_wp2_with fail
  refine (H5.out _).mono ?_
  rintro _ w3 ⟨rfl, b3⟩
  have e0' := (b3.cell (there_blockW e0)).trans e0
  have hN := there_blockW e0'
  have BX3 := Lib.hid (box_belowW BX.out b3)
  have OW3 := Lib.hid (own_belowR OW.out b3)
  have B3 : Hid (Below w.heap.size w w3) := B2.out.trans (b3.mono B2.out.size)
  clear b3 e0 e1 e2 e3 e4 e5 e6 B2 BX OW H5
  gi_wp2_with fail
  obtain ⟨W3, hW3⟩ : ∃ W3, W3 = w3.alloc (.cells #[.int .i64 (c 0), .int .i64 (c 1), .int .i64 (c 2), .int .i64 (c 3), .int .i64 (c 4)] 36) := ⟨_, rfl⟩
  obtain ⟨g5, hg5⟩ : ∃ g, g = w3.heap.size := ⟨_, rfl⟩
  have g3 : W3.heap[g5]? = some (.cells (numR c) 36 (0, 0)) := by rw [hW3, hg5]; exact World.alloc_heap_new w3 _
  have b3 : Below w3.heap.size w3 W3 := by rw [hW3]; exact (Below.refl _ _).alloc (Nat.le_refl _) _
  have bx3 := box_belowW BX3.out b3
  have ow3 := own_belowR OW3.out b3
  have bw3 : Below w.heap.size w W3 := B3.out.trans (b3.mono B3.out.size)
  rw [← hW3, ← hg5]
  clear hW3 hg5 e0' hN B3 BX3 OW3 b3
  refine (parts_call Fence.wide (n - 1) trivial rfl k 32 32 W3).mono ?_
  rintro e w' ⟨rfl, rfl⟩
  gi_wp2_with fail
  obtain ⟨W0, hW0⟩ : ∃ W0, W0 = ((W3.alloc (.cells #[.int .u8 k] 5)).alloc (.cells #[.int .i64 32] 3)).alloc (.cells #[.int .i64 32] 3) := ⟨_, rfl⟩
  have q3 : _root_.Go.Boxed W0 W3.heap.size 5 (.int .u8 k) := by rw [hW0]; exact ((_root_.Go.Boxed.new W3 _ _).alloc _).alloc _
  have q4 : _root_.Go.Boxed W0 (W3.heap.size + 1) 3 (.int .i64 32) := by
    rw [hW0]
    have := (_root_.Go.Boxed.new (W3.alloc (.cells #[.int .u8 k] 5)) 3 (.int .i64 32)).alloc (.cells #[.int .i64 32] 3)
    rwa [World.size_alloc] at this
  have q5 : _root_.Go.Boxed W0 (W3.heap.size + 1 + 1) 3 (.int .i64 32) := by
    rw [hW0]
    have := _root_.Go.Boxed.new ((W3.alloc (.cells #[.int .u8 k] 5)).alloc (.cells #[.int .i64 32] 3)) 3 (.int .i64 32)
    rwa [World.size_alloc, World.size_alloc] at this
  have k30 : Below W3.heap.size W3 W0 := by rw [hW0]; exact (((Below.refl _ W3).alloc (Nat.le_refl _) _).alloc (by simp) _).alloc (by simp; omega) _
  have g0 : W0.heap[g5]? = some (.cells (numR c) 36 (0, 0)) := (k30.block g5 (Array.getElem?_eq_some_iff.1 g3).1).trans g3
  have bx0 := box_belowW bx3 k30
  have ow0 := own_belowR ow3 k30
  have hB0 : Below w.heap.size w W0 := bw3.trans (k30.mono bw3.size)
  have hw0 : w.heap.size ≤ W0.heap.size := hB0.size
  rw [← hW0]
  clear hW0 k30 g3 bx3 ow3 bw3
  refine loopT (F := Fence.wide) (Kp := KT w.heap.size 43) KT.trans rfl h1 (gf := 28) (lb := #[.pointer (some ⟨W3.heap.size + 1 + 1, 0, none⟩), .pointer (some ⟨W3.heap.size + 1, 0, none⟩), .pointer (some ⟨W3.heap.size, 0, none⟩)]) rfl trivial (enters_of Tryd.func28 (by kernel_rfl) rfl)
    (n₀ := w.heap.size) (fun o o' hl h hc => KT.putObj o o' hl h hc) (parts_seq (n - 1) (by omega) W3.heap.size (W3.heap.size + 1) (W3.heap.size + 1 + 1) w.heap.size k hk14 32 32 (by omega) (by omega) (by omega) (by omega) W0 hB0.size q3 q4 q5) hB0.size (fun _ => rfl)
    (fun pre W => ((∃ v, _root_.Go.Boxed W g4 31 v ∧ W.ownsRow w.heap.size 9 1 v (2 + pre.length) (strW (Lib.decDigits th.toNat :: nmL k :: partW c pre)) ∧ True) ∧ W.heap[g5]? = some (.cells (numR c) 36 (0, 0))) ∧ Below w.heap.size w W)
    (fun pre W => False)
    ?own ?ownX ⟨⟨⟨_, bx0, ow0, trivial⟩, g0⟩, hB0⟩
    (fun x b => { tmps := #[.agg #[.int .u8 k, .int .i64 th, .int .i64 tx, .int .i64 pl, .int .i64 ve, .int .i64 xe, .int .u8 why], .pointer (some ⟨w.heap.size, 0, none⟩), .string ⟨#[]⟩, .int .i64 0, .pointer (some ⟨g4, 0, none⟩), .pointer (some ⟨g5, 0, none⟩), .pointer (some ⟨b, 0, none⟩), .agg #[.int .u8 k, .int .i64 th, .int .i64 tx, .int .i64 pl, .int .i64 ve, .int .i64 xe, .int .u8 why], .bool true, .bool false, z0, z1, z2, z3, z4, z5, z6, .agg #[.int .u8 k, .int .i64 th, .int .i64 tx, .int .i64 pl, .int .i64 ve, .int .i64 xe, .int .u8 why], .agg #[.int .i64 (c 0), .int .i64 (c 1), .int .i64 (c 2), .int .i64 (c 3), .int .i64 (c 4)], .pointer (some ⟨w.heap.size, 0, none⟩), .int .u8 k, .func (.func 28) #[] #[.pointer (some ⟨W3.heap.size + 1 + 1, 0, none⟩), .pointer (some ⟨W3.heap.size + 1, 0, none⟩), .pointer (some ⟨W3.heap.size, 0, none⟩)], partV x, undef, undef, undef, undef, undef, undef, undef, undef, undef, undef, undef], defers := [] })
    (fun pre x b W => (((∃ v, _root_.Go.Boxed W g4 31 v ∧ W.ownsRow w.heap.size 9 1 v (2 + pre.length) (strW (Lib.decDigits th.toNat :: nmL k :: partW c pre)) ∧ True) ∧ W.heap[g5]? = some (.cells (numR c) 36 (0, 0))) ∧ Below w.heap.size w W) ∧ W.heap[b]? = some (.cells (partC x).toArray 43 (0, 0)))
    ?own1 ?assign ?body ?done ?stop
  case own => exact OwnFrom.and (OwnFrom.and ((holdsRow_own w.heap.size g4 31 9 1 (fun pre : List Part => 2 + pre.length) (fun pre => strW (Lib.decDigits th.toNat :: nmL k :: partW c pre)) (fun _ _ => True)).from _) (fun s A B row hs hg hr => row_own hs hg hr)) (ownFrom_below (Nat.le_refl _) (by omega))
  case ownX => exact fun s A B row hs hg hr => hs
  case own1 => exact OwnFrom.and (OwnFrom.and (OwnFrom.and (fun s A B row hs hg hr => (holdsRow_own w.heap.size g4 31 9 1 (fun pre : List Part => 2 + pre.length) (fun pre => strW (Lib.decDigits th.toNat :: nmL k :: partW c pre)) (fun _ _ => True)).from W0.heap.size s.1 A B row hs hg hr) (fun s A B row hs hg hr => row_own hs hg hr)) (ownFrom_below (Nat.le_refl _) (by omega))) (fun s A B row hs hg hr => row_own hs hg hr)
  case assign =>
    intro l2 pre x W4 K hi4 hsz4 hK
    have hK := Lib.hid hK
    have hi4 := Lib.hid hi4
    have st := fun (w : World) (a : Addr) (m : Mode) => run_store Tryd.prog w a (.func (.func (fnP x.wh)) #[] #[]) m rfl
    have hsz : w.heap.size ≤ W4.heap.size := hi4.out.2.size
    unfold encP partV
    gi_wp2
    have ba : Below W4.heap.size W4 (W4.alloc (.cells #[.func (.func (fnP x.wh)) #[] #[], .int .i64 x.lo, .int .i64 x.hi] 43)) := (Below.refl _ _).alloc (Nat.le_refl _) _
    refine hK.out W4.heap.size _ (KeepsFrom.of_grownBy (World.grownBy_alloc W4 _ none) (fun j e => by cases e)) (KT.alloc _ hsz) ⟨⟨⟨?_, (ba.block _ (Array.getElem?_eq_some_iff.1 hi4.out.1.2).1).trans hi4.out.1.2⟩, hi4.out.2.alloc hsz _⟩, World.alloc_heap_new W4 _⟩
    obtain ⟨v, hb, hr, _⟩ := hi4.out.1.1
    exact ⟨v, box_belowW hb ba, own_belowR hr ba, trivial⟩
  case body =>
    rintro l2 pre x b W4 ⟨⟨⟨⟨v, hb, hr, _⟩, hg5⟩, hB4⟩, hbx⟩ hlen
    gi_wp2_with fail
    refine regS7 rfl l2 _ _ (by simp) W4 w.heap.size g4 g5 b (2 + pre.length) v _ x c rfl rfl rfl hb hr hB4.size hg4n (by omega) hbx hg5 (HCI.out x.wh).1 (HCI.out x.wh).2 (HE.out.below hB4) ?_
    intro a' W5 v' hb5 hr5 hK5 hF5 hg55
    refine ⟨hF5.from _, hK5, ⟨⟨v', hb5, ?_, trivial⟩, hg55⟩, hB4.trans hK5.low⟩
    have e1 : 2 + (pre ++ [x]).length = 2 + pre.length + 1 := by simp; omega
    have e2 : strW (Lib.decDigits th.toNat :: nmL k :: partW c (pre ++ [x])) = strW (Lib.decDigits th.toNat :: nmL k :: partW c pre) ++ [.string (bsW (Lib.itoa (c x.wh)))] := by simp [strW, partW]
    rw [e1, e2]
    exact hr5
  case done =>
    rintro xs W4 hxs ⟨⟨⟨v, hb, hr, _⟩, hg5⟩, hB4⟩ hK
    subst hxs
    obtain ⟨WL, hWL⟩ : ∃ WL, WL = Lib.decDigits th.toNat :: nmL k :: partW c (partsK k 32 32) := ⟨_, rfl⟩
    have hlen : 2 + (partsK k 32 32).length = WL.length := by rw [hWL]; simp [partW]; omega
    rw [hlen, ← hWL] at hr
    have hWL2 : WL.length = (partsK k 32 32).length + 1 + 1 := by omega
    rw [hWL2] at hr
    obtain ⟨g', cap', rfl⟩ := ownsRow_succ hr
    rw [← hWL2] at hr hb
    have c1 := hb.cell
    have hbs : ∀ x : ByteArray, x ∈ WL.map bsW → True := fun _ _ => trivial
    have hmap : (WL.map bsW).map (·.data.toList) = WL := by
      rw [List.map_map]
      conv => rhs; rw [← List.map_id WL]
      exact List.map_congr_left fun x _ => bsW_list x
    obtain ⟨hrl, hr2⟩ := hr
    rcases hr2 with ⟨h0, _⟩ | ⟨g2, cap2, cur, hv, hbase, hgc, hcap, hmax, hcs, htk⟩
    · cases h0
    · injection hv with hv1 hv2 hv3
      injection hv1 with hv1
      injection hv1 with hv1 _
      subst hv1
      subst hv3
      have hj := lib_join g' 0 cap' (WL.map bsW) ⟨#[32]⟩ W4 (fun j x hx => by
        have h6 : (strW WL)[j]? = some (.string x) := by
          rw [List.getElem?_map] at hx
          obtain ⟨y, hy, rfl⟩ := Option.map_eq_some_iff.1 hx
          rw [strW, List.getElem?_map, hy]
          rfl
        rw [Nat.zero_add, cell_of_row W4 g' j _ _ _ hgc, ← Array.getElem?_toList]
        rw [← htk] at h6
        rw [List.getElem?_take] at h6
        split at h6
        · exact h6
        · cases h6) (Array.getElem?_eq_some_iff.1 hgc).1 (by simp; omega) (by simpa using hcap) (by
          rw [hmap]
          have := RES.out.2
          rw [RES.out.1, ← hWL] at this
          show (Lib.join WL [32]).length ≤ _
          omega)
      rw [hmap, List.length_map] at hj
      have hj2 : Calls Tryd.prog 15 #[.slice (some ⟨g', 0, none⟩) WL.length cap', .string ⟨#[32]⟩] W4 fun e w' => e = .returned (.string (bsW res)) ∧ Below W4.heap.size W4 w' := by
        rw [RES.out.1, ← hWL]
        exact hj
      have HJ := Lib.hid (callsIn_wide (n := n - 1).2 hj2)
      have HK4 := Lib.hid hK
      have HB4 := Lib.hid hB4
      clear hj hj2 hbs hmap hWL hlen hWL2 hrl hbase hgc hcap hmax hcs htk hg5 hb hK hB4 hv2
      gi_wp2_with fail
      refine HJ.out.mono ?_
      rintro _ W5 ⟨rfl, b5⟩
      have hK5 : W5.heap[W0.heap.size]? = some (.deferred (some [])) := (b5.block _ (Array.getElem?_eq_some_iff.1 HK4.out).1).trans HK4.out
      have hB5 : Below w.heap.size w W5 := HB4.out.trans (b5.mono HB4.out.size)
      have HK5 := Lib.hid hK5
      have HB5 := Lib.hid hB5
      clear hK5 hB5 b5
      gi_wp2_with fail
      refine ⟨by simp, .inl ⟨_, _, rfl, run_takeDeferred HK5.out, ?_⟩⟩
      refine ⟨.tuple #[.string (bsW res), .int .i64 0], ?_, rfl, HB5.out.trans (belowK_b (w := w) (Nat.le_refl _) _ _ _ _ (by omega) HK5.out rfl rfl)⟩
      simp [results, Tryd.f5, go_sem]
  case stop =>
    rintro pre W4 hsp h hK
    exact h.elim
/-- An event's text, and what is wrong. -/
def showR (e : Ev) : Value := if mayB e 6 32 32 = true then .tuple #[.string (bsW (showF e)), .int .i64 0] else .tuple #[.string ⟨#[]⟩, .int .i64 4]
theorem show_any (e : Ev) (ok : EvOk e) (w : World) (he : Ek w) :
    Calls Tryd.prog 5 #[evV e] w fun r w' => r = .returned (showR e) ∧ Below w.heap.size w w' := by
  unfold showR
  cases h : mayB e 6 32 32 with
  | false =>
    rw [if_neg (by decide)]
    exact show_no e ok h w he
  | true =>
    rw [if_pos rfl]
    exact callsIn_wide.1 (show_yes 8 (by omega) e ok h w he)
end Go.Proofs.YtfbnigikofidoaaDoor
