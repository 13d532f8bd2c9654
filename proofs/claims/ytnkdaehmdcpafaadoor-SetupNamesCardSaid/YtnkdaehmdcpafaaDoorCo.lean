/-
  CONTRACT OF PACKAGE code's sound: whether a transaction's statements are shaped, not too many, not too deep, not of too many expressions; the memory that was there stays as it was. Conditions: the table of what each Kind asks lies as its initialiser lays it; as they stand.
-/
import Derived.Test.YtnkdaehmdcpafaaDoorCn
import Derived.Test.YtnkdaehmdcpafaaDoorCi
namespace Go.Proofs.YtnkdaehmdcpafaaDoor
open Go.RowKit Go.Shelf
set_option linter.unusedVariables false
attribute [local go_sem] Oper.semAt_some
theorem okEach_few {D : Nat} {n : Int} {deep : Nat} {s : St} (h : shapedF D s n = true) : Few D s :=
  ⟨(mayE_cnt D D _ n (shaped_may h).1).imp id (fun h => by omega), (mayE_cnt D D _ n (shaped_may h).2).imp id (fun h => by omega)⟩
theorem okEach_le {D : Nat} {n : Int} {s : St} (h : shapedF D s n = true) : cntE D s.a ≤ 63 ∧ cntE D s.b ≤ 63 := by
  have h1 := mayE_cnt D D _ n (shaped_may h).1
  have h2 := mayE_cnt D D _ n (shaped_may h).2
  unfold cntE
  constructor
  · split <;> omega
  · split <;> omega
theorem nodes_ok {w : World} {hi D : Nat} {n : Int} {Pr : St → Prop} (l : List (El w hi D Pr)) (h : ∀ x ∈ l, okEach D n x.key = true) : nodesL D (l.map El.key) ≤ l.length * 126 := by
  induction l with
  | nil => simp [nodesL]
  | cons x r ih =>
    have hx := h x List.mem_cons_self
    unfold okEach at hx
    rw [Bool.and_eq_true] at hx
    have h1 := okEach_le hx.2
    have h2 : nodesL D ((x :: r).map El.key) = (cntE D x.s.a + cntE D x.s.b) + nodesL D (r.map El.key) := by simp [nodesL, El.key, nodesOf]
    have h3 := ih fun y hy => h y (List.mem_cons_of_mem _ hy)
    have h4 : cntE D x.s.a ≤ 63 ∧ cntE D x.s.b ≤ 63 := h1
    rw [h2, List.length_cons]
    omega
set_option maxRecDepth 100000 in
set_option maxHeartbeats 4000000 in
theorem sound_in (D : Nat) (A : Option Addr) (c : Nat) (tx : List St) (n : Int) (n0 : -9223372036854775808 ≤ n) (n1 : n < 9223372036854775808) (w : World) (hkd : Kd w) (hk : SKids w 0 w.heap.size D A tx) (hl : tx.length ≤ 9223372036854775807) (hD : D ≤ 4611686018427387903) :
    CallsIn Fence.wide 3 Tryd.prog 46 #[.slice A tx.length c, .int .i64 n] w fun e w' => e = .returned (.bool (soundF D tx n)) ∧ Below w.heap.size w w' := by
  have hfn : ∀ f, Fence.wide.fn f := fun _ => trivial
  have HK := Lib.hid hk
  have HKD := Lib.hid hkd
  clear hk hkd
  refine callsIn_of_wp_marks Tryd.func46 rfl trivial ?_ rfl
  simp only [Tryd.ntmps46, List.size_toArray, List.length_cons, List.length_nil, Nat.reduceAdd, Nat.reduceSub, Array.replicate_succ, Array.replicate_zero, List.push_toArray, List.append_toArray, List.nil_append, List.cons_append]
  gi_wp2_with (gi_at_call 58; refine (stm_in Fence.wide (3 - 1) trivial rfl _ _ _ _).mono ?_; rintro e w' ⟨rfl, rfl⟩)
  have bV := ((((_root_.Go.Boxed.new w 3 (.int .i64 n)).alloc (.cells #[.bool false] 4)).alloc (.cells #[.int .i64 0] 3)).alloc (.cells #[.int .i64 0] 3)).alloc (.cells #[.slice A tx.length c] 34)
  have bR := (((_root_.Go.Boxed.new (w.alloc (.cells #[.int .i64 n] 3)) 4 (.bool false)).alloc (.cells #[.int .i64 0] 3)).alloc (.cells #[.int .i64 0] 3)).alloc (.cells #[.slice A tx.length c] 34)
  have bS := ((_root_.Go.Boxed.new ((w.alloc (.cells #[.int .i64 n] 3)).alloc (.cells #[.bool false] 4)) 3 (.int .i64 0)).alloc (.cells #[.int .i64 0] 3)).alloc (.cells #[.slice A tx.length c] 34)
  have bN := (_root_.Go.Boxed.new (((w.alloc (.cells #[.int .i64 n] 3)).alloc (.cells #[.bool false] 4)).alloc (.cells #[.int .i64 0] 3)) 3 (.int .i64 0)).alloc (.cells #[.slice A tx.length c] 34)
  have bT := _root_.Go.Boxed.new ((((w.alloc (.cells #[.int .i64 n] 3)).alloc (.cells #[.bool false] 4)).alloc (.cells #[.int .i64 0] 3)).alloc (.cells #[.int .i64 0] 3)) 34 (.slice A tx.length c)
  simp only [World.size_alloc] at bR bS bN bT
  have hB0 : Below w.heap.size w (((((w.alloc (.cells #[.int .i64 n] 3)).alloc (.cells #[.bool false] 4)).alloc (.cells #[.int .i64 0] 3)).alloc (.cells #[.int .i64 0] 3)).alloc (.cells #[.slice A tx.length c] 34)) := (((((Below.refl _ w).alloc (Nat.le_refl _) _).alloc (by simp) _).alloc (by simp; omega) _).alloc (by simp; omega) _).alloc (by simp; omega) _
  have hsz : (((((w.alloc (.cells #[.int .i64 n] 3)).alloc (.cells #[.bool false] 4)).alloc (.cells #[.int .i64 0] 3)).alloc (.cells #[.int .i64 0] 3)).alloc (.cells #[.slice A tx.length c] 34)).heap.size = w.heap.size + 5 := by simp
  obtain ⟨W0, hW0⟩ : ∃ W0, ((((w.alloc (.cells #[.int .i64 n] 3)).alloc (.cells #[.bool false] 4)).alloc (.cells #[.int .i64 0] 3)).alloc (.cells #[.int .i64 0] 3)).alloc (.cells #[.slice A tx.length c] 34) = W0 := ⟨_, rfl⟩
  rw [hW0] at bV bR bS bN bT hB0 hsz ⊢
  clear hW0
  refine wpIn_rangeFunc_ownH (w0 := W0) (encs := elV (w := w) (hi := w.heap.size) (D := D) (Pr := fun _ => True)) (Kp := Kc w.heap.size W0.heap.size) (S := fun ys => ys.map El.key = flat D tx) (Sp := fun ys => ys.map El.key <+: flat D tx) (N := (flat D tx).length)
    rfl (by omega) (gf := 66) (lb := #[.pointer (some ⟨w.heap.size + 1 + 1 + 1 + 1, 0, none⟩)]) rfl trivial (enters_of Tryd.func66 (by kernel_rfl) rfl)
    (stm_stops Fence.wide rfl (3 - 1) trivial trivial rfl (w.heap.size + 1 + 1 + 1 + 1) w.heap.size D (fun _ => True) w W0 A c tx (by omega) (by omega) bT.cell HK.out (fun _ _ => trivial) hB0 hl hD) (fun h k => h.trans k) (fun W l o o' hl h hc _ => Kc.putObj (w := W0) (by omega) l o o' hl h hc) (Below.refl _ _) (fun _ => rfl)
    (fun pre W => (((_root_.Go.Boxed W w.heap.size 3 (.int .i64 n) ∧ _root_.Go.Boxed W (w.heap.size + 1) 4 (.bool false)) ∧ (_root_.Go.Boxed W (w.heap.size + 1 + 1) 3 (.int .i64 pre.length) ∧ _root_.Go.Boxed W (w.heap.size + 1 + 1 + 1) 3 (.int .i64 (nodesL D (pre.map El.key) : Nat)))) ∧ (pre.length ≤ 40 ∧ ∀ x ∈ pre, okEach D n x.key = true)) ∧ Below w.heap.size w W)
    (fun c pre W => ((c = .ret ∧ (40 < pre.length ∨ ∃ x ∈ pre, okEach D n x.key = false)) ∧ _root_.Go.Boxed W (w.heap.size + 1) 4 (.bool false)) ∧ Below w.heap.size w W)
    (OwnFrom.and (OwnFrom.and (OwnFrom.and (OwnFrom.and (Own.from (boxed_own _ _ _) _) (Own.from (boxed_own _ _ _) _)) (OwnFrom.and (Own.from (boxed_own _ _ _) _) (Own.from (boxed_own _ _ _) _))) (ownFrom_pure _ _)) (ownFrom_below (Nat.le_refl _) (by omega)))
    (fun c => OwnFrom.and (OwnFrom.and (ownFrom_pure _ _) (Own.from (boxed_own _ _ _) _)) (ownFrom_below (Nat.le_refl _) (by omega)))
    ⟨⟨⟨⟨bV, bR⟩, bS, bN⟩, by simp, by simp⟩, hB0⟩
    (fun x a' W => ∃ Bx, w.heap.size + 3 < Bx ∧ BoxS W Bx x.r ∧ a' = { tmps := #[.slice A tx.length c, .int .i64 n, undef, .pointer (some ⟨w.heap.size, 0, none⟩), .pointer (some ⟨w.heap.size + 1, 0, none⟩), .pointer (some ⟨w.heap.size + 1 + 1, 0, none⟩), .pointer (some ⟨w.heap.size + 1 + 1 + 1, 0, none⟩), .int .i64 x.deep, .pointer (some ⟨Bx, 0, none⟩), .slice A tx.length c, .func (.func 66) #[] #[.pointer (some ⟨w.heap.size + 1 + 1 + 1 + 1, 0, none⟩)], .int .i64 x.deep, x.r.v, undef, undef, undef, undef, undef, undef, undef, undef, undef, undef, undef, undef, undef, undef, undef, undef, undef, undef, undef, undef, undef, undef, undef, undef, undef], defers := [] })
    (fun x a' _ X Y row hs hg hr => by obtain ⟨Bx, e1, e2, e3⟩ := hs; exact ⟨Bx, e1, BoxS.own () X Y row e2 hg hr, e3⟩) ?assign ?body ?done ?stop
  case assign =>
    rintro l pre x W K ⟨⟨⟨⟨bV1, bR1⟩, bS1, bN1⟩, hp⟩, hB1⟩ hK
    have hn := hB1.size
    have hz := bN1.lt
    obtain ⟨deep, q, s, small, at_, pr⟩ := x
    obtain ⟨qk, qt, qao, qan, qaA, qal, qac, qbo, qbn, qbA, qbl, qbc, qyA, qyl, qyc, qeA, qel, qec⟩ := q
    rw [show elV (⟨deep, ⟨qk, qt, qao, qan, qaA, qal, qac, qbo, qbn, qbA, qbl, qbc, qyA, qyl, qyc, qeA, qel, qec⟩, s, small, at_, pr⟩ : El w w.heap.size D (fun _ => True)) = #[.int .i64 deep, .agg #[.int .u8 qk, .int .i64 qt, .int .u8 qao, .int .i64 qan, .slice qaA qal qac, .int .u8 qbo, .int .i64 qbn, .slice qbA qbl qbc, .slice qyA qyl qyc, .slice qeA qel qec]] from rfl]
    gi_wp2
    exact hK _ _ ((KeepsOthers.alloc _ _).from _) (Kc.alloc _ hn) ⟨⟨⟨⟨bV1.alloc _, bR1.alloc _⟩, bS1.alloc _, bN1.alloc _⟩, hp⟩, hB1.alloc hn _⟩ ⟨W.heap.size, by omega, BoxS.new W ⟨qk, qt, qao, qan, qaA, qal, qac, qbo, qbn, qbA, qbl, qbc, qyA, qyl, qyc, qeA, qel, qec⟩, rfl⟩
  case body =>
    rintro l pre x a' W hl ⟨r, hr⟩ ⟨⟨⟨⟨bV1, bR1⟩, bS1, bN1⟩, hp⟩, hB1⟩ ⟨Bx, hBx, bX, rfl⟩ hlt
    have cS := bS1.cell
    have fS := bS1.frozen
    have hp40 := hp.1
    have HP := Lib.hid hp
    clear hp
    refine wpIn_block (wpIn_seq_k fun K hK => ?_)
    have HKK := Lib.hid hK
    clear hK
    gi_wp2
    refine HKK.out _ _ ?_
    clear HKK cS fS
    obtain ⟨W2, hW2⟩ : ∃ W2, W2 = W.setCell ⟨w.heap.size + 1 + 1, 0, none⟩ (.int .i64 (pre.length + 1)) := ⟨_, rfl⟩
    have hz := bN1.lt
    have hB2 : Below w.heap.size w W2 := by rw [hW2]; exact hB1.setCell (p := ⟨w.heap.size + 1 + 1, 0, none⟩) (show w.heap.size ≤ w.heap.size + 1 + 1 by omega) _
    have bV2 : _root_.Go.Boxed W2 w.heap.size 3 (.int .i64 n) := by rw [hW2]; exact bV1.other (by omega) _
    have bR2 : _root_.Go.Boxed W2 (w.heap.size + 1) 4 (.bool false) := by rw [hW2]; exact bR1.other (by omega) _
    have bS2 : _root_.Go.Boxed W2 (w.heap.size + 1 + 1) 3 (.int .i64 (pre.length + 1)) := by rw [hW2]; exact bS1.set _
    have bN2 : _root_.Go.Boxed W2 (w.heap.size + 1 + 1 + 1) 3 (.int .i64 (nodesL D (pre.map El.key) : Nat)) := by rw [hW2]; exact bN1.other (by omega) _
    have bX2 : BoxS W2 Bx x.r := by rw [hW2]; exact bX.set (by omega)
    have hKF : KeepsFrom W0.heap.size W W2 := by rw [hW2]; exact (KeepsOthers.setCell _ _ _).from _
    have hKC : Kc w.heap.size W0.heap.size W W2 := by rw [hW2]; exact Kc.set _ (by omega) (by omega)
    rw [← hW2]
    clear hW2 bV1 bR1 bS1 bN1 bX hB1
    have hlen : (pre ++ [x]).length = pre.length + 1 := by simp
    have cS := bS2.cell
    have cR := bR2.cell
    have fR := bR2.frozen
    have HSZ := Lib.hid hsz
    clear hsz
    have HR := Lib.hid (And.intro bR2 (And.intro hB2 (And.intro hKF hKC)))
    have hmem : x ∈ pre ++ [x] := List.mem_append_right _ List.mem_cons_self
    have hend : ∀ W', KeepsFrom W0.heap.size W W' → Below w.heap.size w W' → _root_.Go.Boxed W' (w.heap.size + 1) 4 (.bool false) → (40 < (pre ++ [x]).length ∨ okEach D n x.key = false) → (KeepsFrom W0.heap.size W (W'.setCell ⟨w.heap.size + 1, 0, none⟩ (.bool false)) ∧ (40 < (pre ++ [x]).length ∨ ∃ y ∈ pre ++ [x], okEach D n y.key = false) ∧ _root_.Go.Boxed (W'.setCell ⟨w.heap.size + 1, 0, none⟩ (.bool false)) (w.heap.size + 1) 4 (.bool false) ∧ Below w.heap.size w (W'.setCell ⟨w.heap.size + 1, 0, none⟩ (.bool false))) := fun W' h1 h2 h3 h4 =>
      ⟨h1.trans ((KeepsOthers.setCell _ _ _).from _), h4.imp id fun h => ⟨x, hmem, h⟩, h3.set _, h2.setCell (p := ⟨w.heap.size + 1, 0, none⟩) (show w.heap.size ≤ w.heap.size + 1 by omega) _⟩
    have HEND := Lib.hid hend
    clear hend hmem
    by_cases h40 : 40 < pre.length + 1
    · have HE := Lib.hid (HEND.out W2 hKF hB2 bR2 (.inl (by rw [hlen]; exact h40)))
      have e40 : decide (40 < (pre.length : Int) + 1) = true := decide_eq_true (by omega)
      clear HP HR HEND hlen
      gi_wp2
      obtain ⟨k1, k2, k3, k4⟩ := HE.out
      exact ⟨k1, ⟨⟨rfl, k2⟩, k3⟩, k4⟩
    have e40 : decide (40 < (pre.length : Int) + 1) = false := decide_eq_false (by omega)
    by_cases h6 : 6 < x.deep
    · have HE := Lib.hid (HEND.out W2 hKF hB2 bR2 (.inr (by unfold okEach; rw [show x.key.1 = x.deep from rfl, decide_eq_false (by omega)]; rfl)))
      have e6 : decide (6 < (x.deep : Int)) = true := decide_eq_true (by omega)
      clear HP HR HEND hlen
      gi_wp2
      obtain ⟨k1, k2, k3, k4⟩ := HE.out
      exact ⟨k1, ⟨⟨rfl, k2⟩, k3⟩, k4⟩
    have e6 : decide (6 < (x.deep : Int)) = false := decide_eq_false (by omega)
    have tx2 := bX2.ten
    have t0 := tx2.c0
    have t1 := tx2.c1
    have t2 := tx2.c2
    have t3 := tx2.c3
    have t4 := tx2.c4
    have t5 := tx2.c5
    have t6 := tx2.c6
    have t7 := tx2.c7
    have t8 := tx2.c8
    have t9 := tx2.c9
    rw [Nat.zero_add] at t1 t2 t3 t4 t5 t6 t7 t8 t9
    have cV := bV2.cell
    have hsat := x.at_.below hB2 (Nat.le_refl _)
    have HS := Lib.hid (shaped_any D x.r x.s 0 w.heap.size W2 n n0 n1 (HKD.out.below hB2 (Nat.le_refl _)) hsat hB2.size)
    cases hsh : shapedF D x.s n with
    | false =>
      rw [hsh] at HS
      have HE : Hid (∀ W', Below W2.heap.size W2 W' → _) := fun W' h' => HEND.out W' (hKF.trans (keeps_below h')) (hB2.trans (h'.mono hB2.size)) ((h'.block _ bR2.lt).trans bR2) (.inr (by unfold okEach; rw [show x.key.2 = x.s from rfl, hsh, Bool.and_false]))
      have hR1 : Hid (∀ W', Below W2.heap.size W2 W' → W'.cell? ⟨w.heap.size + 1, 0, none⟩ = some (.bool false) ∧ W'.frozen? ⟨w.heap.size + 1, 0, none⟩ = false) := fun W' h' => ⟨(h'.cell (p := ⟨_, _, none⟩) bR2.lt).trans cR, (h'.frozen (p := ⟨_, _, none⟩) bR2.lt).trans fR⟩
      clear HP HR HEND hlen hsh hsat tx2 bX2 bN2 bS2 bV2 bR2 hB2 hKF hKC
      gi_wp2_with (gi_at_call 59; refine (CallsIn.inRound l (callsIn_wide.2 HS.out)).mono ?_; rintro e w5 ⟨rfl, b5⟩; obtain ⟨r1, r2⟩ := hR1.out w5 b5)
      obtain ⟨k1, k2, k3, k4⟩ := HE.out _ b5
      exact ⟨k1, ⟨⟨rfl, k2⟩, k3⟩, k4⟩
    | true =>
      rw [hsh] at HS
      have hR1 : Hid (∀ W', Below W2.heap.size W2 W' → W'.cell? ⟨w.heap.size + 1, 0, none⟩ = some (.bool false) ∧ W'.frozen? ⟨w.heap.size + 1, 0, none⟩ = false) := fun W' h' => ⟨(h'.cell (p := ⟨_, _, none⟩) bR2.lt).trans cR, (h'.frozen (p := ⟨_, _, none⟩) bR2.lt).trans fR⟩
      have hp := HP.out
      have hok : okEach D n x.key = true := by unfold okEach; rw [show x.key.2 = x.s from rfl, hsh, show x.key.1 = x.deep from rfl, decide_eq_true (show x.deep ≤ 6 by omega)]; rfl
      have hall : ∀ y ∈ pre ++ [x], okEach D n y.key = true := fun y hy => (List.mem_append.1 hy).elim (hp.2 y) (fun h => by rw [List.mem_singleton.1 h]; exact hok)
      have hle := okEach_le hsh
      have hnu := nodes_ok pre hp.2
      have hfw := okEach_few (deep := x.deep) hsh
      have hnd : nodesL D ((pre ++ [x]).map El.key) = nodesL D (pre.map El.key) + (cntE D x.s.a + cntE D x.s.b) := by rw [List.map_append]; exact nodesL_snoc _ _ _
      have hab := x.at_.ab
      have HALL := Lib.hid (And.intro hall (And.intro hle (And.intro hnu (And.intro hfw (And.intro hnd (And.intro hab hlen))))))
      have HB := Lib.hid (And.intro hB2 (And.intro bV2 (And.intro bR2 (And.intro bS2 (And.intro bN2 (And.intro bX2 (And.intro hKF hKC)))))))
      clear HP HR HEND hsh hsat tx2 bX2 bN2 bS2 bV2 bR2 hB2 hKF hKC hall hle hnu hfw hok hp hnd hab hlen
      gi_wp2_with (gi_at_call 59; refine (CallsIn.inRound l (callsIn_wide.2 HS.out)).mono ?_; rintro e w5 ⟨rfl, b5⟩; obtain ⟨r1, r2⟩ := hR1.out w5 b5)
      obtain ⟨hall, hle, hnu, hfw, hnd, hab, hlen⟩ := HALL.out
      obtain ⟨hB2, bV2, bR2, bS2, bN2, bX2, hKF, hKC⟩ := HB.out
      have hsz := HSZ.out
      have hB5 := hB2.trans (b5.mono hB2.size)
      have tx5 := (bX2.below b5 bX2.lt).ten
      have bN5 : _root_.Go.Boxed w5 (w.heap.size + 1 + 1 + 1) 3 (.int .i64 (nodesL D (pre.map El.key) : Nat)) := (b5.block _ bN2.lt).trans bN2
      obtain ⟨u, hu⟩ : ∃ u, u = nodesL D (pre.map El.key) := ⟨_, rfl⟩
      rw [← hu] at hnd hnu bN5
      refine nodes_region _ 27 6 8 (by omega) (by omega) (by kernel_rfl) rfl (by kernel_rfl) w5 _ (by simp) Bx (w.heap.size + 1 + 1 + 1) u (cntE D x.s.a : Nat) (cntE D x.s.b : Nat) _ _ _ _ _ _ rfl rfl (by omega) (by omega) (by omega) (by omega) bN5.cell bN5.frozen bN5.lt (bX2.below b5 bX2.lt).lt tx5.c2 tx5.c3 tx5.c4 tx5.c5 tx5.c6 tx5.c7
        (fun W' h' => cnte_any D x.s.a x.r.va 0 w.heap.size W' (hab.1.below (hB5.trans (h'.mono hB5.size)) (Nat.le_refl _)) (by have := hB5.size; have := h'.size; omega) hfw.1)
        (fun W' h' => cnte_any D x.s.b x.r.vb 0 w.heap.size W' (hab.2.below (hB5.trans (h'.mono hB5.size)) (Nat.le_refl _)) (by have := hB5.size; have := h'.size; omega) hfw.2) (fun a W' h' => ?_)
      have e1 : (u : Int) + ((cntE D x.s.a : Nat) + (cntE D x.s.b : Nat)) = ((u + (cntE D x.s.a + cntE D x.s.b) : Nat) : Int) := by omega
      have b9 : Below W2.heap.size W2 W' := b5.trans (h'.mono b5.size)
      have bV9 : _root_.Go.Boxed W' w.heap.size 3 (.int .i64 n) := (b9.block _ bV2.lt).trans bV2
      have bR9 : _root_.Go.Boxed W' (w.heap.size + 1) 4 (.bool false) := (b9.block _ bR2.lt).trans bR2
      have bS9 : _root_.Go.Boxed W' (w.heap.size + 1 + 1) 3 (.int .i64 (pre.length + 1)) := (b9.block _ bS2.lt).trans bS2
      have bN9 : _root_.Go.Boxed W' (w.heap.size + 1 + 1 + 1) 3 (.int .i64 u) := (h'.block _ bN5.lt).trans bN5
      refine ⟨hKF.trans ((keeps_below b9).trans ((KeepsOthers.setCell _ _ _).from _)), hKC.trans ((Kc.of_below b9 hB2.size).trans (Kc.set _ (by omega) (by omega))), ⟨⟨⟨bV9.other (by omega) _, bR9.other (by omega) _⟩, ?_, ?_⟩, by omega, hall⟩, (hB2.trans (b9.mono hB2.size)).setCell (p := ⟨w.heap.size + 1 + 1 + 1, 0, none⟩) (show w.heap.size ≤ w.heap.size + 1 + 1 + 1 by omega) _⟩
      · rw [hlen]
        exact bS9.other (by omega) _
      · rw [hnd, ← e1]
        exact bN9.set _
  case done =>
    rintro Dd zs W hD' hz ⟨⟨⟨⟨bV1, bR1⟩, bS1, bN1⟩, hp⟩, hB1⟩ hK
    have hzl := congrArg List.length hz
    rw [List.length_map] at hzl
    have hv : soundF D tx n = decide (nodesL D (flat D tx) ≤ 300) := by
      unfold soundF
      have h1 : (flat D tx).all (okEach D n) = true := by
        rw [List.all_eq_true]
        intro y hy
        rw [← hz] at hy
        obtain ⟨x, hx, rfl⟩ := List.mem_map.1 hy
        exact hp.2 x hx
      rw [h1, decide_eq_true (show (flat D tx).length ≤ 40 by omega)]
      rfl
    rw [hz] at bN1
    obtain ⟨u, hu⟩ : ∃ u, u = nodesL D (flat D tx) := ⟨_, rfl⟩
    rw [← hu] at bN1 hv
    rw [show decide (u ≤ 300) = decide ((u : Int) ≤ 300) from decide_eq_decide.2 (by omega)] at hv
    have HV := Lib.hid hv
    have HX := Lib.hid (And.intro bR1 hB1)
    have hK1 : Hid ((W.setCell ⟨w.heap.size + 1, 0, none⟩ (.bool (decide ((u : Int) ≤ 300)))).heap[Dd]? = some (.deferred (some []))) := (KeepsOthers.setCell W ⟨w.heap.size + 1, 0, none⟩ (.bool (decide ((u : Int) ≤ 300)))).same Dd _ hK rfl
    have cR := bR1.cell
    have fR := bR1.frozen
    have cN := bN1.cell
    clear hv hp hz hzl bV1 bS1 hK hu bN1
    gi_wp2
    obtain ⟨bR1, hB1⟩ := HX.out
    have hK9 := hK1.out
    refine ⟨by simp, .inl ⟨_, _, rfl, run_takeDeferred hK9, ?_⟩⟩
    have q1 := cell_kept (bR1.set (.bool (decide ((u : Int) ≤ 300)))).cell (grownBy_putObj' _ Dd (.deferred none)) (fun r e => by cases e; exact ⟨_, hK9, rfl⟩)
    refine ⟨.bool (decide ((u : Int) ≤ 300)), ?_, by rw [HV.out], (hB1.setCell (p := ⟨w.heap.size + 1, 0, none⟩) (show w.heap.size ≤ w.heap.size + 1 by omega) _).trans (belowK_b (w := w) (Nat.le_refl _) _ Dd _ _ (by omega) hK9 rfl rfl)⟩
    simp [results, Tryd.f46, go_sem, q1]
  case stop =>
    rintro Dd cc pre W hD' hpre ⟨⟨⟨rfl, hbad⟩, bR1⟩, hB1⟩ hK
    have hv : soundF D tx n = false := by
      obtain ⟨v, hv⟩ := hpre
      unfold soundF
      rcases hbad with h | ⟨x, hx, hx2⟩
      · have hl2 := congrArg List.length hv
        rw [List.length_append, List.length_map] at hl2
        rw [decide_eq_false (show ¬ (flat D tx).length ≤ 40 by omega)]
        rfl
      · have h1 : (flat D tx).all (okEach D n) = false := by
          rw [List.all_eq_false]
          exact ⟨x.key, by rw [← hv]; exact List.mem_append_left _ (List.mem_map.2 ⟨x, hx, rfl⟩), by rw [hx2]; simp⟩
        rw [h1, Bool.false_and, Bool.and_false]
    gi_wp2
    refine ⟨by simp, .inl ⟨_, _, rfl, run_takeDeferred hK, ?_⟩⟩
    have q1 := cell_kept bR1.cell (grownBy_putObj' _ Dd (.deferred none)) (fun r e => by cases e; exact ⟨_, hK, rfl⟩)
    refine ⟨.bool false, ?_, by rw [hv], hB1.trans (belowK_b (w := w) (Nat.le_refl _) W Dd _ _ (by omega) hK rfl rfl)⟩
    simp [results, Tryd.f46, go_sem, q1]
theorem sound_of (D : Nat) (A : Option Addr) (c : Nat) (tx : List St) (n : Int) (n0 : -9223372036854775808 ≤ n) (n1 : n < 9223372036854775808) (lo hi : Nat) (w : World) (hkd : Kd w) (hk : SKids w lo hi D A tx) (hhi : hi ≤ w.heap.size) (hl : tx.length ≤ 9223372036854775807) (hD : D ≤ 4611686018427387903) :
    Calls Tryd.prog 46 #[.slice A tx.length c, .int .i64 n] w fun e w' => e = .returned (.bool (soundF D tx n)) ∧ Below w.heap.size w w' :=
  callsIn_wide.1 (sound_in D A c tx n n0 n1 w hkd (hk.wide (Nat.zero_le _) hhi) hl hD)
end Go.Proofs.YtnkdaehmdcpafaaDoor
