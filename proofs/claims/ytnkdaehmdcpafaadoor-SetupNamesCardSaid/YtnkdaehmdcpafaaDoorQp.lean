/-
  CONTRACT OF seesawref05's Copy (the document's own answer of layer 5): the same transaction, in new memory; the memory that was there stays as it was. Conditions: at most 100000 statements in a block, expressions of at most 100000 parts.
-/
import Derived.Test.YtnkdaehmdcpafaaDoorQw
import Derived.Test.YtnkdaehmdcpafaaDoorEp
import Derived.Test.YtnkdaehmdcpafaaDoorCp
import Derived.Deep.RegionHeld3
import Derived.Deep.DeepCutAuto
import Derived.Deep.CutBlock
import Derived.Deep.AppendLies
namespace Go.Proofs.YtnkdaehmdcpafaaDoor
open Go.RowKit Go.Deep
set_option linter.unusedVariables false
theorem At.parts {w : World} {lo hi d : Nat} {v : Value} {e : Ex} (h : At w lo hi d v e) : ∃ o n A l c, v = .agg #[.int .u8 (o : Nat), .int .i64 n, .slice A l c] := by
  cases d with
  | zero => exact h.elim
  | succ d =>
    obtain ⟨op, n, args⟩ := e
    obtain ⟨q1, q2, q3, q4, A, c, rfl, hk⟩ := h.open_
    exact ⟨_, _, _, _, _, rfl⟩
/-- Behind an append the newest block but one is as it was. -/
theorem far_block {wr w8 w9 : World} {o : Obj} {base : Nat} {e : TypeId} {size k : Nat} {sv : Value} {xs : List Value} (own : wr.ownsRow base e size sv k xs) (hz : wr.heap.size < w8.heap.size) (hg : (w8.alloc o).grownBy w9 sv.ownBlock) : w9.heap[wr.heap.size]? = w8.heap[wr.heap.size]? := by
  rw [hg.block wr.heap.size (by simp; omega) (fun hc => by have := (own.lt _ hc.symm).2; omega)]
  exact heap_alloc_old w8 o hz
set_option maxRecDepth 100000 in
set_option maxHeartbeats 8000000 in
theorem rtcopy_of (d : Nat) : ∀ (A : Option Addr) (c : Nat) (tx : List St) (lo hi : Nat) (w : World), SKids w lo hi d A tx → hi ≤ w.heap.size → tx.length ≤ 100000 → (∀ s ∈ tx, Sm d s) →
    Calls Tryd.prog 28 #[.slice A tx.length c] w (CopiedS w d tx) := by
  induction d using Nat.strongRecOn with
  | _ d ih =>
  intro A c tx lo hi w hk hhi hl hS
  have HK := Lib.hid hk
  have IH := Lib.hid ih
  have HS := Lib.hid hS
  have hI0 := Lib.hid (CRI.start w tx d)
  obtain ⟨L, hL⟩ : ∃ L, L = tx.length := ⟨_, rfl⟩
  have HL := Lib.hid hL
  have HDONE : Hid (∀ (wr : World) (sv : Value) (xs : List Value), CRI w tx d L sv xs wr → CopiedS w d tx (.returned sv) wr) := fun wr sv xs h => by
    subst hL
    obtain ⟨A', c', rfl, hA, hR⟩ := h.done
    exact ⟨A', c', rfl, hA, h.low, hR⟩
  rw [← hL] at hl ⊢
  clear hk ih hS hL
  go_enter Tryd.func28, Tryd.ntmps28
  go_wp2_with fail
  go_loopw [3, 4] (fun o i wr => ∃ (k : Nat) (xs : List Value), k ≤ L ∧ i = .int .i64 k ∧ Hid (CRI w tx d k o xs wr)) (fun _ i _ => L - (intOf i).toNat)
  case atStart => exact ⟨0, [], by omega, by go_num, hI0⟩
  case round =>
    obtain ⟨k, xs, hk, rfl, INV⟩ := hrel
    by_cases hlt : k < L
    · have hlt2 : k < tx.length := by have := HL.out; omega
      have hlow := INV.out.low
      obtain ⟨p, r, rfl, m1, m2, ht, hs⟩ := HK.out.below hlow hhi k hlt2
      obtain ⟨q, rfl⟩ := hs.pos
      have hSm := HS.out tx[k] (List.getElem_mem hlt2)
      obtain ⟨s, hsx⟩ : ∃ s, s = tx[k] := ⟨_, rfl⟩
      rw [← hsx] at hs hSm
      have HX := Lib.hid hsx
      obtain ⟨kk, t, a, b, y, e⟩ := s
      obtain ⟨s1, s2, s3, s4, s5, s6⟩ := hSm
      obtain ⟨⟨e1, e2, e3, e4⟩, hq, ha, hbb, hy, he⟩ := hs.open_
      have hzr := hlow.size
      have bx := ten_below wr r
      have hz7 : (wr.alloc (.cells #[.int .u8 r.k, .int .i64 r.t, .int .u8 r.ao, .int .i64 r.an, .slice r.aA r.al r.ac, .int .u8 r.bo, .int .i64 r.bn, .slice r.bA r.bl r.bc, .slice r.yA r.yl r.yc, .slice r.eA r.el r.ec] 39)).heap.size = wr.heap.size + 1 := by simp
      have tn := Ten.new wr r
      obtain ⟨rk, rt, rao, ran, raA, ral, rac, rbo, rbn, rbA, rbl, rbc, ryA, ryl, ryc, reA, rel, r9c⟩ := r
      dsimp only [Raw.va, Raw.vb] at *
      subst e1 e2 e3 e4
      obtain ⟨W7, hW7⟩ : ∃ W, W = wr.alloc (.cells #[.int .u8 rk, .int .i64 rt, .int .u8 rao, .int .i64 ran, .slice raA ral rac, .int .u8 rbo, .int .i64 rbn, .slice rbA rbl rbc, .slice ryA y.length ryc, .slice reA e.length r9c] 39) := ⟨_, rfl⟩
      rw [← hW7] at bx hz7 tn
      have HA := Lib.hid (fun (W' : World) (h' : Below W7.heap.size W7 W') => (rcopy_any q a _ lo hi W' (ha.below (bx.trans (h'.mono bx.size)) (by omega)) (by have := h'.size; omega) s1).mono fun z w' (hz : Copied W' q a z w') => (show ∃ o n A l c, z = .returned (.agg #[.int .u8 (o : Nat), .int .i64 n, .slice A l c]) ∧ At w' wr.heap.size w'.heap.size q (.agg #[.int .u8 (o : Nat), .int .i64 n, .slice A l c]) a ∧ Below W7.heap.size W7 w' ∧ Below W'.heap.size W' w' from by
        obtain ⟨v, h1, h2, h3⟩ := hz
        obtain ⟨o, n, A, l, c, rfl⟩ := h2.parts
        exact ⟨o, n, A, l, c, h1, h2.wide (by have := h'.size; omega) (Nat.le_refl _) q, h'.trans (h3.mono h'.size), h3⟩))
      have HBB := Lib.hid (fun (W' : World) (h' : Below W7.heap.size W7 W') => (rcopy_any q b _ lo hi W' (hbb.below (bx.trans (h'.mono bx.size)) (by omega)) (by have := h'.size; omega) s2).mono fun z w' (hz : Copied W' q b z w') => (show ∃ o n A l c, z = .returned (.agg #[.int .u8 (o : Nat), .int .i64 n, .slice A l c]) ∧ At w' wr.heap.size w'.heap.size q (.agg #[.int .u8 (o : Nat), .int .i64 n, .slice A l c]) b ∧ Below W7.heap.size W7 w' ∧ Below W'.heap.size W' w' from by
        obtain ⟨v, h1, h2, h3⟩ := hz
        obtain ⟨o, n, A, l, c, rfl⟩ := h2.parts
        exact ⟨o, n, A, l, c, h1, h2.wide (by have := h'.size; omega) (Nat.le_refl _) q, h'.trans (h3.mono h'.size), h3⟩))
      have HY := Lib.hid (fun (W' : World) (h' : Below W7.heap.size W7 W') => (IH.out q (by omega) ryA ryc y lo hi W' (hy.below (bx.trans (h'.mono bx.size)) (by omega)) (by have := h'.size; omega) s3 s5).mono fun z w' (hz : CopiedS W' q y z w') => (show ∃ A c, z = .returned (.slice A y.length c) ∧ SKids w' wr.heap.size w'.heap.size q A y ∧ Below W7.heap.size W7 w' ∧ Below W'.heap.size W' w' from by
        obtain ⟨A, c, h1, h2, h3, _⟩ := hz
        exact ⟨A, c, h1, h2.wide (by have := h'.size; omega) (Nat.le_refl _), h'.trans (h3.mono h'.size), h3⟩))
      have HE := Lib.hid (fun (W' : World) (h' : Below W7.heap.size W7 W') => (IH.out q (by omega) reA r9c e lo hi W' (he.below (bx.trans (h'.mono bx.size)) (by omega)) (by have := h'.size; omega) s4 s6).mono fun z w' (hz : CopiedS W' q e z w') => (show ∃ A c, z = .returned (.slice A e.length c) ∧ SKids w' wr.heap.size w'.heap.size q A e ∧ Below W7.heap.size W7 w' ∧ Below W'.heap.size W' w' from by
        obtain ⟨A, c, h1, h2, h3, _⟩ := hz
        exact ⟨A, c, h1, h2.wide (by have := h'.size; omega) (Nat.le_refl _), h'.trans (h3.mono h'.size), h3⟩))
      have f0 := tn.c0
      have f1 := tn.c1
      have f2 := tn.c2
      have f3 := tn.c3
      have f4 := tn.c4
      have f5 := tn.c5
      have f6 := tn.c6
      have f7 := tn.c7
      have f8 := tn.c8
      have f9 := tn.c9
      have g0 := ht.c0
      have g1 := ht.c1
      have g2 := ht.c2
      have g3 := ht.c3
      have g4 := ht.c4
      have g5 := ht.c5
      have g6 := ht.c6
      have g7 := ht.c7
      have g8 := ht.c8
      have g9 := ht.c9
      dsimp only at f0 f1 f2 f3 f4 f5 f6 f7 f8 f9 g0 g1 g2 g3 g4 g5 g6 g7 g8 g9
      rw [Nat.zero_add] at f1 f2 f3 f4 f5 f6 f7 f8 f9
      have HST := Lib.hid (And.intro bx (And.intro hz7 hq))
      have HLOW := Lib.hid hlow
      have HW7 := Lib.hid hW7
      have OWN := Lib.hid INV.out.own
      have hS : Hid (∀ w' : World, w'.heap[wr.heap.size]? = W7.heap[wr.heap.size]? → (w'.cell? ⟨wr.heap.size, 0, none⟩ = some (.int .u8 rk) ∧ w'.cell? ⟨wr.heap.size, 1, none⟩ = some (.int .i64 rt) ∧ w'.cell? ⟨wr.heap.size, 2, none⟩ = some (.int .u8 rao) ∧ w'.cell? ⟨wr.heap.size, 3, none⟩ = some (.int .i64 ran) ∧ w'.cell? ⟨wr.heap.size, 4, none⟩ = some (.slice raA ral rac) ∧ w'.cell? ⟨wr.heap.size, 5, none⟩ = some (.int .u8 rbo) ∧ w'.cell? ⟨wr.heap.size, 6, none⟩ = some (.int .i64 rbn) ∧ w'.cell? ⟨wr.heap.size, 7, none⟩ = some (.slice rbA rbl rbc) ∧ w'.cell? ⟨wr.heap.size, 8, none⟩ = some (.slice ryA y.length ryc) ∧ w'.cell? ⟨wr.heap.size, 9, none⟩ = some (.slice reA e.length r9c))) := fun w' h' => by
        have hc : ∀ i, w'.cell? ⟨wr.heap.size, i, none⟩ = W7.cell? ⟨wr.heap.size, i, none⟩ := fun i => World.cell?_of_block (a := ⟨wr.heap.size, i, none⟩) h'
        exact ⟨(hc 0).trans f0, (hc 1).trans f1, (hc 2).trans f2, (hc 3).trans f3, (hc 4).trans f4, (hc 5).trans f5, (hc 6).trans f6, (hc 7).trans f7, (hc 8).trans f8, (hc 9).trans f9⟩
      have E0 := Lib.hid (hS.out W7 rfl)
      have E1 := Lib.hid (hS.out W7.drew rfl)
      have HH : Hid (wr.heap.size < W7.heap.size) := by show _ < _; omega
      have k5 : k ≤ 100000 := by omega
      clear f0 f1 f2 f3 f4 f5 f6 f7 f8 f9 tn ht hs hsx ha hbb hy he bx hz7 hq hlow hzr m1 m2 s1 s2 s3 s4 s5 s6 hW7
      go_upto_region 6 with fail
      rw [← HW7.out]
      clear g0 g1 g2 g3 g4 g5 g6 g7 g8 g9
      go_region_held3 (fun w' => w'.cell? ⟨wr.heap.size, 0, none⟩ = some (.int .u8 rk) ∧ w'.cell? ⟨wr.heap.size, 1, none⟩ = some (.int .i64 rt) ∧ w'.cell? ⟨wr.heap.size, 2, none⟩ = some (.int .u8 rao) ∧ w'.cell? ⟨wr.heap.size, 3, none⟩ = some (.int .i64 ran) ∧ w'.cell? ⟨wr.heap.size, 4, none⟩ = some (.slice raA ral rac) ∧ w'.cell? ⟨wr.heap.size, 5, none⟩ = some (.int .u8 rbo) ∧ w'.cell? ⟨wr.heap.size, 6, none⟩ = some (.int .i64 rbn) ∧ w'.cell? ⟨wr.heap.size, 7, none⟩ = some (.slice rbA rbl rbc) ∧ w'.cell? ⟨wr.heap.size, 8, none⟩ = some (.slice ryA y.length ryc) ∧ w'.cell? ⟨wr.heap.size, 9, none⟩ = some (.slice reA e.length r9c))
        (first | exact E0.out | exact E1.out | exact hS.out _ ((far_block OWN.out (Nat.lt_of_lt_of_le HH.out b8.size) hgrow).trans (b8.block _ HH.out)) | exact hS.out _ (b8.block _ HH.out) | exact hS.out _ (b7.block _ HH.out) | exact hS.out _ (b6.block _ HH.out) | exact hS.out _ (b5.block _ HH.out) | go_keep)
        (first
          | (refine append_stmt (r := ⟨rk, rt, o5, n5, A5, l5, c5, o6, n6, A6, l6, c6, A9, y.length, c9, A10, e.length, c10⟩) OWN.out HLOW.out.size k5 (HST.out.1.trans (b8.mono HST.out.1.size)) rfl (.tmp 16) (.tmp 34) rfl rfl rfl ?_; intro g cap w9 hown hgrow hat hgl)
          | (go_at_call 28; refine (HE.out w7 b7).mono ?_; clear HY HE; rintro z w8 ⟨A10, c10, rfl, hA10, b8, b87⟩)
          | (go_at_call 28; refine (HY.out w6 b6).mono ?_; rintro z w7 ⟨A9, c9, rfl, hA9, b7, b76⟩)
          | (go_at_call 49; refine (HBB.out w5 b5).mono ?_; clear HA HBB; rintro z w6 ⟨o6, n6, A6, l6, c6, rfl, hA6, b6, b65⟩)
          | (go_at_call 49; refine (HA.out W7.drew (Below.refl _ _).drew).mono ?_; clear E0 E1; rintro z w5 ⟨o5, n5, A5, l5, c5, rfl, hA5, b5, b50⟩)
          | fail)
      have hq := HST.out.2.2
      have bx := HST.out.1
      have z1 := b65.size
      have z2 := b76.size
      have z3 := b87.size
      have hsat : SAt w8 wr.heap.size w8.heap.size (q + 1) ⟨rk, rt, o5, n5, A5, l5, c5, o6, n6, A6, l6, c6, A9, y.length, c9, A10, e.length, c10⟩ tx[k] := by
        rw [← HX.out]
        refine ⟨⟨rfl, rfl, rfl, rfl⟩, hq, ?_, ?_, ?_, ?_⟩
        · exact (((hA5.below b65 (Nat.le_refl _)).below (b76.mono z1) (Nat.le_refl _)).below (b87.mono (Nat.le_trans z1 z2)) (Nat.le_refl _)).wide (Nat.le_refl _) (by omega) q
        · exact ((hA6.below b76 (Nat.le_refl _)).below (b87.mono z2) (Nat.le_refl _)).wide (Nat.le_refl _) (by omega) q
        · exact (hA9.below b87 (Nat.le_refl _)).wide (Nat.le_refl _) (by omega)
        · exact hA10
      have HN := Lib.hid (INV.out.step hlt2 (bx.trans (b8.mono bx.size)) hsat hown hgrow (hat.imp id fun h => by simpa using h))
      clear hq bx z1 z2 z3 hsat hA5 hA6 hA9 hA10 b5 b50 b6 b65 b7 b76 b8 b87 hown hgrow hat hgl
      go_wp2_with fail
      go_roundw
      case rel => exact ⟨k + 1, _, by omega, by go_num, HN⟩
      case measure => simp [intOf]; omega
    · obtain rfl : k = L := by omega
      have HD := Lib.hid (HDONE.out wr _ xs INV.out)
      clear INV
      go_wp2_with fail
      go_ret
      exact HD.out
end Go.Proofs.YtnkdaehmdcpafaaDoor
