/-
  CONTRACT OF seesawref04's Copy: the same tree, in new memory; the memory that was there stays as it was. Condition: trees of at most 100000 parts.
-/
import Derived.Test.YtnkdaehmdcpafaaDoorEv
import Derived.Deep.RegionLaw
namespace Go.Proofs.YtnkdaehmdcpafaaDoor
open Go.RowKit
set_option linter.unusedVariables false
set_option maxRecDepth 100000 in
theorem rcopy_any (d : Nat) : ∀ (e : Ex) (v : Value) (lo hi : Nat) (w : World), At w lo hi d v e → hi ≤ w.heap.size → cnt d e ≤ 100000 →
    Calls Tryd.prog 49 #[v] w (Copied w d e) := by
  induction d with
  | zero => intro e v lo hi w h; exact h.elim
  | succ d ih =>
    intro e v lo hi w h hhi hc
    obtain ⟨op, n, args⟩ := e
    obtain ⟨q1, q2, q3, q4, A, c, rfl, hk⟩ := h.open_
    have b1 := boxed_b w (.int .u8 op) (.int .i64 n) (.slice A args.length c)
    have hbx := Boxed.new w (.int .u8 op) (.int .i64 n) (.slice A args.length c)
    have z1 : (w.alloc (.cells #[.int .u8 op, .int .i64 n, .slice A args.length c] 37)).heap.size = w.heap.size + 1 := by simp
    have HK := Lib.hid (Kids.below hk b1 hhi)
    obtain ⟨W1, hW1⟩ : ∃ W1, W1 = w.alloc (.cells #[.int .u8 op, .int .i64 n, .slice A args.length c] 37) := ⟨_, rfl⟩
    have inv0 : CopyInv W1 w.heap.size op n args d 0 (.slice none 0 0) [] ((W1.alloc (.cells #[.int .u8 0, .int .i64 0, .slice none 0 0] 37)).alloc (.cells #[.int .u8 op, .int .i64 n, .slice none 0 0] 37)) := by
      rw [← hW1] at z1
      have hz : ((W1.alloc (.cells #[.int .u8 0, .int .i64 0, .slice none 0 0] 37)).alloc (.cells #[.int .u8 op, .int .i64 n, .slice none 0 0] 37)).heap.size = w.heap.size + 3 := by simp [z1]
      refine ⟨World.ownsRow_nil _ _ _ _, fun j hj => absurd hj (by omega), ?_, ?_, ?_, by omega⟩
      · have := heap_alloc_new (W1.alloc (.cells #[.int .u8 0, .int .i64 0, .slice none 0 0] 37)) (.cells #[.int .u8 op, .int .i64 n, .slice none 0 0] 37)
        rw [show (W1.alloc (.cells #[.int .u8 0, .int .i64 0, .slice none 0 0] 37)).heap.size = w.heap.size + 2 by simp [z1]] at this
        exact this
      · rw [heap_alloc_old _ _ (by simp [z1])]
        have := heap_alloc_new W1 (.cells #[.int .u8 0, .int .i64 0, .slice none 0 0] 37)
        rw [z1] at this
        exact this
      · rw [← z1]
        go_grown
    rw [hW1] at inv0
    have INV := Lib.hid inv0
    rw [← hW1] at b1 hbx z1 HK
    have IH := Lib.hid ih
    have HB1 := Lib.hid b1
    have HBX := Lib.hid hbx
    have HZ1 := Lib.hid z1
    have HC : Hid (∀ k (h : k < args.length), cnt d args[k] ≤ 100000) := fun k h => by
      have s1 := sum_take (cnt d) args k h
      have s2 := sum_le (cnt d) args (k + 1)
      have hc' : 1 + (args.map (cnt d)).sum ≤ 100000 := hc
      omega
    have HW1 := Lib.hid hW1
    obtain ⟨i0, hi0, hz0, hz1, hz2⟩ := info_parts expr_info
    have hlen : args.length ≤ 100000 := by
      have hc' : 1 + (args.map (cnt d)).sum ≤ 100000 := hc
      have := len_sum args hk.pos
      omega
    clear hk ih h inv0 b1 hbx z1 hW1 hc q4
    go_enter Tryd.func49, Tryd.ntmps49
    go_wp2_with fail
    obtain ⟨W3, hW3⟩ : ∃ W3, W3 = ((w.alloc (.cells #[.int .u8 op, .int .i64 n, .slice A args.length c] 37)).alloc (.cells #[.int .u8 0, .int .i64 0, .slice none 0 0] 37)).alloc (.cells #[.int .u8 op, .int .i64 n, .slice none 0 0] 37) := ⟨_, rfl⟩
    rw [← hW3] at INV ⊢
    clear hW3
    go_loopw [4] (fun i wr => ∃ (k : Nat) (sv : Value) (xs : List Value), k ≤ args.length ∧ i = .int .i64 k ∧ CopyInv W1 w.heap.size op n args d k sv xs wr) (fun i _ => args.length - (intOf i).toNat)
    case atStart => exact ⟨0, .slice none 0 0, [], by omega, rfl, by rw [HW1.out]; exact INV.out⟩
    case round =>
      obtain ⟨k, sv, xs, hk, rfl, inv⟩ := hrel
      have f2 := (HBX.out.below inv.low (by omega)).c2
      have INV2 := Lib.hid inv
      clear inv
      by_cases hlt : k < args.length
      · obtain ⟨a, x, y, z, rfl, m1, m2, g0, g1, g2, hA⟩ := HK.out.below INV2.out.low (by omega) k hlt
        have f3 : wr.cell? ⟨w.heap.size + 1 + 1, 2, none⟩ = some sv := cell_of_row wr _ 2 _ _ (0, 0) INV2.out.box
        have n0 : w.heap.size < w.heap.size + 1 := by omega
        have n1 : (a.add (k * 3)).block < w.heap.size + 1 := by rw [ad_block]; omega
        have hkeep : Hid (∀ w' : World, Below (w.heap.size + 1) wr w' → w'.cell? ⟨w.heap.size, 2, none⟩ = some (.slice (some a) args.length c) ∧
            w'.cell? (a.add (k * 3)) = some x ∧ w'.cell? ⟨(a.add (k * 3)).block, (a.add (k * 3)).off + 1, none⟩ = some y ∧ w'.cell? ⟨(a.add (k * 3)).block, (a.add (k * 3)).off + 2, none⟩ = some z) := by
          intro w' h5
          exact ⟨(h5.cell (p := ⟨w.heap.size, 2, none⟩) n0).trans f2, (h5.cell n1).trans g0, (h5.cell (p := ⟨(a.add (k * 3)).block, _, none⟩) n1).trans g1, (h5.cell (p := ⟨(a.add (k * 3)).block, _, none⟩) n1).trans g2⟩
        have hsz := INV2.out.size
        have HI := Lib.hid (IH.out args[k] _ _ _ wr.drew (At.keep (w := wr) (w' := wr.drew) (fun _ _ _ => rfl) d hA) (by simp; omega) (HC.out k hlt))
        have i1 : (0 : Int) ≤ (k : Int) := by omega
        have i2 : (k : Int) < (args.length : Int) := by omega
        have OWN := Lib.hid INV2.out.own
        have hgc : wr.frozen? ⟨w.heap.size + 1 + 1, 2, none⟩ = false := by
          have := INV2.out.box
          simp [World.frozen?, this]
        have k5 : k ≤ 100000 := by omega
        clear hA hk
        go_wp2_with fail
        go_region_law
          (first
            | (refine append_tree (ops := _) (K := _) (Q := _) (E := _) OWN.out hsz k5 b5 hA5 rfl (.tmp 18) (.tmp 25) rfl rfl rfl ?_
               intro g cap w1 hown1 hgrow hat hglt; have hw1 := low_grown3 hw5 hz5 OWN.out hgrow; have f4 := far_cell3 hz5 OWN.out hgrow f3a; have f5 : w1.frozen? ⟨w.heap.size + 1 + 1, 2, none⟩ = false := far_free hz5 OWN.out INV2.out.box b5 hgrow)
            | (rw [if_pos (by rfl)]; go_simp; refine HI.out.mono ?_; rintro r w5 ⟨v5, rfl, hA5, b5⟩; obtain ⟨x5, y5, z5, rfl⟩ := boxed_at hA5; have hw5 : Below (w.heap.size + 1) wr w5 := ((Below.refl _ _).drew (B := w.heap.size + 1)).trans (b5.mono (by simp; omega)); have hz5 : w.heap.size + 3 ≤ w5.heap.size := size6 hsz b5; have f3' : w5.cell? ⟨w.heap.size + 1 + 1, 2, none⟩ = some sv := (b5.cell (p := ⟨w.heap.size + 1 + 1, 2, none⟩) (by show w.heap.size + 1 + 1 < wr.drew.heap.size; simp; omega)).trans f3; have f3a : (w5.alloc (.cells #[x5, y5, z5] 37)).cell? ⟨w.heap.size + 1 + 1, 2, none⟩ = some sv := (World.cell?_alloc_lt w5 _ ⟨w.heap.size + 1 + 1, 2, none⟩ (by show w.heap.size + 1 + 1 < w5.heap.size; omega)).trans f3'))
        all_goals
          have s2 := INV2.out.step hlt (((Below.refl _ _).drew).trans (b5.mono (by simp))) hA5 hown1 hgrow hat
          clear f2 f3 f3' f3a f4 f5 hgc g0 g1 g2 b5 hA5 hw5 hw1 hgrow hown1 hat hkeep HI
          go_wp2_with fail
          go_roundw
          case rel => exact ⟨k + 1, _, _, by omega, by go_num, s2⟩
          case measure => simp [intOf]; omega
      · obtain rfl : k = args.length := by omega
        have hbx := INV2.out.box
        have hrs := INV2.out.res
        have c0 : wr.cell? ⟨w.heap.size + 1 + 1, 0, none⟩ = some (.int .u8 op) := cell_of_row wr _ 0 _ _ (0, 0) hbx
        have c1 : wr.cell? ⟨w.heap.size + 1 + 1, 1, none⟩ = some (.int .i64 n) := cell_of_row wr _ 1 _ _ (0, 0) hbx
        have c2 : wr.cell? ⟨w.heap.size + 1 + 1, 2, none⟩ = some sv := cell_of_row wr _ 2 _ _ (0, 0) hbx
        have r0 : wr.cell? ⟨w.heap.size + 1, 0, none⟩ = some (.int .u8 0) := cell_of_row wr _ 0 _ _ (0, 0) hrs
        have r1 : wr.cell? ⟨w.heap.size + 1, 1, none⟩ = some (.int .i64 0) := cell_of_row wr _ 1 _ _ (0, 0) hrs
        have r2 : wr.cell? ⟨w.heap.size + 1, 2, none⟩ = some (.slice none 0 0) := cell_of_row wr _ 2 _ _ (0, 0) hrs
        have q0 : ∀ i, wr.frozen? ⟨w.heap.size + 1, i, none⟩ = false := fun i => by simp [World.frozen?, hrs]
        clear hbx hrs
        obtain ⟨A', c', hsv⟩ : ∃ A' c', sv = .slice A' args.length c' := by
          rcases INV2.out.own.2 with ⟨h1, h2⟩ | ⟨g, cap, cur, h1, _⟩
          · exact ⟨none, 0, by rw [h1, h2]⟩
          · exact ⟨_, _, h1⟩
        subst hsv
        have hdone := INV2.out.done (W' := ((wr.setCell ⟨w.heap.size + 1, 0, none⟩ (.int .u8 op)).setCell ⟨w.heap.size + 1, 1, none⟩ (.int .i64 n)).setCell ⟨w.heap.size + 1, 2, none⟩ (.slice A' args.length c')) (by simp) (fun b hb => by
          rw [heap_set_other _ _ _ _ _ hb, heap_set_other _ _ _ _ _ hb, heap_set_other _ _ _ _ _ hb]) q1 q2 q3 (by omega)
        have hlow : Below w.heap.size w (((wr.setCell ⟨w.heap.size + 1, 0, none⟩ (.int .u8 op)).setCell ⟨w.heap.size + 1, 1, none⟩ (.int .i64 n)).setCell ⟨w.heap.size + 1, 2, none⟩ (.slice A' args.length c')) :=
          (((HB1.out.trans (INV2.out.low.mono (by omega))).setCell (by show w.heap.size ≤ w.heap.size + 1; omega) _).setCell (by show w.heap.size ≤ w.heap.size + 1; omega) _).setCell (by show w.heap.size ≤ w.heap.size + 1; omega) _
        have HD := Lib.hid hdone
        have HL := Lib.hid hlow
        clear hdone hlow
        go_wp2_with fail
        exact bodyPost_ret (v := .agg #[.int .u8 op, .int .i64 n, .slice A' args.length c']) (by simp [results, Tryd.results49, go_sem, r0, r1, r2]) rfl ⟨_, rfl, HD.out, HL.out⟩
end Go.Proofs.YtnkdaehmdcpafaaDoor
