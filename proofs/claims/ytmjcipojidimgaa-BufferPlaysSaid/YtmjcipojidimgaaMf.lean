/-
  CONTRACTS OF seesawref08's Put and Merge, of buffers as they lie. Conditions: as they stand.
-/
import Derived.Test.YtmjcipojidimgaaMc
import Derived.Test.YtmjcipojidimgaaMe
namespace Go.Proofs.Ytmjcipojidimgaa
set_option maxRecDepth 100000
open Go.RowKit
set_option linter.unusedVariables false
theorem put_levels (r : List Lv) (y : Lv) (A : Option Addr) (d : Nat) (v x : Int) : ((((r ++ [y]).set r.length (A, d, y.2.2 ++ [(v, x)]) : List Lv)).map (·.2.2)).reverse = putT v x ((r ++ [y]).map (·.2.2)).reverse := by
  simp [putT]
theorem rput_any (q : Nat) (S : Nat → Prop) (T : List (List Pr)) (v x : Int) (w : World) (h : RR w q S T) (hT : T.length ≤ 100000) (hT2 : (flat T).length ≤ 100000) :
    Calls Try.prog 14 #[.pointer (some ⟨q, 0, none⟩), .int .i64 v, .int .i64 x] w fun e w' => e = .returned (.int .i64 0) ∧ ∃ S', RR w' q S' (putT v x T) ∧ (∀ b, S' b → S b ∨ w.heap.size ≤ b) ∧ Fro S w w' := by
  obtain ⟨g, c, L, h, hne, rfl⟩ := h
  have hlen : L.length ≤ 100000 := by simpa using hT
  rw [flat_levels] at hT2
  have hl := level_len hT2
  rcases List.eq_nil_or_concat L with rfl | ⟨r, y, rfl⟩
  · exact absurd rfl hne
  · simp only [List.concat_eq_append] at *
    have hk : r.length < (r ++ [y]).length := by simp
    have hy : (r ++ [y])[r.length] = y := by simp
    obtain ⟨c0, f0⟩ := h.c0
    obtain ⟨c1, f1⟩ := h.row_cell r.length hk
    rw [hy] at c1
    rw [List.length_append] at c0
    have hly := hl y (by simp)
    refine (rput_low q g r.length c y.1 y.2.1 y.2.2 v x w c0 (h.lt q h.own) (h.lt g h.ownG) c1 f1 (fun w' hb => h.src (x := y) (by simp) (fun b h1 _ _ => hb.block b h1)) (by simp at hlen; omega) (by omega)).mono ?_
    rintro e w' ⟨he, w1, A, d, rfl, hB, hcl⟩
    rw [prow_snoc] at hcl
    have hln : y.2.2.length + 1 = (y.2.2 ++ [(v, x)]).length := by simp
    rw [hln] at hcl ⊢
    obtain ⟨hr, hF⟩ := h.write hB r.length hk hcl
    refine ⟨he, _, ⟨g, c, _, hr, by simp, ?_⟩, more_new, hF⟩
    exact (put_levels r y A d v x).symm
theorem rmerge_no (q n c : Nat) (A : Option Addr) (w : World) (c0 : w.cell? ⟨q, 0, none⟩ = some (.slice A n c)) (hn : n < 2) : Calls Try.prog 20 #[.pointer (some ⟨q, 0, none⟩)] w fun e w' => e = .returned (.int .i64 7) ∧ w' = w := by
  have i1 : (n : Int) < 2 := by omega
  go_enter Try.func20, Try.ntmps20
  go_wp2_with fail
  go_ret
  exact ⟨rfl, rfl⟩
theorem merge_levels (r : List Lv) (y x : Lv) (A : Option Addr) (d : Nat) : (((r ++ [y]).set r.length (A, d, y.2.2 ++ x.2.2) : List Lv).map (·.2.2)).reverse = mergeT ((r ++ [y] ++ [x]).map (·.2.2)).reverse := by
  simp [mergeT]
theorem pairCells_app (a b : List Pr) : pairCells a ++ pairCells b = pairCells (a ++ b) := by simp [pairCells]
theorem rmerge_any (q : Nat) (S : Nat → Prop) (T : List (List Pr)) (w : World) (h : RR w q S T) (hT : T.length ≤ 100000) (hT2 : (flat T).length ≤ 100000) :
    Calls Try.prog 20 #[.pointer (some ⟨q, 0, none⟩)] w fun e w' => e = .returned (.int .i64 (if T.length < 2 then 7 else 0)) ∧ ∃ S', RR w' q S' (mergeT T) ∧ (∀ b, S' b → S b ∨ w.heap.size ≤ b) ∧ Fro S w w' := by
  have h0 := h
  obtain ⟨g, c, L, h, hne, rfl⟩ := h
  have hlen : L.length ≤ 100000 := by simpa using hT
  rw [flat_levels] at hT2
  have hl := level_len hT2
  have el : (L.map (·.2.2)).reverse.length = L.length := by simp
  by_cases hl2 : L.length < 2
  · have hd : mergeT (L.map (·.2.2)).reverse = (L.map (·.2.2)).reverse := by
      match L, hl2, hne with
      | [a], _, _ => rfl
    rw [hd, el, if_pos hl2]
    refine (rmerge_no q _ c _ w h.c0.1 hl2).mono ?_
    rintro e w' ⟨he, rfl⟩
    exact ⟨he, S, h0, fun b h => .inl h, Fro.refl _ _⟩
  · rw [el, if_neg hl2]
    rcases List.eq_nil_or_concat L with rfl | ⟨r1, x, rfl⟩
    · exact absurd rfl hne
    · rcases List.eq_nil_or_concat r1 with rfl | ⟨r, y, rfl⟩
      · simp at hl2
      · simp only [List.concat_eq_append] at *
        have hx : (r ++ [y] ++ [x])[(r ++ [y]).length]'(by simp) = (x.1, x.2.1, x.2.2) := by simp
        have hy : (r ++ [y] ++ [x])[r.length]'(by simp) = (y.1, y.2.1, y.2.2) := by simp
        have hlx := hl x (by simp)
        have hly := hl y (by simp)
        have ht2 : (r ++ [y] ++ [x]).take (r ++ [y]).length = r ++ [y] := List.take_left
        refine (rmerge_low q S g c r.length (r ++ [y] ++ [x]) w h (r ++ [y]).length (by simp) (by simp) (by simp at hlen; omega) x.1 y.1 x.2.1 y.2.1 x.2.2 y.2.2 hx hy (by omega) (by omega)).mono ?_
        rintro e w' ⟨he, wx, v, g5, d5, w5, A', d', ⟨g4, d4, w4, hv, rfl, hB4, hg4, hgl4, hrow4⟩, hv2, hB5, hcl5, rfl⟩
        rw [hv] at hv2
        injection hv2 with e1 _ e2
        injection e1 with e1
        injection e1 with e1
        subst e1
        subst e2
        rw [ht2] at hrow4
        obtain ⟨hr1, hF1⟩ := h.turn (L' := r ++ [y]) (g' := g4) (c' := d4) hB4 (ownsRow_low hrow4 (Nat.zero_le _)) (.inr hg4) (fun z hz => .inl (List.mem_append_left _ hz))
        have hln : y.2.2.length + x.2.2.length = (y.2.2 ++ x.2.2).length := by simp
        rw [pairCells_app, hln] at hcl5
        rw [hln]
        obtain ⟨hr2, hF2⟩ := hr1.write hB5 r.length (by simp) hcl5
        have hz4 : w.heap.size ≤ (w4.setCell ⟨q, 0, none⟩ (.slice (some ⟨g4, 0, none⟩) (r ++ [y]).length d4)).heap.size := by simp [World.setCell]; exact hB4.size
        refine ⟨he, _, ⟨g4, d4, _, hr2, by simp, (merge_levels r y x A' d').symm⟩, fun b hb => ?_, hF1.trans hF2 more_new⟩
        rcases hb with hb | hb
        · exact more_new b hb
        · exact .inr (by omega)
end Go.Proofs.Ytmjcipojidimgaa
