/-
  CONTRACTS OF seesawref08's Push and Drop. Conditions: as they stand.
-/
import Derived.Test.YtmjcipojidimgaaMb
import Derived.Deep.RegionLawGrows
namespace Go.Proofs.Ytmjcipojidimgaa
set_option maxRecDepth 100000
open Go.RowKit
set_option linter.unusedVariables false
theorem cla {w : World} {base : Nat} {tE : TypeId} {size : Nat} {v : Value} {n : Nat} {xs : List Value} (h : ClG w base tE size v n xs) (o : Obj) : ClG (w.alloc o) base tE size v n xs := h.imp id fun h => h.alloc o
theorem cl_form {w : World} {base : Nat} {tE : TypeId} {size : Nat} {A : Option Addr} {N d : Nat} {xs : List Value} (h : ClG w base tE size (.slice A N d) N xs) (hN : 0 < N) : ∃ g, A = some ⟨g, 0, none⟩ ∧ base ≤ g ∧ g < w.heap.size ∧ w.ownsRow base tE size (.slice (some ⟨g, 0, none⟩) N d) N xs := by
  rcases h with ⟨gb, _, h0, _⟩ | h
  · omega
  · obtain ⟨g, cap, hv, h1, h2⟩ := h.form hN
    injection hv with hA _ hc
    subst hA
    exact ⟨g, rfl, h1, h2, h⟩
theorem row_prefix {w : World} {base : Nat} {tE : TypeId} {size : Nat} {g n c : Nat} {xs : List Value} (h : w.ownsRow base tE size (.slice (some ⟨g, 0, none⟩) n c) n xs) (m : Nat) (hm : m ≤ n) : w.ownsRow base tE size (.slice (some ⟨g, 0, none⟩) m c) m (xs.take (m * size)) := by
  have hms : m * size ≤ n * size := Nat.mul_le_mul_right _ hm
  refine ⟨by rw [List.length_take, h.1]; omega, ?_⟩
  rcases h.2 with ⟨h2, _⟩ | ⟨g', cap, cur, hv, h3, h4, h5, h6, h7, h8⟩
  · injection h2 with h2; cases h2
  · injection hv with hA hn hc
    injection hA with hA
    injection hA with hA
    subst hA
    subst hc
    refine .inr ⟨g, c, cur, rfl, h3, h4, by omega, h6, h7, ?_⟩
    rw [← h8, List.take_take]
    congr 1
    omega
theorem row_src {w : World} {base : Nat} {tE : TypeId} {size : Nat} {g n c : Nat} {xs : List Value} (h : w.ownsRow base tE size (.slice (some ⟨g, 0, none⟩) n c) n xs) : SrcG w (some ⟨g, 0, none⟩) xs := fun j u hj => ⟨_, rfl, h.cells (g := g) rfl j u hj⟩
theorem lv_one (L : List Lv) : ∀ u ∈ L.map Lv.val, u.oneCell' = true := by
  intro u hu
  obtain ⟨x, _, rfl⟩ := List.mem_map.1 hu
  rfl
set_option maxRecDepth 100000 in
set_option maxHeartbeats 4000000 in
theorem rpush_any (q : Nat) (S : Nat → Prop) (T : List (List Pr)) (w : World) (h : RR w q S T) (hT : T.length ≤ 100000) :
    Calls Try.prog 16 #[.pointer (some ⟨q, 0, none⟩)] w fun e w' => e = .returned (.int .i64 0) ∧ ∃ S', RR w' q S' ([] :: T) ∧ (∀ b, S' b → S b ∨ w.heap.size ≤ b) ∧ Fro S w w' := by
  obtain ⟨g, c, L, h, hne, rfl⟩ := h
  obtain ⟨c0, f0⟩ := h.c0
  have hlen : L.length ≤ 100000 := by simpa using hT
  have hq := h.lt q h.own
  have H := Lib.hid h
  have HS : Hid (∀ w', Below w.heap.size w w' → SrcG w' (some ⟨g, 0, none⟩) (L.map Lv.val)) := fun w' hb => src_below (row_src h.row) hb fun a e => by injection e with e; subst e; exact h.lt g h.ownG
  clear h hT
  go_enter Try.func16, Try.ntmps16
  go_wp2_with (first
    | (at_builtin; refine list_app rfl (.tmp 9) (.tmp 10) Try.underlying38 rows_info rfl (by omega) rfl _ rfl (cla hc2 _) (by have := hB2.size; simp at this ⊢; omega) [.slice none 0 0] rfl rfl (src_lit (World.alloc_heap_new w2 _)) (by simp [Value.oneCell']) (by omega) (by unfold maxLen; omega) (L.length + 1) rfl ?_
       intro A3 d3 w3 hc3 hB3; have hY : Below w.heap.size w w3 := (hX.alloc hX.size _).trans (hB3.mono (by simp)); have e3 := (hY.cell (p := ⟨q, 0, none⟩) hq).trans c0; have f3 := (hY.frozen (p := ⟨q, 0, none⟩) hq).trans f0)
    | (at_builtin; refine list_app rfl (.tmp 4) (.tmp 8) Try.underlying38 rows_info rfl (by omega) rfl _ rfl (.inl ⟨_, rfl, rfl, rfl⟩) (Nat.le_refl _) (L.map Lv.val) rfl (by simp) (HS.out _ ((Below.refl _ w).alloc (Nat.le_refl _) _)) (lv_one L) (by omega) (by unfold maxLen; omega) L.length (by omega) ?_
       intro A2 d2 w2 hc2 hB2; have hX : Below w.heap.size w w2 := ((Below.refl _ w).alloc (Nat.le_refl _) _).trans (hB2.mono (by simp))))
  go_ret
  obtain ⟨g', rfl, hb', hl', hrow⟩ := cl_form hc3 (by omega)
  have hb2 : w.heap.size ≤ g' := Nat.le_trans (by simp) hb'
  have hrow2 : w3.ownsRow 0 35 1 (.slice (some ⟨g', 0, none⟩) (L ++ [((none, 0, []) : Lv)]).length d3) (L ++ [((none, 0, []) : Lv)]).length ((L ++ [((none, 0, []) : Lv)]).map Lv.val) := by
    rw [List.length_append, List.map_append]
    exact ownsRow_low hrow (Nat.zero_le _)
  have ht := H.out.turn (L' := L ++ [((none, 0, []) : Lv)]) hY hrow2 (.inr hb2) (fun x hx => by
    rcases List.mem_append.1 hx with h | h
    · exact .inl h
    · rw [List.mem_singleton.1 h]; exact .inr rfl)
  rw [List.length_append] at ht
  exact ⟨rfl, More S w w3, ⟨g', d3, _, ht.1, by simp, by simp⟩, more_new, ht.2⟩
theorem drop_levels (L : List Lv) (h : ¬ L.length < 2) : dropT (L.map (·.2.2)).reverse = ((L.take (L.length - 1)).map (·.2.2)).reverse ∧ L.take (L.length - 1) ≠ [] := by
  rw [← List.dropLast_eq_take]
  rcases List.eq_nil_or_concat L with rfl | ⟨r, x, rfl⟩
  · simp at h
  · rcases List.eq_nil_or_concat r with rfl | ⟨r2, y, rfl⟩
    · simp at h
    · simp only [List.concat_eq_append]
      rw [List.dropLast_concat]
      constructor
      · simp [dropT]
      · simp
set_option maxRecDepth 100000 in
set_option maxHeartbeats 4000000 in
theorem rdrop_any (q : Nat) (S : Nat → Prop) (T : List (List Pr)) (w : World) (h : RR w q S T) (hT : T.length ≤ 100000) :
    Calls Try.prog 18 #[.pointer (some ⟨q, 0, none⟩)] w fun e w' => e = .returned (.int .i64 (if T.length < 2 then 7 else 0)) ∧ ∃ S', RR w' q S' (dropT T) ∧ (∀ b, S' b → S b ∨ w.heap.size ≤ b) ∧ Fro S w w' := by
  have h0 := h
  obtain ⟨g, c, L, h, hne, rfl⟩ := h
  obtain ⟨c0, f0⟩ := h.c0
  have hlen : L.length ≤ 100000 := by simpa using hT
  have hq := h.lt q h.own
  have H := Lib.hid h
  have H0 := Lib.hid h0
  have el : (L.map (·.2.2)).reverse.length = L.length := by simp
  by_cases hl : L.length < 2
  · have hd : dropT (L.map (·.2.2)).reverse = (L.map (·.2.2)).reverse := by
      match L, hl, hne with
      | [a], _, _ => rfl
    rw [hd, el, if_pos hl]
    have i1 : (L.length : Int) < 2 := by omega
    clear h h0 hT hl hd el
    go_enter Try.func18, Try.ntmps18
    go_wp2_with fail
    go_ret
    exact ⟨rfl, S, H0.out, fun b h => .inl h, Fro.refl _ _⟩
  · obtain ⟨hd, hne2⟩ := drop_levels L hl
    rw [hd, el, if_neg hl]
    have i1 : ¬ (L.length : Int) < 2 := by omega
    obtain ⟨m, hm⟩ : ∃ m, L.length = m + 1 := ⟨L.length - 1, by omega⟩
    have hm1 : L.length - 1 = m := by omega
    rw [hm1] at hne2
    rw [hm1]
    have j1 : (0 : Int) ≤ (m : Int) := by omega
    have j2 : (m : Int) ≤ (c : Int) := by
      rcases h.row.2 with ⟨h2, _⟩ | ⟨_, _, _, hv, _, _, h5, _⟩
      · injection h2 with h2; cases h2
      · injection hv with _ _ hc; omega
    have j3 : (m : Int) ≤ 100000 := by omega
    rw [hm] at c0
    rw [hm] at i1
    clear h h0 hT hl hd el
    go_enter Try.func18, Try.ntmps18
    go_wp2_with fail
    go_region
    go_wp2_with fail
    go_ret
    have hrow := row_prefix H.out.row m (by omega)
    rw [Nat.mul_one, ← List.map_take] at hrow
    have hm3 : (L.take m).length = m := by rw [List.length_take]; omega
    have ht := H.out.turn (w1 := w.drew) (Below.refl _ w).drew (L' := L.take m) (g' := g) (c' := c) (by rw [hm3]; exact hrow.drew) (.inl rfl) (fun x hx => .inl (List.mem_of_mem_take hx))
    rw [hm3] at ht
    exact ⟨rfl, More S w w.drew, ⟨g, c, _, ht.1, hne2, rfl⟩, more_new, ht.2⟩
end Go.Proofs.Ytmjcipojidimgaa
