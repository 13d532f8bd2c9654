/-
  A BUFFER AMONG OTHER MEMORY: what each call makes of it, while blocks that are named stay as they are; for the statements of layer 8. Conditions: as they stand.
-/
import Derived.Test.YtmjcipojidimgaaLx
namespace Go.Proofs.Ytmjcipojidimgaa
set_option maxRecDepth 100000
open Go.RowKit Go.Maps Go.Shelf
set_option linter.unusedVariables false
/-- The buffer at q has the levels T, in blocks made behind w0, none of N's. -/
def BX (w0 : World) (q : Nat) (N : Nat → Prop) (T : List (List Pr)) (w : World) : Prop := ∃ S, RB w q S T ∧ (∀ b, S b → w0.heap.size ≤ b ∧ ¬ N b) ∧ (∀ b, N b → b < w.heap.size) ∧ Below w0.heap.size w0 w
structure Same8 (N : Nat → Prop) (w w' : World) : Prop where
  size : w.heap.size ≤ w'.heap.size
  block : ∀ b, N b → w'.heap[b]? = w.heap[b]?
theorem BX.low {w0 : World} {q : Nat} {N : Nat → Prop} {T : List (List Pr)} {w : World} (h : BX w0 q N T w) : Below w0.heap.size w0 w := by obtain ⟨S, _, _, _, h⟩ := h; exact h
theorem BX.ne {w0 : World} {q : Nat} {N : Nat → Prop} {T : List (List Pr)} {w : World} (h : BX w0 q N T w) : T ≠ [] := by obtain ⟨S, h, _⟩ := h; exact h.ne
theorem BX.step {w0 : World} {q : Nat} {N S S' : Nat → Prop} {T' : List (List Pr)} {w w' : World} (hr : RB w' q S' T') (hS' : ∀ b, S' b → S b ∨ w.heap.size ≤ b) (hF : Fro S w w') (hS : ∀ b, S b → w0.heap.size ≤ b ∧ ¬ N b) (hN : ∀ b, N b → b < w.heap.size) (hB : Below w0.heap.size w0 w) : BX w0 q N T' w' ∧ Same8 N w w' := by
  refine ⟨⟨S', hr, fun b h => ?_, fun b h => Nat.lt_of_lt_of_le (hN b h) hF.size, hB.trans (hF.below (fun i h => (hS i h).1) hB.size)⟩, ⟨hF.size, fun b hb => hF.block b (hN b hb) (fun h => (hS b h).2 hb)⟩⟩
  rcases hS' b h with h | h
  · exact hS b h
  · exact ⟨by have := hB.size; omega, fun hn => by have := hN b hn; omega⟩
theorem BX.below {w0 : World} {q : Nat} {N : Nat → Prop} {T : List (List Pr)} {w w' : World} (h : BX w0 q N T w) (hB' : Below w.heap.size w w') : BX w0 q N T w' ∧ Same8 N w w' := by
  obtain ⟨S, hr, hS, hN, hB⟩ := h
  exact BX.step (hr.keep (Fro.of_below (S := fun _ => False) hB' (Nat.le_refl _)) (fun _ _ h => h)) (fun b h => .inl h) (Fro.of_below (S := S) hB' (Nat.le_refl _)) hS hN hB
/-- More blocks that stay: such as were made now. -/
theorem BX.guard {w0 : World} {q : Nat} {N : Nat → Prop} {T : List (List Pr)} {w w' : World} (h : BX w0 q N T w) (hB' : Below w.heap.size w w') (M : Nat → Prop) (hM : ∀ b, M b → w.heap.size ≤ b ∧ b < w'.heap.size) : BX w0 q (fun b => N b ∨ M b) T w' := by
  obtain ⟨S, hr, hS, hN, hB⟩ := h
  refine ⟨S, hr.keep (Fro.of_below (S := fun _ => False) hB' (Nat.le_refl _)) (fun _ _ h => h), fun b hs => ⟨(hS b hs).1, fun h => ?_⟩, fun b h => ?_, hB.trans (hB'.mono hB.size)⟩
  · rcases h with h | h
    · exact (hS b hs).2 h
    · have := (hM b h).1; have := hr.lt b hs; omega
  · rcases h with h | h
    · exact Nat.lt_of_lt_of_le (hN b h) hB'.size
    · exact (hM b h).2
theorem Same8.trans {N : Nat → Prop} {a b c : World} (h : Same8 N a b) (k : Same8 N b c) : Same8 N a c := ⟨Nat.le_trans h.size k.size, fun i hi => (k.block i hi).trans (h.block i hi)⟩
theorem bx_new (w0 w : World) (hB : Below w0.heap.size w0 w) : Calls Try.prog 9 #[] w fun e w' => e = .returned (.pointer (some ⟨w.heap.size, 0, none⟩)) ∧ BX w0 w.heap.size (fun _ => False) [[]] w' := by
  refine (new_any w).mono ?_
  rintro e w' ⟨he, hr, hB', hz⟩
  exact ⟨he, fun b => b = w.heap.size, hr, fun b h => ⟨by rw [h]; exact hB.size, fun h => h⟩, fun b h => h.elim, hB.trans (hB'.mono hB.size)⟩
section
variable {w0 : World} {q : Nat} {N : Nat → Prop} {T : List (List Pr)} {w : World}
theorem bx_do (h : BX w0 q N T w) (hT : T.length ≤ 1000) (hT2 : (flat T).length ≤ 1000) (k : Nat) (v x : Int) (hk : k ≤ 255) (hv : wfI v) (hx : wfI x) : Calls Try.prog 28 #[.pointer (some ⟨q, 0, none⟩), .agg #[.int .u8 k, .int .i64 v, .int .i64 x]] w fun e w' => e = .returned (.int .i64 (errT k T)) ∧ BX w0 q N (stepT k v x T) w' ∧ Same8 N w w' := by
  obtain ⟨S, hr, hS, hN, hB⟩ := h
  exact (do_any q S T k v x hk hv hx w hr (by omega) (by omega)).mono fun e w' ⟨he, S', h1, h2, h3⟩ => ⟨he, BX.step h1 h2 h3 hS hN hB⟩
theorem bx_put (h : BX w0 q N T w) (hT2 : (flat T).length ≤ 1000) (v x : Int) (hv : wfI v) (hx : wfI x) : Calls Try.prog 13 #[.pointer (some ⟨q, 0, none⟩), .int .i64 v, .int .i64 x] w fun e w' => e = .returned (.int .i64 0) ∧ BX w0 q N (putT v x T) w' ∧ Same8 N w w' := by
  obtain ⟨S, hr, hS, hN, hB⟩ := h
  exact (put_any q S T v x hv hx w hr (by omega)).mono fun e w' ⟨he, S', h1, h2, h3⟩ => ⟨he, BX.step h1 h2 h3 hS hN hB⟩
theorem bx_push (h : BX w0 q N T w) (hT : T.length ≤ 1000) : Calls Try.prog 15 #[.pointer (some ⟨q, 0, none⟩)] w fun e w' => e = .returned (.int .i64 0) ∧ BX w0 q N ([] :: T) w' ∧ Same8 N w w' := by
  obtain ⟨S, hr, hS, hN, hB⟩ := h
  exact (push_any q S T w hr (by omega)).mono fun e w' ⟨he, S', h1, h2, h3⟩ => ⟨he, BX.step h1 h2 h3 hS hN hB⟩
theorem bx_drop (h : BX w0 q N T w) (hT : T.length ≤ 1000) : Calls Try.prog 17 #[.pointer (some ⟨q, 0, none⟩)] w fun e w' => e = .returned (.int .i64 (if T.length < 2 then 7 else 0)) ∧ BX w0 q N (dropT T) w' ∧ Same8 N w w' := by
  obtain ⟨S, hr, hS, hN, hB⟩ := h
  exact (drop_any q S T w hr (by omega)).mono fun e w' ⟨he, h1, h3⟩ => ⟨he, BX.step h1 (fun b h => .inl h) h3 hS hN hB⟩
theorem bx_merge (h : BX w0 q N T w) (hT : T.length ≤ 1000) (hT2 : (flat T).length ≤ 1000) : Calls Try.prog 19 #[.pointer (some ⟨q, 0, none⟩)] w fun e w' => e = .returned (.int .i64 (if T.length < 2 then 7 else 0)) ∧ BX w0 q N (mergeT T) w' ∧ Same8 N w w' := by
  obtain ⟨S, hr, hS, hN, hB⟩ := h
  exact (merge_any q S T w hr (by omega) (by omega)).mono fun e w' ⟨he, h1, h3⟩ => ⟨he, BX.step h1 (fun b h => .inl h) h3 hS hN hB⟩
theorem bx_depth (h : BX w0 q N T w) (hT : T.length ≤ 1000) : Calls Try.prog 24 #[.pointer (some ⟨q, 0, none⟩)] w fun e w' => e = .returned (.int .i64 T.length) ∧ w' = w := by
  obtain ⟨S, hr, _⟩ := h
  exact depth_any q S T w hr (by omega)
theorem bx_get (h : BX w0 q N T w) (hT : T.length ≤ 1000) (hT2 : (flat T).length ≤ 1000) (v : Int) (hv : wfI v) : Calls Try.prog 21 #[.pointer (some ⟨q, 0, none⟩), .int .i64 v] w fun e w' => e = .returned (got (saysL T v)) ∧ BX w0 q N T w' ∧ Same8 N w w' ∧ Below w.heap.size w w' := by
  have h0 := h
  obtain ⟨S, hr, _⟩ := h
  exact (get_any q S T v hv w hr hT hT2).mono fun e w' ⟨he, hB'⟩ => ⟨he, (h0.below hB').1, (h0.below hB').2, hB'⟩
/-- All: its row lies in a block that is new. -/
theorem bx_all (h : BX w0 q N T w) (hT : T.length ≤ 1000) (hT2 : (flat T).length ≤ 1000) : Calls Try.prog 23 #[.pointer (some ⟨q, 0, none⟩)] w fun e w' => ∃ (B : Option Addr) (d : Nat), e = .returned (.slice B (allS (flat T)).length d) ∧ (PairsAt w' w'.heap.size B (allS (flat T)) ∧ (∀ p, B = some p → w.heap.size ≤ p.block ∧ p.block < w'.heap.size) ∧ w'.ownsRow w.heap.size 43 2 (.slice B (allS (flat T)).length d) (allS (flat T)).length (pairCells (allS (flat T)))) ∧ BX w0 q (fun b => N b ∨ ∃ p, B = some p ∧ p.block = b) T w' ∧ Same8 N w w' ∧ Below w.heap.size w w' := by
  have h0 := h
  obtain ⟨S, hr, _⟩ := h
  refine (all_any q S T w hr hT hT2).mono ?_
  rintro e w' ⟨B, d, he, hrow, hB'⟩
  have hnew : ∀ p, B = some p → w.heap.size ≤ p.block ∧ p.block < w'.heap.size := fun p e => by
    rcases hrow.2 with ⟨h, _⟩ | ⟨g, cap, cur, h, hg, hg2, _⟩
    · injection h with h; rw [h] at e; cases e
    · injection h with h
      rw [h] at e
      injection e with e
      subst e
      exact ⟨hg, (Array.getElem?_eq_some_iff.1 hg2).1⟩
  refine ⟨B, d, he, ⟨pairs_of_row hrow, hnew, hrow⟩, h0.guard hB' _ (fun b ⟨p, e, hb⟩ => hb ▸ hnew p e), (h0.below hB').2, hB'⟩
end
theorem PairsAt.same {w w' : World} {hi hi' : Nat} {A : Option Addr} {l : List Pr} (h : PairsAt w hi A l) (hs : ∀ p, A = some p → w'.heap[p.block]? = w.heap[p.block]?) (hh : hi ≤ hi') : PairsAt w' hi' A l := fun k hk => by
  obtain ⟨p, rfl, m, c1, c2⟩ := h k hk
  have e : (p.add (k * 2)).block = p.block := ad8_block p _
  refine ⟨p, rfl, by omega, (World.cell?_of_block (a := p.add (k * 2)) (by rw [e]; exact hs p rfl)).trans c1, (World.cell?_of_block (a := ⟨(p.add (k * 2)).block, (p.add (k * 2)).off + 1, none⟩) (by show w'.heap[(p.add (k * 2)).block]? = w.heap[(p.add (k * 2)).block]?; rw [e]; exact hs p rfl)).trans c2⟩
theorem step_bounds (k : Nat) (v x : Int) (T : List (List Pr)) (h : T ≠ []) : (flat (stepT k v x T)).length ≤ (flat T).length + 1 ∧ (stepT k v x T).length ≤ T.length + 1 := by
  unfold stepT
  split
  · rw [flat_put h, putT_len]; simp
  · split
    · rw [flat_push]; simp
    · split
      · match T, h with
        | [a], _ => simp [dropT]
        | a :: b :: t, _ => constructor <;> simp [dropT, flat] <;> omega
      · split
        · rw [flat_merge]
          match T, h with
          | [a], _ => simp [mergeT]
          | a :: b :: t, _ => simp [mergeT]
        · omega
theorem PairsAt.wide {w : World} {hi hi' : Nat} {A : Option Addr} {l : List Pr} (h : PairsAt w hi A l) (hh : hi ≤ hi') : PairsAt w hi' A l := fun k hk => by
  obtain ⟨p, e, m, c1, c2⟩ := h k hk
  exact ⟨p, e, by omega, c1, c2⟩
theorem mergeT_len : ∀ {T : List (List Pr)}, 2 ≤ T.length → (mergeT T).length + 1 = T.length
  | [], h => absurd h (by simp)
  | [a], h => absurd h (by simp)
  | a :: b :: t, _ => rfl
/-- Two buffers, in blocks made behind w0, none of both. -/
def B2 (w0 : World) (qa qb : Nat) (Ta Tb : List (List Pr)) (w : World) : Prop := ∃ Sa Sb, RB w qa Sa Ta ∧ RB w qb Sb Tb ∧ (∀ b, Sa b → w0.heap.size ≤ b ∧ ¬ Sb b) ∧ (∀ b, Sb b → w0.heap.size ≤ b) ∧ Below w0.heap.size w0 w
theorem B2.swap {w0 : World} {qa qb : Nat} {Ta Tb : List (List Pr)} {w : World} (h : B2 w0 qa qb Ta Tb w) : B2 w0 qb qa Tb Ta w := by
  obtain ⟨Sa, Sb, ha, hb, h1, h2, h3⟩ := h
  exact ⟨Sb, Sa, hb, ha, fun b hs => ⟨h2 b hs, fun hs' => (h1 b hs').2 hs⟩, fun b hs => (h1 b hs).1, h3⟩
theorem B2.low {w0 : World} {qa qb : Nat} {Ta Tb : List (List Pr)} {w : World} (h : B2 w0 qa qb Ta Tb w) : Below w0.heap.size w0 w := by obtain ⟨_, _, _, _, _, _, h⟩ := h; exact h
theorem B2.step {w0 : World} {qa qb : Nat} {Sa Sb Sa' : Nat → Prop} {Ta' Tb : List (List Pr)} {w w' : World} (ha' : RB w' qa Sa' Ta') (hb : RB w qb Sb Tb) (hS' : ∀ b, Sa' b → Sa b ∨ w.heap.size ≤ b) (hF : Fro Sa w w') (h1 : ∀ b, Sa b → w0.heap.size ≤ b ∧ ¬ Sb b) (h2 : ∀ b, Sb b → w0.heap.size ≤ b) (h3 : Below w0.heap.size w0 w) : B2 w0 qa qb Ta' Tb w' := by
  refine ⟨Sa', Sb, ha', hb.keep hF (fun b hs hs' => (h1 b hs').2 hs), fun b hs => ?_, h2, h3.trans (hF.below (fun i h => (h1 i h).1) h3.size)⟩
  rcases hS' b hs with h | h
  · exact h1 b h
  · exact ⟨by have := h3.size; omega, fun hs' => by have := hb.lt b hs'; omega⟩
theorem B2.below {w0 : World} {qa qb : Nat} {Ta Tb : List (List Pr)} {w w' : World} (h : B2 w0 qa qb Ta Tb w) (hB : Below w.heap.size w w') : B2 w0 qa qb Ta Tb w' := by
  obtain ⟨Sa, Sb, ha, hb, h1, h2, h3⟩ := h
  exact ⟨Sa, Sb, ha.keep (Fro.of_below (S := fun _ => False) hB (Nat.le_refl _)) (fun _ _ h => h), hb.keep (Fro.of_below (S := fun _ => False) hB (Nat.le_refl _)) (fun _ _ h => h), h1, h2, h3.trans (hB.mono h3.size)⟩
section
variable {w0 : World} {qa qb : Nat} {Ta Tb : List (List Pr)} {w : World}
theorem b2_put (h : B2 w0 qa qb Ta Tb w) (hT2 : (flat Ta).length ≤ 1000) (v x : Int) (hv : wfI v) (hx : wfI x) : Calls Try.prog 13 #[.pointer (some ⟨qa, 0, none⟩), .int .i64 v, .int .i64 x] w fun e w' => e = .returned (.int .i64 0) ∧ B2 w0 qa qb (putT v x Ta) Tb w' := by
  obtain ⟨Sa, Sb, ha, hb, h1, h2, h3⟩ := h
  exact (put_any qa Sa Ta v x hv hx w ha (by omega)).mono fun e w' ⟨he, S', a, b, c⟩ => ⟨he, B2.step a hb b c h1 h2 h3⟩
theorem b2_push (h : B2 w0 qa qb Ta Tb w) (hT : Ta.length ≤ 1000) : Calls Try.prog 15 #[.pointer (some ⟨qa, 0, none⟩)] w fun e w' => e = .returned (.int .i64 0) ∧ B2 w0 qa qb ([] :: Ta) Tb w' := by
  obtain ⟨Sa, Sb, ha, hb, h1, h2, h3⟩ := h
  exact (push_any qa Sa Ta w ha (by omega)).mono fun e w' ⟨he, S', a, b, c⟩ => ⟨he, B2.step a hb b c h1 h2 h3⟩
theorem b2_merge (h : B2 w0 qa qb Ta Tb w) (hT : Ta.length ≤ 1000) (hT2 : (flat Ta).length ≤ 1000) (hl : ¬ Ta.length < 2) : Calls Try.prog 19 #[.pointer (some ⟨qa, 0, none⟩)] w fun e w' => e = .returned (.int .i64 0) ∧ B2 w0 qa qb (mergeT Ta) Tb w' := by
  obtain ⟨Sa, Sb, ha, hb, h1, h2, h3⟩ := h
  have := merge_any qa Sa Ta w ha (by omega) (by omega)
  rw [if_neg hl] at this
  exact this.mono fun e w' ⟨he, a, c⟩ => ⟨he, B2.step a hb (fun b h => .inl h) c h1 h2 h3⟩
theorem b2_depth (h : B2 w0 qa qb Ta Tb w) (hT : Ta.length ≤ 1000) : Calls Try.prog 24 #[.pointer (some ⟨qa, 0, none⟩)] w fun e w' => e = .returned (.int .i64 Ta.length) ∧ w' = w := by
  obtain ⟨Sa, Sb, ha, _⟩ := h
  exact depth_any qa Sa Ta w ha (by omega)
theorem b2_all (h : B2 w0 qa qb Ta Tb w) (hT : Ta.length ≤ 1000) (hT2 : (flat Ta).length ≤ 1000) : Calls Try.prog 23 #[.pointer (some ⟨qa, 0, none⟩)] w fun e w' => ∃ (B : Option Addr) (d : Nat), e = .returned (.slice B (allS (flat Ta)).length d) ∧ PairsAt w' w'.heap.size B (allS (flat Ta)) ∧ B2 w0 qa qb Ta Tb w' ∧ Below w.heap.size w w' := by
  have h0 := h
  obtain ⟨Sa, Sb, ha, _⟩ := h
  exact (all_any qa Sa Ta w ha hT hT2).mono fun e w' ⟨B, d, he, hrow, hB⟩ => ⟨B, d, he, pairs_of_row hrow, h0.below hB, hB⟩
end
/-- A copy beside it. -/
theorem b2_copy {w0 : World} {q : Nat} {T : List (List Pr)} {w : World} (h : BX w0 q (fun _ => False) T w) (hT : T.length ≤ 1000) : Calls Try.prog 11 #[.pointer (some ⟨q, 0, none⟩)] w fun e w' => ∃ cq, e = .returned (.pointer (some ⟨cq, 0, none⟩)) ∧ B2 w0 q cq T T w' := by
  obtain ⟨S, hr, hS, _, hB⟩ := h
  refine (copy_any q S T w hr (by omega)).mono ?_
  rintro e w' ⟨cq, S', he, hc, hS', hB'⟩
  refine ⟨cq, he, S, S', hr.keep (Fro.of_below (S := fun _ => False) hB' (Nat.le_refl _)) (fun _ _ h => h), hc, fun b hs => ⟨(hS b hs).1, fun hs' => ?_⟩, fun b hs => by have := hS' b hs; have := hB.size; omega, hB.trans (hB'.mono hB.size)⟩
  have := hS' b hs'
  have := hr.lt b hs
  omega
theorem b2_merge7 {w0 : World} {qa qb : Nat} {Ta Tb : List (List Pr)} {w : World} (h : B2 w0 qa qb Ta Tb w) (hT : Ta.length ≤ 1000) (hT2 : (flat Ta).length ≤ 1000) (hl : Ta.length < 2) : Calls Try.prog 19 #[.pointer (some ⟨qa, 0, none⟩)] w fun e w' => e = .returned (.int .i64 7) ∧ B2 w0 qa qb (mergeT Ta) Tb w' := by
  obtain ⟨Sa, Sb, ha, hb, h1, h2, h3⟩ := h
  have := merge_any qa Sa Ta w ha (by omega) (by omega)
  rw [if_pos hl] at this
  exact this.mono fun e w' ⟨he, a, c⟩ => ⟨he, B2.step a hb (fun b h => .inl h) c h1 h2 h3⟩
/-- Two buffers, made one behind the other. -/
theorem b2_both {w0 w1 w2 : World} {qa qb : Nat} {Ta Tb : List (List Pr)} (ha : BX w0 qa (fun _ => False) Ta w1) (hb : BX w1 qb (fun _ => False) Tb w2) : B2 w0 qa qb Ta Tb w2 := by
  obtain ⟨Sa, ra, sa, _, ba⟩ := ha
  obtain ⟨Sb, rb, sb, _, bb⟩ := hb
  refine ⟨Sa, Sb, ra.keep (Fro.of_below (S := fun _ => False) bb (Nat.le_refl _)) (fun _ _ h => h), rb, fun b hs => ⟨(sa b hs).1, fun hs' => ?_⟩, fun b hs => by have := (sb b hs).1; have := ba.size; omega, ba.trans (bb.mono ba.size)⟩
  have := (sb b hs').1
  have := ra.lt b hs
  omega
end Go.Proofs.Ytmjcipojidimgaa
