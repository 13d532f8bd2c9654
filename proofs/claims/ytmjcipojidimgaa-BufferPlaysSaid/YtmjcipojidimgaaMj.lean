/-
  BUFFERS OF BOTH KINDS SIDE BY SIDE: seesawref08's Get, All of a buffer as it lies; a buffer of the program, one of seesawref08, and copies of them, each in blocks of its own, and what each call makes of them. Conditions: as they stand.
-/
import Derived.Test.YtmjcipojidimgaaMi
import Derived.Test.YtmjcipojidimgaaMf
import Derived.Test.YtmjcipojidimgaaMg
import Derived.Test.YtmjcipojidimgaaLd
namespace Go.Proofs.Ytmjcipojidimgaa
set_option maxRecDepth 100000
open Go.RowKit
set_option linter.unusedVariables false
theorem rall_any (q : Nat) (S : Nat → Prop) (T : List (List Pr)) (w : World) (h : RR w q S T) (hT : T.length ≤ 100000) (hT2 : (flat T).length ≤ 100000) :
    Calls Try.prog 26 #[.pointer (some ⟨q, 0, none⟩)] w fun e w' => ∃ (B : Option Addr) (d : Nat), e = .returned (.slice B (allS (flat T)).length d) ∧ PairsAt w' w'.heap.size B (allS (flat T)) ∧ Below w.heap.size w w' := by
  obtain ⟨g, c, L, h, hne, rfl⟩ := h
  have hlen : L.length ≤ 100000 := by simpa using hT
  rw [flat_levels] at hT2 ⊢
  refine (rall_low q S g c L w h hlen hT2).mono ?_
  rintro e w' ⟨B, d, he, ho⟩
  exact ⟨B, d, he, (cl_pairs (n := 0) (.inr ho.1)).1, ho.2⟩
theorem rgot_any (q : Nat) (S : Nat → Prop) (T : List (List Pr)) (v : Int) (w : World) (h : RR w q S T) (hT : T.length ≤ 100000) (hT2 : (flat T).length ≤ 100000) :
    Calls Try.prog 22 #[.pointer (some ⟨q, 0, none⟩), .int .i64 v] w fun e w' => e = .returned (got (saysL T v)) ∧ Below w.heap.size w w' := by
  obtain ⟨g, c, L, h, hne, rfl⟩ := h
  have hlen : L.length ≤ 100000 := by simpa using hT
  unfold saysL
  rw [flat_levels] at hT2 ⊢
  have hq := h.c0.1
  have hl := h.rows (fun x hx => by have := level_len hT2 x hx; omega)
  have e : L.length = (L.map (·.2.2)).length := by simp
  rw [e] at hq
  exact rget_any (L.map (·.2.2)) v q w.heap.size _ c w hq (h.lt q h.own) hl (Nat.le_refl _) (by simp; omega)
theorem RR.len {w : World} {q : Nat} {S : Nat → Prop} {T : List (List Pr)} (h : RR w q S T) : ∃ A c, w.cell? ⟨q, 0, none⟩ = some (.slice A T.length c) ∧ q < w.heap.size := by
  obtain ⟨g, c, L, h, hne, rfl⟩ := h
  have := h.c0.1
  exact ⟨_, c, by simpa using this, h.lt q h.own⟩
theorem rnew_rr (w : World) : Calls Try.prog 10 #[] w fun e w' => e = .returned (.pointer (some ⟨w.heap.size + 1, 0, none⟩)) ∧ RR w' (w.heap.size + 1) (fun b => w.heap.size ≤ b ∧ b < w'.heap.size) [[]] ∧ Below w.heap.size w w' := by
  refine (rnew_any w).mono ?_
  rintro e w' ⟨he, rfl⟩
  have hz : ((w.alloc (.cells #[.slice none 0 0] 35)).alloc (.cells #[.slice (some ⟨w.heap.size, 0, none⟩) 1 1] 40)).heap.size = w.heap.size + 2 := by simp
  have h1 : (w.alloc (.cells #[.slice none 0 0] 35)).heap.size = w.heap.size + 1 := by simp
  have ho : ((w.alloc (.cells #[.slice none 0 0] 35)).alloc (.cells #[.slice (some ⟨w.heap.size, 0, none⟩) 1 1] 40)).heap[w.heap.size + 1]? = some (.cells #[.slice (some ⟨w.heap.size, 0, none⟩) 1 1] 40 (0, 0)) := by
    have := World.alloc_heap_new (w.alloc (.cells #[.slice none 0 0] 35)) (.cells #[.slice (some ⟨w.heap.size, 0, none⟩) 1 1] 40)
    rwa [h1] at this
  have hr : ((w.alloc (.cells #[.slice none 0 0] 35)).alloc (.cells #[.slice (some ⟨w.heap.size, 0, none⟩) 1 1] 40)).heap[w.heap.size]? = some (.cells #[.slice none 0 0] 35 (0, 0)) := (Below.heap_alloc _ _ w.heap.size (by simp)).trans (World.alloc_heap_new w _)
  refine ⟨he, ⟨w.heap.size, 1, [(none, 0, [])], ?_, by simp, rfl⟩, ((Below.refl _ w).alloc (Nat.le_refl _) _).alloc (by simp) _⟩
  refine ⟨⟨by omega, by omega⟩, ⟨Nat.le_refl _, by omega⟩, by omega, ho, ?_, fun x hx => ?_, fun x hx he => ?_, fun b h => h.2⟩
  · refine ⟨rfl, .inr ⟨w.heap.size, 1, #[.slice none 0 0], rfl, Nat.zero_le _, hr, Nat.le_refl _, ?_, rfl, rfl⟩⟩
    · show 1 ≤ maxLen; unfold maxLen; omega
  · rw [List.mem_singleton.1 hx]; intro k hk; exact absurd hk (by simp)
  · rw [List.mem_singleton.1 hx] at he; exact absurd rfl he
end Go.Proofs.Ytmjcipojidimgaa
