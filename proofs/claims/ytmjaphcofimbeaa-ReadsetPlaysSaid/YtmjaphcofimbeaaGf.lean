/-
  CONTRACTS OF PACKAGE readset's All and Wakes (layer 10), of a set and of nil. Conditions: as they stand.
-/
import Derived.Test.YtmjaphcofimbeaaGe
namespace Go.Proofs.Ytmjaphcofimbeaa
set_option maxRecDepth 100000
open Go.RowKit Go.Shelf
set_option linter.unusedVariables false
attribute [local go_sem] Oper.semAt_some
def natsI (l : List Nat) : List Int := l.map fun (x : Nat) => (x : Int)
theorem intsV_nats (l : List Nat) : intsV l = (natsI l).map (Value.int .i64 ·) := by simp [intsV, natsI]
/-- Those that were read, rising. -/
def readF (f : Nat → Bool) (st : Int) : List Int := natsI (riseK f st.toNat)
theorem all_any {w : World} {g : Nat} {rv st : Int} {f : Nat → Bool} (h : SetAt w g rv st f) : Calls Try.prog 13 #[.pointer (some ⟨g, 0, none⟩)] w fun e w' => ∃ (A : Option Addr) (c : Nat), e = .returned (.slice A (readF f st).length c) ∧ Ints w' w'.heap.size A (readF f st) ∧ w'.ownsRow (w.heap.size + 1) 3 1 (.slice A (readF f st).length c) (readF f st).length ((readF f st).map (Value.int .i64 ·)) ∧ Below w.heap.size w w' := by
  have hlt := h.lt
  refine callsIn_wide.1 ((all_core10 10 (by omega) (some ⟨g, 0, none⟩) (fun ys => ys = riseK f st.toNat) (fun ys => ys <+: riseK f st.toNat) w (fun W0 hb => ?_)).mono ?_)
  · exact rise_seq _ (by omega) w.heap.size (w.heap.size + 1) g rv st f W0 ((hb.block _ (by omega)).trans (_root_.Go.Boxed.new w _ _)) (by omega) (by omega) (by have := hb.size; simp at this; omega) (h.same ((hb.block g (by omega)).trans (heap_alloc_old w _ hlt)))
  · rintro e w' ⟨v, ss, rfl, rfl, hr, hb⟩
    have hlen : (readF f st).length = (riseK f st.toNat).length := by simp [readF, natsI]
    have hl2 := riseK_len f st.toNat
    have hs2 := h.s2
    rw [intsV_nats, ← hlen] at hr
    obtain ⟨A, c, rfl, hi⟩ := Ints.of_own (L := readF f st) hr rfl (by omega)
    exact ⟨A, c, rfl, hi, hr, hb⟩
theorem all_nil (w : World) : Calls Try.prog 13 #[.pointer none] w fun e w' => ∃ (A : Option Addr) (c : Nat), e = .returned (.slice A 0 c) ∧ Below w.heap.size w w' := by
  refine callsIn_wide.1 ((all_core10 10 (by omega) none (fun ys => ys = []) (fun _ => False) w (fun W0 hb => ?_)).mono ?_)
  · exact rise_seq_nil _ w.heap.size (w.heap.size + 1) W0 ((hb.block _ (by omega)).trans (_root_.Go.Boxed.new w _ _))
  · rintro e w' ⟨v, ss, rfl, rfl, hr, hb⟩
    obtain ⟨A, c, rfl, hi⟩ := Ints.of_own (L := []) (by simpa [intsV] using hr) rfl (by simp)
    exact ⟨A, c, rfl, hb⟩
end Go.Proofs.Ytmjaphcofimbeaa
