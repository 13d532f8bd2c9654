/-
  FOR THE LAWS OF LAYER 13: what is asked of Check; fine, bad, ev, by, over; a slice of events that is built. Conditions: as they stand.
-/
import Derived.Test.YtjennlkindbpoaaDoorOe
import Derived.Great.BuildSlice
namespace Go.Proofs.YtjennlkindbpoaaDoor
set_option maxRecDepth 100000
open Go.RowKit
set_option linter.unusedVariables false
def i64P (n : Int) : Prop := -9223372036854775808 ≤ n ∧ n ≤ 9223372036854775807
/-- What package shape's Check answers, of traces of 2000 events at most, in a world in which Tb holds. -/
structure CheckC (Tb : World → Prop) : Prop where
  below : ∀ w w', Tb w → Below w.heap.size w w' → Tb w'
  check : ∀ w, Tb w → ∀ (T V S : Int) (A : Option Addr) (L : List Ev) (c : Nat), i64P T → i64P V → i64P S → L.length ≤ 2000 → EvsAt w w.heap.size A L →
    Calls Tryd.prog 14 #[trV T V S A L.length c] w fun r w' => r = .returned (.tuple #[.int .i64 ((checkF T V S L).1 : Nat), .int .i64 (checkF T V S L).2]) ∧ Below w.heap.size w w'
theorem check_code (T V S : Int) (L : List Ev) (h : L.length ≤ 2000) : ((checkF T V S L).2 = 0 ∧ (checkF T V S L).1 = L.length) ∨ ((checkF T V S L).2 = 1 ∧ (checkF T V S L).1 = 0) ∨ ((checkF T V S L).2 = 4 ∧ (checkF T V S L).1 < L.length) := by
  by_cases h1 : size13 T V S = true
  · rcases check_cases T V S L h1 (by omega) with ⟨h2, _⟩ | ⟨j, e, he, _, _, h2⟩
    · rw [h2]
      exact .inl ⟨rfl, rfl⟩
    · rw [h2]
      exact .inr (.inr ⟨rfl, (List.getElem?_eq_some_iff.1 he).1⟩)
  · unfold checkF
    rw [if_pos (by simpa using h1)]
    exact .inr (.inl ⟨rfl, rfl⟩)
theorem fineB_is (T V S : Int) (L : List Ev) : fineB T V S L = (((checkF T V S L).2 == 0) && (((checkF T V S L).1 : Int) == (L.length : Int))) := by
  unfold fineB
  generalize checkF T V S L = p
  obtain ⟨a, b⟩ := p
  by_cases h1 : b = 0
  · subst h1
    by_cases h2 : a = L.length
    · subst h2
      simp
    · have h3 : ((a : Int) == (L.length : Int)) = false := beq_eq_false_iff_ne.2 (by omega)
      rw [h3]
      simp [h2]
  · have h3 : (b == 0) = false := beq_eq_false_iff_ne.2 h1
    rw [h3]
    simp [h1]
set_option maxHeartbeats 1000000 in
theorem fine_any {Tb : World → Prop} (HC : CheckC Tb) (w : World) (ht : Tb w) (T V S : Int) (A : Option Addr) (L : List Ev) (c : Nat) (hT : i64P T) (hV : i64P V) (hS : i64P S) (hl : L.length ≤ 2000) (he : EvsAt w w.heap.size A L) :
    Calls Tryd.prog 15 #[trV T V S A L.length c] w fun r w' => r = .returned (.bool (fineB T V S L)) ∧ Below w.heap.size w w' := by
  have HK : Hid (∀ w1, Below w.heap.size w w1 → Calls Tryd.prog 14 #[trV T V S A L.length c] w1 fun r w' => r = .returned (.tuple #[.int .i64 ((checkF T V S L).1 : Nat), .int .i64 (checkF T V S L).2]) ∧ Below w1.heap.size w1 w') := fun w1 hb => HC.check w1 (HC.below w w1 ht hb) T V S A L c hT hV hS hl ((he.below hb (Nat.le_refl _)).mono hb.size)
  rw [fineB_is]
  obtain ⟨m, hm⟩ : ∃ m, m = (checkF T V S L).1 := ⟨_, rfl⟩
  obtain ⟨k, hk⟩ : ∃ k, k = (checkF T V S L).2 := ⟨_, rfl⟩
  rw [← hm, ← hk] at HK ⊢
  obtain ⟨n, hn⟩ : ∃ n, n = L.length := ⟨_, rfl⟩
  rw [← hn] at HK ⊢
  clear hm hk hn he hl hT hV hS ht HC
  unfold trV at HK ⊢
  by_cases hk : k = 0
  · have e1 : (k == 0) = true := by simpa using hk
    obtain ⟨b, hb⟩ : ∃ b, b = ((m : Int) == (n : Int)) := ⟨_, rfl⟩
    have hb' := hb.symm
    subst hk
    rw [e1, Bool.true_and, ← hb]
    go_enter Tryd.func15, Tryd.ntmps15
    go_wp2_with fail
    have h0 : Below w.heap.size w (w.alloc (.cells #[.int .i64 T, .int .i64 V, .int .i64 S, .slice A n c] 35)) := (Below.refl _ _).alloc (Nat.le_refl _) _
    refine (HK.out _ h0).mono ?_
    rintro _ w1 ⟨rfl, b1⟩
    have x3 : w1.cell? ⟨w.heap.size, 3, none⟩ = some (.slice A n c) := (b1.cell (by simp)).trans (World.cell?_alloc_mark w #[.int .i64 T, .int .i64 V, .int .i64 S, .slice A n c] 35 (0, 0) 3)
    have B1 : Hid (Below w.heap.size w w1) := h0.trans (b1.mono h0.size)
    clear b1 h0 hb e1
    go_wp2_with fail
    go_ret
    exact ⟨rfl, B1.out⟩
  · have e1 : (k == 0) = false := beq_eq_false_iff_ne.2 hk
    rw [e1, Bool.false_and]
    go_enter Tryd.func15, Tryd.ntmps15
    go_wp2_with fail
    have h0 : Below w.heap.size w (w.alloc (.cells #[.int .i64 T, .int .i64 V, .int .i64 S, .slice A n c] 35)) := (Below.refl _ _).alloc (Nat.le_refl _) _
    refine (HK.out _ h0).mono ?_
    rintro _ w1 ⟨rfl, b1⟩
    have B1 : Hid (Below w.heap.size w w1) := h0.trans (b1.mono h0.size)
    clear b1 h0 hk
    go_wp2_with fail
    go_ret
    exact ⟨rfl, B1.out⟩
/-- Is a trace not well-formed, just at its last event? -/
def badB (L : List Ev) : Bool := ((checkF 3 4 2 L).2 == 4) && (((checkF 3 4 2 L).1 : Int) == (L.length : Int) - 1)
set_option maxHeartbeats 1000000 in
theorem over_any (A : Option Addr) (n c : Nat) (w : World) :
    Calls Tryd.prog 18 #[.slice A n c] w fun r w' => r = .returned (trV 3 4 2 A n c) ∧ Below w.heap.size w w' := by
  unfold trV
  go_enter Tryd.func18, Tryd.ntmps18
  go_wp2_with fail
  refine bodyPost_ret (results_cell_row rfl _ _ w.heap.size 35 #[.int .i64 3, .int .i64 4, .int .i64 2, .slice A n c] (0, 0) _ rfl (heap_alloc_new w _) Tryd.underlying35 rfl (by kernel_rfl)) rfl ⟨rfl, (Below.refl _ _).alloc (Nat.le_refl _) _⟩
set_option maxHeartbeats 1000000 in
theorem ev_any (k at_ v : Int) (w : World) :
    Calls Tryd.prog 7 #[.int .u8 k, .int .i64 at_, .int .i64 v] w fun r w' => r = .returned (evV ⟨k, 0, 0, at_, v, 0, 0⟩) ∧ Below w.heap.size w w' := by
  unfold evV
  simp only
  go_enter Tryd.func7, Tryd.ntmps7
  go_wp2_with fail
  refine bodyPost_ret (results_cell_row rfl _ _ w.heap.size 27 #[.int .u8 k, .int .i64 0, .int .i64 0, .int .i64 at_, .int .i64 v, .int .i64 0, .int .u8 0] (0, 0) _ rfl (heap_alloc_new w _) Tryd.underlying27 rfl (by kernel_rfl)) rfl ⟨rfl, (Below.refl _ _).alloc (Nat.le_refl _) _⟩
set_option maxHeartbeats 1000000 in
theorem by_any (th : Int) (e : Ev) (w : World) :
    Calls Tryd.prog 17 #[.int .i64 th, evV e] w fun r w' => r = .returned (evV { e with th := th }) ∧ Below w.heap.size w w' := by
  obtain ⟨kd, t0, tx, pl, v, x, why⟩ := e
  unfold evV
  simp only
  go_enter Tryd.func17, Tryd.ntmps17
  go_wp2_with fail
  refine bodyPost_ret (results_cell_row rfl _ _ (w.heap.size + 1) 27 #[.int .u8 kd, .int .i64 th, .int .i64 tx, .int .i64 pl, .int .i64 v, .int .i64 x, .int .u8 why] (0, 0) _ rfl (heap_alloc2_new w _ _) Tryd.underlying27 rfl (by kernel_rfl)) rfl ⟨rfl, ?_⟩
  exact ((Below.refl _ _).alloc (Nat.le_refl _) _).alloc (by simp) _
set_option maxHeartbeats 1000000 in
theorem bad_any {Tb : World → Prop} (HC : CheckC Tb) (w : World) (ht : Tb w) (A : Option Addr) (L : List Ev) (c : Nat) (h0 : 0 < L.length) (hl : L.length ≤ 2000) (he : EvsAt w w.heap.size A L) :
    Calls Tryd.prog 16 #[.slice A L.length c] w fun r w' => r = .returned (.bool (badB L)) ∧ Below w.heap.size w w' := by
  have HK : Hid (∀ w1, Below w.heap.size w w1 → Calls Tryd.prog 14 #[trV 3 4 2 A L.length c] w1 fun r w' => r = .returned (.tuple #[.int .i64 ((checkF 3 4 2 L).1 : Nat), .int .i64 (checkF 3 4 2 L).2]) ∧ Below w1.heap.size w1 w') := fun w1 hb => HC.check w1 (HC.below w w1 ht hb) 3 4 2 A L c (by unfold i64P; omega) (by unfold i64P; omega) (by unfold i64P; omega) hl ((he.below hb (Nat.le_refl _)).mono hb.size)
  unfold badB
  obtain ⟨m, hm⟩ : ∃ m, m = (checkF 3 4 2 L).1 := ⟨_, rfl⟩
  obtain ⟨k, hk⟩ : ∃ k, k = (checkF 3 4 2 L).2 := ⟨_, rfl⟩
  rw [← hm, ← hk] at HK ⊢
  obtain ⟨n, hn⟩ : ∃ n, n = L.length := ⟨_, rfl⟩
  have HO := Lib.hid (over_any A n c w)
  rw [← hn] at HK h0 hl ⊢
  have i1 : 0 < (n : Int) := by omega
  have i2 : (n : Int) ≤ 2000 := by omega
  clear hm hk hn he hl h0 ht HC
  unfold trV at HK HO
  by_cases hk : k = 4
  · have e1 : (k == 4) = true := by simpa using hk
    obtain ⟨b, hb⟩ : ∃ b, b = ((m : Int) == (n : Int) - 1) := ⟨_, rfl⟩
    have hb' := hb.symm
    subst hk
    rw [e1, Bool.true_and, ← hb]
    go_enter Tryd.func16, Tryd.ntmps16
    go_wp2_with fail
    refine HO.out.mono ?_
    rintro _ w0 ⟨rfl, b0⟩
    have B0 := Lib.hid b0
    clear b0
    go_wp2_with fail
    refine (HK.out _ B0.out).mono ?_
    rintro _ w1 ⟨rfl, b1⟩
    have B1 : Hid (Below w.heap.size w w1) := B0.out.trans (b1.mono B0.out.size)
    clear b1 hb e1
    go_wp2_with fail
    go_ret
    exact ⟨rfl, B1.out⟩
  · have e1 : (k == 4) = false := beq_eq_false_iff_ne.2 hk
    rw [e1, Bool.false_and]
    go_enter Tryd.func16, Tryd.ntmps16
    go_wp2_with fail
    refine HO.out.mono ?_
    rintro _ w0 ⟨rfl, b0⟩
    have B0 := Lib.hid b0
    clear b0
    go_wp2_with fail
    refine (HK.out _ B0.out).mono ?_
    rintro _ w1 ⟨rfl, b1⟩
    have B1 : Hid (Below w.heap.size w w1) := B0.out.trans (b1.mono B0.out.size)
    clear b1 hk
    go_wp2_with fail
    go_ret
    exact ⟨rfl, B1.out⟩
end Go.Proofs.YtjennlkindbpoaaDoor
