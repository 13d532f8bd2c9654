/-
  P15.6: THE WALK OF TraceUnlike. Laid by gen/gen_trp.py. Conditions: the table of names lies.
-/
import Derived.Test.YteigglhhnemngaaGreatDoorTrm
import Derived.Test.YteigglhhnemngaaGreatDoorTrl
import Derived.Test.YteigglhhnemngaaGreatDoorTrq
namespace Go.Proofs.YteigglhhnemngaaGreatDoor
set_option maxRecDepth 100000
open Go.RowKit Go.Deep
set_option linter.unusedVariables false
set_option linter.unusedSimpArgs false
theorem frame_inj {a b : ByteArray} (ha : a.size < 18446744073709551616) (hb : b.size < 18446744073709551616) (h : frameS a = frameS b) : a = b := by
  have g1 := get_frame a.size ha _ (frameS a) (frame_bytes a)
  have g2 := get_frame b.size hb _ (frameS b) (frame_bytes b)
  rw [h, g2] at g1
  have hz : b.size = a.size := congrArg (·.1) g1
  have e := frame_bytes a
  rw [h, frame_bytes b, hz] at e
  have e2 := List.append_cancel_left e
  exact (bytes_inj (List.append_inj_left e2 (by rw [bytes_length, bytes_length]; exact hz))).symm
theorem alike_enc {T V S : Int} {L : List Ev} {T' V' S' : Int} {M : List Ev} (h0 : (checkF T V S L).2 = 0) (hok : ∀ e ∈ L, EvOk e) (hl : L.length ≤ 5000) (h0' : (checkF T' V' S' M).2 = 0) (hok' : ∀ e ∈ M, EvOk e) (hl' : M.length ≤ 5000) :
    ((encW T V S L).toList == (encW T' V' S' M).toList) = sameT T V S L T' V' S' M := by
  rw [test_bytes]
  unfold sameT
  rw [decide_eq_decide]
  constructor
  · intro h
    have h := bytes_inj h
    obtain ⟨e1, _, s1, _⟩ := enc_is h0 hok hl
    obtain ⟨e2, _, s2, _⟩ := enc_is h0' hok' hl'
    rw [e1, e2] at h
    have hb := frame_inj (by omega) (by omega) h
    obtain ⟨hz, hle, hF⟩ := fine_iff.1 (check_zero h0)
    obtain ⟨hz', hle', hF'⟩ := fine_iff.1 (check_zero h0')
    obtain ⟨a1, a2, a3, a4, _⟩ := wrR_told hz hle hF hok
    obtain ⟨c1, c2, c3, c4, _⟩ := wrR_told hz' hle' hF' hok'
    rw [hb] at a1 a2 a3 a4
    exact ⟨a1.symm.trans c1, a2.symm.trans c2, a3.symm.trans c3, a4.symm.trans c4⟩
  · rintro ⟨rfl, rfl, rfl, rfl⟩
    rfl
noncomputable def rgUnA_ops : Array Oper := opsW Tryz.f9 5
def rgUnA_D : List (Option Nat) := [some 34, some 35, some 36, some 37, some 38, some 39, some 40, some 41, some 42, some 43, some 44, some 45, some 46, some 47, some 48, some 49, some 50, some 51, some 52, some 53, some 54, some 55, some 56, some 57, some 4]
set_option maxRecDepth 100000 in
set_option maxHeartbeats 4000000 in
theorem rgUnA {id : Nat} {ops : Array Oper} (hops : ops = rgUnA_ops) (T0 : Array Value) (hsz : 58 ≤ T0.size) (W : World) (e : Int) (he : e ≠ 0) (h6 : T0[6]? = some (.int .i64 e)) {Q : Exit → Act → World → Prop}
    (hend : ∀ w : World, Below W.heap.size W w → Q .normal ⟨putAll T0 [34, 35, 36, 37, 38, 39, 40, 41, 42, 43, 44, 45, 46, 47, 48, 49, 50, 51, 52, 53, 54, 55, 56, 57, 4] [.int .i64 e, .bool true, .bool true, undef, undef, .bool true, .bool true, undef, undef, undef, undef, undef, undef, undef, undef, undef, undef, undef, undef, undef, undef, undef, undef, .bool true, .bool true], []⟩ w) : (Code.region id ops true).wp Tryz.prog Q ⟨T0, []⟩ W := by
  subst hops
  have hos : rgUnA_ops.size = 25 := by kernel_rfl
  have hga : (List.range 25).all (fun i => match rgUnA_ops[i]? with | some o => o.guard == ([none, none, none, some (2, false), some (2, false), none, none, some (6, false), some (6, false), some (6, false), some (6, false), some (6, false), some (6, false), some (6, false), some (6, false), some (14, true), some (14, true), some (14, true), some (14, true), some (14, true), some (14, true), some (14, true), some (6, false), none, none] : List (Option (Nat × Bool))).getD i none | none => false) = true := by kernel_rfl
  have hds : ((pairsS rgUnA_D ([.int .i64 e, .bool true, .bool true, undef, undef, .bool true, .bool true, undef, undef, undef, undef, undef, undef, undef, undef, undef, undef, undef, undef, undef, undef, undef, undef, .bool true, .bool true] : List Value)).map (·.1)) = [34, 35, 36, 37, 38, 39, 40, 41, 42, 43, 44, 45, 46, 47, 48, 49, 50, 51, 52, 53, 54, 55, 56, 57, 4] := rfl
  refine wp_region_valsN ([.int .i64 e, .bool true, .bool true, undef, undef, .bool true, .bool true, undef, undef, undef, undef, undef, undef, undef, undef, undef, undef, undef, undef, undef, undef, undef, undef, .bool true, .bool true] : List Value) [true, true, true, false, false, true, true, false, false, false, false, false, false, false, false, false, false, false, false, false, false, false, false, true, true] rgUnA_D (fun don w => Below W.heap.size W w) W T0 (by rw [hds]; decide) (fun x hx => ?_) (by kernel_rfl) (by kernel_rfl) (fun i o j want ho hg => ?_) (fun i hi hon => ?_) (fun i hi hon don w hM => hM) ((Below.refl _ _).drew) ?_ ?_
  · rw [hds] at hx
    have hall : (([34, 35, 36, 37, 38, 39, 40, 41, 42, 43, 44, 45, 46, 47, 48, 49, 50, 51, 52, 53, 54, 55, 56, 57, 4] : List Nat).all fun d => decide (d < 58)) = true := by decide
    have := List.all_eq_true.1 hall x hx
    simp only [decide_eq_true_eq] at this
    omega
  · have hi : i < 25 := by rw [← hos]; exact (Array.getElem?_eq_some_iff.1 ho).1
    have h1 := List.all_eq_true.1 hga i (by simpa using hi)
    rw [ho] at h1
    simp only [hg, beq_iff_eq] at h1
    match i, hi with
    | 0, _ => cases h1
    | 1, _ => cases h1
    | 2, _ => cases h1
    | 3, _ => obtain ⟨rfl, rfl⟩ := Prod.mk.inj (Option.some.inj h1); exact .inl rfl
    | 4, _ => obtain ⟨rfl, rfl⟩ := Prod.mk.inj (Option.some.inj h1); exact .inl rfl
    | 5, _ => cases h1
    | 6, _ => cases h1
    | 7, _ => obtain ⟨rfl, rfl⟩ := Prod.mk.inj (Option.some.inj h1); exact .inl rfl
    | 8, _ => obtain ⟨rfl, rfl⟩ := Prod.mk.inj (Option.some.inj h1); exact .inl rfl
    | 9, _ => obtain ⟨rfl, rfl⟩ := Prod.mk.inj (Option.some.inj h1); exact .inl rfl
    | 10, _ => obtain ⟨rfl, rfl⟩ := Prod.mk.inj (Option.some.inj h1); exact .inl rfl
    | 11, _ => obtain ⟨rfl, rfl⟩ := Prod.mk.inj (Option.some.inj h1); exact .inl rfl
    | 12, _ => obtain ⟨rfl, rfl⟩ := Prod.mk.inj (Option.some.inj h1); exact .inl rfl
    | 13, _ => obtain ⟨rfl, rfl⟩ := Prod.mk.inj (Option.some.inj h1); exact .inl rfl
    | 14, _ => obtain ⟨rfl, rfl⟩ := Prod.mk.inj (Option.some.inj h1); exact .inl rfl
    | 15, _ => obtain ⟨rfl, rfl⟩ := Prod.mk.inj (Option.some.inj h1); exact .inr ⟨rfl, rfl⟩
    | 16, _ => obtain ⟨rfl, rfl⟩ := Prod.mk.inj (Option.some.inj h1); exact .inr ⟨rfl, rfl⟩
    | 17, _ => obtain ⟨rfl, rfl⟩ := Prod.mk.inj (Option.some.inj h1); exact .inr ⟨rfl, rfl⟩
    | 18, _ => obtain ⟨rfl, rfl⟩ := Prod.mk.inj (Option.some.inj h1); exact .inr ⟨rfl, rfl⟩
    | 19, _ => obtain ⟨rfl, rfl⟩ := Prod.mk.inj (Option.some.inj h1); exact .inr ⟨rfl, rfl⟩
    | 20, _ => obtain ⟨rfl, rfl⟩ := Prod.mk.inj (Option.some.inj h1); exact .inr ⟨rfl, rfl⟩
    | 21, _ => obtain ⟨rfl, rfl⟩ := Prod.mk.inj (Option.some.inj h1); exact .inr ⟨rfl, rfl⟩
    | 22, _ => obtain ⟨rfl, rfl⟩ := Prod.mk.inj (Option.some.inj h1); exact .inl rfl
    | 23, _ => cases h1
    | 24, _ => cases h1
    | i + 25, h => exact absurd (show i + 25 < 25 from h) (by omega)
  · match i, hi with
    | 0, _ => cases hon
    | 1, _ => cases hon
    | 2, _ => cases hon
    | 3, _ => rfl
    | 4, _ => rfl
    | 5, _ => cases hon
    | 6, _ => cases hon
    | 7, _ => rfl
    | 8, _ => rfl
    | 9, _ => rfl
    | 10, _ => rfl
    | 11, _ => rfl
    | 12, _ => rfl
    | 13, _ => rfl
    | 14, _ => rfl
    | 15, _ => rfl
    | 16, _ => rfl
    | 17, _ => rfl
    | 18, _ => rfl
    | 19, _ => rfl
    | 20, _ => rfl
    | 21, _ => rfl
    | 22, _ => rfl
    | 23, _ => cases hon
    | 24, _ => cases hon
    | i + 25, h => exact absurd (show i + 25 < 25 from h) (by omega)
  · intro i oo ho hi hon don a w hT hU hdi hM K hK
    rw [hds] at hT
    have hT0 : ∀ t v, t ∉ ([34, 35, 36, 37, 38, 39, 40, 41, 42, 43, 44, 45, 46, 47, 48, 49, 50, 51, 52, 53, 54, 55, 56, 57, 4] : List Nat) → T0[t]? = some v → a.tmps[t]?.getD undef = v := fun t v ht hv => by rw [hT t ht, hv]; rfl
    match i, hi with
    | 0, _ => exact v_move 6 (opAtW ho (by kernel_rfl)) (hT0 6 _ (by decide) h6) (hK w hM)
    | 1, _ =>
      exact b_neq0 34 (bne_iff_ne.2 he) (opAtW ho (by kernel_rfl)) ((hU 0 (by kernel_rfl)).2 34 rfl) (hK w hM)
    | 2, _ => exact v_move 35 (opAtW ho (by kernel_rfl)) ((hU 1 (by kernel_rfl)).2 35 rfl) (hK w hM)
    | 3, _ => exact absurd hon (by decide)
    | 4, _ => exact absurd hon (by decide)
    | 5, _ => exact v_orT 36 38 (opAtW ho (by kernel_rfl)) ((hU 2 (by kernel_rfl)).2 36 rfl) (hK w hM)
    | 6, _ => exact v_move 39 (opAtW ho (by kernel_rfl)) ((hU 5 (by kernel_rfl)).2 39 rfl) (hK w hM)
    | 7, _ => exact absurd hon (by decide)
    | 8, _ => exact absurd hon (by decide)
    | 9, _ => exact absurd hon (by decide)
    | 10, _ => exact absurd hon (by decide)
    | 11, _ => exact absurd hon (by decide)
    | 12, _ => exact absurd hon (by decide)
    | 13, _ => exact absurd hon (by decide)
    | 14, _ => exact absurd hon (by decide)
    | 15, _ => exact absurd hon (by decide)
    | 16, _ => exact absurd hon (by decide)
    | 17, _ => exact absurd hon (by decide)
    | 18, _ => exact absurd hon (by decide)
    | 19, _ => exact absurd hon (by decide)
    | 20, _ => exact absurd hon (by decide)
    | 21, _ => exact absurd hon (by decide)
    | 22, _ => exact absurd hon (by decide)
    | 23, _ => exact v_orT 40 56 (opAtW ho (by kernel_rfl)) ((hU 6 (by kernel_rfl)).2 40 rfl) (hK w hM)
    | 24, _ => exact v_assign 57 (opAtW ho (by kernel_rfl)) ((hU 23 (by kernel_rfl)).2 57 rfl) (hK w hM)
    | i + 25, h => exact absurd (show i + 25 < 25 from h) (by omega)
  · intro w hM
    exact hend w hM
noncomputable def rgUnB_ops : Array Oper := opsW Tryz.f9 5
def rgUnB_D : List (Option Nat) := [some 34, some 35, some 36, some 37, some 38, some 39, some 40, some 41, some 42, some 43, some 44, some 45, some 46, some 47, some 48, some 49, some 50, some 51, some 52, some 53, some 54, some 55, some 56, some 57, some 4]
set_option maxRecDepth 100000 in
set_option maxHeartbeats 4000000 in
theorem rgUnB {id : Nat} {ops : Array Oper} (hops : ops = rgUnB_ops) (T0 : Array Value) (hsz : 58 ≤ T0.size) (W : World) (e f : Int) (he : e = 0) (hf : f ≠ 0) (h6 : T0[6]? = some (.int .i64 e)) (h8 : T0[8]? = some (.int .i64 f)) {Q : Exit → Act → World → Prop}
    (hend : ∀ w : World, Below W.heap.size W w → Q .normal ⟨putAll T0 [34, 35, 36, 37, 38, 39, 40, 41, 42, 43, 44, 45, 46, 47, 48, 49, 50, 51, 52, 53, 54, 55, 56, 57, 4] [.int .i64 e, .bool false, .bool false, .int .i64 f, .bool true, .bool true, .bool true, undef, undef, undef, undef, undef, undef, undef, undef, undef, undef, undef, undef, undef, undef, undef, undef, .bool true, .bool true], []⟩ w) : (Code.region id ops true).wp Tryz.prog Q ⟨T0, []⟩ W := by
  subst hops
  have hos : rgUnB_ops.size = 25 := by kernel_rfl
  have hga : (List.range 25).all (fun i => match rgUnB_ops[i]? with | some o => o.guard == ([none, none, none, some (2, false), some (2, false), none, none, some (6, false), some (6, false), some (6, false), some (6, false), some (6, false), some (6, false), some (6, false), some (6, false), some (14, true), some (14, true), some (14, true), some (14, true), some (14, true), some (14, true), some (14, true), some (6, false), none, none] : List (Option (Nat × Bool))).getD i none | none => false) = true := by kernel_rfl
  have hds : ((pairsS rgUnB_D ([.int .i64 e, .bool false, .bool false, .int .i64 f, .bool true, .bool true, .bool true, undef, undef, undef, undef, undef, undef, undef, undef, undef, undef, undef, undef, undef, undef, undef, undef, .bool true, .bool true] : List Value)).map (·.1)) = [34, 35, 36, 37, 38, 39, 40, 41, 42, 43, 44, 45, 46, 47, 48, 49, 50, 51, 52, 53, 54, 55, 56, 57, 4] := rfl
  refine wp_region_valsN ([.int .i64 e, .bool false, .bool false, .int .i64 f, .bool true, .bool true, .bool true, undef, undef, undef, undef, undef, undef, undef, undef, undef, undef, undef, undef, undef, undef, undef, undef, .bool true, .bool true] : List Value) [true, true, true, true, true, true, true, false, false, false, false, false, false, false, false, false, false, false, false, false, false, false, false, true, true] rgUnB_D (fun don w => Below W.heap.size W w) W T0 (by rw [hds]; decide) (fun x hx => ?_) (by kernel_rfl) (by kernel_rfl) (fun i o j want ho hg => ?_) (fun i hi hon => ?_) (fun i hi hon don w hM => hM) ((Below.refl _ _).drew) ?_ ?_
  · rw [hds] at hx
    have hall : (([34, 35, 36, 37, 38, 39, 40, 41, 42, 43, 44, 45, 46, 47, 48, 49, 50, 51, 52, 53, 54, 55, 56, 57, 4] : List Nat).all fun d => decide (d < 58)) = true := by decide
    have := List.all_eq_true.1 hall x hx
    simp only [decide_eq_true_eq] at this
    omega
  · have hi : i < 25 := by rw [← hos]; exact (Array.getElem?_eq_some_iff.1 ho).1
    have h1 := List.all_eq_true.1 hga i (by simpa using hi)
    rw [ho] at h1
    simp only [hg, beq_iff_eq] at h1
    match i, hi with
    | 0, _ => cases h1
    | 1, _ => cases h1
    | 2, _ => cases h1
    | 3, _ => obtain ⟨rfl, rfl⟩ := Prod.mk.inj (Option.some.inj h1); exact .inl rfl
    | 4, _ => obtain ⟨rfl, rfl⟩ := Prod.mk.inj (Option.some.inj h1); exact .inl rfl
    | 5, _ => cases h1
    | 6, _ => cases h1
    | 7, _ => obtain ⟨rfl, rfl⟩ := Prod.mk.inj (Option.some.inj h1); exact .inl rfl
    | 8, _ => obtain ⟨rfl, rfl⟩ := Prod.mk.inj (Option.some.inj h1); exact .inl rfl
    | 9, _ => obtain ⟨rfl, rfl⟩ := Prod.mk.inj (Option.some.inj h1); exact .inl rfl
    | 10, _ => obtain ⟨rfl, rfl⟩ := Prod.mk.inj (Option.some.inj h1); exact .inl rfl
    | 11, _ => obtain ⟨rfl, rfl⟩ := Prod.mk.inj (Option.some.inj h1); exact .inl rfl
    | 12, _ => obtain ⟨rfl, rfl⟩ := Prod.mk.inj (Option.some.inj h1); exact .inl rfl
    | 13, _ => obtain ⟨rfl, rfl⟩ := Prod.mk.inj (Option.some.inj h1); exact .inl rfl
    | 14, _ => obtain ⟨rfl, rfl⟩ := Prod.mk.inj (Option.some.inj h1); exact .inl rfl
    | 15, _ => obtain ⟨rfl, rfl⟩ := Prod.mk.inj (Option.some.inj h1); exact .inr ⟨rfl, rfl⟩
    | 16, _ => obtain ⟨rfl, rfl⟩ := Prod.mk.inj (Option.some.inj h1); exact .inr ⟨rfl, rfl⟩
    | 17, _ => obtain ⟨rfl, rfl⟩ := Prod.mk.inj (Option.some.inj h1); exact .inr ⟨rfl, rfl⟩
    | 18, _ => obtain ⟨rfl, rfl⟩ := Prod.mk.inj (Option.some.inj h1); exact .inr ⟨rfl, rfl⟩
    | 19, _ => obtain ⟨rfl, rfl⟩ := Prod.mk.inj (Option.some.inj h1); exact .inr ⟨rfl, rfl⟩
    | 20, _ => obtain ⟨rfl, rfl⟩ := Prod.mk.inj (Option.some.inj h1); exact .inr ⟨rfl, rfl⟩
    | 21, _ => obtain ⟨rfl, rfl⟩ := Prod.mk.inj (Option.some.inj h1); exact .inr ⟨rfl, rfl⟩
    | 22, _ => obtain ⟨rfl, rfl⟩ := Prod.mk.inj (Option.some.inj h1); exact .inl rfl
    | 23, _ => cases h1
    | 24, _ => cases h1
    | i + 25, h => exact absurd (show i + 25 < 25 from h) (by omega)
  · match i, hi with
    | 0, _ => cases hon
    | 1, _ => cases hon
    | 2, _ => cases hon
    | 3, _ => cases hon
    | 4, _ => cases hon
    | 5, _ => cases hon
    | 6, _ => cases hon
    | 7, _ => rfl
    | 8, _ => rfl
    | 9, _ => rfl
    | 10, _ => rfl
    | 11, _ => rfl
    | 12, _ => rfl
    | 13, _ => rfl
    | 14, _ => rfl
    | 15, _ => rfl
    | 16, _ => rfl
    | 17, _ => rfl
    | 18, _ => rfl
    | 19, _ => rfl
    | 20, _ => rfl
    | 21, _ => rfl
    | 22, _ => rfl
    | 23, _ => cases hon
    | 24, _ => cases hon
    | i + 25, h => exact absurd (show i + 25 < 25 from h) (by omega)
  · intro i oo ho hi hon don a w hT hU hdi hM K hK
    rw [hds] at hT
    have hT0 : ∀ t v, t ∉ ([34, 35, 36, 37, 38, 39, 40, 41, 42, 43, 44, 45, 46, 47, 48, 49, 50, 51, 52, 53, 54, 55, 56, 57, 4] : List Nat) → T0[t]? = some v → a.tmps[t]?.getD undef = v := fun t v ht hv => by rw [hT t ht, hv]; rfl
    match i, hi with
    | 0, _ => exact v_move 6 (opAtW ho (by kernel_rfl)) (hT0 6 _ (by decide) h6) (hK w hM)
    | 1, _ =>
      exact b_neq0 34 (by simp [he]) (opAtW ho (by kernel_rfl)) ((hU 0 (by kernel_rfl)).2 34 rfl) (hK w hM)
    | 2, _ => exact v_move 35 (opAtW ho (by kernel_rfl)) ((hU 1 (by kernel_rfl)).2 35 rfl) (hK w hM)
    | 3, _ => exact v_move 8 (opAtW ho (by kernel_rfl)) (hT0 8 _ (by decide) h8) (hK w hM)
    | 4, _ =>
      exact b_neq0 37 (bne_iff_ne.2 hf) (opAtW ho (by kernel_rfl)) ((hU 3 (by kernel_rfl)).2 37 rfl) (hK w hM)
    | 5, _ => exact v_orF 36 38 (opAtW ho (by kernel_rfl)) ((hU 2 (by kernel_rfl)).2 36 rfl) ((hU 4 (by kernel_rfl)).2 38 rfl) (hK w hM)
    | 6, _ => exact v_move 39 (opAtW ho (by kernel_rfl)) ((hU 5 (by kernel_rfl)).2 39 rfl) (hK w hM)
    | 7, _ => exact absurd hon (by decide)
    | 8, _ => exact absurd hon (by decide)
    | 9, _ => exact absurd hon (by decide)
    | 10, _ => exact absurd hon (by decide)
    | 11, _ => exact absurd hon (by decide)
    | 12, _ => exact absurd hon (by decide)
    | 13, _ => exact absurd hon (by decide)
    | 14, _ => exact absurd hon (by decide)
    | 15, _ => exact absurd hon (by decide)
    | 16, _ => exact absurd hon (by decide)
    | 17, _ => exact absurd hon (by decide)
    | 18, _ => exact absurd hon (by decide)
    | 19, _ => exact absurd hon (by decide)
    | 20, _ => exact absurd hon (by decide)
    | 21, _ => exact absurd hon (by decide)
    | 22, _ => exact absurd hon (by decide)
    | 23, _ => exact v_orT 40 56 (opAtW ho (by kernel_rfl)) ((hU 6 (by kernel_rfl)).2 40 rfl) (hK w hM)
    | 24, _ => exact v_assign 57 (opAtW ho (by kernel_rfl)) ((hU 23 (by kernel_rfl)).2 57 rfl) (hK w hM)
    | i + 25, h => exact absurd (show i + 25 < 25 from h) (by omega)
  · intro w hM
    exact hend w hM
noncomputable def rgUnC_ops : Array Oper := opsW Tryz.f9 5
def rgUnC_D : List (Option Nat) := [some 34, some 35, some 36, some 37, some 38, some 39, some 40, some 41, some 42, some 43, some 44, some 45, some 46, some 47, some 48, some 49, some 50, some 51, some 52, some 53, some 54, some 55, some 56, some 57, some 4]
set_option maxRecDepth 100000 in
set_option maxHeartbeats 4000000 in
theorem rgUnC {id : Nat} {ops : Array Oper} (hops : ops = rgUnC_ops) (T0 : Array Value) (hsz : 58 ≤ T0.size) (W : World) (g2 g3 : Nat) (T V S : Int) (n c : Nat) (A : Option Addr) (T' V' S' : Int) (m d : Nat) (B : Option Addr) (e f : Int) (E F : ByteArray) (R : Bool) (he : e = 0) (hf : f = 0) (hR : (E.toList == F.toList) = R) (r2 : W.heap[g2]? = some (.cells #[.int .i64 T, .int .i64 V, .int .i64 S, .slice A n c] 25 (0, 0))) (r3 : W.heap[g3]? = some (.cells #[.int .i64 T', .int .i64 V', .int .i64 S', .slice B m d] 25 (0, 0))) (hS : ∀ w, Below W.heap.size W w → Calls Tryz.prog 17 #[.agg #[.int .i64 T, .int .i64 V, .int .i64 S, .slice A n c], .agg #[.int .i64 T', .int .i64 V', .int .i64 S', .slice B m d]] w fun r w' => r = .returned (.bool R) ∧ Below w.heap.size w w') (hS2 : ∀ w, Below W.heap.size W w → Calls Tryz.prog 16 #[.agg #[.int .i64 T, .int .i64 V, .int .i64 S, .slice A n c], .agg #[.int .i64 T', .int .i64 V', .int .i64 S', .slice B m d]] w fun r w' => r = .returned (.bool R) ∧ Below w.heap.size w w') (h2 : T0[2]? = some (.pointer (some ⟨g2, 0, none⟩))) (h3 : T0[3]? = some (.pointer (some ⟨g3, 0, none⟩))) (h5 : T0[5]? = some (.string E)) (h6 : T0[6]? = some (.int .i64 e)) (h7 : T0[7]? = some (.string F)) (h8 : T0[8]? = some (.int .i64 f)) {Q : Exit → Act → World → Prop}
    (hend : ∀ w : World, Below W.heap.size W w → Q .normal ⟨putAll T0 [34, 35, 36, 37, 38, 39, 40, 41, 42, 43, 44, 45, 46, 47, 48, 49, 50, 51, 52, 53, 54, 55, 56, 57, 4] [.int .i64 e, .bool false, .bool false, .int .i64 f, .bool false, .bool false, .bool false, .string E, .string F, .bool R, .agg #[.int .i64 T, .int .i64 V, .int .i64 S, .slice A n c], .agg #[.int .i64 T', .int .i64 V', .int .i64 S', .slice B m d], .bool R, .bool true, .bool true, .agg #[.int .i64 T, .int .i64 V, .int .i64 S, .slice A n c], .agg #[.int .i64 T', .int .i64 V', .int .i64 S', .slice B m d], .bool R, .agg #[.int .i64 T, .int .i64 V, .int .i64 S, .slice A n c], .agg #[.int .i64 T', .int .i64 V', .int .i64 S', .slice B m d], .bool R, .bool true, .bool true, .bool true, .bool true], []⟩ w) : (Code.region id ops true).wp Tryz.prog Q ⟨T0, []⟩ W := by
  subst hops
  have hos : rgUnC_ops.size = 25 := by kernel_rfl
  have hga : (List.range 25).all (fun i => match rgUnC_ops[i]? with | some o => o.guard == ([none, none, none, some (2, false), some (2, false), none, none, some (6, false), some (6, false), some (6, false), some (6, false), some (6, false), some (6, false), some (6, false), some (6, false), some (14, true), some (14, true), some (14, true), some (14, true), some (14, true), some (14, true), some (14, true), some (6, false), none, none] : List (Option (Nat × Bool))).getD i none | none => false) = true := by kernel_rfl
  have hds : ((pairsS rgUnC_D ([.int .i64 e, .bool false, .bool false, .int .i64 f, .bool false, .bool false, .bool false, .string E, .string F, .bool R, .agg #[.int .i64 T, .int .i64 V, .int .i64 S, .slice A n c], .agg #[.int .i64 T', .int .i64 V', .int .i64 S', .slice B m d], .bool R, .bool true, .bool true, .agg #[.int .i64 T, .int .i64 V, .int .i64 S, .slice A n c], .agg #[.int .i64 T', .int .i64 V', .int .i64 S', .slice B m d], .bool R, .agg #[.int .i64 T, .int .i64 V, .int .i64 S, .slice A n c], .agg #[.int .i64 T', .int .i64 V', .int .i64 S', .slice B m d], .bool R, .bool true, .bool true, .bool true, .bool true] : List Value)).map (·.1)) = [34, 35, 36, 37, 38, 39, 40, 41, 42, 43, 44, 45, 46, 47, 48, 49, 50, 51, 52, 53, 54, 55, 56, 57, 4] := rfl
  refine wp_region_valsN ([.int .i64 e, .bool false, .bool false, .int .i64 f, .bool false, .bool false, .bool false, .string E, .string F, .bool R, .agg #[.int .i64 T, .int .i64 V, .int .i64 S, .slice A n c], .agg #[.int .i64 T', .int .i64 V', .int .i64 S', .slice B m d], .bool R, .bool true, .bool true, .agg #[.int .i64 T, .int .i64 V, .int .i64 S, .slice A n c], .agg #[.int .i64 T', .int .i64 V', .int .i64 S', .slice B m d], .bool R, .agg #[.int .i64 T, .int .i64 V, .int .i64 S, .slice A n c], .agg #[.int .i64 T', .int .i64 V', .int .i64 S', .slice B m d], .bool R, .bool true, .bool true, .bool true, .bool true] : List Value) [true, true, true, true, true, true, true, true, true, true, true, true, true, true, true, true, true, true, true, true, true, true, true, true, true] rgUnC_D (fun don w => Below W.heap.size W w) W T0 (by rw [hds]; decide) (fun x hx => ?_) (by kernel_rfl) (by kernel_rfl) (fun i o j want ho hg => ?_) (fun i hi hon => ?_) (fun i hi hon don w hM => hM) ((Below.refl _ _).drew) ?_ ?_
  · rw [hds] at hx
    have hall : (([34, 35, 36, 37, 38, 39, 40, 41, 42, 43, 44, 45, 46, 47, 48, 49, 50, 51, 52, 53, 54, 55, 56, 57, 4] : List Nat).all fun d => decide (d < 58)) = true := by decide
    have := List.all_eq_true.1 hall x hx
    simp only [decide_eq_true_eq] at this
    omega
  · have hi : i < 25 := by rw [← hos]; exact (Array.getElem?_eq_some_iff.1 ho).1
    have h1 := List.all_eq_true.1 hga i (by simpa using hi)
    rw [ho] at h1
    simp only [hg, beq_iff_eq] at h1
    match i, hi with
    | 0, _ => cases h1
    | 1, _ => cases h1
    | 2, _ => cases h1
    | 3, _ => obtain ⟨rfl, rfl⟩ := Prod.mk.inj (Option.some.inj h1); exact .inl rfl
    | 4, _ => obtain ⟨rfl, rfl⟩ := Prod.mk.inj (Option.some.inj h1); exact .inl rfl
    | 5, _ => cases h1
    | 6, _ => cases h1
    | 7, _ => obtain ⟨rfl, rfl⟩ := Prod.mk.inj (Option.some.inj h1); exact .inl rfl
    | 8, _ => obtain ⟨rfl, rfl⟩ := Prod.mk.inj (Option.some.inj h1); exact .inl rfl
    | 9, _ => obtain ⟨rfl, rfl⟩ := Prod.mk.inj (Option.some.inj h1); exact .inl rfl
    | 10, _ => obtain ⟨rfl, rfl⟩ := Prod.mk.inj (Option.some.inj h1); exact .inl rfl
    | 11, _ => obtain ⟨rfl, rfl⟩ := Prod.mk.inj (Option.some.inj h1); exact .inl rfl
    | 12, _ => obtain ⟨rfl, rfl⟩ := Prod.mk.inj (Option.some.inj h1); exact .inl rfl
    | 13, _ => obtain ⟨rfl, rfl⟩ := Prod.mk.inj (Option.some.inj h1); exact .inl rfl
    | 14, _ => obtain ⟨rfl, rfl⟩ := Prod.mk.inj (Option.some.inj h1); exact .inl rfl
    | 15, _ => obtain ⟨rfl, rfl⟩ := Prod.mk.inj (Option.some.inj h1); exact .inl rfl
    | 16, _ => obtain ⟨rfl, rfl⟩ := Prod.mk.inj (Option.some.inj h1); exact .inl rfl
    | 17, _ => obtain ⟨rfl, rfl⟩ := Prod.mk.inj (Option.some.inj h1); exact .inl rfl
    | 18, _ => obtain ⟨rfl, rfl⟩ := Prod.mk.inj (Option.some.inj h1); exact .inl rfl
    | 19, _ => obtain ⟨rfl, rfl⟩ := Prod.mk.inj (Option.some.inj h1); exact .inl rfl
    | 20, _ => obtain ⟨rfl, rfl⟩ := Prod.mk.inj (Option.some.inj h1); exact .inl rfl
    | 21, _ => obtain ⟨rfl, rfl⟩ := Prod.mk.inj (Option.some.inj h1); exact .inl rfl
    | 22, _ => obtain ⟨rfl, rfl⟩ := Prod.mk.inj (Option.some.inj h1); exact .inl rfl
    | 23, _ => cases h1
    | 24, _ => cases h1
    | i + 25, h => exact absurd (show i + 25 < 25 from h) (by omega)
  · match i, hi with
    | 0, _ => cases hon
    | 1, _ => cases hon
    | 2, _ => cases hon
    | 3, _ => cases hon
    | 4, _ => cases hon
    | 5, _ => cases hon
    | 6, _ => cases hon
    | 7, _ => cases hon
    | 8, _ => cases hon
    | 9, _ => cases hon
    | 10, _ => cases hon
    | 11, _ => cases hon
    | 12, _ => cases hon
    | 13, _ => cases hon
    | 14, _ => cases hon
    | 15, _ => cases hon
    | 16, _ => cases hon
    | 17, _ => cases hon
    | 18, _ => cases hon
    | 19, _ => cases hon
    | 20, _ => cases hon
    | 21, _ => cases hon
    | 22, _ => cases hon
    | 23, _ => cases hon
    | 24, _ => cases hon
    | i + 25, h => exact absurd (show i + 25 < 25 from h) (by omega)
  · intro i oo ho hi hon don a w hT hU hdi hM K hK
    rw [hds] at hT
    have hT0 : ∀ t v, t ∉ ([34, 35, 36, 37, 38, 39, 40, 41, 42, 43, 44, 45, 46, 47, 48, 49, 50, 51, 52, 53, 54, 55, 56, 57, 4] : List Nat) → T0[t]? = some v → a.tmps[t]?.getD undef = v := fun t v ht hv => by rw [hT t ht, hv]; rfl
    match i, hi with
    | 0, _ => exact v_move 6 (opAtW ho (by kernel_rfl)) (hT0 6 _ (by decide) h6) (hK w hM)
    | 1, _ =>
      exact b_neq0 34 (by simp [he]) (opAtW ho (by kernel_rfl)) ((hU 0 (by kernel_rfl)).2 34 rfl) (hK w hM)
    | 2, _ => exact v_move 35 (opAtW ho (by kernel_rfl)) ((hU 1 (by kernel_rfl)).2 35 rfl) (hK w hM)
    | 3, _ => exact v_move 8 (opAtW ho (by kernel_rfl)) (hT0 8 _ (by decide) h8) (hK w hM)
    | 4, _ =>
      exact b_neq0 37 (by simp [hf]) (opAtW ho (by kernel_rfl)) ((hU 3 (by kernel_rfl)).2 37 rfl) (hK w hM)
    | 5, _ => exact v_orF 36 38 (opAtW ho (by kernel_rfl)) ((hU 2 (by kernel_rfl)).2 36 rfl) ((hU 4 (by kernel_rfl)).2 38 rfl) (hK w hM)
    | 6, _ => exact v_move 39 (opAtW ho (by kernel_rfl)) ((hU 5 (by kernel_rfl)).2 39 rfl) (hK w hM)
    | 7, _ => exact v_move 5 (opAtW ho (by kernel_rfl)) (hT0 5 _ (by decide) h5) (hK w hM)
    | 8, _ => exact v_move 7 (opAtW ho (by kernel_rfl)) (hT0 7 _ (by decide) h7) (hK w hM)
    | 9, _ =>
      exact v_eqls 41 42 (opAtW ho (by kernel_rfl)) ((hU 7 (by kernel_rfl)).2 41 rfl) ((hU 8 (by kernel_rfl)).2 42 rfl) hR (hK w hM)
    | 10, _ =>
      have xx : a.tmps[2]?.getD undef = .pointer (some ⟨g2, 0, none⟩) := (hT0 2 _ (by decide) h2)
      exact wp_load_row 25 (.tmp 2) (opAtW ho (by kernel_rfl)) g2 (by simpa [Act.eval, Array.getD_eq_getD_getElem?] using xx) 25 _ (0, 0) _ (row_stays r2 hM) Tryz.underlying25 rfl (by kernel_rfl) (hK w hM)
    | 11, _ =>
      have xx : a.tmps[3]?.getD undef = .pointer (some ⟨g3, 0, none⟩) := (hT0 3 _ (by decide) h3)
      exact wp_load_row 25 (.tmp 3) (opAtW ho (by kernel_rfl)) g3 (by simpa [Act.eval, Array.getD_eq_getD_getElem?] using xx) 25 _ (0, 0) _ (row_stays r3 hM) Tryz.underlying25 rfl (by kernel_rfl) (hK w hM)
    | 12, _ =>
      have x44 : a.tmps[44]?.getD undef = .agg #[.int .i64 T, .int .i64 V, .int .i64 S, .slice A n c] := ((hU 10 (by kernel_rfl)).2 44 rfl)
      have x45 : a.tmps[45]?.getD undef = .agg #[.int .i64 T', .int .i64 V', .int .i64 S', .slice B m d] := ((hU 11 (by kernel_rfl)).2 45 rfl)
      obtain ⟨dst, op, type, pos, after, guard⟩ := oo
      have ho' : op = .call { callee := .value (.func 17), args := #[.tmp 44, .tmp 45], argTypes := #[25, 25] } := (opAtW ho (by kernel_rfl))
      subst ho'
      clear ho hT hU hT0
      have hfun := Tryz.func17
      go_simp
      refine (hS w hM).mono ?_
      rintro _ w' ⟨rfl, h1⟩
      exact hK w' (hM.trans (h1.mono hM.size))
    | 13, _ =>
      exact v_eqlb 43 46 (opAtW ho (by kernel_rfl)) ((hU 9 (by kernel_rfl)).2 43 rfl) ((hU 12 (by kernel_rfl)).2 46 rfl) (by simp) (hK w hM)
    | 14, _ => exact v_move 47 (opAtW ho (by kernel_rfl)) ((hU 13 (by kernel_rfl)).2 47 rfl) (hK w hM)
    | 15, _ =>
      have xx : a.tmps[2]?.getD undef = .pointer (some ⟨g2, 0, none⟩) := (hT0 2 _ (by decide) h2)
      exact wp_load_row 25 (.tmp 2) (opAtW ho (by kernel_rfl)) g2 (by simpa [Act.eval, Array.getD_eq_getD_getElem?] using xx) 25 _ (0, 0) _ (row_stays r2 hM) Tryz.underlying25 rfl (by kernel_rfl) (hK w hM)
    | 16, _ =>
      have xx : a.tmps[3]?.getD undef = .pointer (some ⟨g3, 0, none⟩) := (hT0 3 _ (by decide) h3)
      exact wp_load_row 25 (.tmp 3) (opAtW ho (by kernel_rfl)) g3 (by simpa [Act.eval, Array.getD_eq_getD_getElem?] using xx) 25 _ (0, 0) _ (row_stays r3 hM) Tryz.underlying25 rfl (by kernel_rfl) (hK w hM)
    | 17, _ =>
      have x49 : a.tmps[49]?.getD undef = .agg #[.int .i64 T, .int .i64 V, .int .i64 S, .slice A n c] := ((hU 15 (by kernel_rfl)).2 49 rfl)
      have x50 : a.tmps[50]?.getD undef = .agg #[.int .i64 T', .int .i64 V', .int .i64 S', .slice B m d] := ((hU 16 (by kernel_rfl)).2 50 rfl)
      obtain ⟨dst, op, type, pos, after, guard⟩ := oo
      have ho' : op = .call { callee := .value (.func 17), args := #[.tmp 49, .tmp 50], argTypes := #[25, 25] } := (opAtW ho (by kernel_rfl))
      subst ho'
      clear ho hT hU hT0
      have hfun := Tryz.func17
      go_simp
      refine (hS w hM).mono ?_
      rintro _ w' ⟨rfl, h1⟩
      exact hK w' (hM.trans (h1.mono hM.size))
    | 18, _ =>
      have xx : a.tmps[2]?.getD undef = .pointer (some ⟨g2, 0, none⟩) := (hT0 2 _ (by decide) h2)
      exact wp_load_row 25 (.tmp 2) (opAtW ho (by kernel_rfl)) g2 (by simpa [Act.eval, Array.getD_eq_getD_getElem?] using xx) 25 _ (0, 0) _ (row_stays r2 hM) Tryz.underlying25 rfl (by kernel_rfl) (hK w hM)
    | 19, _ =>
      have xx : a.tmps[3]?.getD undef = .pointer (some ⟨g3, 0, none⟩) := (hT0 3 _ (by decide) h3)
      exact wp_load_row 25 (.tmp 3) (opAtW ho (by kernel_rfl)) g3 (by simpa [Act.eval, Array.getD_eq_getD_getElem?] using xx) 25 _ (0, 0) _ (row_stays r3 hM) Tryz.underlying25 rfl (by kernel_rfl) (hK w hM)
    | 20, _ =>
      have x52 : a.tmps[52]?.getD undef = .agg #[.int .i64 T, .int .i64 V, .int .i64 S, .slice A n c] := ((hU 18 (by kernel_rfl)).2 52 rfl)
      have x53 : a.tmps[53]?.getD undef = .agg #[.int .i64 T', .int .i64 V', .int .i64 S', .slice B m d] := ((hU 19 (by kernel_rfl)).2 53 rfl)
      obtain ⟨dst, op, type, pos, after, guard⟩ := oo
      have ho' : op = .call { callee := .value (.func 16), args := #[.tmp 52, .tmp 53], argTypes := #[25, 25] } := (opAtW ho (by kernel_rfl))
      subst ho'
      clear ho hT hU hT0
      have hfun := Tryz.func16
      go_simp
      refine (hS2 w hM).mono ?_
      rintro _ w' ⟨rfl, h1⟩
      exact hK w' (hM.trans (h1.mono hM.size))
    | 21, _ =>
      exact v_eqlb 51 54 (opAtW ho (by kernel_rfl)) ((hU 17 (by kernel_rfl)).2 51 rfl) ((hU 20 (by kernel_rfl)).2 54 rfl) (by simp) (hK w hM)
    | 22, _ => exact v_andT 48 55 (opAtW ho (by kernel_rfl)) ((hU 14 (by kernel_rfl)).2 48 rfl) ((hU 21 (by kernel_rfl)).2 55 rfl) (hK w hM)
    | 23, _ => exact v_orF 40 56 (opAtW ho (by kernel_rfl)) ((hU 6 (by kernel_rfl)).2 40 rfl) ((hU 22 (by kernel_rfl)).2 56 rfl) (hK w hM)
    | 24, _ => exact v_assign 57 (opAtW ho (by kernel_rfl)) ((hU 23 (by kernel_rfl)).2 57 rfl) (hK w hM)
    | i + 25, h => exact absurd (show i + 25 < 25 from h) (by omega)
  · intro w hM
    exact hend w hM
theorem un_long (T V S : Int) (A : Option Addr) (L : List Ev) (c : Nat) (T' V' S' : Int) (B : Option Addr) (M : List Ev) (d : Nat) (hl0 : L.length ≤ 9223372036854775807) (hm0 : M.length ≤ 9223372036854775807) (h : 2000 < L.length ∨ 2000 < M.length) (w : World) (hek : Ek w) : Calls Tryz.prog 9 #[trV T V S A L.length c, trV T' V' S' B M.length d] w fun r w' => r = .returned (.bool true) ∧ Below w.heap.size w w' := by
  have HW := Lib.hid (fun W (h : Ek W) => works_any W h)
  have HEK := Lib.hid hek
  obtain ⟨n, hn⟩ : ∃ n, n = L.length := ⟨_, rfl⟩
  obtain ⟨m, hm⟩ : ∃ n, n = M.length := ⟨_, rfl⟩
  rw [← hn] at hl0 h ⊢
  rw [← hm] at hm0 h ⊢
  unfold trV
  obtain ⟨wa, hwa⟩ : ∃ W, w.alloc (.cells #[.int .i64 T, .int .i64 V, .int .i64 S, .slice A n c] 25) = W := ⟨_, rfl⟩
  obtain ⟨wb, hwb⟩ : ∃ W, wa.alloc (.cells #[.int .i64 T', .int .i64 V', .int .i64 S', .slice B m d] 25) = W := ⟨_, rfl⟩
  have ba : Below w.heap.size w wa := by rw [← hwa]; exact (Below.refl _ _).alloc (Nat.le_refl _) _
  have bb : Below wa.heap.size wa wb := by rw [← hwb]; exact (Below.refl _ _).alloc (Nat.le_refl _) _
  obtain ⟨g2, hg2⟩ : ∃ g, g = w.heap.size := ⟨_, rfl⟩
  obtain ⟨g3, hg3⟩ : ∃ g, g = wa.heap.size := ⟨_, rfl⟩
  have h32 : g3 = g2 + 1 := by rw [hg3, ← hwa, hg2]; simp
  have R2 : Hid (wb.heap[g2]? = some (.cells #[.int .i64 T, .int .i64 V, .int .i64 S, .slice A n c] 25 (0, 0))) := by rw [hg2]; exact row_stays (by rw [← hwa]; exact heap_alloc_new w _) bb
  have R3 : Hid (wb.heap[g3]? = some (.cells #[.int .i64 T', .int .i64 V', .int .i64 S', .slice B m d] 25 (0, 0))) := by rw [hg3, ← hwb]; exact heap_alloc_new wa _
  have B0 : Hid (Below w.heap.size w wb) := ba.trans (bb.mono ba.size)
  rw [← hwa] at hwb
  have HWB := Lib.hid hwb
  have HG2 := Lib.hid hg2
  have HG3 := Lib.hid h32
  clear hek hwa hwb ba bb hg2 hg3 h32 hn hm
  by_cases hq : 2000 < n
  · have q1 : (2000 : Int) < (n : Int) := by omega
    clear h hq
    go_enter Tryz.func9, Tryz.ntmps9
    go_wp2_with fail
    rw [HWB.out, ← HG2.out, ← HG3.out]
    refine (HW.out wb (HEK.out.below B0.out)).mono ?_
    rintro _ w2 ⟨rfl, b2⟩
    have B2 := Lib.hid (B0.out.trans (b2.mono B0.out.size))
    have x0 := cell_of_row w2 g2 0 _ _ _ (row_stays R2.out b2)
    have x1 := cell_of_row w2 g2 1 _ _ _ (row_stays R2.out b2)
    have x2 := cell_of_row w2 g2 2 _ _ _ (row_stays R2.out b2)
    have x3 := cell_of_row w2 g2 3 _ _ _ (row_stays R2.out b2)
    have y0 := cell_of_row w2 g3 0 _ _ _ (row_stays R3.out b2)
    have y1 := cell_of_row w2 g3 1 _ _ _ (row_stays R3.out b2)
    have y2 := cell_of_row w2 g3 2 _ _ _ (row_stays R3.out b2)
    have y3 := cell_of_row w2 g3 3 _ _ _ (row_stays R3.out b2)
    simp only [List.getElem?_toArray, List.getElem?_cons_zero, List.getElem?_cons_succ] at x0 x1 x2 x3 y0 y1 y2 y3
    clear b2
    go_wp2_with fail
    refine (HW.out w2 (HEK.out.below B2.out)).mono ?_
    rintro _ w3 ⟨rfl, b3⟩
    clear x0 x1 x2 x3 y0 y1 y2 y3
    go_wp2_with fail
    go_ret
    exact ⟨rfl, by first | exact B2.out.trans (b3.mono B2.out.size) | (rw [HG2.out]; exact B2.out.trans (b3.mono B2.out.size))⟩
  · have q1 : ¬ (2000 : Int) < (n : Int) := by omega
    have q2 : (2000 : Int) < (m : Int) := by omega
    clear h hq
    go_enter Tryz.func9, Tryz.ntmps9
    go_wp2_with fail
    rw [HWB.out, ← HG2.out, ← HG3.out]
    refine (HW.out wb (HEK.out.below B0.out)).mono ?_
    rintro _ w2 ⟨rfl, b2⟩
    have B2 := Lib.hid (B0.out.trans (b2.mono B0.out.size))
    have x0 := cell_of_row w2 g2 0 _ _ _ (row_stays R2.out b2)
    have x1 := cell_of_row w2 g2 1 _ _ _ (row_stays R2.out b2)
    have x2 := cell_of_row w2 g2 2 _ _ _ (row_stays R2.out b2)
    have x3 := cell_of_row w2 g2 3 _ _ _ (row_stays R2.out b2)
    have y0 := cell_of_row w2 g3 0 _ _ _ (row_stays R3.out b2)
    have y1 := cell_of_row w2 g3 1 _ _ _ (row_stays R3.out b2)
    have y2 := cell_of_row w2 g3 2 _ _ _ (row_stays R3.out b2)
    have y3 := cell_of_row w2 g3 3 _ _ _ (row_stays R3.out b2)
    simp only [List.getElem?_toArray, List.getElem?_cons_zero, List.getElem?_cons_succ] at x0 x1 x2 x3 y0 y1 y2 y3
    clear b2
    go_wp2_with fail
    refine (HW.out w2 (HEK.out.below B2.out)).mono ?_
    rintro _ w3 ⟨rfl, b3⟩
    clear x0 x1 x2 x3 y0 y1 y2 y3
    go_wp2_with fail
    go_ret
    exact ⟨rfl, by first | exact B2.out.trans (b3.mono B2.out.size) | (rw [HG2.out]; exact B2.out.trans (b3.mono B2.out.size))⟩
set_option maxHeartbeats 4000000 in
theorem un_short (T V S : Int) (A : Option Addr) (L : List Ev) (c : Nat) (T' V' S' : Int) (B : Option Addr) (M : List Ev) (d : Nat) (hT : i64P T) (hV : i64P V) (hS : i64P S) (hT' : i64P T') (hV' : i64P V') (hS' : i64P S') (hl0 : L.length ≤ 2000) (hm0 : M.length ≤ 2000) (w : World) (hek : Ek w) (he : EvsAt w w.heap.size A L) (hf : EvsAt w w.heap.size B M) : Calls Tryz.prog 9 #[trV T V S A L.length c, trV T' V' S' B M.length d] w fun r w' => r = .returned (.bool true) ∧ Below w.heap.size w w' := by
  obtain ⟨e, hee⟩ : ∃ e, e = (checkF T V S L).2 := ⟨_, rfl⟩
  obtain ⟨f, hff⟩ : ∃ e, e = (checkF T' V' S' M).2 := ⟨_, rfl⟩
  obtain ⟨E, hE⟩ : ∃ E, E = encW T V S L := ⟨_, rfl⟩
  obtain ⟨F, hF⟩ : ∃ E, E = encW T' V' S' M := ⟨_, rfl⟩
  obtain ⟨R, hR⟩ : ∃ R, R = sameT T V S L T' V' S' M := ⟨_, rfl⟩
  have HL : Hid (e = 0 → f = 0 → (E.toList == F.toList) = R) := fun h1 h2 => by
    rw [hE, hF, hR]
    exact alike_enc (hee ▸ h1) (evs_mem he) (by omega) (hff ▸ h2) (evs_mem hf) (by omega)
  have HN1 : Hid (∀ W, Ek W → EvsAt W W.heap.size A L → Calls Tryz.prog 12 #[.agg #[.int .i64 T, .int .i64 V, .int .i64 S, .slice A L.length c]] W fun r w' => r = .returned (.tuple #[.string E, .int .i64 e]) ∧ Below W.heap.size W w') := fun W hW h => by
    rw [hE, hee]
    exact encode_any W hW T V S A L c hT hV hS (by omega) h
  have HN2 : Hid (∀ W, Ek W → EvsAt W W.heap.size B M → Calls Tryz.prog 12 #[.agg #[.int .i64 T', .int .i64 V', .int .i64 S', .slice B M.length d]] W fun r w' => r = .returned (.tuple #[.string F, .int .i64 f]) ∧ Below W.heap.size W w') := fun W hW h => by
    rw [hF, hff]
    exact encode_any W hW T' V' S' B M d hT' hV' hS' (by omega) h
  have HS1 : Hid (∀ W, EvsAt W W.heap.size A L → EvsAt W W.heap.size B M → Calls Tryz.prog 17 #[.agg #[.int .i64 T, .int .i64 V, .int .i64 S, .slice A L.length c], .agg #[.int .i64 T', .int .i64 V', .int .i64 S', .slice B M.length d]] W fun r w' => r = .returned (.bool R) ∧ Below W.heap.size W w') := fun W h1 h2 => by
    rw [hR]
    exact like_any T V S A L c T' V' S' B M d W h1 h2 (by omega)
  have HS2 : Hid (∀ W, EvsAt W W.heap.size A L → EvsAt W W.heap.size B M → Calls Tryz.prog 16 #[.agg #[.int .i64 T, .int .i64 V, .int .i64 S, .slice A L.length c], .agg #[.int .i64 T', .int .i64 V', .int .i64 S', .slice B M.length d]] W fun r w' => r = .returned (.bool R) ∧ Below W.heap.size W w') := fun W h1 h2 => by
    rw [hR]
    exact same_any T V S A L c T' V' S' B M d W h1 h2 (by omega)
  have HE1 := Lib.hid he
  have HE2 := Lib.hid hf
  clear hee hff hE hF hR hT hV hS hT' hV' hS' he hf
  have HW := Lib.hid (fun W (h : Ek W) => works_any W h)
  have HEK := Lib.hid hek
  obtain ⟨n, hn⟩ : ∃ n, n = L.length := ⟨_, rfl⟩
  obtain ⟨m, hm⟩ : ∃ n, n = M.length := ⟨_, rfl⟩
  rw [← hn] at hl0 HN1 HS1 HS2 ⊢
  rw [← hm] at hm0 HN2 HS1 HS2 ⊢
  unfold trV
  obtain ⟨wa, hwa⟩ : ∃ W, w.alloc (.cells #[.int .i64 T, .int .i64 V, .int .i64 S, .slice A n c] 25) = W := ⟨_, rfl⟩
  obtain ⟨wb, hwb⟩ : ∃ W, wa.alloc (.cells #[.int .i64 T', .int .i64 V', .int .i64 S', .slice B m d] 25) = W := ⟨_, rfl⟩
  have ba : Below w.heap.size w wa := by rw [← hwa]; exact (Below.refl _ _).alloc (Nat.le_refl _) _
  have bb : Below wa.heap.size wa wb := by rw [← hwb]; exact (Below.refl _ _).alloc (Nat.le_refl _) _
  obtain ⟨g2, hg2⟩ : ∃ g, g = w.heap.size := ⟨_, rfl⟩
  obtain ⟨g3, hg3⟩ : ∃ g, g = wa.heap.size := ⟨_, rfl⟩
  have h32 : g3 = g2 + 1 := by rw [hg3, ← hwa, hg2]; simp
  have R2 : Hid (wb.heap[g2]? = some (.cells #[.int .i64 T, .int .i64 V, .int .i64 S, .slice A n c] 25 (0, 0))) := by rw [hg2]; exact row_stays (by rw [← hwa]; exact heap_alloc_new w _) bb
  have R3 : Hid (wb.heap[g3]? = some (.cells #[.int .i64 T', .int .i64 V', .int .i64 S', .slice B m d] 25 (0, 0))) := by rw [hg3, ← hwb]; exact heap_alloc_new wa _
  have B0 : Hid (Below w.heap.size w wb) := ba.trans (bb.mono ba.size)
  rw [← hwa] at hwb
  have HWB := Lib.hid hwb
  have HG2 := Lib.hid hg2
  have HG3 := Lib.hid h32
  clear hek hwa hwb ba bb hg2 hg3 h32 hn hm
  have q1 : ¬ (2000 : Int) < (n : Int) := by omega
  have q2 : ¬ (2000 : Int) < (m : Int) := by omega
  go_enter Tryz.func9, Tryz.ntmps9
  go_wp2_with fail
  rw [HWB.out, ← HG2.out, ← HG3.out]
  refine (HW.out wb (HEK.out.below B0.out)).mono ?_
  rintro _ w2 ⟨rfl, b2⟩
  have B2 := Lib.hid (B0.out.trans (b2.mono B0.out.size))
  have Q2 := Lib.hid (row_stays R2.out b2)
  have Q3 := Lib.hid (row_stays R3.out b2)
  have x0 := cell_of_row w2 g2 0 _ _ _ Q2.out
  have x1 := cell_of_row w2 g2 1 _ _ _ Q2.out
  have x2 := cell_of_row w2 g2 2 _ _ _ Q2.out
  have x3 := cell_of_row w2 g2 3 _ _ _ Q2.out
  have y0 := cell_of_row w2 g3 0 _ _ _ Q3.out
  have y1 := cell_of_row w2 g3 1 _ _ _ Q3.out
  have y2 := cell_of_row w2 g3 2 _ _ _ Q3.out
  have y3 := cell_of_row w2 g3 3 _ _ _ Q3.out
  simp only [List.getElem?_toArray, List.getElem?_cons_zero, List.getElem?_cons_succ] at x0 x1 x2 x3 y0 y1 y2 y3
  clear b2 R2 R3 B0
  go_wp2_with fail
  refine (HN1.out w2 (HEK.out.below B2.out) ((HE1.out.below B2.out (Nat.le_refl _)).mono B2.out.size)).mono ?_
  rintro _ w3 ⟨rfl, b3⟩
  have B3 := Lib.hid (B2.out.trans (b3.mono B2.out.size))
  have P2 := Lib.hid (row_stays Q2.out b3)
  have P3 := Lib.hid (row_stays Q3.out b3)
  clear x0 x1 x2 x3 y0 y1 y2 y3 b3 q1 q2 Q2 Q3 B2
  have x0 := cell_of_row w3 g2 0 _ _ _ P2.out
  have x1 := cell_of_row w3 g2 1 _ _ _ P2.out
  have x2 := cell_of_row w3 g2 2 _ _ _ P2.out
  have x3 := cell_of_row w3 g2 3 _ _ _ P2.out
  have y0 := cell_of_row w3 g3 0 _ _ _ P3.out
  have y1 := cell_of_row w3 g3 1 _ _ _ P3.out
  have y2 := cell_of_row w3 g3 2 _ _ _ P3.out
  have y3 := cell_of_row w3 g3 3 _ _ _ P3.out
  simp only [List.getElem?_toArray, List.getElem?_cons_zero, List.getElem?_cons_succ] at x0 x1 x2 x3 y0 y1 y2 y3
  go_wp2_with fail
  refine (HN2.out w3 (HEK.out.below B3.out) ((HE2.out.below B3.out (Nat.le_refl _)).mono B3.out.size)).mono ?_
  rintro _ w4 ⟨rfl, b4⟩
  have B4 := Lib.hid (B3.out.trans (b4.mono B3.out.size))
  have O2 := Lib.hid (row_stays P2.out b4)
  have O3 := Lib.hid (row_stays P3.out b4)
  clear x0 x1 x2 x3 y0 y1 y2 y3 b4 P2 P3 B3
  go_wp2_with fail
  by_cases h1 : e = 0
  rotate_left
  · refine rgUnA rfl _ (by simp) _ e h1 rfl ?_
    intro w5 b5
    simp only [putAll, List.setIfInBounds_toArray, List.set_cons_succ, List.set_cons_zero]
    go_wp2_with fail
    go_ret
    exact ⟨rfl, B4.out.trans (b5.mono B4.out.size)⟩
  by_cases h2 : f = 0
  rotate_left
  · refine rgUnB rfl _ (by simp) _ e f h1 h2 rfl rfl ?_
    intro w5 b5
    simp only [putAll, List.setIfInBounds_toArray, List.set_cons_succ, List.set_cons_zero]
    go_wp2_with fail
    go_ret
    exact ⟨rfl, B4.out.trans (b5.mono B4.out.size)⟩
  refine rgUnC rfl _ (by simp) _ g2 g3 T V S n c A T' V' S' m d B e f E F R h1 h2 (HL.out h1 h2) O2.out O3.out (fun w5 b5 => ?_) (fun w5 b5 => ?_) rfl rfl rfl rfl rfl rfl ?_
  · have b := B4.out.trans (b5.mono B4.out.size)
    exact HS1.out w5 ((HE1.out.below b (Nat.le_refl _)).mono b.size) ((HE2.out.below b (Nat.le_refl _)).mono b.size)
  · have b := B4.out.trans (b5.mono B4.out.size)
    exact HS2.out w5 ((HE1.out.below b (Nat.le_refl _)).mono b.size) ((HE2.out.below b (Nat.le_refl _)).mono b.size)
  intro w5 b5
  simp only [putAll, List.setIfInBounds_toArray, List.set_cons_succ, List.set_cons_zero]
  go_wp2_with fail
  go_ret
  exact ⟨rfl, B4.out.trans (b5.mono B4.out.size)⟩
theorem un_walk (w : World) (hek : Ek w) (T V S : Int) (A : Option Addr) (L : List Ev) (c : Nat) (T' V' S' : Int) (B : Option Addr) (M : List Ev) (d : Nat) (hT : i64P T) (hV : i64P V) (hS : i64P S) (hT' : i64P T') (hV' : i64P V') (hS' : i64P S') (hl0 : L.length ≤ 9223372036854775807) (hm0 : M.length ≤ 9223372036854775807) (he : EvsAt w w.heap.size A L) (hf : EvsAt w w.heap.size B M) : Calls Tryz.prog 9 #[trV T V S A L.length c, trV T' V' S' B M.length d] w fun r w' => r = .returned (.bool true) ∧ Below w.heap.size w w' := by
  by_cases h : 2000 < L.length ∨ 2000 < M.length
  · exact un_long T V S A L c T' V' S' B M d hl0 hm0 h w hek
  · exact un_short T V S A L c T' V' S' B M d hT hV hS hT' hV' hS' (by omega) (by omega) w hek he hf
end Go.Proofs.YteigglhhnemngaaGreatDoor
