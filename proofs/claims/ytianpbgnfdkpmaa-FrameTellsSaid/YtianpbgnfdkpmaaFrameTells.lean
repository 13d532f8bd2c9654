/-
  FrameTells (P3.1): the sum of any bytes, their frame, and what any bytes are as a frame, and where they are wrong, are the document's: the statement holds for every input. Conditions: none beyond the statement's own (texts of at most 20000 bytes).
-/
import Derived.Test.YtianpbgnfdkpmaaFp
import Derived.Test.YtianpbgnfdkpmaaFw
import Derived.Test.YtianpbgnfdkpmaaLift
namespace Go.Proofs.Ytianpbgnfdkpmaa
open Go.ChangeShapes Go.WideShapes Go.ChangeAt Go.RowKit Go.ChangeMaps
set_option linter.unusedVariables false

set_option maxRecDepth 100000 in
theorem tells_long (s b : ByteArray) (h : 20000 < s.size ∨ 20000 < b.size) (w : World) :
    Calls Try.prog 4 #[.string s, .string b] w fun e w' => e = .returned (.bool true) ∧ Below w.heap.size w w' := by
  by_cases h1 : 20000 < s.size
  · clear h
    go_enter Try.func4, Try.ntmps4
    go_wp2_with fail
    go_ret
    exact ⟨rfl, Below.refl _ _⟩
  · have h2 : 20000 < b.size := by omega
    clear h
    go_enter Try.func4, Try.ntmps4
    go_wp2_with fail
    go_ret
    exact ⟨rfl, Below.refl _ _⟩

/-- The texts that are asked about. -/
def four4 (s a : ByteArray) : List ByteArray := [s, a, a ++ s, a.extract 0 (a.size / 2)]
theorem four4_cell (W : World) (s a : ByteArray) (k : Nat) (hk : k < (four4 s a).length) : (W.alloc (.cells #[.string s, .string a, .string (a ++ s), .string (a.extract 0 (a.size / 2))] 9)).cell? ⟨W.heap.size, k, none⟩ = some (.string (four4 s a)[k]) := by
  rw [cell_new]
  have : k < 4 := hk
  rcases (by omega : k = 0 ∨ k = 1 ∨ k = 2 ∨ k = 3) with rfl | rfl | rfl | rfl <;> rfl

set_option maxRecDepth 100000 in
theorem tells_short (s b : ByteArray) (h1 : s.size ≤ 20000) (h2 : b.size ≤ 20000) (w : World) :
    Calls Try.prog 4 #[.string s, .string b] w fun e w' => e = .returned (.bool true) ∧ Below w.heap.size w w' := by
  have hz := numS_le b.size
  have hf := frame_size b
  have HW := Lib.hid (wrap_any b (by omega))
  have HR := Lib.hid (rwrap_any b (by omega))
  have hF : (frameS b).size ≤ 20100 := by omega
  clear hf hz
  obtain ⟨a, ha⟩ : ∃ a, a = frameS b := ⟨_, rfl⟩
  rw [← ha] at HW HR hF
  clear ha
  go_enter Try.func4, Try.ntmps4
  go_wp2_with fail
  refine (HW.out _).mono ?_
  rintro e w1 ⟨rfl, b1⟩
  go_wp2_with fail
  refine (HR.out _).mono ?_
  rintro e w2 ⟨rfl, b2⟩
  go_wp2_with fail
  refine (Sum_any s (by omega) _).mono ?_
  rintro e w3 ⟨rfl, b3⟩
  go_wp2_with fail
  refine (rSum_any s (by omega) _).mono ?_
  rintro e w' ⟨rfl, rfl⟩
  have b12 := b1.trans (b2.mono b1.size)
  have b13 := b12.trans (b3.mono b12.size)
  clear b1 b2 b3 b12 HW HR
  have g1 : (0 : Int) ≤ (a.size : Int) / 2 := by omega
  have g2 : (a.size : Int) / 2 ≤ (a.size : Int) := by omega
  go_wp2_with fail
  have hcl := Lib.hid (four4_cell w3 s a)
  have hsz : Hid (∀ x ∈ four4 s a, x.size ≤ 16777216) := by
    intro x hx
    simp only [four4, List.mem_cons, List.not_mem_nil, or_false] at hx
    rcases hx with rfl | rfl | rfl | rfl
    · omega
    · omega
    · rw [ByteArray.size_append]; omega
    · rw [ByteArray.size_extract]; omega
  have z0 : w3.heap.size < (w3.alloc (.cells #[.string s, .string a, .string (a ++ s), .string (a.extract 0 (a.size / 2))] 9)).heap.size := by simp
  have b14 : Below w.heap.size w (w3.alloc (.cells #[.string s, .string a, .string (a ++ s), .string (a.extract 0 (a.size / 2))] 9)) := b13.alloc b13.size _
  obtain ⟨W, hW⟩ : ∃ W, W = w3.alloc (.cells #[.string s, .string a, .string (a ++ s), .string (a.extract 0 (a.size / 2))] 9) := ⟨_, rfl⟩
  have hcl2 : Hid (∀ k (hk : k < (four4 s a).length), W.cell? ⟨w3.heap.size, k, none⟩ = some (.string (four4 s a)[k])) := by rw [hW]; exact hcl.out
  rw [← hW] at z0 b14 ⊢
  clear hW hcl b13 g1 g2
  go_loopw [62] (fun i wr => ∃ k : Nat, k ≤ 4 ∧ i = .int .i64 k ∧ Below W.heap.size W wr) (fun i _ => 4 - (intOf i).toNat)
  case atStart => exact ⟨0, by omega, rfl, Below.refl _ _⟩
  case round =>
    obtain ⟨k, hk, rfl, hb⟩ := hrel
    by_cases hlt : k < 4
    · have hc : wr.cell? ⟨w3.heap.size, k, none⟩ = some (.string (four4 s a)[k]) := (hb.cell (p := ⟨w3.heap.size, k, none⟩) z0).trans (hcl2.out k hlt)
      obtain ⟨t, place, e0, hu, hr, -⟩ := told_any _ (hsz.out _ (List.getElem_mem (l := four4 s a) (n := k) hlt))
      obtain ⟨x, hx⟩ : ∃ x, x = (four4 s a)[k] := ⟨_, rfl⟩
      rw [← hx] at hc hu hr
      clear hx
      have HU := Lib.hid hu
      have HRR := Lib.hid hr
      clear hu hr
      go_wp2_with fail
      refine (HU.out _).mono ?_
      rintro e w5 ⟨rfl, b5⟩
      go_wp2_with fail
      refine (HRR.out _).mono ?_
      rintro e w6 ⟨rfl, b6⟩
      have b7 := b5.trans (b6.mono b5.size)
      clear b5 b6
      go_wp2_with fail
      go_roundw
      case rel => exact ⟨k + 1, by omega, by go_num, hb.trans (b7.mono hb.size)⟩
      case measure => simp [intOf]; omega
    · go_wp2_with fail
      go_ret
      exact ⟨rfl, b14.trans (hb.mono b14.size)⟩

theorem FrameTells_walk (s b : ByteArray) (h1 : s.size ≤ maxLen) (h2 : b.size ≤ maxLen) (w : World) :
    Calls Try.prog 4 #[.string s, .string b] w fun e w' => e = .returned (.bool true) ∧ Below w.heap.size w w' := by
  by_cases h : 20000 < s.size ∨ 20000 < b.size
  · exact tells_long s b h w
  · exact tells_short s b (by omega) (by omega) w

set_option maxRecDepth 100000 in
theorem FrameTells_lifted (os : Os) (started : os.Started) (H : Type) (enc : TypeId × Value → H) :
    ReturnsInHanded {} Try.checked os 4 .any (Rows.frameTellsSpec.pre6 enc Try.prog Try.f4 Rows.frameTellsRow.domain false) (Rows.frameTellsSpec.post enc Try.prog Try.f4 false true false false) := by
  refine returnsInHanded_of_change (C := Try.checked) lift_own started (by kernel_rfl) Try.func4
    (ChangeSpec.witness6 (enc := enc) (C := Try.checked) false ⟨#[], #[.string ⟨#[]⟩, .string ⟨#[]⟩], []⟩ 8 (by kernel_rfl) (by kernel_rfl) (by kernel_rfl) (by kernel_rfl)) ?_
  intro W base args ds gs before hval0 hW hcnd _
  have hval : ∀ (j : Nat) t v, Try.f4.params[j]? = some t → args[j]? = some v → Value.okWide Try.prog W .any base t v := hval0
  have hW' := hW
  obtain ⟨p, q, hA0, hV, rfl, hfz, hnd⟩ := hW
  have hA : DataW.TrodAll enc Try.prog W 0 (fun _ => true) true Try.f4.params.toList args.toList ds p := hA0
  rw [Try.params4] at hA hval
  obtain ⟨v0, vs0, d0, ds0, p0, q0, hargs, rfl, rfl, h0, r0⟩ := trodAll_cons hA
  obtain ⟨v1, vs1, d1, ds1, p1, q1, rfl, rfl, rfl, h1, r1⟩ := trodAll_cons r0
  obtain ⟨rfl, rfl, rfl⟩ := trodAll_nil r1
  obtain rfl : args = #[v0, v1] := by cases args; simp_all
  obtain ⟨rfl, rfl⟩ := trodVars_none hV
  obtain ⟨a0, rfl, rfl, rfl, w0⟩ := open_string Try.underlying9 (hval 0 9 v0 rfl rfl) h0
  obtain ⟨a1, rfl, rfl, rfl, w1⟩ := open_string Try.underlying9 (hval 1 9 v1 rfl rfl) h1
  clear hA0 hval0
  simp only [List.append_nil] at hW'
  refine (FrameTells_walk a0 a1 w0 w1 W).mono fun e W' ⟨he, hg⟩ => ?_
  subst he
  exact ⟨_, rfl, lift_post (pa := []) (pv := []) hW' (fun _ _ _ => (trodAll_cons_mk (shut_bool Try.underlying4 _) trodAll_mk0)) (fun sp _ => (trodAll_cons_mk (shut_string Try.underlying9 w0) (trodAll_cons_mk (shut_string Try.underlying9 w1) trodAll_mk0))) (fun _ _ => rfl) rfl
    hg (ok_one (by kernel_rfl) rfl (okWide_bool_mk Try.underlying4 _))⟩

/-- THE STATEMENT of FrameTells: for every input the call returns true, and each argument reads behind it as before. -/
theorem FrameTells_holds : Rows.FrameTellsSaid :=
  OpenClaim.holds_of_wide 4 Try.f4 rfl rfl rfl rfl rfl rfl rfl ⟨rfl, rfl, rfl, rfl, rfl⟩ rfl rfl rfl rfl rfl (by kernel_rfl) Try.func4 (by kernel_rfl)
    (of_decide_eq_true (by kernel_rfl)) (by unfold Func.isWrapper; first | (rw [if_pos (by decide +kernel)]; kernel_rfl) | (rw [if_neg (by decide +kernel)]; exact ⟨rfl, rfl⟩))
    (fun os started H enc _ => FrameTells_lifted os started H enc)
end Go.Proofs.Ytianpbgnfdkpmaa
