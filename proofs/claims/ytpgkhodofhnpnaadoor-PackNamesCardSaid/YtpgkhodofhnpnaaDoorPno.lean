/-
  STAGE 7's LAWS: no (what is refused, and where). Conditions: code's and pack's tables lie as they are laid.
-/
import Derived.Test.YtpgkhodofhnpnaaDoorPz
namespace Go.Proofs.YtpgkhodofhnpnaaDoor
set_option maxRecDepth 100000
open Go.RowKit
set_option linter.unusedVariables false
def suZ : Su := ⟨0, 0, 0, [], []⟩
theorem suZ_at (w : World) : SuAt w 0 0 14 none none suZ :=
  ⟨⟨by decide, fun k hk => absurd hk (by simp [suZ])⟩, fun k hk => absurd hk (by simp [suZ]), by decide, by decide, by decide, by decide, by decide, by decide, by decide⟩
set_option maxRecDepth 100000 in
set_option maxHeartbeats 2000000 in
theorem no_any (a : ByteArray) (h2 : a.size ≤ 30000) (p : Nat) (er : Int) (hp : pBody a.data.toList (okF 14) = .error (p, er)) (hp9 : p ≤ 40000) (w : World) (hkd : Kd w) (hpt : Pt w) :
    Calls Tryd.prog 10 #[.string a, .int .i64 p, .int .i64 er] w fun e w' => e = .returned (.bool true) ∧ Below w.heap.size w w' := by
  have hz10 := numS_size a.size
  have hpl := Vm.put_len a.size
  have hfs := frame_size a
  have HFR := Lib.hid (framed_any a (by omega))
  have HD := Lib.hid (fun (w1 : World) (b1 : Below w.heap.size w w1) => decode_any (frameS a) a (by omega) (frame_back _ (by omega)) w1 (hkd.below b1 (Nat.le_refl _)) (hpt.below b1 (Nat.le_refl _)))
  have HSM : Hid (∀ w1, Calls Tryd.prog 17 #[.agg #[.int .i64 0, .int .i64 0, .int .i64 0, .slice none 0 0, .slice none 0 0], .agg #[.int .i64 0, .int .i64 0, .int .i64 0, .slice none 0 0, .slice none 0 0]] w1 fun e w' => e = .returned (.bool true) ∧ Below w1.heap.size w1 w') := fun w1 => rsame6_any 14 suZ suZ none none none none 0 0 0 0 0 0 0 0 w1 (suZ_at w1) (suZ_at w1) (Nat.zero_le _) (Nat.zero_le _)
  obtain ⟨F, hF⟩ : ∃ F, F = frameS a := ⟨_, rfl⟩
  rw [← hF] at HFR HD hfs
  obtain ⟨hd, hhd⟩ : ∃ hd, hd = (numS a.size).size := ⟨_, rfl⟩
  rw [← hhd] at hfs
  have HDE : Hid (∀ w1 e w2, Dec7 a w1 e w2 → e = .returned (.tuple #[su00, .int .i64 ((hd : Int) + (p : Int)), .int .i64 er]) ∧ Below w1.heap.size w1 w2) := fun w1 e w2 h => by
    obtain ⟨b, hm⟩ := h
    rw [hp] at hm
    refine ⟨?_, b⟩
    rw [hhd, ← Int.natCast_add]
    exact hm
  have hsz : (F.size : Int) = (hd : Int) + a.size + 4 := by omega
  have hF10 : F.size ≤ 40000 := by omega
  have hd10 : (hd : Int) ≤ 10 := by omega
  have hp0 : (p : Int) ≤ 40000 := by omega
  clear hkd hpt hz10 hpl hfs hF hhd hp hp9
  go_enter Tryd.func10, Tryd.ntmps10
  go_wp2_with fail
  refine (HFR.out w).mono ?_
  rintro _ w2 ⟨rfl, b2⟩
  have B2 := Lib.hid b2
  clear b2
  go_wp2_with fail
  refine (HD.out w2 B2.out).mono ?_
  intro e w3 hd7
  obtain ⟨rfl, b3⟩ := HDE.out _ _ _ hd7
  have B3 := Lib.hid (B2.out.trans (b3.mono B2.out.size))
  unfold su00
  clear hd7 b3
  have hh : ((hd : Int) + (p : Int) == (hd : Int) + (a.size : Int) + 4 - (a.size : Int) - 4 + (p : Int)) = true := by simp; omega
  have hee : (er == er) = true := by simp
  go_wp2_with fail
  refine (HSM.out _).mono ?_
  rintro _ w4 ⟨rfl, b4⟩
  have B4 := Lib.hid ((B3.out.alloc B3.out.size (.cells #[.int .i64 0, .int .i64 0, .int .i64 0, .slice none 0 0, .slice none 0 0] 29)).trans (b4.mono (by have := B3.out.size; simp; omega)))
  clear b4
  go_wp2_with fail
  go_ret
  exact ⟨rfl, B4.out⟩
end Go.Proofs.YtpgkhodofhnpnaaDoor
