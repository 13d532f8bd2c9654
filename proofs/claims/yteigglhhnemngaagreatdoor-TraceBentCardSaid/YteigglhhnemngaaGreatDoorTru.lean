/-
  P15.4: TraceBent, any trace, place, bits and bytes behind. Conditions: the table of names lies.
-/
import Derived.Test.YteigglhhnemngaaGreatDoorTrt
import Derived.Test.YteigglhhnemngaaGreatDoorFy
namespace Go.Proofs.YteigglhhnemngaaGreatDoor
set_option maxRecDepth 100000
open Go.RowKit Go.Deep
set_option linter.unusedVariables false
set_option linter.unusedSimpArgs false
theorem decF_ok {T V S : Int} {L : List Ev} (h0 : (checkF T V S L).2 = 0) (hok : ∀ e ∈ L, EvOk e) (hl : L.length ≤ 5000) : DecF (encW T V S L) 0 := fun W hW =>
  (decode_enc h0 hok hl W hW).mono fun r w' h => by
    obtain ⟨⟨A, c, h1, _⟩, h2⟩ := h
    exact ⟨⟨_, _, _, _, _, _, _, h1⟩, h2⟩
theorem bent_walk (w : World) (hek : Ek w) (T V S : Int) (A : Option Addr) (L : List Ev) (c : Nat) (y x : Int) (beh : ByteArray) (hT : i64P T) (hV : i64P V) (hS : i64P S) (hl0 : L.length ≤ 9223372036854775807) (hs0 : beh.size ≤ 9223372036854775807) (hx : 0 ≤ x ∧ x < 4294967296) (he : EvsAt w w.heap.size A L) : Calls Tryz.prog 7 #[trV T V S A L.length c, .int .i64 y, .int .u32 x, .string beh] w fun r w' => r = .returned (.bool true) ∧ Below w.heap.size w w' := by
  by_cases h : 2000 < L.length ∨ 1000 < beh.size
  · exact bn_long T V S A L c y x beh hl0 hs0 h w hek
  have hl : L.length ≤ 2000 := by omega
  have hb : beh.size ≤ 1000 := by omega
  by_cases hck : (checkF T V S L).2 = 0
  rotate_left
  · exact bn_none T V S A L c y x beh hT hV hS hl hb hck w hek he
  obtain ⟨xn, rfl⟩ := Int.eq_ofNat_of_zero_le hx.1
  have hok := evs_mem he
  obtain ⟨hz, hle, hF⟩ := fine_iff.1 (check_zero hck)
  have hbl := body_len hz hF hok
  have hD0 := decF_ok hck hok (by omega)
  have hN : ∀ W, Ek W → EvsAt W W.heap.size A L → Calls Tryz.prog 12 #[.agg #[.int .i64 T, .int .i64 V, .int .i64 S, .slice A L.length c]] W fun r w' => r = .returned (.tuple #[.string (encW T V S L), .int .i64 0]) ∧ Below W.heap.size W w' := fun W hW h => by
    have h := encode_any W hW T V S A L c hT hV hS (by omega) h
    rw [hck] at h
    exact h
  obtain ⟨hE1, _⟩ := enc_is hck hok (by omega)
  rw [hE1] at hN hD0
  obtain ⟨b, hbb⟩ : ∃ b, b = bs (bodyB T V S L) := ⟨_, rfl⟩
  have hbs : b.size = (bodyB T V S L).length := by rw [hbb, bs_size]
  rw [← hbb] at hN hD0
  have hfs := frame_size b
  have hns := numS_le b.size
  have hsp := (spot15 y ((frameS b).size - (numS b.size).size) (by omega) (by omega)).2
  have hsp2 := (spot15 y (frameS b).size (by omega) (by omega)).2
  have hhead : ∀ j, j < (numS b.size).size → ∃ hs : j < (frameS b).size, (j + 1 < (numS b.size).size → (128 : Int) ≤ (((frameS b)[j]).toNat : Int)) ∧ (j + 1 = (numS b.size).size → (((frameS b)[j]).toNat : Int) < 128) := fun j hj => by
    obtain ⟨hs, h1, h2⟩ := frame_head b (by omega) j hj
    have hs2 : j < (frameS b).size := by rw [← bytes_length]; exact hs
    have e : (bytes (frameS b))[j] = (frameS b)[j] := by simp [bytes]; rfl
    refine ⟨hs2, fun h => ?_, fun h => ?_⟩
    · have h9 : 128 ≤ ((frameS b)[j]).toNat := Eq.mp (congrArg (fun u : UInt8 => 128 ≤ u.toNat) e) (h1 h)
      omega
    · have h9 : ((frameS b)[j]).toNat < 128 := Eq.mp (congrArg (fun u : UInt8 => u.toNat < 128) e) (h2 h)
      omega
  have hD2 : DecF ((frameS b).extract 0 (spotB15 y (frameS b).size)) 8 := by
    obtain ⟨p, hp⟩ := frame_pre b ((frameS b).extract 0 (spotB15 y (frameS b).size)) (spotB15 y (frameS b).size) (by omega) hsp2 (by rw [bytes_extract]; rfl)
    exact decF_bad (by decide) hp
  have hD3 : ∃ f3 : Int, DecF (frameS b ++ beh) f3 ∧ ((f3 = 0 ∧ beh = ⟨#[]⟩) ∨ (f3 = 10 ∧ beh ≠ ⟨#[]⟩)) := by
    by_cases hbe : beh = ⟨#[]⟩
    · refine ⟨0, ?_, .inl ⟨rfl, hbe⟩⟩
      have e : frameS b ++ beh = frameS b := bytes_inj (by rw [bytes_append, hbe]; exact List.append_nil _)
      rw [e]
      exact hD0
    · have hpos : 0 < beh.size := by
        rcases Nat.eq_zero_or_pos beh.size with h0 | h0
        · have hz : bytes beh = [] := List.eq_nil_of_length_eq_zero (by rw [bytes_length]; exact h0)
          exact absurd (bytes_inj (hz.trans rfl)) hbe
        · exact h0
      obtain ⟨p, hp⟩ := frame_behind b (frameS b ++ beh) beh hpos (bytes_append _ _) (by rw [ByteArray.size_append]; omega)
      exact ⟨10, decF_bad (by decide) hp, .inr ⟨rfl, hbe⟩⟩
  have hD1 : ∃ f1 : Int, DecF (bentS (frameS b) ((numS b.size).size + spotB15 y ((frameS b).size - (numS b.size).size)) xn) f1 ∧ ((f1 = 0 ∧ bentS (frameS b) ((numS b.size).size + spotB15 y ((frameS b).size - (numS b.size).size)) xn = frameS b) ∨ (f1 = 9 ∧ bentS (frameS b) ((numS b.size).size + spotB15 y ((frameS b).size - (numS b.size).size)) xn ≠ frameS b)) := by
    by_cases hB : bentS (frameS b) ((numS b.size).size + spotB15 y ((frameS b).size - (numS b.size).size)) xn = frameS b
    · exact ⟨0, by rw [hB]; exact hD0, .inl ⟨rfl, hB⟩⟩
    · exact ⟨9, decF_bad (by decide) (frame_bent b _ xn (by omega) (by omega) hB), .inr ⟨rfl, hB⟩⟩
  obtain ⟨f1, d1, e1⟩ := hD1
  obtain ⟨f3, d3, e3⟩ := hD3
  exact bn_main T V S A L c y xn beh hl hb (by omega) (frameS b) b.size (numS b.size).size (by omega) (by omega) (by omega) hhead hN f1 f3 d1 hD2 d3 e1 e3 w hek he
end Go.Proofs.YteigglhhnemngaaGreatDoor
