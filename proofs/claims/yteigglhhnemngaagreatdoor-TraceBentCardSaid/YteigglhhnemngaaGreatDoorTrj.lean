/-
  FOR THE LAWS OF LAYER 15: framed, one, back, works, no. Conditions: the table of names lies.
-/
import Derived.Test.YteigglhhnemngaaGreatDoorTri
namespace Go.Proofs.YteigglhhnemngaaGreatDoor
set_option maxRecDepth 100000
open Go.RowKit Go.Deep
set_option linter.unusedVariables false
set_option linter.unusedSimpArgs false
theorem wpList_load_row_g {P : Program} {w : World} {ops : Array Oper} {rest : List Oper} {o : Oper} {a : Act} {Q : Exit → Act → World → Prop} (ty : TypeId) (x : Operand) (ho : o.op = .load ty x)
    (g : Nat) (hx : a.eval x = .pointer (some ⟨g, 0, none⟩)) (t : TypeId) (cs : Array Value) (fr : Nat × Nat) (d : TypeDesc) (hg : w.heap[g]? = some (.cells cs t fr))
    (hu : P.underlying ty = some d) (hd : (match d with | .struct _ | .array _ _ => true | _ => false) = true) (hi : (P.info? ty).map (·.size) = some cs.size)
    (hw : Region.wanted o (yielded ops a.tmps) = true) (h : wpList P ops Q rest (a.put o.dst (.agg cs)) w) : wpList P ops Q (o :: rest) a w :=
  wpList_step fun K hK => by rw [if_pos hw]; exact wp_load_row ty x ho g hx t cs fr d hg hu hd hi (hK _ _ h)
theorem framedT (b : ByteArray) (h1 : b.size ≤ 16000000) (w : World) : Calls Tryz.prog 21 #[.string b] w fun e w' => e = .returned (.string (frameS b)) ∧ Below w.heap.size w w' := by
  have HW := Lib.hid (wrap_any b (by have := numS_le b.size; omega) w)
  go_enter Tryz.func21, Tryz.ntmps21
  go_wp2_with fail
  refine HW.out.mono ?_
  rintro _ w1 ⟨rfl, b1⟩
  go_wp2_with fail
  go_ret
  exact ⟨rfl, b1⟩
theorem enc_is {T V S : Int} {L : List Ev} (h0 : (checkF T V S L).2 = 0) (hok : ∀ e ∈ L, EvOk e) (hl : L.length ≤ 5000) : encW T V S L = frameS (bs (bodyB T V S L)) ∧ UnwIs (encW T V S L) (bs (bodyB T V S L)) 0 0 ∧ (bs (bodyB T V S L)).size ≤ 99999 ∧ ((bs (bodyB T V S L)).size + 4 ≤ (encW T V S L).size ∧ (encW T V S L).size ≤ 16777216) ∧ 4 ≤ (bs (bodyB T V S L)).size := by
  obtain ⟨hz, h2, hF⟩ := fine_iff.1 (check_zero h0)
  have hE : encW T V S L = frameS (bs (bodyB T V S L)) := by unfold encW; rw [if_pos h0]
  have hbl := body_len hz hF hok
  have hbs := bs_size (bodyB T V S L)
  have hfs := frame_size (bs (bodyB T V S L))
  have hns := numS_le (bs (bodyB T V S L)).size
  rw [hE]
  exact ⟨rfl, frame_back _ (by omega), by omega, by omega, by omega⟩
theorem decode_enc {T V S : Int} {L : List Ev} (h0 : (checkF T V S L).2 = 0) (hok : ∀ e ∈ L, EvOk e) (hl : L.length ≤ 5000) (w : World) (hek : Ek w) :
    Calls Tryz.prog 13 #[.string (encW T V S L)] w fun r w' => (∃ A c, r = .returned (.tuple #[trV T V S A L.length c, .int .i64 0, .int .i64 0]) ∧ EvsAt w' w'.heap.size A L) ∧ Below w.heap.size w w' := by
  obtain ⟨h1, h2, h3, h4, _⟩ := enc_is h0 hok hl
  obtain ⟨hz, hle, hF⟩ := fine_iff.1 (check_zero h0)
  obtain ⟨e1, e2, e3, e4, e5⟩ := wrR_told hz hle hF hok
  have h := decode_ok (encW T V S L) (bs (bodyB T V S L)) h2 h3 h4 e5 w hek
  rw [e1, e2, e3, e4] at h
  exact h
theorem back_yes {T V S : Int} {A : Option Addr} {L : List Ev} {c : Nat} (h0 : (checkF T V S L).2 = 0) (hT : i64P T) (hV : i64P V) (hS : i64P S) (hl : L.length ≤ 5000) (w : World) (hek : Ek w) (he : EvsAt w w.heap.size A L) :
    Calls Tryz.prog 20 #[trV T V S A L.length c] w fun r w' => r = .returned (.bool true) ∧ Below w.heap.size w w' := by
  obtain ⟨w1, hw1⟩ : ∃ W, w.alloc (.cells #[.int .i64 T, .int .i64 V, .int .i64 S, .slice A L.length c] 25) = W := ⟨_, rfl⟩
  have b1 : Below w.heap.size w w1 := by rw [← hw1]; exact (Below.refl _ _).alloc (Nat.le_refl _) _
  have r1 : w1.heap[w.heap.size]? = some (.cells #[.int .i64 T, .int .i64 V, .int .i64 S, .slice A L.length c] 25 (0, 0)) := by rw [← hw1]; exact heap_alloc_new w _
  have hEN := encode_any w1 (hek.below b1) T V S A L c hT hV hS (by omega) ((he.below b1 (Nat.le_refl _)).mono b1.size)
  rw [h0] at hEN
  have HDE := Lib.hid (fun W (h : Ek W) => decode_enc h0 (evs_mem he) hl W h)
  have HSM := Lib.hid (fun B d W (h1 : EvsAt W W.heap.size A L) (h2 : EvsAt W W.heap.size B L) => same_any T V S A L c T V S B L d W h1 h2 (by omega))
  have HE := Lib.hid he
  have HEK := Lib.hid hek
  have HW1 := Lib.hid hw1
  have B1 := Lib.hid b1
  have R1 := Lib.hid r1
  obtain ⟨E, hE⟩ : ∃ E, E = encW T V S L := ⟨_, rfl⟩
  rw [← hE] at hEN HDE
  have hst : sameT T V S L T V S L = true := decide_eq_true ⟨rfl, rfl, rfl, rfl⟩
  rw [hst] at HSM
  obtain ⟨n, hn⟩ : ∃ n, n = L.length := ⟨_, rfl⟩
  rw [← hn] at hEN HDE HSM HW1 R1 ⊢
  unfold trV at hEN HDE HSM ⊢
  have HEN := Lib.hid hEN
  clear hw1 b1 r1 hEN h0 hT hV hS hl hek he hE hst hn
  go_enter Tryz.func20, Tryz.ntmps20
  go_wp2_with fail
  rw [HW1.out]
  refine HEN.out.mono ?_
  rintro _ w2 ⟨rfl, b2⟩
  have R2 := Lib.hid (row_stays R1.out b2)
  have B2 := Lib.hid (B1.out.trans (b2.mono B1.out.size))
  clear b2 R1 B1 HEN
  go_wp2_with fail
  refine (HDE.out w2 (HEK.out.below B2.out)).mono ?_
  rintro _ w3 ⟨⟨A2, c2, rfl, hev⟩, b3⟩
  obtain ⟨w4, hw4⟩ : ∃ W, w3.alloc (.cells #[.int .i64 T, .int .i64 V, .int .i64 S, .slice A2 n c2] 25) = W := ⟨_, rfl⟩
  have b4 : Below w3.heap.size w3 w4 := by rw [← hw4]; exact (Below.refl _ _).alloc (Nat.le_refl _) _
  have r4 := row_stays (row_stays R2.out b3) b4
  have B4 := Lib.hid ((B2.out.trans (b3.mono B2.out.size)).trans (b4.mono (Nat.le_trans B2.out.size b3.size)))
  have HW4 := Lib.hid hw4
  have V4 := Lib.hid ((hev.below b4 (Nat.le_refl _)).mono b4.size)
  have E4 := Lib.hid ((HE.out.below B4.out (Nat.le_refl _)).mono B4.out.size)
  have r5 : w4.heap[w3.heap.size]? = some (.cells #[.int .i64 T, .int .i64 V, .int .i64 S, .slice A2 n c2] 25 (0, 0)) := by rw [← hw4]; exact heap_alloc_new w3 _
  have R4 := Lib.hid r4
  have R5 := Lib.hid r5
  clear hw4 b3 b4 hev r4 r5 B2 R2 HDE
  go_wp2_with (first
    | (rw [HW4.out]; refine wpList_load_row_g _ _ rfl w.heap.size rfl 25 #[.int .i64 T, .int .i64 V, .int .i64 S, .slice A n c] (0, 0) _ R4.out Tryz.underlying25 rfl (by kernel_rfl) (by kernel_rfl) ?_)
    | (refine wpList_load_row_g _ _ rfl w3.heap.size rfl 25 #[.int .i64 T, .int .i64 V, .int .i64 S, .slice A2 n c2] (0, 0) _ R5.out Tryz.underlying25 rfl (by kernel_rfl) (by kernel_rfl) ?_)
    | fail)
  refine (HSM.out A2 c2 w4 E4.out V4.out).mono ?_
  rintro _ w5 ⟨rfl, b5⟩
  go_wp2_with fail
  go_ret
  exact ⟨rfl, B4.out.trans (b5.mono B4.out.size)⟩
end Go.Proofs.YteigglhhnemngaaGreatDoor
