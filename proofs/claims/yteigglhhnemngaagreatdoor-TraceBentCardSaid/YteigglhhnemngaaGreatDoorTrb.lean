/-
  PACKAGE trace (layer 15): CONTRACT OF Encode. Conditions: the table of names lies; 100000 events at most.
-/
import Derived.Test.YteigglhhnemngaaGreatDoorTra
import Derived.Test.YteigglhhnemngaaGreatDoorQ13
import Derived.Test.YteigglhhnemngaaGreatDoorQ14
namespace Go.Proofs.YteigglhhnemngaaGreatDoor
set_option maxRecDepth 100000
open Go.RowKit Go.Deep
set_option linter.unusedVariables false
set_option linter.unusedSimpArgs false
def encW (T V S : Int) (L : List Ev) : ByteArray := if (checkF T V S L).2 = 0 then frameS (bs (bodyB T V S L)) else ⟨#[]⟩
theorem raw_fitsT {most : Int} {l b : List UInt8} (h : (l.length : Int) + b.length ≤ most) : rawE most l b = 0 ∧ rawL most l b = l ++ b := by
  unfold rawE rawL
  rw [if_pos h, if_pos h]
  exact ⟨rfl, rfl⟩
theorem writtenT {q : Cd} {l : List UInt8} {e : Ev} (h : mayT q e = true) (hf : (l.length : Int) + (evB q e).length ≤ 16777216) : wrE q 16777216 l e = 0 ∧ wrL q 16777216 l e = l ++ evB q e ∧ wrQ q 16777216 l e = knowQ q e := by
  obtain ⟨a, b⟩ := raw_fitsT hf
  unfold wrE wrL wrQ
  rw [if_pos h, if_pos h, if_pos ⟨h, a⟩, a, b]
  exact ⟨rfl, rfl, rfl⟩
def headN (T V S : Int) (n : Nat) : List Int := [T, V, S, (n : Int)]
theorem head_step {T V S : Int} {n k : Nat} {z : Int} (h : (headN T V S n)[k]? = some z) : putsL ((headN T V S n).take (k + 1)) = putsL ((headN T V S n).take k) ++ Vm.put z.toNat := by
  rw [List.take_add_one, h]
  simp [putsL]
theorem head_len (T V S : Int) (n k : Nat) : (putsL ((headN T V S n).take k)).length ≤ 40 := by
  have := putsL_len ((headN T V S n).take k)
  rw [List.length_take] at this
  have h4 : (headN T V S n).length = 4 := rfl
  omega
theorem okM_at {q : Cd} {L : List Ev} (h : okM q L) {j : Nat} (hj : j < L.length) : mayT (knM q (L.take j)) (nthE L j) = true := by
  have e := drop_nth hj
  have h2 : okM q (L.take j ++ L.drop j) := by rw [List.take_append_drop]; exact h
  have h3 := ((okM_app _ _ _).1 h2).2
  rw [e.1] at h3
  exact h3.1.1
theorem okM_take {q : Cd} {L : List Ev} (h : okM q L) (j : Nat) : okM q (L.take j) := by
  have h2 : okM q (L.take j ++ L.drop j) := by rw [List.take_append_drop]; exact h
  exact ((okM_app _ _ _).1 h2).1
theorem byM_step {q : Cd} {L : List Ev} {j : Nat} (hj : j < L.length) : byM q (L.take (j + 1)) = byM q (L.take j) ++ evB (knM q (L.take j)) (nthE L j) ∧ knM q (L.take (j + 1)) = knowQ (knM q (L.take j)) (nthE L j) := by
  have e := drop_nth hj
  rw [e.2, byM_app, knM_app]
  refine ⟨?_, rfl⟩
  simp [byM]
theorem fine_okM {T V S : Int} {L : List Ev} (hF : Fine T V S L) (hok : ∀ e ∈ L, EvOk e) : okM (newQ T V S) L := fineH_ok (init_inv S T) (relC_0 T V S) (fineH_0.2 hF) hok
theorem evs_mem {w : World} {B : Nat} {A : Option Addr} {L : List Ev} (he : EvsAt w B A L) : ∀ e ∈ L, EvOk e := fun e hm => by
  obtain ⟨i, hi, rfl⟩ := List.getElem_of_mem hm
  have h1 := he.ok hi
  have h2 := nthE_of hi
  rw [List.getElem?_eq_getElem hi] at h2
  rw [Option.some.inj h2]
  exact h1
theorem check_zero {T V S : Int} {L : List Ev} (h : (checkF T V S L).2 = 0) : checkF T V S L = (L.length, 0) := by
  by_cases h1 : size13 T V S = true
  · by_cases h2 : L.length ≤ 1048576
    · rcases check_cases T V S L h1 h2 with ⟨h3, _⟩ | ⟨j, e, _, _, _, h3⟩
      · exact h3
      · rw [h3] at h
        exact absurd h (by simp)
    · unfold checkF at h
      rw [if_neg (by rw [h1]; decide), if_pos (by omega)] at h
      exact absurd h (by decide)
  · unfold checkF at h
    rw [if_pos (by simpa using h1)] at h
    exact absurd h (by decide)
structure WT (w0 : World) (gt gw B : Nat) (cs : Array Value) (l : List UInt8) (w : World) : Prop where
  bel : Below w0.heap.size w0 w
  wr : Wr w B gw 16777216 l
  b : B ≤ w.heap.size
  row : w.heap[gt]? = some (.cells cs 25 (0, 0))
  n1 : w0.heap.size ≤ gt
  n2 : w0.heap.size ≤ gw
  n3 : gt < B
section
variable {w0 w w' : World} {gt gw B : Nat} {cs : Array Value} {l l' : List UInt8}
theorem WT.write (h : WT w0 gt gw B cs l w) (hw : Wr w' B gw 16777216 l') (f : Fr B gw w w') : WT w0 gt gw B cs l' w' := by
  obtain ⟨v, hv⟩ := h.wr
  exact ⟨h.bel.trans (f.below (Nat.le_of_lt (Nat.lt_of_le_of_lt h.n1 h.n3)) h.n2 h.bel.size), hw, Nat.le_trans h.b f.size, Obj.fr (t := 25) h.row f (Obj.unlike (w := w) (g := gt) (t := 25) h.row hv.1 (by decide)) h.n3, h.n1, h.n2, h.n3⟩
theorem WT.at' (h : WT w0 gt gw B cs l w) (j : Nat) : w.cell? ⟨gt, j, none⟩ = cs[j]? := cell_of_row w gt j _ _ _ h.row
end
theorem u64_nat {T : Int} (h : 0 ≤ T ∧ T ≤ 1000000) : IntKind.u64.wrap T = ((T.toNat : Nat) : Int) := by rw [IntKind.wrap_u64]; omega
set_option maxHeartbeats 8000000 in
theorem encode_any (w : World) (hek : Ek w) (T V S : Int) (A : Option Addr) (L : List Ev) (c : Nat) (hT : i64P T) (hV : i64P V) (hS : i64P S) (hl : L.length ≤ 100000) (he : EvsAt w w.heap.size A L) :
    Calls Tryz.prog 12 #[trV T V S A L.length c] w fun r w' => r = .returned (.tuple #[.string (encW T V S L), .int .i64 (checkF T V S L).2]) ∧ Below w.heap.size w w' := by
  have hB : Hid (Below w.heap.size w (w.alloc (.cells #[.int .i64 T, .int .i64 V, .int .i64 S, .slice A L.length c] 25))) := (Below.refl _ _).alloc (Nat.le_refl _) _
  have hR : Hid ((w.alloc (.cells #[.int .i64 T, .int .i64 V, .int .i64 S, .slice A L.length c] 25)).heap[w.heap.size]? = some (.cells #[.int .i64 T, .int .i64 V, .int .i64 S, .slice A L.length c] 25 (0, 0))) := heap_alloc_new w _
  have hCK := check_any13 (w.alloc (.cells #[.int .i64 T, .int .i64 V, .int .i64 S, .slice A L.length c] 25)) (hek.below hB.out) T V S A L c hT hV hS hl ((he.below hB.out (Nat.le_refl _)).mono hB.out.size)
  obtain ⟨p0, hp0⟩ : ∃ p0, p0 = (checkF T V S L).1 := ⟨_, rfl⟩
  rw [← hp0] at hCK
  clear hp0
  unfold trV at hCK ⊢
  by_cases h0 : (checkF T V S L).2 = 0
  rotate_left
  · have hE : encW T V S L = ⟨#[]⟩ := by unfold encW; rw [if_neg h0]
    rw [hE]
    have HCK := Lib.hid hCK
    clear hCK
    generalize (checkF T V S L).2 = e0 at *
    have q0 : (e0 != 0) = true := bne_iff_ne.2 h0
    clear h0 hE he hek hT hV hS hl
    generalize L.length = n at *
    go_enter Tryz.func12, Tryz.ntmps12
    go_wp2_with fail
    refine HCK.out.mono ?_
    rintro _ w2 ⟨rfl, b2⟩
    have B2 := Lib.hid (hB.out.trans (b2.mono hB.out.size))
    clear b2
    go_wp2_with fail
    go_ret2
    exact ⟨rfl, B2.out⟩
  · obtain ⟨hz, h2, hF⟩ := fine_iff.1 (check_zero h0)
    have hok := evs_mem he
    have hM := fine_okM hF hok
    have hbl := body_len hz hF hok
    have hE : encW T V S L = frameS (bs (bodyB T V S L)) := by unfold encW; rw [if_pos h0]
    rw [hE, h0]
    rw [h0] at hCK
    have HCK := Lib.hid hCK
    have HWR : Hid (∀ W, Calls Tryz.prog 27 #[.string (bs (bodyB T V S L))] W fun e w' => e = .returned (.tuple #[.string (frameS (bs (bodyB T V S L))), .int .i64 0]) ∧ Below W.heap.size W w') := fun W => wrap_any _ (by have h9 := numS_le (bs (bodyB T V S L)).size; rw [bs_size] at h9 ⊢; omega) W
    obtain ⟨FR, hFR⟩ : ∃ FR, FR = frameS (bs (bodyB T V S L)) := ⟨_, rfl⟩
    rw [← hFR] at HWR ⊢
    have hz' := hz
    simp only [size13, Bool.and_eq_true, decide_eq_true_eq] at hz'
    obtain ⟨⟨⟨t0, t1⟩, v0, v1⟩, s0, s1⟩ := hz'
    obtain ⟨n, hn⟩ : ∃ n, n = L.length := ⟨_, rfl⟩
    have HN := Lib.hid hn
    have HM := Lib.hid hM
    have HE := Lib.hid he
    have HEK := Lib.hid hek
    have hnil : sizeD T V S = false → n = 0 := fun x => by
      rw [hn]
      apply Classical.byContradiction
      intro y
      have := size_fine hz hF (fun z => y (by rw [z]; rfl))
      rw [x] at this
      cases this
    have HNIL := Lib.hid hnil
    have HQ : Hid (sizeD T V S = true → CdOk (newQ T V S)) := fun x => newQ_ok x
    have HBL : Hid (∀ j, j ≤ n → sizeD T V S = true → (headB T V S n ++ byM (newQ T V S) (L.take j)).length ≤ 40 + 12 * j) := fun j hj hd => by
      have h1 := head_len T V S n 4
      have h2 := byM_small (newQ_ok hd) (okM_take hM j)
      rw [List.length_take] at h2
      have e4 : (headN T V S n).take 4 = headN T V S n := rfl
      rw [e4] at h1
      rw [List.length_append]
      show (putsL (headN T V S n)).length + _ ≤ _
      omega
    have hbody : bodyB T V S L = headB T V S n ++ byM (newQ T V S) L := by unfold bodyB; rw [hn]
    rw [hbody] at HWR
    rw [← hn] at hl hCK HCK hR hB ⊢
    have u1 := u64_nat (T := T) (by omega)
    have u2 := u64_nat (T := V) (by omega)
    have u3 := u64_nat (T := S) (by omega)
    have u4 := u64_nat (T := (n : Int)) (by omega)
    rw [Int.toNat_natCast] at u4
    obtain ⟨tn, htn⟩ : ∃ t : Nat, t = T.toNat := ⟨_, rfl⟩
    obtain ⟨vn, hvn⟩ : ∃ t : Nat, t = V.toNat := ⟨_, rfl⟩
    obtain ⟨sn, hsn⟩ : ∃ t : Nat, t = S.toNat := ⟨_, rfl⟩
    rw [← htn] at u1
    rw [← hvn] at u2
    rw [← hsn] at u3
    have HTN := Lib.hid htn
    have HVN := Lib.hid hvn
    have HSN := Lib.hid hsn
    clear htn hvn hsn
    clear hCK h0 hz h2 hF hok hM hbl hE hFR hn hnil he hek hT hV hS hbody
    go_enter Tryz.func12, Tryz.ntmps12
    go_wp2_with fail
    refine HCK.out.mono ?_
    rintro _ w2 ⟨rfl, b2⟩
    have B2 := Lib.hid (hB.out.trans (b2.mono hB.out.size))
    have R2 := Lib.hid (row_stays hR.out b2)
    clear b2 hB hR HCK
    go_wp2_with fail
    refine (new_writer 16777216 (by decide) (by decide) w2).mono ?_
    rintro _ w3 ⟨rfl, h3⟩
    have b3 : Below w2.heap.size w2 w3 := by rw [h3]; exact (Below.refl _ _).alloc (Nat.le_refl _) _
    have wr3 : Wr w3 (w2.heap.size + 1) w2.heap.size 16777216 [] := by rw [h3]; exact wr_new 16777216 (by decide) (by decide) w2
    have z3 : w2.heap.size + 1 ≤ w3.heap.size := by rw [h3]; simp
    have l2 : w.heap.size < w2.heap.size := (Array.getElem?_eq_some_iff.1 R2.out).1
    obtain ⟨gt, hgt⟩ : ∃ g, g = w.heap.size := ⟨_, rfl⟩
    obtain ⟨gw, hgw⟩ : ∃ g, g = w2.heap.size := ⟨_, rfl⟩
    have r3 := row_stays R2.out b3
    rw [← hgt] at r3
    rw [← hgw] at wr3 z3
    have W3 : Hid (WT w gt gw (gw + 1) #[.int .i64 T, .int .i64 V, .int .i64 S, .slice A n c] (putsL ((headN T V S n).take 0)) w3) := ⟨B2.out.trans (b3.mono B2.out.size), wr3, z3, r3, by omega, by omega, by omega⟩
    rw [← hgt, ← hgw]
    clear h3 b3 wr3 z3 l2 hgt hgw r3 B2 R2
    have x0 := W3.out.at' 0
    have x1 := W3.out.at' 1
    have x2 := W3.out.at' 2
    have x3 := W3.out.at' 3
    simp only [List.getElem?_toArray, List.getElem?_cons_zero, List.getElem?_cons_succ] at x0 x1 x2 x3
    go_wp2_with fail
    clear x0 x1 x2 x3
    go_loopw [37] (fun iv wy => ∃ (k : Nat), k ≤ 4 ∧ iv = .int .i64 k ∧ Hid (WT w gt gw (gw + 1) #[.int .i64 T, .int .i64 V, .int .i64 S, .slice A n c] (putsL ((headN T V S n).take k)) wy)) (fun iv _ => 4 - (intOf iv).toNat)
    case atStart => exact ⟨0, by omega, rfl, W3⟩
    case round =>
      obtain ⟨k, hk, rfl, hA⟩ := hrel
      by_cases hk4 : k < 4
      · have hcase : k = 0 ∨ k = 1 ∨ k = 2 ∨ k = 3 := by omega
        clear hk hk4
        rcases hcase with rfl | hcase
        · have hix : ∀ W, (Instr.index 54 (.agg #[.int .i64 T, .int .i64 V, .int .i64 S, .int .i64 (n : Int)]) (.int .i64 0)).run Tryz.prog W = .ok (.int .i64 T) W := fun W => by kernel_rfl
          have hst := head_step (T := T) (V := V) (S := S) (n := n) (k := 0) (z := T) rfl
          have hln := head_len T V S n 0
          have hp := put10 (T).toNat
          obtain ⟨r1, r2⟩ := raw_fitsT (most := 16777216) (l := putsL ((headN T V S n).take 0)) (b := Vm.put (T).toNat) (by omega)
          rw [← hst] at r2
          have hNUM := num_w (gw + 1) gw 16777216 _ (T).toNat (by omega) _ hA.out.wr hA.out.b _ _ r2 r1
          rw [← HTN.out] at hNUM
          have HNUM := Lib.hid hNUM
          clear hst hln hp r1 r2 hNUM
          go_wp2_with fail
          refine HNUM.out.mono ?_
          rintro _ w7 ⟨rfl, hw7, f7⟩
          have A7 := Lib.hid (hA.out.write hw7 f7)
          clear hw7 f7 HNUM
          go_wp2_with fail
          refine ⟨?_, ?measure⟩
          · exact ⟨1, by omega, by go_num, A7⟩
          case measure => simp [intOf]
        rcases hcase with rfl | hcase
        · have hix : ∀ W, (Instr.index 54 (.agg #[.int .i64 T, .int .i64 V, .int .i64 S, .int .i64 (n : Int)]) (.int .i64 1)).run Tryz.prog W = .ok (.int .i64 V) W := fun W => by kernel_rfl
          have hst := head_step (T := T) (V := V) (S := S) (n := n) (k := 1) (z := V) rfl
          have hln := head_len T V S n 1
          have hp := put10 (V).toNat
          obtain ⟨r1, r2⟩ := raw_fitsT (most := 16777216) (l := putsL ((headN T V S n).take 1)) (b := Vm.put (V).toNat) (by omega)
          rw [← hst] at r2
          have hNUM := num_w (gw + 1) gw 16777216 _ (V).toNat (by omega) _ hA.out.wr hA.out.b _ _ r2 r1
          rw [← HVN.out] at hNUM
          have HNUM := Lib.hid hNUM
          clear hst hln hp r1 r2 hNUM
          go_wp2_with fail
          refine HNUM.out.mono ?_
          rintro _ w7 ⟨rfl, hw7, f7⟩
          have A7 := Lib.hid (hA.out.write hw7 f7)
          clear hw7 f7 HNUM
          go_wp2_with fail
          refine ⟨?_, ?measure⟩
          · exact ⟨2, by omega, by go_num, A7⟩
          case measure => simp [intOf]
        rcases hcase with rfl | hcase
        · have hix : ∀ W, (Instr.index 54 (.agg #[.int .i64 T, .int .i64 V, .int .i64 S, .int .i64 (n : Int)]) (.int .i64 2)).run Tryz.prog W = .ok (.int .i64 S) W := fun W => by kernel_rfl
          have hst := head_step (T := T) (V := V) (S := S) (n := n) (k := 2) (z := S) rfl
          have hln := head_len T V S n 2
          have hp := put10 (S).toNat
          obtain ⟨r1, r2⟩ := raw_fitsT (most := 16777216) (l := putsL ((headN T V S n).take 2)) (b := Vm.put (S).toNat) (by omega)
          rw [← hst] at r2
          have hNUM := num_w (gw + 1) gw 16777216 _ (S).toNat (by omega) _ hA.out.wr hA.out.b _ _ r2 r1
          rw [← HSN.out] at hNUM
          have HNUM := Lib.hid hNUM
          clear hst hln hp r1 r2 hNUM
          go_wp2_with fail
          refine HNUM.out.mono ?_
          rintro _ w7 ⟨rfl, hw7, f7⟩
          have A7 := Lib.hid (hA.out.write hw7 f7)
          clear hw7 f7 HNUM
          go_wp2_with fail
          refine ⟨?_, ?measure⟩
          · exact ⟨3, by omega, by go_num, A7⟩
          case measure => simp [intOf]
        subst hcase
        have hix : ∀ W, (Instr.index 54 (.agg #[.int .i64 T, .int .i64 V, .int .i64 S, .int .i64 (n : Int)]) (.int .i64 3)).run Tryz.prog W = .ok (.int .i64 (n : Int)) W := fun W => by kernel_rfl
        have hst := head_step (T := T) (V := V) (S := S) (n := n) (k := 3) (z := (n : Int)) rfl
        have hln := head_len T V S n 3
        have hp := put10 ((n : Int)).toNat
        obtain ⟨r1, r2⟩ := raw_fitsT (most := 16777216) (l := putsL ((headN T V S n).take 3)) (b := Vm.put ((n : Int)).toNat) (by omega)
        rw [← hst] at r2
        have hNUM := num_w (gw + 1) gw 16777216 _ ((n : Int)).toNat (by omega) _ hA.out.wr hA.out.b _ _ r2 r1
        rw [Int.toNat_natCast] at hNUM
        have HNUM := Lib.hid hNUM
        clear hst hln hp r1 r2 hNUM
        go_wp2_with fail
        refine HNUM.out.mono ?_
        rintro _ w7 ⟨rfl, hw7, f7⟩
        have A7 := Lib.hid (hA.out.write hw7 f7)
        clear hw7 f7 HNUM
        go_wp2_with fail
        refine ⟨?_, ?measure⟩
        · exact ⟨4, by omega, by go_num, A7⟩
        case measure => simp [intOf]
      · obtain rfl : k = 4 := by omega
        clear hk hk4 u1 u2 u3 u4
        have hA4 : Hid (WT w gt gw (gw + 1) #[.int .i64 T, .int .i64 V, .int .i64 S, .slice A n c] (headB T V S n) wr) := hA.out
        clear hA
        obtain ⟨wa, hwa⟩ : ∃ wa, wr = wa := ⟨_, rfl⟩
        rw [hwa] at hA4 ⊢
        clear hwa
        have x0 := hA4.out.at' 0
        have x1 := hA4.out.at' 1
        have x2 := hA4.out.at' 2
        simp only [List.getElem?_toArray, List.getElem?_cons_zero, List.getElem?_cons_succ] at x0 x1 x2
        by_cases hd : sizeD T V S = true
        · have HNY := Lib.hid (new_yesD T V S hd wa)
          have HQ0 := Lib.hid (HQ.out hd)
          have HBL2 : Hid (∀ j, j ≤ n → (headB T V S n ++ byM (newQ T V S) (L.take j)).length ≤ 40 + 12 * j) := fun j hj => HBL.out j hj hd
          clear hd HNIL HQ HBL t0 t1 v0 v1 s0 s1
          go_wp2_with fail
          refine HNY.out.mono ?_
          rintro _ w5 ⟨rfl, h5⟩
          have b5 : Below wa.heap.size wa w5 := by rw [h5]; exact (Below.refl _ _).alloc (Nat.le_refl _) _
          have c5 : CodAt w5 wa.heap.size (newQ T V S) := by rw [h5]; exact heap_alloc_new wa _
          obtain ⟨gc, hgc⟩ : ∃ g, g = wa.heap.size := ⟨_, rfl⟩
          have C5 : Hid (CW w gc gw (gw + 1) 16777216 (newQ T V S) (headB T V S n ++ byM (newQ T V S) (L.take 0)) w5) := by
            rw [hgc, List.take_zero]
            have e0 : headB T V S n ++ byM (newQ T V S) [] = headB T V S n := List.append_nil _
            rw [e0]
            exact ⟨c5, hA4.out.wr.below b5 (Nat.le_refl _), Nat.le_trans hA4.out.b b5.size, hA4.out.bel.trans (b5.mono hA4.out.bel.size), HQ0.out, hA4.out.bel.size, hA4.out.n2, Nat.le_succ_of_le hA4.out.n2⟩
          have x3 := cell_of_row w5 gt 3 _ _ _ (row_stays hA4.out.row b5)
          simp only [List.getElem?_toArray, List.getElem?_cons_zero, List.getElem?_cons_succ] at x3
          rw [← hgc]
          clear h5 b5 c5 hgc x0 x1 x2 HNY hA4 HQ0
          go_wp2_with fail
          clear x3
          go_loopw [58] (fun iv wz => ∃ (j : Nat), j ≤ n ∧ iv = .int .i64 j ∧ Hid (CW w gc gw (gw + 1) 16777216 (knM (newQ T V S) (L.take j)) (headB T V S n ++ byM (newQ T V S) (L.take j)) wz)) (fun iv _ => n - (intOf iv).toNat)
          case atStart => exact ⟨0, by omega, rfl, C5⟩
          case round =>
            obtain ⟨j, hj, rfl, hC⟩ := hrel
            by_cases hjn : j < n
            · have hjL : j < L.length := by rw [← HN.out]; exact hjn
              obtain ⟨a0, rfl, ha0, hev⟩ := HE.out j hjL
              have hev := hev.below hC.out.bel (by rw [add_blockO] at *; exact ha0)
              have hmt := okM_at HM.out hjL
              obtain ⟨y1, y2⟩ := byM_step (q := newQ T V S) hjL
              have hlen := HBL2.out j hj
              have hsm := evB_small hC.out.ok hmt
              obtain ⟨e1, e2, e3⟩ := writtenT (l := headB T V S n ++ byM (newQ T V S) (L.take j)) hmt (by omega)
              have ok := hev.ok
              obtain ⟨c0, c1, c2, c3, c4, c5, c6, _⟩ := hev
              generalize nthE L j = e at *
              have HEV : Hid (evV e = .agg #[.int .u8 e.kd, .int .i64 e.th, .int .i64 e.tx, .int .i64 e.pl, .int .i64 e.v, .int .i64 e.x, .int .u8 e.why]) := rfl
              have HW : Hid (∀ W, CW w gc gw (gw + 1) 16777216 (knM (newQ T V S) (L.take j)) (headB T V S n ++ byM (newQ T V S) (L.take j)) W → Calls Tryz.prog 26 #[.pointer (some ⟨gc, 0, none⟩), .pointer (some ⟨gw, 0, none⟩), .agg #[.int .u8 e.kd, .int .i64 e.th, .int .i64 e.tx, .int .i64 e.pl, .int .i64 e.v, .int .i64 e.x, .int .u8 e.why]] W fun r w' => r = .returned (.int .i64 0) ∧ CW w gc gw (gw + 1) 16777216 (knM (newQ T V S) (L.take (j + 1))) (headB T V S n ++ byM (newQ T V S) (L.take (j + 1))) w') := fun W hW => by
                have h9 := write_cw HEK.out hW e ok
                rw [e1, e2, e3, ← y2, List.append_assoc, ← y1, HEV.out] at h9
                exact h9.mono fun r w' h => ⟨h.1, h.2.1⟩
              have i1 : (j : Int) < (n : Int) := by omega
              have i2 : (0 : Int) ≤ (j : Int) := by omega
              clear hmt y1 y2 hlen hsm e1 e2 e3 ok ha0 hjL
              have CA : Hid (CW w gc gw (gw + 1) 16777216 (knM (newQ T V S) (L.take j)) (headB T V S n ++ byM (newQ T V S) (L.take j)) (wr.alloc (.cells #[.int .u8 e.kd, .int .i64 e.th, .int .i64 e.tx, .int .i64 e.pl, .int .i64 e.v, .int .i64 e.x, .int .u8 e.why] 50))) := hC.out.below ((Below.refl _ _).alloc (Nat.le_refl _) _)
              go_wp2_with fail
              refine (HW.out _ CA.out).mono ?_
              rintro _ w8 ⟨rfl, c8⟩
              have C8 := Lib.hid c8
              clear c8 HW CA c0 c1 c2 c3 c4 c5 c6
              go_wp2_with fail
              refine ⟨?_, ?measure⟩
              · exact ⟨j + 1, by omega, by go_num, C8⟩
              case measure => simp [intOf]; omega
            · obtain rfl : j = n := by omega
              have htk : L.take j = L := by rw [HN.out, List.take_length]
              have hC2 := hC.out
              rw [htk] at hC2
              have HTX := Lib.hid (text_w (gw + 1) gw 16777216 _ wr hC2.wr _ rfl)
              have HB2 := Lib.hid hC2.bel
              clear htk hC hC2
              go_wp2_with fail
              refine HTX.out.mono ?_
              rintro _ w9 ⟨rfl, rfl⟩
              go_wp2_with fail
              refine (HWR.out _).mono ?_
              rintro _ w9 ⟨rfl, b9⟩
              go_wp2_with fail
              go_ret2
              exact ⟨rfl, HB2.out.trans (b9.mono HB2.out.size)⟩
        · have hd : sizeD T V S = false := by simpa using hd
          obtain rfl := HNIL.out hd
          have hLn : L = [] := List.eq_nil_of_length_eq_zero HN.out.symm
          have HNO := Lib.hid (new_noD T V S hd wa)
          have HWR2 : Hid (∀ W, Calls Tryz.prog 27 #[.string (bs (headB T V S 0))] W fun e w' => e = .returned (.tuple #[.string FR, .int .i64 0]) ∧ Below W.heap.size W w') := fun W => by
            have h9 := HWR.out W
            rw [hLn] at h9
            have e0 : headB T V S 0 ++ byM (newQ T V S) [] = headB T V S 0 := List.append_nil _
            rw [e0] at h9
            exact h9
          have HTX := Lib.hid (text_w (gw + 1) gw 16777216 _ wa hA4.out.wr _ rfl)
          have HB2 := Lib.hid hA4.out.bel
          have x3 := hA4.out.at' 3
          simp only [List.getElem?_toArray, List.getElem?_cons_zero, List.getElem?_cons_succ] at x3
          clear hd HNIL HQ HBL t0 t1 v0 v1 s0 s1 hLn hA4
          go_wp2_with fail
          refine HNO.out.mono ?_
          rintro _ w5 ⟨rfl, rfl⟩
          go_wp2_with fail
          clear x0 x1 x2 x3
          go_loopw [58] (fun iv wz => iv = .int .i64 0 ∧ wz = wa) (fun iv _ => 0)
          case atStart => exact ⟨rfl, rfl⟩
          case round =>
            obtain ⟨rfl, rfl⟩ := hrel
            go_wp2_with fail
            refine HTX.out.mono ?_
            rintro _ w9 ⟨rfl, rfl⟩
            go_wp2_with fail
            refine (HWR2.out _).mono ?_
            rintro _ w9 ⟨rfl, b9⟩
            go_wp2_with fail
            go_ret2
            exact ⟨rfl, HB2.out.trans (b9.mono HB2.out.size)⟩
end Go.Proofs.YteigglhhnemngaaGreatDoor
