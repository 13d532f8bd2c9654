/-
  BufferPlays: for every input the call returns true, and each argument reads behind it as before. No condition. (Whatever is put, in whatever levels, each answer is the document's, and what is written; a copy goes its own way.)
-/
import Derived.Test.YtmjcipojidimgaaMk
import Derived.BigQuiet
import Derived.Deep.DeepCutAuto
import Derived.Deep.CutBlock
import Derived.Deep.RegionHeld3
namespace Go.Proofs.Ytmjcipojidimgaa
set_option maxRecDepth 100000
open Go.RowKit Go.Maps Go.Shelf
open Go.ChangeShapes Go.WideShapes Go.Deep
set_option linter.unusedVariables false
set_option maxRecDepth 100000 in
set_option maxHeartbeats 4000000 in
theorem plays_big (A0 : Option Addr) (c0 : Nat) (L0 : List St8) (hl0 : L0.length ≤ 9223372036854775807) (h : 300 < L0.length) (w : World) :
    Calls Try.prog 3 #[.slice A0 L0.length c0] w fun e w' => e = .returned (.bool true) ∧ Below w.heap.size w w' := by
  have i0 : (300 : Int) < (L0.length : Int) := by omega
  clear h
  go_enter Try.func3, Try.ntmps3
  go_wp2_with fail
  refine (awake_any _).mono ?_
  rintro e w1 ⟨rfl, hb⟩
  go_wp2_with fail
  go_ret
  exact ⟨rfl, hb⟩
set_option maxRecDepth 100000 in
set_option maxHeartbeats 8000000 in
theorem plays_small (A0 : Option Addr) (c0 : Nat) (L0 : List St8) (hl0 : L0.length ≤ 300) (w : World) (hs0 : Steps8 w w.heap.size A0 L0) :
    Calls Try.prog 3 #[.slice A0 L0.length c0] w fun e w' => e = .returned (.bool true) ∧ Below w.heap.size w w' := by
  have i0 : ¬ (300 : Int) < (L0.length : Int) := by omega
  have HS0 := Lib.hid hs0
  clear hs0
  go_enter Try.func3, Try.ntmps3
  go_wp2_with fail
  refine (new_any w).mono ?_
  rintro e w1 ⟨rfl, hq1, hb1, _⟩
  obtain ⟨qa, hqa⟩ : ∃ q, q = w.heap.size := ⟨_, rfl⟩
  have hqa2 : w.heap.size ≤ qa := by omega
  rw [← hqa] at hq1 ⊢
  have hb1' : Below w.heap.size w w1 := hb1
  clear hqa hb1
  go_wp2_with fail
  refine (rnew_rr w1).mono ?_
  rintro e w2 ⟨rfl, hr2, hb2⟩
  have HX2 : Hid (Two w qa (w1.heap.size + 1) qa (w1.heap.size + 1) [[]] [[]] [] w2) := t2_new hb1' hq1 hqa2 hr2 (fun b h => h.1) hb2
  obtain ⟨qb, hqb⟩ : ∃ q, q = w1.heap.size + 1 := ⟨_, rfl⟩
  rw [← hqb] at HX2 ⊢
  clear hqb hq1 hr2 hb2 hb1' hqa2
  go_wp2_with fail
  go_loopw [5] (fun i wr => ∃ (k : Nat) (T : List (List Pr)), k ≤ L0.length ∧ i = .int .i64 k ∧ Hid ((flat T).length ≤ k ∧ T.length ≤ k + 1) ∧ Hid (Two w qa qb qa qb T T [] wr)) (fun i _ => L0.length - (intOf i).toNat)
  case atStart => exact ⟨0, [[]], by omega, rfl, ⟨by simp [flat], by simp⟩, HX2⟩
  case round =>
    obtain ⟨k, T, hk, rfl, hbd, hx⟩ := hrel
    by_cases hlt : k < L0.length
    · obtain ⟨p, rfl, mb, hst⟩ := HS0.out.below hx.out.low k hlt
      obtain ⟨s, hse⟩ : ∃ s, s = nth8 L0 k := ⟨_, rfl⟩
      rw [← hse] at hst
      have hok := Lib.hid hst.ok
      have i2 : (0 : Int) ≤ (k : Int) := by omega
      have i3 : (k : Int) < (L0.length : Int) := by omega
      have i4 : (k : Int) ≤ 300 := by omega
      have HK : Hid (∀ w', Below w.heap.size w w' → St8At w' (p.add (k * 3)) s) := fun w' hw' => by
        obtain ⟨p', hpe, _, hst'⟩ := HS0.out.below hw' k hlt
        obtain rfl : p = p' := Option.some.inj hpe
        rw [hse]
        exact hst'
      clear hse mb hst
      have hT1 : T.length ≤ 301 := by have := hbd.out; omega
      have hT2 : (flat T).length ≤ 300 := by have := hbd.out; omega
      go_upto_if 31 with fail
      go_cut [6, 7] (fun xv yv wc => ∃ (cx cy : Nat) (T0 : List (List Pr)), xv = .pointer (some ⟨cx, 0, none⟩) ∧ yv = .pointer (some ⟨cy, 0, none⟩) ∧ Hid (T0.length ≤ 301 ∧ (flat T0).length ≤ 300) ∧ Hid (Two w qa qb cx cy T T T0 wc))
      case first =>
        by_cases hm : (k : Int) % 9 = 8
        · have hm2 : ((k : Int) % 9 == 8) = true := by simp [hm]
          clear hm
          go_wp2_with fail
          refine (t2_copy hx.out (by omega)).mono ?_
          rintro e w3 ⟨cx, rfl, hh⟩
          have HH := Lib.hid hh
          clear hh
          go_wp2_with fail
          refine (t2_rcopy HH.out (by omega) (by omega)).mono ?_
          rintro e w4 ⟨cy, rfl, h4⟩
          have H4 := Lib.hid h4
          clear h4
          go_wp2_with fail
          go_meet
          case rel => exact ⟨cx, cy, T, rfl, rfl, ⟨hT1, hT2⟩, H4⟩
        · have hm2 : ((k : Int) % 9 == 8) = false := by simp [hm]
          clear hm
          go_wp2_with fail
          go_meet
          case rel => exact ⟨qa, qb, [], rfl, rfl, ⟨by simp, by simp [flat]⟩, hx⟩
      case rest =>
        obtain ⟨cx, cy, T0, rfl, rfl, hT0, hx2⟩ := hcut
        clear hx
        obtain ⟨d0, d1, d2, _⟩ := HK.out _ hx2.out.low
        go_upto_block 2 with fail
        go_cut [8] (fun okv wd => okv = .bool true ∧ Hid (Two w qa qb cx cy (stepT s.k s.v s.x T) (stepT s.k s.v s.x T) T0 wd))
        case first =>
          by_cases h0 : s.k = 0
          · have hk0 : ((s.k : Int) == 0) = true := by simp [h0]
            have hst : stepT s.k s.v s.x T = putT s.v s.x T := by unfold stepT; rw [if_pos h0]
            have HK2 : Hid (∀ w', Below w.heap.size w w' → w'.cell? ⟨(p.add (k * 3)).block, (p.add (k * 3)).off + 1, none⟩ = some (.int .i64 s.v) ∧ w'.cell? ⟨(p.add (k * 3)).block, (p.add (k * 3)).off + 2, none⟩ = some (.int .i64 s.x)) := fun w' hw' => ⟨(HK.out w' hw').c1, (HK.out w' hw').c2⟩
            have HST := Lib.hid hst
            clear h0 hst
            go_upto_region 13 with fail
            go_region_held3 (fun w' => w'.cell? ⟨(p.add (k * 3)).block, (p.add (k * 3)).off + 1, none⟩ = some (.int .i64 s.v) ∧ w'.cell? ⟨(p.add (k * 3)).block, (p.add (k * 3)).off + 2, none⟩ = some (.int .i64 s.x))
              (first | exact HK2.out w4 h4.low | exact HK2.out w3 h3.low | exact HK2.out _ (hx2.out.below (Below.refl _ wc).drew).low | fail)
              (first
                | (go_at_call 14; refine (t2_rput h3 (by omega) (by omega) s.v s.x).mono ?_; rintro e w4 ⟨rfl, h4⟩)
                | (go_at_call 13; refine (t2_put (hx2.out.below (Below.refl _ wc).drew) (by omega) s.v s.x hok.out.v hok.out.x).mono ?_; rintro e w3 ⟨rfl, h3⟩)
                | fail)
            have H4 := Lib.hid h4
            clear h3 h4
            go_wp2_with fail
            go_meet
            case rel => rw [HST.out]; exact ⟨rfl, H4⟩
          · have hk0 : ((s.k : Int) == 0) = false := beq_eq_false_iff_ne.2 (by omega)
            by_cases h1 : s.k = 1
            · have hk1 : ((s.k : Int) == 1) = true := by simp [h1]
              have HST : Hid (stepT s.k s.v s.x T = [] :: T) := by show _ = _; unfold stepT; rw [if_neg h0, if_pos h1]
              clear h0 h1
              go_wp2_with fail
              refine (t2_push hx2.out (by omega)).mono ?_
              rintro e w3 ⟨rfl, h3⟩
              have H3 := Lib.hid h3
              clear h3
              go_wp2_with fail
              refine (t2_rpush H3.out (by omega)).mono ?_
              rintro e w4 ⟨rfl, h4⟩
              have H4 := Lib.hid h4
              clear h4
              go_wp2_with fail
              go_meet
              case rel => rw [HST.out]; exact ⟨rfl, H4⟩
            · have hk1 : ((s.k : Int) == 1) = false := beq_eq_false_iff_ne.2 (by omega)
              by_cases h2 : s.k = 2
              · have hk2 : ((s.k : Int) == 2) = true := by simp [h2]
                have HST : Hid (stepT s.k s.v s.x T = dropT T) := by show _ = _; unfold stepT; rw [if_neg h0, if_neg h1, if_pos h2]
                have hcall := t2_drop hx2.out (by omega)
                have hcall2 := fun (W : World) (hW : Two w qa qb cx cy (dropT T) T T0 W) => t2_rdrop hW (by omega)
                obtain ⟨z, hz⟩ : ∃ z : Int, z = if T.length < 2 then 7 else 0 := ⟨_, rfl⟩
                rw [← hz] at hcall
                rw [← hz] at hcall2
                have hzz : (z == z) = true := by simp
                clear h0 h1 h2 hz
                go_wp2_with fail
                refine hcall.mono ?_
                rintro e w3 ⟨rfl, h3⟩
                have H3 := Lib.hid h3
                clear h3
                go_wp2_with fail
                refine (hcall2 _ H3.out).mono ?_
                rintro e w4 ⟨rfl, h4⟩
                have H4 := Lib.hid h4
                clear h4
                go_wp2_with fail
                go_meet
                case rel => rw [HST.out]; exact ⟨rfl, H4⟩
              · have hk2 : ((s.k : Int) == 2) = false := beq_eq_false_iff_ne.2 (by omega)
                by_cases h3' : s.k = 3
                · have hk3 : ((s.k : Int) == 3) = true := by simp [h3']
                  have HST : Hid (stepT s.k s.v s.x T = mergeT T) := by show _ = _; unfold stepT; rw [if_neg h0, if_neg h1, if_neg h2, if_pos h3']
                  have hcall := t2_merge hx2.out (by omega) (by omega)
                  have hcall2 := fun (W : World) (hW : Two w qa qb cx cy (mergeT T) T T0 W) => t2_rmerge hW (by omega) (by omega)
                  obtain ⟨z, hz⟩ : ∃ z : Int, z = if T.length < 2 then 7 else 0 := ⟨_, rfl⟩
                  rw [← hz] at hcall
                  rw [← hz] at hcall2
                  have hzz : (z == z) = true := by simp
                  clear h0 h1 h2 h3' hz
                  go_wp2_with fail
                  refine hcall.mono ?_
                  rintro e w3 ⟨rfl, h3⟩
                  have H3 := Lib.hid h3
                  clear h3
                  go_wp2_with fail
                  refine (hcall2 _ H3.out).mono ?_
                  rintro e w4 ⟨rfl, h4⟩
                  have H4 := Lib.hid h4
                  clear h4
                  go_wp2_with fail
                  go_meet
                  case rel => rw [HST.out]; exact ⟨rfl, H4⟩
                · have hk3 : ((s.k : Int) == 3) = false := beq_eq_false_iff_ne.2 (by omega)
                  have HST : Hid (stepT s.k s.v s.x T = T) := by show _ = _; unfold stepT; rw [if_neg h0, if_neg h1, if_neg h2, if_neg h3']
                  clear h0 h1 h2 h3'
                  go_wp2_with fail
                  go_meet
                  case rel => rw [HST.out]; exact ⟨rfl, hx2⟩
        case rest =>
          obtain ⟨rfl, hx3⟩ := hcut
          have hbt := step_bounds s.k s.v s.x T hx2.out.ne
          have HBT : Hid ((flat (stepT s.k s.v s.x T)).length ≤ k + 1 ∧ (stepT s.k s.v s.x T).length ≤ k + 1 + 1) := by have := hbd.out; exact ⟨by omega, by omega⟩
          have hU1 : (stepT s.k s.v s.x T).length ≤ 302 := by omega
          have hU2 : (flat (stepT s.k s.v s.x T)).length ≤ 301 := by omega
          obtain ⟨e1, e2, e3, _⟩ := HK.out _ hx3.out.low
          obtain ⟨U, hU⟩ : ∃ U, U = stepT s.k s.v s.x T := ⟨_, rfl⟩
          rw [← hU] at hx3 HBT hU1 hU2
          clear hU hbt hbd hx2 d0 d1 d2 hT1 hT2 e1 e3
          have hv := hok.out.v
          have hget := fun (W : World) (hW : Two w qa qb cx cy U U T0 W) => t2_get hW (by omega) (by omega) s.v hv
          have hrget := fun (W : World) (hW : Two w qa qb cx cy U U T0 W) => t2_rget hW (by omega) (by omega) s.v
          obtain ⟨r, hr⟩ : ∃ r, r = saysL U s.v := ⟨_, rfl⟩
          rw [← hr] at hget hrget
          have hg : got r = .tuple #[.int .i64 (r.getD 0), .bool r.isSome] := rfl
          rw [hg] at hget hrget
          have HG := Lib.hid hget
          have HRG := Lib.hid hrget
          clear hg hr hget hrget hv
          go_wp2_with fail
          refine (HG.out _ hx3.out).mono ?_
          rintro e w3 ⟨rfl, h3⟩
          have H3 := Lib.hid h3
          obtain ⟨_, f2, _, _⟩ := HK.out _ h3.low
          clear h3 hx3 e2
          go_wp2_with fail
          refine (HRG.out _ H3.out).mono ?_
          rintro e w4 ⟨rfl, h4⟩
          have H4 := Lib.hid h4
          clear h4 f2 H3
          go_wp2_with fail
          have hall := t2_all H4.out (by omega) (by omega)
          obtain ⟨l, hl⟩ : ∃ l, l = allS (flat U) := ⟨_, rfl⟩
          have hll : l.length ≤ 301 := by rw [hl]; have := all_len (flat U); omega
          rw [← hl] at hall
          refine hall.mono ?_
          rintro e w5 ⟨B, d, rfl, ho⟩
          have HO := Lib.hid ho
          have HL : Hid (l = allS (flat U)) := hl
          clear ho hall hl
          have h5 := H4.out.below HO.out.2
          have H5 := Lib.hid h5
          obtain ⟨Tx, Sx, Sy, hRx, hRy, bx1, bx2⟩ := h5.pair (n := 302) (m := 301) hU1 hU2 (by have := hT0.out.1; omega) (by have := hT0.out.2; omega)
          obtain ⟨l2, hl2⟩ : ∃ l2, l2 = allS (flat Tx) := ⟨_, rfl⟩
          have hll2 : l2.length ≤ 301 := by rw [hl2]; have := all_len (flat Tx); omega
          obtain ⟨Ab, cb, g0, gq⟩ := h5.len
          have KEEP : Hid (∀ w', Below w5.heap.size w5 w' → w'.cell? ⟨qb, 0, none⟩ = some (.slice Ab U.length cb) ∧ Below w5.heap.size w5 w') := fun w' hb => ⟨(hb.cell (p := ⟨qb, 0, none⟩) gq).trans g0, hb⟩
          have CD : Hid (∀ W', Below w5.heap.size w5 W' → Calls Try.prog 24 #[.pointer (some ⟨qa, 0, none⟩)] W' fun e w' => e = .returned (.int .i64 U.length) ∧ w' = W') := fun W' hb => t2_depth (H5.out.below hb) (by omega)
          have CB : Hid (∀ W', Below w5.heap.size w5 W' → Calls Try.prog 26 #[.pointer (some ⟨qb, 0, none⟩)] W' fun e w' => ∃ (B : Option Addr) (d : Nat), e = .returned (.slice B l.length d) ∧ PairsAt w' w'.heap.size B l ∧ Below w5.heap.size w5 w') := fun W' hb => by
            refine (t2_rall (H5.out.below hb) (by omega) (by omega)).mono ?_
            rw [← HL.out]
            exact fun e w' ⟨B, d, h1, h2, h3⟩ => ⟨B, d, h1, h2, hb.trans (h3.mono hb.size)⟩
          have CX : Hid (∀ W', Below w5.heap.size w5 W' → Calls Try.prog 23 #[.pointer (some ⟨cx, 0, none⟩)] W' fun e w' => ∃ (B : Option Addr) (d : Nat), e = .returned (.slice B l2.length d) ∧ PairsAt w' w'.heap.size B l2 ∧ Below w5.heap.size w5 w') := fun W' hb => by
            refine (all_any cx Sx Tx W' (hRx.keep (Fro.of_below (S := fun _ => False) hb (Nat.le_refl _)) (fun _ _ h => h)) (by omega) (by omega)).mono ?_
            rw [← hl2]
            exact fun e w' ⟨B, d, h1, h2, h3⟩ => ⟨B, d, h1, OutAt.pairs ⟨h2, h3⟩, hb.trans (h3.mono hb.size)⟩
          have CY : Hid (∀ W', Below w5.heap.size w5 W' → Calls Try.prog 26 #[.pointer (some ⟨cy, 0, none⟩)] W' fun e w' => ∃ (B : Option Addr) (d : Nat), e = .returned (.slice B l2.length d) ∧ PairsAt w' w'.heap.size B l2 ∧ Below w5.heap.size w5 w' ∧ Below W'.heap.size W' w') := fun W' hb => by
            refine (rall_any cy Sy Tx W' (hRy.keep (Fro.of_below (S := fun _ => False) hb (Nat.le_refl _)) (fun _ _ h => h)) (by omega) (by omega)).mono ?_
            rw [← hl2]
            exact fun e w' ⟨B, d, h1, h2, h3⟩ => ⟨B, d, h1, h2, hb.trans (h3.mono hb.size), h3⟩
          have CP : Hid (∀ (W' : World) (l : List Pr) (B B' : Option Addr) (d d' : Nat), l.length ≤ 301 → Below w5.heap.size w5 W' → PairsAt W' W'.heap.size B l → PairsAt W' W'.heap.size B' l → Calls Try.prog 25 #[.slice B l.length d, .slice B' l.length d'] W' fun e w' => e = .returned (.bool true) ∧ Below W'.heap.size W' w' ∧ Below w5.heap.size w5 w') := fun W' l B B' d d' hln hb h1 h2 => by
            refine (pairs_any l l W'.heap.size B B' d d' W' h1 h2 (Nat.le_refl _) (by omega) (by omega)).mono ?_
            rw [decide_eq_true rfl]
            exact fun e w' ⟨h1, h2⟩ => ⟨h1, h2, hb.trans (h2.mono hb.size)⟩
          have PO : Hid (∀ W', Below w5.heap.size w5 W' → PairsAt W' W'.heap.size B l) := fun W' hb => (HO.out.below hb).pairs
          have z1 : (r.isSome != r.isSome) = false := by simp
          have z2 : (r.getD 0 != r.getD 0) = false := by simp
          have z3 : ((U.length : Int) != (U.length : Int)) = false := by simp
          have HT2 := Lib.hid hll2
          clear hl2 hll2 h5 hRx hRy bx1 bx2 g0 gq
          go_upto_region 23 with fail
          go_region_held3 (fun w' => w'.cell? ⟨qb, 0, none⟩ = some (.slice Ab U.length cb) ∧ Below w5.heap.size w5 w')
            (first | exact KEEP.out _ b12 | exact KEEP.out _ b11 | exact KEEP.out _ b10 | exact KEEP.out _ b9 | exact KEEP.out _ b8 | exact KEEP.out _ (Below.refl _ w5).drew | fail)
            (first
              | (go_at_call 25; refine (CP.out w11 l2 B10 B11 d10 d11 HT2.out b11 (p10.below c11 (Nat.le_refl _) |>.wide c11.size) p11).mono ?_; rintro e w12 ⟨rfl, _, b12⟩)
              | (go_at_call 26; refine (CY.out w10 b10).mono ?_; rintro e w11 ⟨B11, d11, rfl, p11, b11, c11⟩)
              | (go_at_call 23; refine (CX.out w9 b9).mono ?_; rintro e w10 ⟨B10, d10, rfl, p10, b10⟩)
              | (go_at_call 25; refine (CP.out w8 l B B8 d d8 hll b8 (PO.out w8 b8) p8).mono ?_; rintro e w9 ⟨rfl, _, b9⟩)
              | (go_at_call 26; refine (CB.out _ (Below.refl _ w5).drew).mono ?_; rintro e w8 ⟨B8, d8, rfl, p8, b8⟩)
              | (go_at_call 24; refine (CD.out _ (Below.refl _ w5).drew).mono ?_; rintro e w7 ⟨rfl, rfl⟩)
              | fail)
          have HO2 : Hid (∃ l', l'.length = l.length ∧ OutAt w4 B d l' w12) := ⟨l, rfl, HO.out.below b12⟩
          clear KEEP CD CB CX CY CP PO z1 z2 z3 b8 p8 b9 b10 p10 b11 p11 c11 b12 H5 HO HL HT2 HG HRG
          go_wp2_with fail
          go_loopw [14] (fun i wr => ∃ j : Nat, j ≤ l.length ∧ i = .int .i64 j ∧ Hid (∃ l', l'.length = l.length ∧ OutAt w4 B d l' wr)) (fun i _ => l.length - (intOf i).toNat)
          case atStart => exact ⟨0, by omega, rfl, HO2⟩
          case round =>
            clear HO2
            obtain ⟨j, hj, rfl, ho⟩ := hrel
            obtain ⟨l', hll', ho⟩ := ho
            by_cases hlt2 : j < l.length
            · obtain ⟨gB, rfl, hgB, hgB2, htd, y1, y2, y3⟩ := ho.cell (t := j) (by omega)
              have j1 : (0 : Int) ≤ (j : Int) := by omega
              have j2 : (j : Int) < (l.length : Int) := by omega
              have j3 : (j : Int) ≤ 301 := by omega
              have HN : Hid (∃ l', l'.length = l.length ∧ OutAt w4 (some ⟨gB, 0, none⟩) d l' (wr.setCell ⟨gB, j * 2 + 1, none⟩ (.int .i64 (-77)))) := ⟨_, by rw [List.length_set]; exact hll', ho.store (t := j) (by omega) l'[j].1 (-77) rfl⟩
              clear ho y1
              go_wp2_with fail
              go_roundw
              case rel => exact ⟨j + 1, by omega, by go_num, HN⟩
              case measure => simp [intOf]; omega
            · obtain rfl : j = l.length := by omega
              have j2 : ¬ ((l.length : Int) < (l.length : Int)) := by omega
              have HX := Lib.hid ((H4.out.below ho.2).alone [])
              clear ho
              go_wp2_with fail
              go_roundw
              case rel => exact ⟨k + 1, U, by omega, by go_num, HBT, HX⟩
              case measure => simp [intOf]; omega
    · obtain rfl : k = L0.length := by omega
      have i2 : ¬ ((L0.length : Int) < (L0.length : Int)) := by omega
      have hlow := hx.out.low
      clear hbd hx
      go_wp2_with fail
      refine (awake_any _).mono ?_
      rintro e w3 ⟨rfl, hb⟩
      go_wp2_with fail
      go_ret
      exact ⟨rfl, hlow.trans (hb.mono hlow.size)⟩
theorem BufferPlays_walk (A0 : Option Addr) (c0 : Nat) (L0 : List St8) (wl0 : L0.length ≤ 9223372036854775807) (w : World) (ws0 : Steps8 w w.heap.size A0 L0) :
    Calls Try.prog 3 #[.slice A0 L0.length c0] w fun e w' => e = .returned (.bool true) ∧ Below w.heap.size w w' := by
  by_cases h : 300 < L0.length
  · exact plays_big A0 c0 L0 wl0 h w
  · exact plays_small A0 c0 L0 (by omega) w ws0
theorem BufferPlays_laid : laidOutB Try.prog = true := by kernel_rfl
set_option maxRecDepth 100000 in
theorem BufferPlays_lifted (os : Os) (started : os.Started) (H : Type) (enc : TypeId × Value → H) :
    ReturnsInHanded {} Try.checked os 3 .any (Rows.bufferPlaysSpec.pre6 enc Try.prog Try.f3 Rows.bufferPlaysRow.domain false) (Rows.bufferPlaysSpec.post enc Try.prog Try.f3 false true false false) := by
  refine returnsInHanded_of_change (C := Try.checked) lift_own started (by kernel_rfl) Try.func3
    (ChangeSpec.witness6 (enc := enc) (C := Try.checked) false ⟨#[], #[.slice none 0 0], []⟩ 8 (by kernel_rfl) (by kernel_rfl) (by kernel_rfl) (by kernel_rfl)) ?_
  intro W base args ds gs before hval0 hW hcnd _
  have hval : ∀ (j : Nat) t v, Try.f3.params[j]? = some t → args[j]? = some v → Value.okWide Try.prog W .any base t v := hval0
  have hW' := hW
  obtain ⟨p, q, hA0, hV, rfl, hfz, hnd⟩ := hW
  have hA : DataW.TrodAll enc Try.prog W 0 (fun _ => true) true Try.f3.params.toList args.toList ds p := hA0
  rw [Try.params3] at hA hval
  obtain ⟨v0, vs0, d0, ds0, p0, q0, hargs, rfl, rfl, h0, r0⟩ := trodAll_cons hA
  obtain ⟨rfl, rfl, rfl⟩ := trodAll_nil r0
  obtain rfl : args = #[v0] := by cases args; simp_all
  obtain ⟨rfl, rfl⟩ := trodVars_none hV
  obtain ⟨A0, c0, L0, rfl, wl0, ws0⟩ := open_steps8 (hval 0 22 v0 rfl rfl) h0
  clear hA0 hval0
  simp only [List.append_nil] at hW'
  refine (BufferPlays_walk A0 c0 L0 wl0 W ws0).mono fun e W' ⟨he, hg⟩ => ?_
  subst he
  exact ⟨_, rfl, lift_post (pv := []) hW' (fun _ _ _ => (trodAll_cons_mk (shut_bool Try.underlying4 _) trodAll_mk0)) (fun sp hsp => (trodAll_cons_mk (WideElems.Trod_stays BufferPlays_laid (by kernel_rfl) (of_decide_eq_true (by kernel_rfl)) h0 (fun x hx => hg.same (hW'.lt x (by simp [hx]))) (fun x hx => hsp x (by simp [hx]))) trodAll_mk0)) (fun _ _ => rfl) (by simp)
    hg (ok_one (by kernel_rfl) rfl (okWide_bool_mk Try.underlying4 _))⟩

/-- THE STATEMENT of BufferPlays: for every input the call returns true, and each argument reads behind it as before. -/
theorem BufferPlays_holds : Rows.BufferPlaysSaid :=
  OpenClaim.holds_of_wide 3 Try.f3 rfl rfl rfl rfl rfl rfl rfl ⟨rfl, rfl, rfl, rfl, rfl⟩ rfl rfl rfl rfl rfl (by kernel_rfl) Try.func3 (by kernel_rfl)
    (of_decide_eq_true (by kernel_rfl)) (by unfold Func.isWrapper; first | (rw [if_pos (by decide +kernel)]; kernel_rfl) | (rw [if_neg (by decide +kernel)]; exact ⟨rfl, rfl⟩))
    (fun os started H enc _ => BufferPlays_lifted os started H enc)

end Go.Proofs.Ytmjcipojidimgaa
