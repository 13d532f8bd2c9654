/-
  BufferAsNot: for every input the call returns true, and each argument reads behind it as before. No condition. (Whatever is put behind Push, and in levels above it: with Drop all is as it was.)
-/
import Derived.Test.YtljmgoegbhkkoaaLy
namespace Go.Proofs.Ytljmgoegbhkkoaa
set_option maxRecDepth 100000
open Go.RowKit Go.Maps Go.Shelf
open Go.ChangeShapes Go.WideShapes Go.Deep
set_option linter.unusedVariables false
set_option maxRecDepth 100000 in
set_option maxHeartbeats 4000000 in
theorem asnot_big (A0 : Option Addr) (c0 : Nat) (L0 : List St8) (A1 : Option Addr) (c1 : Nat) (L1 : List St8) (hl0 : L0.length ≤ 9223372036854775807) (hl1 : L1.length ≤ 9223372036854775807) (h : 200 < L0.length ∨ 200 < L1.length) (w : World) :
    Calls Try.prog 5 #[.slice A0 L0.length c0, .slice A1 L1.length c1] w fun e w' => e = .returned (.bool true) ∧ Below w.heap.size w w' := by
  by_cases h0 : 200 < L0.length
  · have i0 : (200 : Int) < (L0.length : Int) := by omega
    clear h
    go_enter Try.func5, Try.ntmps5
    go_wp2_with fail
    refine (awake_any _).mono ?_
    rintro e w1 ⟨rfl, hb⟩
    go_wp2_with fail
    go_ret
    exact ⟨rfl, hb⟩
  · have i0 : ¬ (200 : Int) < (L0.length : Int) := by omega
    have i1 : (200 : Int) < (L1.length : Int) := by omega
    clear h
    go_enter Try.func5, Try.ntmps5
    go_wp2_with fail
    refine (awake_any _).mono ?_
    rintro e w1 ⟨rfl, hb⟩
    go_wp2_with fail
    go_ret
    exact ⟨rfl, hb⟩
set_option maxRecDepth 100000 in
set_option maxHeartbeats 8000000 in
theorem asnot_small (A0 : Option Addr) (c0 : Nat) (L0 : List St8) (A1 : Option Addr) (c1 : Nat) (L1 : List St8) (hl0 : L0.length ≤ 200) (hl1 : L1.length ≤ 200) (w : World) (hs0 : Steps8 w w.heap.size A0 L0) (hs1 : Steps8 w w.heap.size A1 L1) :
    Calls Try.prog 5 #[.slice A0 L0.length c0, .slice A1 L1.length c1] w fun e w' => e = .returned (.bool true) ∧ Below w.heap.size w w' := by
  have i0 : ¬ (200 : Int) < (L0.length : Int) := by omega
  have i1 : ¬ (200 : Int) < (L1.length : Int) := by omega
  have HS0 := Lib.hid hs0
  have HS1 := Lib.hid hs1
  clear hs0 hs1
  go_enter Try.func5, Try.ntmps5
  go_wp2_with fail
  refine (awake_any _).mono ?_
  rintro e w1 ⟨rfl, hb1⟩
  go_wp2_with fail
  refine (bx_new w w1 hb1).mono ?_
  rintro e w2 ⟨rfl, hx2⟩
  obtain ⟨q, hq⟩ : ∃ q, q = w1.heap.size := ⟨_, rfl⟩
  rw [← hq] at hx2 ⊢
  have HX2 := Lib.hid hx2
  clear hq hx2 hb1
  go_wp2_with fail
  go_loopw [6] (fun i wr => ∃ (k : Nat) (T : List (List Pr)), k ≤ L0.length ∧ i = .int .i64 k ∧ Hid ((flat T).length ≤ k ∧ T.length ≤ k + 1) ∧ Hid (BX w q (fun _ => False) T wr)) (fun i _ => L0.length - (intOf i).toNat)
  case atStart => exact ⟨0, [[]], by omega, rfl, ⟨by simp [flat], by simp⟩, HX2⟩
  case round =>
    obtain ⟨k, T, hk, rfl, hbd, hx⟩ := hrel
    by_cases hlt : k < L0.length
    · obtain ⟨p, rfl, mb, hst⟩ := HS0.out.below hx.out.low k hlt
      have hok := hst.ok
      obtain ⟨s, hse⟩ : ∃ s, s = nth8 L0 k := ⟨_, rfl⟩
      rw [← hse] at hst hok
      obtain ⟨d0, d1, d2, _⟩ := hst
      have i2 : (0 : Int) ≤ (k : Int) := by omega
      have i3 : (k : Int) < (L0.length : Int) := by omega
      have i4 : (k : Int) ≤ 200 := by omega
      have hbt := step_bounds s.k s.v s.x T hx.out.ne
      have hcall := bx_do hx.out (by have := hbd.out; omega) (by have := hbd.out; omega) s.k s.v s.x hok.k hok.v hok.x
      have HBT : Hid ((flat (stepT s.k s.v s.x T)).length ≤ k + 1 ∧ (stepT s.k s.v s.x T).length ≤ k + 1 + 1) := by have := hbd.out; exact ⟨by omega, by omega⟩
      clear hse mb hbt hok
      go_wp2_with fail
      refine hcall.mono ?_
      rintro e w5 ⟨rfl, hx5, _⟩
      have HX5 := Lib.hid hx5
      clear hx5 hcall hx hbd d0 d1 d2
      go_wp2_with fail
      go_roundw
      case rel => exact ⟨k + 1, _, by omega, by go_num, HBT, HX5⟩
      case measure => simp [intOf]; omega
    · obtain rfl : k = L0.length := by omega
      have hT1 : T.length ≤ 201 := by have := hbd.out; omega
      have hT2 : (flat T).length ≤ 200 := by have := hbd.out; omega
      have hTi : (T.length : Int) ≤ 201 := by omega
      have hT0 : T ≠ [] := hx.out.ne
      have HT0 := Lib.hid hT0
      have hT2' : Hid ((flat T).length ≤ 1000) := by show _ ≤ _; omega
      clear hbd hT0
      go_wp2_with fail
      refine (bx_all hx.out (by omega) (by omega)).mono ?_
      rintro e w5 ⟨B, d, rfl, ⟨hp, hB, _⟩, hx5, _, hbel⟩
      obtain ⟨l, hl⟩ : ∃ l, l = allS (flat T) := ⟨_, rfl⟩
      have HL : Hid (l = allS (flat T)) := hl
      rw [← hl] at hp ⊢
      clear hl
      have HX5 := Lib.hid hx5
      have HP : Hid (PairsAt w5 w5.heap.size B l) := hp
      have HB : Hid (∀ p, B = some p → w.heap.size ≤ p.block ∧ p.block < w5.heap.size) := fun p e => ⟨Nat.le_trans hx.out.low.size (hB p e).1, (hB p e).2⟩
      clear hx5 hp hB hbel
      go_wp2_with fail
      refine (bx_depth HX5.out (by omega)).mono ?_
      rintro e w6 ⟨rfl, rfl⟩
      go_wp2_with fail
      refine (bx_push HX5.out (by omega)).mono ?_
      rintro e w7 ⟨rfl, hx7, hs7⟩
      have HX7 := Lib.hid hx7
      have HP7 : Hid (PairsAt w7 w7.heap.size B l) := HP.out.same (fun p e => hs7.block p.block (.inr ⟨p, e, rfl⟩)) hs7.size
      clear hx7 hs7 HX5 HP HB
      go_wp2_with fail
      go_loopw [9] (fun i wr' => ∃ (k : Nat) (X : List (List Pr)), k ≤ L1.length ∧ i = .int .i64 k ∧ Hid (X ≠ [] ∧ X.length ≤ k + 1 ∧ (flat (X ++ T)).length ≤ 200 + k) ∧ Hid (BX w q (fun b => False ∨ ∃ p, B = some p ∧ p.block = b) (X ++ T) wr') ∧ Hid (PairsAt wr' wr'.heap.size B l)) (fun i _ => L1.length - (intOf i).toNat)
      case atStart => exact ⟨0, [[]], by omega, rfl, ⟨by simp, by simp, by show (flat ([] :: T)).length ≤ _; rw [flat_push]; omega⟩, HX7, HP7⟩
      case round =>
        obtain ⟨k, X, hk, rfl, hX, hx, hp⟩ := hrel
        by_cases hlt : k < L1.length
        · obtain ⟨p, rfl, mb, hst⟩ := HS1.out.below hx.out.low k hlt
          have hok := hst.ok
          obtain ⟨s, hse⟩ : ∃ s, s = nth8 L1 k := ⟨_, rfl⟩
          rw [← hse] at hst hok
          obtain ⟨d0, d1, d2, _⟩ := hst
          have i2 : (0 : Int) ≤ (k : Int) := by omega
          have i3 : (k : Int) < (L1.length : Int) := by omega
          have i4 : (k : Int) ≤ 200 := by omega
          have hXl : X.length ≤ 202 := by have := hX.out.2.1; omega
          have hlen : ((X ++ T).length : Int) = (X.length : Int) + (T.length : Int) := by simp
          have hdep := bx_depth hx.out (by simp; omega)
          rw [hlen] at hdep
          clear hse mb hlen
          have goon : Hid (X ≠ [] ∧ X.length ≤ k + 1 + 1 ∧ (flat (X ++ T)).length ≤ 200 + (k + 1)) := by obtain ⟨a, b, c⟩ := hX.out; exact ⟨a, by omega, by omega⟩
          have dostep : (1 < X.length ∨ (s.k ≠ 2 ∧ s.k ≠ 3)) → Calls Try.prog 28 #[.pointer (some ⟨q, 0, none⟩), .agg #[.int .u8 s.k, .int .i64 s.v, .int .i64 s.x]] wr fun e w' => e = .returned (.int .i64 (errT s.k (X ++ T))) ∧ ∃ Y, Hid (Y ≠ [] ∧ Y.length ≤ k + 1 + 1 ∧ (flat (Y ++ T)).length ≤ 200 + (k + 1)) ∧ Hid (BX w q (fun b => False ∨ ∃ p, B = some p ∧ p.block = b) (Y ++ T) w') ∧ Hid (PairsAt w' w'.heap.size B l) := fun hno => by
            have hun := step_under (k := s.k) (v := s.v) (x := s.x) (X := X) (B := T) hX.out.1 hno
            obtain ⟨Y, hY, hst, _, hYe⟩ := hun
            have hb1 := step_bounds s.k s.v s.x (X ++ T) hx.out.ne
            have hb2 := step_bounds s.k s.v s.x X hX.out.1
            rw [hst] at hb1
            rw [← hYe] at hb2
            obtain ⟨_, x2, x3⟩ := hX.out
            refine (bx_do hx.out (by simp; omega) (by omega) s.k s.v s.x hok.k hok.v hok.x).mono ?_
            rintro e w' ⟨he, hx', hs'⟩
            rw [hst] at hx'
            exact ⟨he, Y, ⟨hY, by omega, by omega⟩, hx', hp.out.same (fun p e => hs'.block p.block (.inr ⟨p, e, rfl⟩)) hs'.size⟩
          by_cases hone : X.length = 1
          · have e1 : (X.length : Int) + (T.length : Int) = (T.length : Int) + 1 := by omega
            rw [e1] at hdep
            clear e1
            by_cases h2 : s.k = 2
            · have hk2 : ((s.k : Int) == 2) = true := by simp [h2]
              clear dostep
              go_wp2_with fail
              refine hdep.mono ?_
              rintro e w8 ⟨rfl, rfl⟩
              go_wp2_with fail
              go_roundw
              case rel => exact ⟨k + 1, X, by omega, by go_num, goon, hx, hp⟩
              case measure => simp [intOf]; omega
            · have hk2 : ((s.k : Int) == 2) = false := beq_eq_false_iff_ne.2 (by omega)
              by_cases h3 : s.k = 3
              · have hk3 : ((s.k : Int) == 3) = true := by simp [h3]
                clear dostep
                go_wp2_with fail
                refine hdep.mono ?_
                rintro e w8 ⟨rfl, rfl⟩
                go_wp2_with fail
                go_roundw
                case rel => exact ⟨k + 1, X, by omega, by go_num, goon, hx, hp⟩
                case measure => simp [intOf]; omega
              · have hk3 : ((s.k : Int) == 3) = false := beq_eq_false_iff_ne.2 (by omega)
                have hdo := dostep (.inr ⟨h2, h3⟩)
                clear dostep
                go_wp2_with fail
                refine hdep.mono ?_
                rintro e w8 ⟨rfl, rfl⟩
                go_wp2_with fail
                refine hdo.mono ?_
                rintro e w9 ⟨rfl, Y, hY, hx9, hp9⟩
                clear hdo hx hp hX goon hdep
                go_wp2_with fail
                go_roundw
                case rel => exact ⟨k + 1, Y, by omega, by go_num, hY, hx9, hp9⟩
                case measure => simp [intOf]; omega
          · have e1 : ((X.length : Int) + (T.length : Int) == (T.length : Int) + 1) = false := beq_eq_false_iff_ne.2 (by omega)
            have hdo := dostep (.inl (by have := List.length_pos_iff.2 hX.out.1; omega))
            clear dostep
            go_wp2_with fail
            refine hdep.mono ?_
            rintro e w8 ⟨rfl, rfl⟩
            go_wp2_with fail
            refine hdo.mono ?_
            rintro e w9 ⟨rfl, Y, hY, hx9, hp9⟩
            clear hdo hx hp hX goon hdep
            go_wp2_with fail
            go_roundw
            case rel => exact ⟨k + 1, Y, by omega, by go_num, hY, hx9, hp9⟩
            case measure => simp [intOf]; omega
        · obtain rfl : k = L1.length := by omega
          have HXA : Hid (X.length ≤ 201) := by have := hX.out.2.1; show _ ≤ _; omega
          have HFA : Hid ((flat (X ++ T)).length ≤ 400) := by have := hX.out.2.2; show _ ≤ _; omega
          clear hX
          go_wp2_with fail
          go_loopw [10] (fun i wq => ∃ (j : Nat) (Z : List (List Pr)), i = .int .i64 j ∧ Hid (Z.length + j ≤ 201 ∧ (flat (Z ++ T)).length ≤ 400) ∧ Hid (BX w q (fun b => False ∨ ∃ p, B = some p ∧ p.block = b) (Z ++ T) wq) ∧ Hid (PairsAt wq wq.heap.size B l)) (fun i _ => 500 - (intOf i).toNat)
          case atStart => exact ⟨0, X, rfl, ⟨by have := HXA.out; omega, HFA.out⟩, hx, hp⟩
          case round =>
            obtain ⟨j, Z, rfl, hZ, hxz, hpz⟩ := hrel
            have hj : j ≤ 201 := by have := hZ.out.1; omega
            have hZl : Z.length ≤ 201 := by have := hZ.out.1; omega
            have j1 : (j : Int) < 500 := by omega
            have j2 : (0 : Int) ≤ (j : Int) := by omega
            have hdep := bx_depth hxz.out (by simp; omega)
            have hlen : ((Z ++ T).length : Int) = (Z.length : Int) + (T.length : Int) := by simp
            rw [hlen] at hdep
            clear hlen
            cases Z with
            | nil =>
              have e0 : ((([] : List (List Pr)).length : Nat) : Int) + (T.length : Int) = (T.length : Int) := by simp
              rw [e0] at hdep
              clear e0
              have e9 : ¬ ((T.length : Int) < (T.length : Int)) := by omega
              go_wp2_with fail
              refine hdep.mono ?_
              rintro e w8 ⟨rfl, rfl⟩
              go_wp2_with fail
              refine hdep.mono ?_
              rintro e w8 ⟨rfl, rfl⟩
              go_wp2_with fail
              refine (bx_all hxz.out (by simp; omega) hT2'.out).mono ?_
              rintro e w9 ⟨B9, d9, rfl, ⟨hp9, hB9, _⟩, hx9, hs9, hb9⟩
              have hle : ([] : List (List Pr)) ++ T = T := rfl
              rw [hle, ← HL.out] at hp9 ⊢
              have HP9 := hpz.out.same (hi' := w9.heap.size) (fun p e => hs9.block p.block (.inr ⟨p, e, rfl⟩)) hb9.size
              have hll : l.length ≤ 1000000 := by rw [HL.out]; have := all_len (flat T); have := hT2'.out; omega
              have hpc := pairs_any l l w9.heap.size B9 B d9 d w9 hp9 HP9 (Nat.le_refl _) hll hll
              have hbw := hx9.low
              rw [decide_eq_true rfl] at hpc
              clear hp9 HP9 hx9 hs9 hb9 hB9 hxz hpz hdep
              go_wp2_with fail
              refine hpc.mono ?_
              rintro e w10 ⟨rfl, hb10⟩
              go_wp2_with fail
              go_ret
              exact ⟨rfl, hbw.trans (hb10.mono hbw.size)⟩
            | cons a Z =>
              have hdrop := bx_drop hxz.out (by simp at hZl; simp; omega)
              have hne := List.length_pos_iff.2 HT0.out
              rw [if_neg (by simp; omega)] at hdrop
              have hdt : dropT (a :: Z ++ T) = Z ++ T := by
                cases Z with
                | nil => cases T with
                  | nil => exact absurd rfl HT0.out
                  | cons b t => rfl
                | cons b t => rfl
              rw [hdt] at hdrop
              have hZ9 : Hid (Z.length + (j + 1) ≤ 201 ∧ (flat (Z ++ T)).length ≤ 400) := by
                obtain ⟨z1, z2⟩ := hZ.out
                have : flat (a :: Z ++ T) = flat (Z ++ T) ++ a := rfl
                rw [this, List.length_append] at z2
                simp at z1
                exact ⟨by omega, by omega⟩
              obtain ⟨m, hm⟩ : ∃ m, m = (a :: Z).length := ⟨_, rfl⟩
              have hm0 : 0 < m := by rw [hm]; simp
              rw [← hm] at hdep
              have e0 : (T.length : Int) < (m : Int) + (T.length : Int) := by omega
              clear hm hdt hne hZl
              go_wp2_with fail
              refine hdep.mono ?_
              rintro e w8 ⟨rfl, rfl⟩
              go_wp2_with fail
              refine hdrop.mono ?_
              rintro e w9 ⟨rfl, hx9, hs9⟩
              have HX9 := Lib.hid hx9
              have HP9 : Hid (PairsAt w9 w9.heap.size B l) := hpz.out.same (fun p e => hs9.block p.block (.inr ⟨p, e, rfl⟩)) hs9.size
              clear hx9 hs9 hxz hpz hdep hdrop hZ
              go_wp2_with fail
              go_roundw
              case rel => exact ⟨j + 1, Z, by go_num, hZ9, HX9, HP9⟩
              case measure => simp [intOf]; omega
theorem BufferAsNot_walk (A0 : Option Addr) (c0 : Nat) (L0 : List St8) (wl0 : L0.length ≤ 9223372036854775807) (w : World) (ws0 : Steps8 w w.heap.size A0 L0) (A1 : Option Addr) (c1 : Nat) (L1 : List St8) (wl1 : L1.length ≤ 9223372036854775807) (ws1 : Steps8 w w.heap.size A1 L1) :
    Calls Try.prog 5 #[.slice A0 L0.length c0, .slice A1 L1.length c1] w fun e w' => e = .returned (.bool true) ∧ Below w.heap.size w w' := by
  by_cases h : 200 < L0.length ∨ 200 < L1.length
  · exact asnot_big A0 c0 L0 A1 c1 L1 wl0 wl1 h w
  · exact asnot_small A0 c0 L0 A1 c1 L1 (by omega) (by omega) w ws0 ws1
theorem BufferAsNot_laid : laidOutB Try.prog = true := by kernel_rfl
set_option maxRecDepth 100000 in
theorem BufferAsNot_lifted (os : Os) (started : os.Started) (H : Type) (enc : TypeId × Value → H) :
    ReturnsInHanded {} Try.checked os 5 .any (Rows.bufferAsNotSpec.pre6 enc Try.prog Try.f5 Rows.bufferAsNotRow.domain false) (Rows.bufferAsNotSpec.post enc Try.prog Try.f5 false true false false) := by
  refine returnsInHanded_of_change (C := Try.checked) lift_own started (by kernel_rfl) Try.func5
    (ChangeSpec.witness6 (enc := enc) (C := Try.checked) false ⟨#[], #[.slice none 0 0, .slice none 0 0], []⟩ 8 (by kernel_rfl) (by kernel_rfl) (by kernel_rfl) (by kernel_rfl)) ?_
  intro W base args ds gs before hval0 hW hcnd _
  have hval : ∀ (j : Nat) t v, Try.f5.params[j]? = some t → args[j]? = some v → Value.okWide Try.prog W .any base t v := hval0
  have hW' := hW
  obtain ⟨p, q, hA0, hV, rfl, hfz, hnd⟩ := hW
  have hA : DataW.TrodAll enc Try.prog W 0 (fun _ => true) true Try.f5.params.toList args.toList ds p := hA0
  rw [Try.params5] at hA hval
  obtain ⟨v0, vs0, d0, ds0, p0, q0, hargs, rfl, rfl, h0, r0⟩ := trodAll_cons hA
  obtain ⟨v1, vs1, d1, ds1, p1, q1, rfl, rfl, rfl, h1, r1⟩ := trodAll_cons r0
  obtain ⟨rfl, rfl, rfl⟩ := trodAll_nil r1
  obtain rfl : args = #[v0, v1] := by cases args; simp_all
  obtain ⟨rfl, rfl⟩ := trodVars_none hV
  obtain ⟨A0, c0, L0, rfl, wl0, ws0⟩ := open_steps8 (hval 0 22 v0 rfl rfl) h0
  obtain ⟨A1, c1, L1, rfl, wl1, ws1⟩ := open_steps8 (hval 1 22 v1 rfl rfl) h1
  clear hA0 hval0
  simp only [List.append_nil] at hW'
  refine (BufferAsNot_walk A0 c0 L0 wl0 W ws0 A1 c1 L1 wl1 ws1).mono fun e W' ⟨he, hg⟩ => ?_
  subst he
  exact ⟨_, rfl, lift_post (pv := []) hW' (fun _ _ _ => (trodAll_cons_mk (shut_bool Try.underlying4 _) trodAll_mk0)) (fun sp hsp => (trodAll_cons_mk (WideElems.Trod_stays BufferAsNot_laid (by kernel_rfl) (of_decide_eq_true (by kernel_rfl)) h0 (fun x hx => hg.same (hW'.lt x (by simp [hx]))) (fun x hx => hsp x (by simp [hx]))) (trodAll_cons_mk (WideElems.Trod_stays BufferAsNot_laid (by kernel_rfl) (of_decide_eq_true (by kernel_rfl)) h1 (fun x hx => hg.same (hW'.lt x (by simp [hx]))) (fun x hx => hsp x (by simp [hx]))) trodAll_mk0))) (fun _ _ => rfl) (by simp)
    hg (ok_one (by kernel_rfl) rfl (okWide_bool_mk Try.underlying4 _))⟩

/-- THE STATEMENT of BufferAsNot: for every input the call returns true, and each argument reads behind it as before. -/
theorem BufferAsNot_holds : Rows.BufferAsNotSaid :=
  OpenClaim.holds_of_wide 5 Try.f5 rfl rfl rfl rfl rfl rfl rfl ⟨rfl, rfl, rfl, rfl, rfl⟩ rfl rfl rfl rfl rfl (by kernel_rfl) Try.func5 (by kernel_rfl)
    (of_decide_eq_true (by kernel_rfl)) (by unfold Func.isWrapper; first | (rw [if_pos (by decide +kernel)]; kernel_rfl) | (rw [if_neg (by decide +kernel)]; exact ⟨rfl, rfl⟩))
    (fun os started H enc _ => BufferAsNot_lifted os started H enc)

end Go.Proofs.Ytljmgoegbhkkoaa
