/-
  BufferLast: for every input the call returns true, and each argument reads behind it as before. No condition. (Without Drop what is written of a variable is what was put last; All rises, each variable once, with what Get tells; no other variable has anything.)
-/
import Derived.Test.YtljmgoegbhkkoaaLy
import Derived.BigQuiet
namespace Go.Proofs.Ytljmgoegbhkkoaa
set_option maxRecDepth 100000
open Go.RowKit Go.Maps Go.Shelf
open Go.ChangeShapes Go.WideShapes Go.Deep
set_option linter.unusedVariables false
theorem RB.keys {w : World} {q : Nat} {S : Nat → Prop} {T : List (List Pr)} (h : RB w q S T) : ∀ e ∈ flat T, wfI e.1 := by
  obtain ⟨p0, top, A, c, L, hb, rfl⟩ := h
  intro e he
  obtain ⟨r, hr, her⟩ := flat_mem he
  rcases List.mem_cons.1 hr with rfl | hr
  · exact (hb.okT e her).1
  · rw [List.mem_reverse] at hr
    obtain ⟨x, hx, rfl⟩ := List.mem_map.1 hr
    exact (hb.okL x hx e her).1
theorem BX.keys {w0 : World} {q : Nat} {N : Nat → Prop} {T : List (List Pr)} {w : World} (h : BX w0 q N T w) : ∀ e ∈ flat T, wfI e.1 := by obtain ⟨S, h, _⟩ := h; exact h.keys
/-- What All tells of its own keys. -/
theorem all_key {T : List (List Pr)} (hk : ∀ e ∈ flat T, wfI e.1) {l : List Pr} (hl : l = allS (flat T)) (k : Nat) (h : k < l.length) : wfI l[k].1 ∧ saysL T l[k].1 = some l[k].2 := by
  have hu : Up l := by rw [hl]; exact up_all _
  have h1 := up_get hu k h
  have h2 : look l l[k].1 = rowSays (flat T) l[k].1 := by
    have := look_all (flat T) l[k].1
    rwa [← hl] at this
  rw [h1] at h2
  refine ⟨?_, h2.symm⟩
  apply Classical.byContradiction
  intro hn
  rw [says_wf hk hn] at h2
  cases h2
theorem look_mem {l : List Pr} {v : Int} (h : l.any (fun p => p.1 == v) = false) : look l v = none := by
  induction l with
  | nil => rfl
  | cons a r ih =>
    simp at h
    rw [look, if_neg h.1]
    exact ih (by simpa using h.2)
set_option maxRecDepth 100000 in
set_option maxHeartbeats 4000000 in
theorem last_big (A0 : Option Addr) (c0 : Nat) (L0 : List St8) (v : Int) (hl0 : L0.length ≤ 9223372036854775807) (h : 300 < L0.length) (w : World) :
    Calls Try.prog 7 #[.slice A0 L0.length c0, .int .i64 v] w fun e w' => e = .returned (.bool true) ∧ Below w.heap.size w w' := by
  have i0 : (300 : Int) < (L0.length : Int) := by omega
  clear h
  go_enter Try.func7, Try.ntmps7
  go_wp2_with fail
  refine (awake_any _).mono ?_
  rintro e w1 ⟨rfl, hb⟩
  go_wp2_with fail
  go_ret
  exact ⟨rfl, hb⟩
set_option maxRecDepth 100000 in
set_option maxHeartbeats 8000000 in
theorem last_small (A0 : Option Addr) (c0 : Nat) (L0 : List St8) (v : Int) (hv : wfI v) (hl0 : L0.length ≤ 300) (w : World) (hs0 : Steps8 w w.heap.size A0 L0) :
    Calls Try.prog 7 #[.slice A0 L0.length c0, .int .i64 v] w fun e w' => e = .returned (.bool true) ∧ Below w.heap.size w w' := by
  have i0 : ¬ (300 : Int) < (L0.length : Int) := by omega
  have HS0 := Lib.hid hs0
  clear hs0
  go_enter Try.func7, Try.ntmps7
  go_wp2_with fail
  refine (awake_any _).mono ?_
  rintro e w1 ⟨rfl, hb1⟩
  go_wp2_with fail
  refine (bx_new w w1 hb1).mono ?_
  rintro e w2 ⟨rfl, hx2⟩
  obtain ⟨q, hq⟩ : ∃ q, q = w1.heap.size := ⟨_, rfl⟩
  rw [← hq] at hx2 ⊢
  have HX2 := Lib.hid hx2
  clear hq hx2 hb1
  go_wp2_with fail
  go_loopw [6, 7, 8] (fun wv iv i wr => ∃ (k : Nat) (T : List (List Pr)) (r : Option Int), k ≤ L0.length ∧ i = .int .i64 k ∧ wv = .int .i64 (r.getD 0) ∧ iv = .bool r.isSome ∧ Hid (saysL T v = r) ∧ Hid ((flat T).length ≤ k ∧ T.length ≤ k + 1) ∧ Hid (BX w q (fun _ => False) T wr)) (fun _ _ i _ => L0.length - (intOf i).toNat)
  case atStart => exact ⟨0, [[]], none, by omega, rfl, rfl, rfl, rfl, ⟨by simp [flat], by simp⟩, HX2⟩
  case round =>
    obtain ⟨k, T, r, hk, rfl, rfl, rfl, hr, hbd, hx⟩ := hrel
    by_cases hlt : k < L0.length
    · obtain ⟨p, rfl, mb, hst⟩ := HS0.out.below hx.out.low k hlt
      obtain ⟨s, hse⟩ : ∃ s, s = nth8 L0 k := ⟨_, rfl⟩
      rw [← hse] at hst
      have HSE := Lib.hid hse
      have hok := hst.ok
      obtain ⟨d0, d1, d2, _⟩ := hst
      have i2 : (0 : Int) ≤ (k : Int) := by omega
      have i3 : (k : Int) < (L0.length : Int) := by omega
      have i4 : (k : Int) ≤ 300 := by omega
      clear hse mb
      by_cases h2 : s.k = 2
      · have hk2 : ((s.k : Int) == 2) = true := by simp [h2]
        have HBD : Hid ((flat T).length ≤ k + 1 ∧ T.length ≤ k + 1 + 1) := by have := hbd.out; exact ⟨by omega, by omega⟩
        clear hok h2
        go_wp2_with fail
        go_roundw
        case rel => exact ⟨k + 1, T, r, by omega, by go_num, rfl, rfl, hr, HBD, hx⟩
        case measure => simp [intOf]; omega
      · have hk2 : ((s.k : Int) == 2) = false := beq_eq_false_iff_ne.2 (by omega)
        have hbt := step_bounds s.k s.v s.x T hx.out.ne
        have hcall := bx_do hx.out (by have := hbd.out; omega) (by have := hbd.out; omega) s.k s.v s.x hok.k hok.v hok.x
        have HBT : Hid ((flat (stepT s.k s.v s.x T)).length ≤ k + 1 ∧ (stepT s.k s.v s.x T).length ≤ k + 1 + 1) := by have := hbd.out; exact ⟨by omega, by omega⟩
        have hfs : flat (stepT s.k s.v s.x T) = flat T ++ (if s.k = 0 then [(s.v, s.x)] else []) := flat_step hx.out.ne h2
        have HSY : Hid (saysL (stepT s.k s.v s.x T) v = if s.k = 0 ∧ s.v = v then some s.x else r) := by
          show saysL _ v = _
          unfold saysL
          rw [hfs]
          by_cases h0 : s.k = 0
          · rw [if_pos h0, says_snoc]
            by_cases h1 : s.v = v
            · rw [if_pos h1, if_pos ⟨h0, h1⟩]
            · rw [if_neg h1, if_neg fun h => h1 h.2]; exact hr.out
          · rw [if_neg h0, if_neg fun h => h0 h.1, List.append_nil]; exact hr.out
        clear hbt hok h2 hfs
        go_wp2_with fail
        refine hcall.mono ?_
        rintro e w5 ⟨rfl, hx5, _⟩
        have HX5 := Lib.hid hx5
        obtain ⟨p', hpe, _, hst5⟩ := HS0.out.below hx5.low k hlt
        obtain rfl : p = p' := Option.some.inj hpe
        rw [← HSE.out] at hst5
        obtain ⟨f0, f1, f2, _⟩ := hst5
        clear hpe hx5 hcall hx hbd hr d0 d1 d2
        by_cases h0 : s.k = 0
        · have hk0 : ((s.k : Int) == 0) = true := by simp [h0]
          by_cases h1 : s.v = v
          · have hv1 : (s.v == v) = true := by simp [h1]
            have hsy : Hid (saysL (stepT s.k s.v s.x T) v = some s.x) := by have := HSY.out; rwa [if_pos ⟨h0, h1⟩] at this
            clear HSY h0 h1
            go_wp2_with fail
            go_roundw
            case rel => exact ⟨k + 1, _, some s.x, by omega, by go_num, rfl, rfl, hsy, HBT, HX5⟩
            case measure => simp [intOf]; omega
          · have hv1 : (s.v == v) = false := by simp [h1]
            have hsy : Hid (saysL (stepT s.k s.v s.x T) v = r) := by have := HSY.out; rwa [if_neg fun h => h1 h.2] at this
            clear HSY h0 h1
            go_wp2_with fail
            go_roundw
            case rel => exact ⟨k + 1, _, r, by omega, by go_num, rfl, rfl, hsy, HBT, HX5⟩
            case measure => simp [intOf]; omega
        · have hk0 : ((s.k : Int) == 0) = false := beq_eq_false_iff_ne.2 (by omega)
          have hsy : Hid (saysL (stepT s.k s.v s.x T) v = r) := by have := HSY.out; rwa [if_neg fun h => h0 h.1] at this
          clear HSY h0
          go_wp2_with fail
          go_roundw
          case rel => exact ⟨k + 1, _, r, by omega, by go_num, rfl, rfl, hsy, HBT, HX5⟩
          case measure => simp [intOf]; omega
    · obtain rfl : k = L0.length := by omega
      have hT1 : T.length ≤ 301 := by have := hbd.out; omega
      have hT2 : (flat T).length ≤ 300 := by have := hbd.out; omega
      have hget := bx_get hx.out (by omega) (by omega) v hv
      rw [hr.out] at hget
      have hg : got r = .tuple #[.int .i64 (r.getD 0), .bool r.isSome] := rfl
      rw [hg] at hget
      have HK := Lib.hid hx.out.keys
      clear hg hbd hx
      have e1 : (r.isSome != r.isSome) = false := by simp
      have e2 : (r.getD 0 != r.getD 0) = false := by simp
      go_wp2_with fail
      refine hget.mono ?_
      rintro e w5 ⟨rfl, hx5, _, _⟩
      have HX5 := Lib.hid hx5
      clear hx5 hget
      go_wp2_with fail
      refine (bx_all HX5.out (by omega) (by omega)).mono ?_
      rintro e w6 ⟨B, d, rfl, ⟨hp, hB, _⟩, hx6, _, hbel⟩
      obtain ⟨l, hl⟩ : ∃ l, l = allS (flat T) := ⟨_, rfl⟩
      have HL : Hid (l = allS (flat T)) := hl
      have hll : l.length ≤ 300 := by rw [hl]; have := all_len (flat T); omega
      rw [← hl] at hp ⊢
      clear hl
      have HX6 := Lib.hid hx6
      have HP : Hid (PairsAt w6 w6.heap.size B l) := hp
      clear hx6 hp hB hbel HX5
      go_wp2_with fail
      go_loopw [7, 12] (fun iv i wr => ∃ (k : Nat) (bk : Bool), k ≤ l.length ∧ i = .int .i64 k ∧ iv = .bool bk ∧ Hid (bk = (r.isSome && !(l.take k).any (fun p => p.1 == v))) ∧ Hid (BX w q (fun b => False ∨ ∃ p, B = some p ∧ p.block = b) T wr) ∧ Hid (PairsAt wr wr.heap.size B l)) (fun _ i _ => l.length - (intOf i).toNat)
      case atStart => exact ⟨0, r.isSome, by omega, rfl, rfl, by show _ = _; simp, HX6, HP⟩
      case round =>
        obtain ⟨k, bk, hk, rfl, rfl, hbk, hx, hp⟩ := hrel
        by_cases hlt : k < l.length
        · obtain ⟨p, rfl, mb, x1, x2⟩ := hp.out k hlt
          obtain ⟨hw1, hy1⟩ := all_key HK.out HL.out k hlt
          have hget := fun (W : World) (hW : BX w q (fun b => False ∨ ∃ p_1, some p = some p_1 ∧ p_1.block = b) T W) => bx_get hW (by omega) (by omega) l[k].1 hw1
          rw [hy1] at hget
          have hg : got (some l[k].2) = .tuple #[.int .i64 l[k].2, .bool true] := rfl
          rw [hg] at hget
          have htk : (l.take (k + 1)).any (fun p => p.1 == v) = ((l.take k).any (fun p => p.1 == v) || (l[k].1 == v)) := by rw [List.take_succ_eq_append_getElem hlt, List.any_append]; simp
          have HTK := Lib.hid htk
          have hup : Up l := by rw [HL.out]; exact up_all _
          have i2 : (0 : Int) ≤ (k : Int) := by omega
          have i3 : (k : Int) < (l.length : Int) := by omega
          have i4 : (k : Int) ≤ 300 := by omega
          have hbelow : ∀ n, Below wr.heap.size wr (wr.drewN n) := fun n => drewN_below8 wr n
          have FIN : ∀ (n : Nat), Hid (BX w q (fun b => False ∨ ∃ p_1, some p = some p_1 ∧ p_1.block = b) T (wr.drewN n) ∧ PairsAt (wr.drewN n) (wr.drewN n).heap.size (some p) l) := fun n => ⟨(hx.out.below (hbelow n)).1, hp.out.below (hbelow n) (Nat.le_refl _)⟩
          obtain ⟨u1, hu1⟩ : ∃ u, u = l[k].1 := ⟨_, rfl⟩
          obtain ⟨u2, hu2⟩ : ∃ u, u = l[k].2 := ⟨_, rfl⟩
          have HU : Hid (u1 = l[k].1 ∧ u2 = l[k].2) := ⟨hu1, hu2⟩
          rw [← hu1, ← hu2] at hget
          rw [← hu1] at x1
          rw [← hu2] at x2
          by_cases h0 : 0 < k
          · obtain ⟨m, hm⟩ : ∃ m, k = m + 1 := ⟨k - 1, by omega⟩
            have hlt' : m < l.length := by omega
            obtain ⟨p', hpe, _, y1, _⟩ := hp.out m hlt'
            obtain rfl : p = p' := Option.some.inj hpe
            have hlow : l[m].1 < l[k].1 := List.pairwise_iff_getElem.1 hup m k hlt' hlt (by omega)
            obtain ⟨u3, hu3⟩ : ∃ u, u = l[m].1 := ⟨_, rfl⟩
            rw [← hu1, ← hu3] at hlow
            rw [← hu3] at y1
            have hkm : (k : Int) - 1 = (m : Int) := by omega
            have j1 : (0 : Int) ≤ (m : Int) := by omega
            have j2 : (m : Int) < (l.length : Int) := by omega
            have j3 : (0 : Int) < (k : Int) := by omega
            have j4 : ¬ (u1 ≤ u3) := by omega
            have j5 : (m : Int) ≤ 300 := by omega
            clear hg htk hu1 hu2 hu3 hw1 hy1 hbelow hup hm hlow hpe
            go_wp2_with fail
            go_quiet (fail)
            go_wp2_with fail
            refine (hget _ (FIN nq).out.1).mono ?_
            rintro e w7 ⟨rfl, hx7, hs7, hb7⟩
            have HP7 : Hid (PairsAt w7 w7.heap.size (some p) l) := (FIN nq).out.2.same (fun p_1 e => hs7.block p_1.block (.inr ⟨p_1, e, rfl⟩)) hs7.size
            have HX7 := Lib.hid hx7
            obtain ⟨p', hpe, _, z1, z2⟩ := HP7.out k hlt
            obtain rfl : p = p' := Option.some.inj hpe
            rw [← HU.out.1] at z1
            rw [← HU.out.2] at z2
            have NB : Hid ((bk && !(u1 == v)) = (r.isSome && !(l.take (k + 1)).any (fun p => p.1 == v))) := by
              show _ = _
              rw [HTK.out, hbk.out, HU.out.1]
              cases r.isSome <;> cases (l.take k).any (fun p => p.1 == v) <;> cases (l[k].1 == v) <;> rfl
            clear hx7 hs7 hb7 hpe hget hp hx HTK hbk x1 x2
            by_cases hv1 : u1 = v
            · have e5 : (u1 == v) = true := by simp [hv1]
              have NB2 : Hid (false = (r.isSome && !(l.take (k + 1)).any (fun p => p.1 == v))) := by have := NB.out; rw [e5, Bool.not_true, Bool.and_false] at this; exact this
              clear hv1
              go_wp2_with fail
              go_roundw
              case rel => exact ⟨k + 1, false, by omega, by go_num, rfl, NB2, HX7, HP7⟩
              case measure => simp [intOf]; omega
            · have e5 : (u1 == v) = false := by simp [hv1]
              have NB2 : Hid (bk = (r.isSome && !(l.take (k + 1)).any (fun p => p.1 == v))) := by have := NB.out; rw [e5, Bool.not_false, Bool.and_true] at this; exact this
              clear hv1
              go_wp2_with fail
              go_roundw
              case rel => exact ⟨k + 1, bk, by omega, by go_num, rfl, NB2, HX7, HP7⟩
              case measure => simp [intOf]; omega
          · have j3 : ¬ ((0 : Int) < (k : Int)) := by omega
            clear hg htk hu1 hu2 hw1 hy1 hbelow hup
            go_wp2_with fail
            go_quiet (fail)
            go_wp2_with fail
            refine (hget _ (FIN nq).out.1).mono ?_
            rintro e w7 ⟨rfl, hx7, hs7, hb7⟩
            have HP7 : Hid (PairsAt w7 w7.heap.size (some p) l) := (FIN nq).out.2.same (fun p_1 e => hs7.block p_1.block (.inr ⟨p_1, e, rfl⟩)) hs7.size
            have HX7 := Lib.hid hx7
            obtain ⟨p', hpe, _, z1, z2⟩ := HP7.out k hlt
            obtain rfl : p = p' := Option.some.inj hpe
            rw [← HU.out.1] at z1
            rw [← HU.out.2] at z2
            have NB : Hid ((bk && !(u1 == v)) = (r.isSome && !(l.take (k + 1)).any (fun p => p.1 == v))) := by
              show _ = _
              rw [HTK.out, hbk.out, HU.out.1]
              cases r.isSome <;> cases (l.take k).any (fun p => p.1 == v) <;> cases (l[k].1 == v) <;> rfl
            clear hx7 hs7 hb7 hpe hget hp hx HTK hbk x1 x2
            by_cases hv1 : u1 = v
            · have e5 : (u1 == v) = true := by simp [hv1]
              have NB2 : Hid (false = (r.isSome && !(l.take (k + 1)).any (fun p => p.1 == v))) := by have := NB.out; rw [e5, Bool.not_true, Bool.and_false] at this; exact this
              clear hv1
              go_wp2_with fail
              go_roundw
              case rel => exact ⟨k + 1, false, by omega, by go_num, rfl, NB2, HX7, HP7⟩
              case measure => simp [intOf]; omega
            · have e5 : (u1 == v) = false := by simp [hv1]
              have NB2 : Hid (bk = (r.isSome && !(l.take (k + 1)).any (fun p => p.1 == v))) := by have := NB.out; rw [e5, Bool.not_false, Bool.and_true] at this; exact this
              clear hv1
              go_wp2_with fail
              go_roundw
              case rel => exact ⟨k + 1, bk, by omega, by go_num, rfl, NB2, HX7, HP7⟩
              case measure => simp [intOf]; omega
        · obtain rfl : k = l.length := by omega
          have hb0 : bk = false := by
            rw [hbk.out, List.take_length]
            cases hs : r.isSome with
            | false => rfl
            | true =>
              cases hany : l.any (fun p => p.1 == v) with
              | true => rfl
              | false =>
                have h1 := look_mem hany
                have h2 : look l v = rowSays (flat T) v := by rw [HL.out]; exact look_all _ _
                rw [h1, show rowSays (flat T) v = r from hr.out] at h2
                rw [← h2] at hs
                cases hs
          subst hb0
          have hbw := hx.out.low
          clear hbk
          go_wp2_with fail
          go_ret
          exact ⟨rfl, hbw⟩
theorem BufferLast_walk (A0 : Option Addr) (c0 : Nat) (L0 : List St8) (wl0 : L0.length ≤ 9223372036854775807) (w : World) (ws0 : Steps8 w w.heap.size A0 L0) (v : Int) (hv : (Lit.int .i64 v).wf = true) :
    Calls Try.prog 7 #[.slice A0 L0.length c0, .int .i64 v] w fun e w' => e = .returned (.bool true) ∧ Below w.heap.size w w' := by
  by_cases h : 300 < L0.length
  · exact last_big A0 c0 L0 v wl0 h w
  · exact last_small A0 c0 L0 v hv (by omega) w ws0
theorem BufferLast_laid : laidOutB Try.prog = true := by kernel_rfl
set_option maxRecDepth 100000 in
theorem BufferLast_lifted (os : Os) (started : os.Started) (H : Type) (enc : TypeId × Value → H) :
    ReturnsInHanded {} Try.checked os 7 .any (Rows.bufferLastSpec.pre6 enc Try.prog Try.f7 Rows.bufferLastRow.domain false) (Rows.bufferLastSpec.post enc Try.prog Try.f7 false true false false) := by
  refine returnsInHanded_of_change (C := Try.checked) lift_own started (by kernel_rfl) Try.func7
    (ChangeSpec.witness6 (enc := enc) (C := Try.checked) false ⟨#[], #[.slice none 0 0, .int .i64 0], []⟩ 8 (by kernel_rfl) (by kernel_rfl) (by kernel_rfl) (by kernel_rfl)) ?_
  intro W base args ds gs before hval0 hW hcnd _
  have hval : ∀ (j : Nat) t v, Try.f7.params[j]? = some t → args[j]? = some v → Value.okWide Try.prog W .any base t v := hval0
  have hW' := hW
  obtain ⟨p, q, hA0, hV, rfl, hfz, hnd⟩ := hW
  have hA : DataW.TrodAll enc Try.prog W 0 (fun _ => true) true Try.f7.params.toList args.toList ds p := hA0
  rw [Try.params7] at hA hval
  obtain ⟨v0, vs0, d0, ds0, p0, q0, hargs, rfl, rfl, h0, r0⟩ := trodAll_cons hA
  obtain ⟨v1, vs1, d1, ds1, p1, q1, rfl, rfl, rfl, h1, r1⟩ := trodAll_cons r0
  obtain ⟨rfl, rfl, rfl⟩ := trodAll_nil r1
  obtain rfl : args = #[v0, v1] := by cases args; simp_all
  obtain ⟨rfl, rfl⟩ := trodVars_none hV
  obtain ⟨A0, c0, L0, rfl, wl0, ws0⟩ := open_steps8 (hval 0 22 v0 rfl rfl) h0
  obtain ⟨a1, rfl, rfl, rfl, w1⟩ := open_int Try.underlying3 (hval 1 3 v1 rfl rfl) h1
  clear hA0 hval0
  simp only [List.append_nil] at hW'
  refine (BufferLast_walk A0 c0 L0 wl0 W ws0 a1 w1).mono fun e W' ⟨he, hg⟩ => ?_
  subst he
  exact ⟨_, rfl, lift_post (pv := []) hW' (fun _ _ _ => (trodAll_cons_mk (shut_bool Try.underlying4 _) trodAll_mk0)) (fun sp hsp => (trodAll_cons_mk (WideElems.Trod_stays BufferLast_laid (by kernel_rfl) (of_decide_eq_true (by kernel_rfl)) h0 (fun x hx => hg.same (hW'.lt x (by simp [hx]))) (fun x hx => hsp x (by simp [hx]))) (trodAll_cons_mk (shut_int Try.underlying3 w1) trodAll_mk0))) (fun _ _ => rfl) (by simp)
    hg (ok_one (by kernel_rfl) rfl (okWide_bool_mk Try.underlying4 _))⟩

/-- THE STATEMENT of BufferLast: for every input the call returns true, and each argument reads behind it as before. -/
theorem BufferLast_holds : Rows.BufferLastSaid :=
  OpenClaim.holds_of_wide 7 Try.f7 rfl rfl rfl rfl rfl rfl rfl ⟨rfl, rfl, rfl, rfl, rfl⟩ rfl rfl rfl rfl rfl (by kernel_rfl) Try.func7 (by kernel_rfl)
    (of_decide_eq_true (by kernel_rfl)) (by unfold Func.isWrapper; first | (rw [if_pos (by decide +kernel)]; kernel_rfl) | (rw [if_neg (by decide +kernel)]; exact ⟨rfl, rfl⟩))
    (fun os started H enc _ => BufferLast_lifted os started H enc)

end Go.Proofs.Ytljmgoegbhkkoaa
