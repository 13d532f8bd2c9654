/-
  SEVERAL TEXTS IN ONE (a claim has sixty files at most): Jw, Jx: the head of each stands ahead of it. No condition but theirs.
-/
import Derived.Test.YthdcdffdpdoeoaaGreatDoorZu
/-
  PLAIN LEAN (layer 9): what a statement makes of locals, blocks and levels; that it is the machine's step. No condition.
-/
namespace Go.Proofs.YthdcdffdpdoeoaaGreatDoor
set_option maxRecDepth 100000
set_option linter.unusedVariables false
/-- What a statement makes of locals, blocks (the innermost one first) and levels. -/
def doS (vars : Int) (got : List Int) (s : St) (l : List Int) (F : List Fr9) (T : List (List Pr)) : List Int × List Fr9 × List (List Pr) :=
  match s.kind with
  | 1 => (l.set s.to.toNat (evalF s.a l got).1, F, T)
  | 2 => (l.set s.to.toNat ((saysL T (varF (evalF s.a l got).1 vars).1).getD 0), F, T)
  | 3 => (l, F, putT (varF (evalF s.a l got).1 vars).1 (evalF s.b l got).1 T)
  | 4 => (l, ⟨if (evalF s.a l got).1 = 0 then s.els else s.body, [], 0, none⟩ :: F, T)
  | 5 => (l, ⟨[], s.body, (min (evalF s.a l got).1 8).toNat, none⟩ :: F, T)
  | 6 => match keptOf F with
    | some x => (x.1, ⟨x.2.1, [], 0, none⟩ :: x.2.2, dropT T)
    | none => (l, F, T)
  | 7 => (l, ⟨s.body, [], 0, some (l, s.els)⟩ :: F, [] :: T)
  | _ => (l, F, T)
theorem dropT_tail {T : List (List Pr)} (h : ¬ T.length < 2) : dropT T = T.tail := by
  match T, h with
  | [], h => exact absurd (by simp) h
  | [a], h => exact absurd (by simp) h
  | a :: b :: t, _ => rfl
theorem doS_len {vars : Int} {got : List Int} {s : St} {l : List Int} {F : List Fr9} {T : List (List Pr)} (h : T.length = keptN F + 1) : (doS vars got s l F T).2.2.length = keptN (doS vars got s l F T).2.1 + 1 := by
  unfold doS
  split
  · exact h
  · exact h
  · rw [putT_len]; exact h
  · show T.length = keptN (_ :: F) + 1; rw [keptN]; simpa using h
  · show T.length = keptN (_ :: F) + 1; rw [keptN]; simpa using h
  · cases hk : keptOf F with
    | none => exact h
    | some x =>
      obtain ⟨l', e, r⟩ := x
      have h1 := keptOf_n hk
      have h2 : ¬ T.length < 2 := by omega
      show (dropT T).length = keptN (_ :: r) + 1
      rw [dropT_tail h2, keptN]
      simp
      omega
  · show (([] : List Pr) :: T).length = keptN (_ :: F) + 1; rw [keptN]; simp; omega
  · exact h
theorem put_tail (v x : Int) {T : List (List Pr)} : (putT v x T).tail = T.tail := by cases T <;> rfl
theorem tail_flat {T : List (List Pr)} (h : T ≠ []) (v x : Int) : flatB (putT v x T) = flatB T ++ [(v, x)] := flat_put h v x
/-- The step, as the machine's. -/
theorem step_plain {vars : Int} {got : List Int} {m : PM} {s : St} {rr : List St} {f : Fr9} {F : List Fr9} {T : List (List Pr)} (hf : f.rest = s :: rr) (hk : kOf (f :: F) T = bareI m.k) (hw : m.w = flatB T) (hT : T.length = keptN (f :: F) + 1) (h1 : 1 ≤ s.kind) (h7 : s.kind ≤ 7) (h6 : s.kind = 6 → keptOf (f :: F) ≠ none) :
    bareI (stepI vars got m).k = bareI (kOf (doS vars got s m.l ({ f with rest := rr } :: F) T).2.1 (doS vars got s m.l ({ f with rest := rr } :: F) T).2.2) ∧ (stepI vars got m).l = (doS vars got s m.l ({ f with rest := rr } :: F) T).1 ∧ (stepI vars got m).w = flatB (doS vars got s m.l ({ f with rest := rr } :: F) T).2.2 ∧ (stepI vars got m).n = m.n + 1 := by
  have hne : T ≠ [] := by intro e; rw [e] at hT; simp at hT
  have hk2 : bareI m.k = .st s :: kOf ({ f with rest := rr } :: F) T := by
    rw [← hk]
    obtain ⟨rest, body, turns, kept⟩ := f
    have hf : rest = s :: rr := hf
    subst hf
    rfl
  have hs : ∀ v, rowSays m.w v = saysL T v := fun v => by rw [hw]; rfl
  have hko : keptOf ({ f with rest := rr } :: F) = keptOf (f :: F) := rfl
  unfold stepI doS
  rw [hk2]
  dsimp only
  have hc : s.kind = 1 ∨ s.kind = 2 ∨ s.kind = 3 ∨ s.kind = 4 ∨ s.kind = 5 ∨ s.kind = 6 ∨ s.kind = 7 := by omega
  rcases hc with e | e | e | e | e | e | e
  · rw [e]; exact ⟨rfl, rfl, hw, rfl⟩
  · rw [e]
    try dsimp only
    refine ⟨rfl, ?_, hw, rfl⟩
    rw [hs]
    rfl
  · rw [e]
    try dsimp only
    refine ⟨congrArg bareI (kOf_tail _ (put_tail _ _).symm), rfl, ?_, rfl⟩
    exact (by rw [hw]; exact (flat_put hne _ _).symm : m.w ++ [(varI vars got m s.a, valI got m s.b)] = flatB (putT (varF (evalF s.a m.l got).1 vars).1 (evalF s.b m.l got).1 T))
  · rw [e]
    try dsimp only
    exact ⟨rfl, rfl, hw, rfl⟩
  · rw [e]
    try dsimp only
    exact ⟨rfl, rfl, hw, rfl⟩
  · rw [e]
    try dsimp only
    rw [mark_kOf, hko]
    cases hkk : keptOf (f :: F) with
    | none => exact absurd hkk (h6 e)
    | some x =>
      obtain ⟨l', e', r⟩ := x
      have hn := keptOf_n hkk
      have h2 : ¬ T.length < 2 := by omega
      dsimp only [Option.map]
      rw [dropT_tail h2]
      exact ⟨rfl, rfl, rfl, rfl⟩
  · rw [e]
    try dsimp only
    refine ⟨?_, rfl, ?_, rfl⟩
    · exact congrArg (fun q => bareI (itemsI s.body (It.mark m.l q s.els :: kOf ({ f with rest := rr } :: F) T))) hw
    · exact hw.trans (flat_push T).symm
/-- What is asked for, as the machine asks. -/
theorem ask_plain {E : Ev9} {m : PM} {s : St} {rr : List St} {L : List Fx} {f : Fx} {T : List (List Pr)} (hf : f.rest = s :: rr) (hk : kOf (plF (L ++ [f])) T = bareI m.k) (hw : m.w = flatB T) : nextI E.vars E.got m = askS E m.l (L ++ [f]) T s := by
  rw [plF_snoc] at hk
  have hk2 : bareI m.k = .st s :: kOf ({ f.pl with rest := rr } :: plF L) T := by
    rw [← hk]
    obtain ⟨rest, RA, rc, body, BA, bc, turns, kept⟩ := f
    have hf : rest = s :: rr := hf
    subst hf
    rfl
  have hs : ∀ v, rowSays m.w v = saysL T v := fun v => by rw [hw]; rfl
  have hko : keptOf ({ f.pl with rest := rr } :: plF L) = keptOf (plF (L ++ [f])) := by rw [plF_snoc]; rfl
  unfold nextI askS
  rw [hk2]
  dsimp only
  by_cases h8 : s.kind = 8
  · rw [if_pos h8, if_pos h8]; rfl
  · rw [if_neg h8, if_neg h8]
    by_cases h6 : s.kind = 6
    · rw [if_pos h6, if_pos h6, mark_kOf, hko]
      rcases inner_of _ (L ++ [f]) rfl with ⟨q1, q2⟩ | ⟨L1, g, L2, k, q1, q2, q3, q4⟩
      · rw [q1, q2]; rfl
      · rw [q4, q3]
        have : ¬ ((L1.length : Int) < 0) := by omega
        rw [if_neg this]
        rfl
    · rw [if_neg h6, if_neg h6]
      by_cases h2 : s.kind = 2
      · rw [if_pos h2, if_pos h2, hs]
        rfl
      · rw [if_neg h2, if_neg h2]
end Go.Proofs.YthdcdffdpdoeoaaGreatDoor
/-
  CONTRACT OF PACKAGE interp's Step (layer 9): the next statement is done. Conditions: as they stand.
-/
namespace Go.Proofs.YthdcdffdpdoeoaaGreatDoor
set_option maxRecDepth 100000
open Go.RowKit Go.Deep
set_option linter.unusedVariables false
section
variable {E : Ev9} {w w' : World} {l : List Int} {L : List Fx} {f : Fx} {T : List (List Pr)} {n : Nat} {A : Option Addr} {c : Nat} {S S2 SB I : Nat → Prop}
/-- What is known ahead of a statement. -/
structure Pre9 (E : Ev9) (w : World) (l : List Int) (L : List Fx) (T : List (List Pr)) (n : Nat) (A : Option Addr) (c : Nat) (S SB I : Nat → Prop) (r : Raw) (s : St) : Prop where
  m : RMat E w l L T n A c S SB I
  sat : SAc w E.lo E.hi E.D r s
  into : Into9 L s
  t0 : 0 ≤ s.to
  t8 : s.to < 8
  room : (flatB T).length < n
  few : n ≤ 1000
  lev : T.length = keptN (plF L) + 1
  k6 : s.kind = 6 → keptOf (plF L) ≠ none
/-- What a statement leaves. -/
def Post9 (E : Ev9) (w : World) (S : Nat → Prop) (l : List Int) (L : List Fx) (T : List (List Pr)) (n : Nat) (s : St) (w' : World) : Prop :=
  ∃ l' L' T' A' c' S' SB' I', RMat E w' l' L' T' n A' c' S' SB' I' ∧ Tr E w S w' S' ∧ doS E.vars E.got s l (plF L) T = (l', plF L', T')
theorem stmt9_1 {r : Raw} {s : St} (h : Pre9 E w l L T n A c S SB I r s) (hk : s.kind = 1) : Calls Tryz.prog 45 #[.pointer (some ⟨E.q, 0, none⟩), r.v] w fun e w' => (∃ v, e = .returned v) ∧ Post9 E w S l L T n s w' := by
  refine (set_any h.m h.sat h.t0 h.t8).mono ?_
  rintro e w' ⟨hv, h', t'⟩
  exact ⟨hv, _, _, _, _, _, _, _, _, h', t', by unfold doS; rw [hk]; try rfl⟩
theorem stmt9_2 {r : Raw} {s : St} (h : Pre9 E w l L T n A c S SB I r s) (hk : s.kind = 2) : Calls Tryz.prog 46 #[.pointer (some ⟨E.q, 0, none⟩), r.v] w fun e w' => (∃ v, e = .returned v) ∧ Post9 E w S l L T n s w' := by
  refine (read_any h.m h.sat h.t0 h.t8 h.few).mono ?_
  rintro e w' ⟨hv, h', t'⟩
  exact ⟨hv, _, _, _, _, _, _, _, _, h', t', by unfold doS; rw [hk]; try rfl⟩
theorem stmt9_3 {r : Raw} {s : St} (h : Pre9 E w l L T n A c S SB I r s) (hk : s.kind = 3) : Calls Tryz.prog 47 #[.pointer (some ⟨E.q, 0, none⟩), r.v] w fun e w' => (∃ v, e = .returned v) ∧ Post9 E w S l L T n s w' := by
  refine (write_any h.m h.sat h.room h.few).mono ?_
  rintro e w' ⟨hv, S', SB', h', t'⟩
  exact ⟨hv, _, _, _, _, _, _, _, _, h', t', by unfold doS; rw [hk]; try rfl⟩
theorem stmt9_4 {r : Raw} {s : St} (h : Pre9 E w l L T n A c S SB I r s) (hk : s.kind = 4) : Calls Tryz.prog 48 #[.pointer (some ⟨E.q, 0, none⟩), r.v] w fun e w' => (∃ v, e = .returned v) ∧ Post9 E w S l L T n s w' := by
  refine (either_any h.m h.sat h.into).mono ?_
  rintro e w' ⟨hv, f, hf, A', c', S', h', t'⟩
  exact ⟨hv, _, _, _, _, _, _, _, _, h', t', by unfold doS; rw [hk, plF_snoc, hf]; try rfl⟩
theorem stmt9_5 {r : Raw} {s : St} (h : Pre9 E w l L T n A c S SB I r s) (hk : s.kind = 5) : Calls Tryz.prog 49 #[.pointer (some ⟨E.q, 0, none⟩), r.v] w fun e w' => (∃ v, e = .returned v) ∧ Post9 E w S l L T n s w' := by
  refine (loop_any h.m h.sat h.into).mono ?_
  rintro e w' ⟨hv, f, hf, A', c', S', h', t'⟩
  exact ⟨hv, _, _, _, _, _, _, _, _, h', t', by unfold doS; rw [hk, plF_snoc, hf]; try rfl⟩
theorem stmt9_6 {r : Raw} {s : St} (h : Pre9 E w l L T n A c S SB I r s) (hk : s.kind = 6) : Calls Tryz.prog 50 #[.pointer (some ⟨E.q, 0, none⟩), r.v] w fun e w' => (∃ v, e = .returned v) ∧ Post9 E w S l L T n s w' := by
  rcases inner_of _ L rfl with ⟨q1, _⟩ | ⟨L1, g, L2, k, q1, q2, q3, q4⟩
  · exact absurd q1 (h.k6 hk)
  · subst q1
    have hT : ¬ T.length < 2 := by
      have := keptOf_n q4
      have := h.lev
      omega
    refine (retry_any (r := r) h.m q2 q3 hT).mono ?_
    rintro e w' ⟨hv, f, hf, A', c', S', SB', h', t'⟩
    exact ⟨hv, _, _, _, _, _, _, _, _, h', t', by unfold doS; rw [hk, plF_snoc, hf]; simp only [q4]⟩
theorem stmt9_7 {r : Raw} {s : St} (h : Pre9 E w l L T n A c S SB I r s) (hk : s.kind = 7) : Calls Tryz.prog 51 #[.pointer (some ⟨E.q, 0, none⟩), r.v] w fun e w' => (∃ v, e = .returned v) ∧ Post9 E w S l L T n s w' := by
  have hT : T.length ≤ 10 := by
    have h1 := keptN_le (plF L)
    have h2 := h.m.frames
    have h3 := h.lev
    simp [plF] at h1 h3
    omega
  refine (orElse_any h.m h.sat h.into hT).mono ?_
  rintro e w' ⟨hv, f, hf, A', c', S', SB', I', h', t'⟩
  exact ⟨hv, _, _, _, _, _, _, _, _, h', t', by unfold doS; rw [hk, plF_snoc, hf]; try rfl⟩
end
end Go.Proofs.YthdcdffdpdoeoaaGreatDoor
