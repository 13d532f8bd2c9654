/-
  A BUFFER OF THE PROGRAM AND ONE OF seesawref08, EACH IN BLOCKS OF ITS OWN, AND COPIES OF BOTH (Two): what each call makes of them. Conditions: as they stand.
-/
import Derived.Test.YtmjcipojidimgaaMj
namespace Go.Proofs.Ytmjcipojidimgaa
set_option maxRecDepth 100000
open Go.RowKit
set_option linter.unusedVariables false
/-- The program's buffer at qa has the levels Ta, seesawref08's at qb has Tb; x, y are they, or copies of both with the levels T0; all in blocks made behind w0. -/
def Two (w0 : World) (qa qb x y : Nat) (Ta Tb T0 : List (List Pr)) (w : World) : Prop := ∃ Sa Sb, RB w qa Sa Ta ∧ RR w qb Sb Tb ∧ (∀ b, Sa b → w0.heap.size ≤ b ∧ ¬ Sb b) ∧ (∀ b, Sb b → w0.heap.size ≤ b) ∧ Below w0.heap.size w0 w ∧ ((x = qa ∧ y = qb) ∨ ∃ Sx Sy, RB w x Sx T0 ∧ RR w y Sy T0 ∧ ∀ b, Sx b ∨ Sy b → ¬ Sa b ∧ ¬ Sb b)
theorem Two.low {w0 : World} {qa qb x y : Nat} {Ta Tb T0 : List (List Pr)} {w : World} (h : Two w0 qa qb x y Ta Tb T0 w) : Below w0.heap.size w0 w := by obtain ⟨_, _, _, _, _, _, h, _⟩ := h; exact h
theorem Two.ne {w0 : World} {qa qb x y : Nat} {Ta Tb T0 : List (List Pr)} {w : World} (h : Two w0 qa qb x y Ta Tb T0 w) : Ta ≠ [] := by obtain ⟨_, _, h, _⟩ := h; exact h.ne
theorem Two.stepA {w0 : World} {qa qb x y : Nat} {Tb T0 Ta' : List (List Pr)} {w w' : World} {Sa Sb Sa' : Nat → Prop} (ha' : RB w' qa Sa' Ta') (hb : RR w qb Sb Tb) (hS' : ∀ b, Sa' b → Sa b ∨ w.heap.size ≤ b) (hF : Fro Sa w w') (h1 : ∀ b, Sa b → w0.heap.size ≤ b ∧ ¬ Sb b) (h2 : ∀ b, Sb b → w0.heap.size ≤ b) (h3 : Below w0.heap.size w0 w)
    (h4 : (x = qa ∧ y = qb) ∨ ∃ Sx Sy, RB w x Sx T0 ∧ RR w y Sy T0 ∧ ∀ b, Sx b ∨ Sy b → ¬ Sa b ∧ ¬ Sb b) : Two w0 qa qb x y Ta' Tb T0 w' := by
  refine ⟨Sa', Sb, ha', hb.keep hF (fun b hs h => (h1 b h).2 hs), fun b hs => ?_, h2, h3.trans (hF.below (fun i h => (h1 i h).1) h3.size), ?_⟩
  · rcases hS' b hs with h | h
    · exact h1 b h
    · exact ⟨by have := h3.size; omega, fun hn => by have := hb.lt b hn; omega⟩
  · rcases h4 with h4 | ⟨Sx, Sy, hx, hy, h4⟩
    · exact .inl h4
    · refine .inr ⟨Sx, Sy, hx.keep hF (fun b hs h => (h4 b (.inl hs)).1 h), hy.keep hF (fun b hs h => (h4 b (.inr hs)).1 h), fun b hs => ⟨fun h => ?_, (h4 b hs).2⟩⟩
      rcases hS' b h with h | h
      · exact (h4 b hs).1 h
      · rcases hs with hs | hs
        · have := hx.lt b hs; omega
        · have := hy.lt b hs; omega
theorem Two.stepB {w0 : World} {qa qb x y : Nat} {Ta T0 Tb' : List (List Pr)} {w w' : World} {Sa Sb Sb' : Nat → Prop} (ha : RB w qa Sa Ta) (hb' : RR w' qb Sb' Tb') (hS' : ∀ b, Sb' b → Sb b ∨ w.heap.size ≤ b) (hF : Fro Sb w w') (h1 : ∀ b, Sa b → w0.heap.size ≤ b ∧ ¬ Sb b) (h2 : ∀ b, Sb b → w0.heap.size ≤ b) (h3 : Below w0.heap.size w0 w)
    (h4 : (x = qa ∧ y = qb) ∨ ∃ Sx Sy, RB w x Sx T0 ∧ RR w y Sy T0 ∧ ∀ b, Sx b ∨ Sy b → ¬ Sa b ∧ ¬ Sb b) : Two w0 qa qb x y Ta Tb' T0 w' := by
  refine ⟨Sa, Sb', ha.keep hF (fun b hs h => (h1 b hs).2 h), hb', fun b hs => ⟨(h1 b hs).1, fun h => ?_⟩, fun b hs => ?_, h3.trans (hF.below h2 h3.size), ?_⟩
  · rcases hS' b h with h | h
    · exact (h1 b hs).2 h
    · have := ha.lt b hs; omega
  · rcases hS' b hs with h | h
    · exact h2 b h
    · have := h3.size; omega
  · rcases h4 with h4 | ⟨Sx, Sy, hx, hy, h4⟩
    · exact .inl h4
    · refine .inr ⟨Sx, Sy, hx.keep hF (fun b hs h => (h4 b (.inl hs)).2 h), hy.keep hF (fun b hs h => (h4 b (.inr hs)).2 h), fun b hs => ⟨(h4 b hs).1, fun h => ?_⟩⟩
      rcases hS' b h with h | h
      · exact (h4 b hs).2 h
      · rcases hs with hs | hs
        · have := hx.lt b hs; omega
        · have := hy.lt b hs; omega
theorem Two.below {w0 : World} {qa qb x y : Nat} {Ta Tb T0 : List (List Pr)} {w w' : World} (h : Two w0 qa qb x y Ta Tb T0 w) (hB : Below w.heap.size w w') : Two w0 qa qb x y Ta Tb T0 w' := by
  obtain ⟨Sa, Sb, ha, hb, h1, h2, h3, h4⟩ := h
  have hF : Fro (fun _ => False) w w' := Fro.of_below hB (Nat.le_refl _)
  refine ⟨Sa, Sb, ha.keep hF (fun _ _ h => h), hb.keep hF (fun _ _ h => h), h1, h2, h3.trans (hB.mono h3.size), ?_⟩
  rcases h4 with h4 | ⟨Sx, Sy, hx, hy, h4⟩
  · exact .inl h4
  · exact .inr ⟨Sx, Sy, hx.keep hF (fun _ _ h => h), hy.keep hF (fun _ _ h => h), h4⟩
/-- The copies let go. -/
theorem Two.alone {w0 : World} {qa qb x y : Nat} {Ta Tb T0 : List (List Pr)} {w : World} (h : Two w0 qa qb x y Ta Tb T0 w) (T1 : List (List Pr)) : Two w0 qa qb qa qb Ta Tb T1 w := by
  obtain ⟨Sa, Sb, ha, hb, h1, h2, h3, h4⟩ := h
  exact ⟨Sa, Sb, ha, hb, h1, h2, h3, .inl ⟨rfl, rfl⟩⟩
/-- What x and y have, they have alike. -/
theorem Two.pair {w0 : World} {qa qb x y : Nat} {T T0 : List (List Pr)} {w : World} (h : Two w0 qa qb x y T T T0 w) {n m : Nat} (b1 : T.length ≤ n) (b2 : (flat T).length ≤ m) (b3 : T0.length ≤ n) (b4 : (flat T0).length ≤ m) : ∃ Tx Sx Sy, RB w x Sx Tx ∧ RR w y Sy Tx ∧ Tx.length ≤ n ∧ (flat Tx).length ≤ m := by
  obtain ⟨Sa, Sb, ha, hb, _, _, _, h4⟩ := h
  rcases h4 with ⟨rfl, rfl⟩ | ⟨Sx, Sy, hx, hy, _⟩
  · exact ⟨T, Sa, Sb, ha, hb, b1, b2⟩
  · exact ⟨T0, Sx, Sy, hx, hy, b3, b4⟩
section
variable {w0 : World} {qa qb x y : Nat} {Ta Tb T0 : List (List Pr)} {w : World}
theorem t2_put (h : Two w0 qa qb x y Ta Tb T0 w) (b2 : (flat Ta).length ≤ 1000) (v z : Int) (hv : wfI v) (hz : wfI z) : Calls Try.prog 13 #[.pointer (some ⟨qa, 0, none⟩), .int .i64 v, .int .i64 z] w fun e w' => e = .returned (.int .i64 0) ∧ Two w0 qa qb x y (putT v z Ta) Tb T0 w' := by
  obtain ⟨Sa, Sb, ha, hb, h1, h2, h3, h4⟩ := h
  exact (put_any qa Sa Ta v z hv hz w ha (by omega)).mono fun e w' ⟨he, S', r1, r2, r3⟩ => ⟨he, Two.stepA r1 hb r2 r3 h1 h2 h3 h4⟩
theorem t2_push (h : Two w0 qa qb x y Ta Tb T0 w) (b1 : Ta.length ≤ 1000) : Calls Try.prog 15 #[.pointer (some ⟨qa, 0, none⟩)] w fun e w' => e = .returned (.int .i64 0) ∧ Two w0 qa qb x y ([] :: Ta) Tb T0 w' := by
  obtain ⟨Sa, Sb, ha, hb, h1, h2, h3, h4⟩ := h
  exact (push_any qa Sa Ta w ha (by omega)).mono fun e w' ⟨he, S', r1, r2, r3⟩ => ⟨he, Two.stepA r1 hb r2 r3 h1 h2 h3 h4⟩
theorem t2_drop (h : Two w0 qa qb x y Ta Tb T0 w) (b1 : Ta.length ≤ 1000) : Calls Try.prog 17 #[.pointer (some ⟨qa, 0, none⟩)] w fun e w' => e = .returned (.int .i64 (if Ta.length < 2 then 7 else 0)) ∧ Two w0 qa qb x y (dropT Ta) Tb T0 w' := by
  obtain ⟨Sa, Sb, ha, hb, h1, h2, h3, h4⟩ := h
  exact (drop_any qa Sa Ta w ha (by omega)).mono fun e w' ⟨he, r1, r3⟩ => ⟨he, Two.stepA r1 hb (fun b h => .inl h) r3 h1 h2 h3 h4⟩
theorem t2_merge (h : Two w0 qa qb x y Ta Tb T0 w) (b1 : Ta.length ≤ 1000) (b2 : (flat Ta).length ≤ 1000) : Calls Try.prog 19 #[.pointer (some ⟨qa, 0, none⟩)] w fun e w' => e = .returned (.int .i64 (if Ta.length < 2 then 7 else 0)) ∧ Two w0 qa qb x y (mergeT Ta) Tb T0 w' := by
  obtain ⟨Sa, Sb, ha, hb, h1, h2, h3, h4⟩ := h
  exact (merge_any qa Sa Ta w ha (by omega) (by omega)).mono fun e w' ⟨he, r1, r3⟩ => ⟨he, Two.stepA r1 hb (fun b h => .inl h) r3 h1 h2 h3 h4⟩
theorem t2_rput (h : Two w0 qa qb x y Ta Tb T0 w) (b1 : Tb.length ≤ 1000) (b2 : (flat Tb).length ≤ 1000) (v z : Int) : Calls Try.prog 14 #[.pointer (some ⟨qb, 0, none⟩), .int .i64 v, .int .i64 z] w fun e w' => e = .returned (.int .i64 0) ∧ Two w0 qa qb x y Ta (putT v z Tb) T0 w' := by
  obtain ⟨Sa, Sb, ha, hb, h1, h2, h3, h4⟩ := h
  exact (rput_any qb Sb Tb v z w hb (by omega) (by omega)).mono fun e w' ⟨he, S', r1, r2, r3⟩ => ⟨he, Two.stepB ha r1 r2 r3 h1 h2 h3 h4⟩
theorem t2_rpush (h : Two w0 qa qb x y Ta Tb T0 w) (b1 : Tb.length ≤ 1000) : Calls Try.prog 16 #[.pointer (some ⟨qb, 0, none⟩)] w fun e w' => e = .returned (.int .i64 0) ∧ Two w0 qa qb x y Ta ([] :: Tb) T0 w' := by
  obtain ⟨Sa, Sb, ha, hb, h1, h2, h3, h4⟩ := h
  exact (rpush_any qb Sb Tb w hb (by omega)).mono fun e w' ⟨he, S', r1, r2, r3⟩ => ⟨he, Two.stepB ha r1 r2 r3 h1 h2 h3 h4⟩
theorem t2_rdrop (h : Two w0 qa qb x y Ta Tb T0 w) (b1 : Tb.length ≤ 1000) : Calls Try.prog 18 #[.pointer (some ⟨qb, 0, none⟩)] w fun e w' => e = .returned (.int .i64 (if Tb.length < 2 then 7 else 0)) ∧ Two w0 qa qb x y Ta (dropT Tb) T0 w' := by
  obtain ⟨Sa, Sb, ha, hb, h1, h2, h3, h4⟩ := h
  exact (rdrop_any qb Sb Tb w hb (by omega)).mono fun e w' ⟨he, S', r1, r2, r3⟩ => ⟨he, Two.stepB ha r1 r2 r3 h1 h2 h3 h4⟩
theorem t2_rmerge (h : Two w0 qa qb x y Ta Tb T0 w) (b1 : Tb.length ≤ 1000) (b2 : (flat Tb).length ≤ 1000) : Calls Try.prog 20 #[.pointer (some ⟨qb, 0, none⟩)] w fun e w' => e = .returned (.int .i64 (if Tb.length < 2 then 7 else 0)) ∧ Two w0 qa qb x y Ta (mergeT Tb) T0 w' := by
  obtain ⟨Sa, Sb, ha, hb, h1, h2, h3, h4⟩ := h
  exact (rmerge_any qb Sb Tb w hb (by omega) (by omega)).mono fun e w' ⟨he, S', r1, r2, r3⟩ => ⟨he, Two.stepB ha r1 r2 r3 h1 h2 h3 h4⟩
/-- Behind the program's Copy. -/
def Half (w0 : World) (qa qb cx : Nat) (T : List (List Pr)) (w : World) : Prop := ∃ Sa Sb Sx, RB w qa Sa T ∧ RR w qb Sb T ∧ (∀ b, Sa b → w0.heap.size ≤ b ∧ ¬ Sb b) ∧ (∀ b, Sb b → w0.heap.size ≤ b) ∧ Below w0.heap.size w0 w ∧ RB w cx Sx T ∧ ∀ b, Sx b → ¬ Sa b ∧ ¬ Sb b
theorem t2_copy {T T1 : List (List Pr)} (h : Two w0 qa qb x y T T T1 w) (b1 : T.length ≤ 1000) : Calls Try.prog 11 #[.pointer (some ⟨qa, 0, none⟩)] w fun e w' => ∃ cx, e = .returned (.pointer (some ⟨cx, 0, none⟩)) ∧ Half w0 qa qb cx T w' := by
  obtain ⟨Sa, Sb, ha, hb, h1, h2, h3, _⟩ := h
  refine (copy_any qa Sa T w ha (by omega)).mono ?_
  rintro e w' ⟨cq, S', he, hr, hS', hB⟩
  have hF : Fro (fun _ => False) w w' := Fro.of_below hB (Nat.le_refl _)
  exact ⟨cq, he, Sa, Sb, S', ha.keep hF (fun _ _ h => h), hb.keep hF (fun _ _ h => h), h1, h2, h3.trans (hB.mono h3.size), hr, fun b hs => ⟨fun h => by have := ha.lt b h; have := hS' b hs; omega, fun h => by have := hb.lt b h; have := hS' b hs; omega⟩⟩
theorem t2_rcopy {cx : Nat} {T : List (List Pr)} (h : Half w0 qa qb cx T w) (b1 : T.length ≤ 1000) (b2 : (flat T).length ≤ 1000) : Calls Try.prog 12 #[.pointer (some ⟨qb, 0, none⟩)] w fun e w' => ∃ cy, e = .returned (.pointer (some ⟨cy, 0, none⟩)) ∧ Two w0 qa qb cx cy T T T w' := by
  obtain ⟨Sa, Sb, Sx, ha, hb, h1, h2, h3, hx, h4⟩ := h
  refine (rcopy_any qb Sb T w hb (by omega) (by omega)).mono ?_
  rintro e w' ⟨cq, S', he, hr, hS', hB⟩
  have hF : Fro (fun _ => False) w w' := Fro.of_below hB (Nat.le_refl _)
  refine ⟨cq, he, Sa, Sb, ha.keep hF (fun _ _ h => h), hb.keep hF (fun _ _ h => h), h1, h2, h3.trans (hB.mono h3.size), .inr ⟨Sx, S', hx.keep hF (fun _ _ h => h), hr, fun b hs => ?_⟩⟩
  rcases hs with hs | hs
  · exact h4 b hs
  · exact ⟨fun h => by have := ha.lt b h; have := hS' b hs; omega, fun h => by have := hb.lt b h; have := hS' b hs; omega⟩
theorem t2_get (h : Two w0 qa qb x y Ta Tb T0 w) (b1 : Ta.length ≤ 1000) (b2 : (flat Ta).length ≤ 1000) (v : Int) (hv : wfI v) : Calls Try.prog 21 #[.pointer (some ⟨qa, 0, none⟩), .int .i64 v] w fun e w' => e = .returned (got (saysL Ta v)) ∧ Two w0 qa qb x y Ta Tb T0 w' := by
  have h0 := h
  obtain ⟨Sa, Sb, ha, hb, h1, h2, h3, h4⟩ := h
  exact (get_any qa Sa Ta v hv w ha b1 b2).mono fun e w' ⟨he, hB⟩ => ⟨he, h0.below hB⟩
theorem t2_rget (h : Two w0 qa qb x y Ta Tb T0 w) (b1 : Tb.length ≤ 1000) (b2 : (flat Tb).length ≤ 1000) (v : Int) : Calls Try.prog 22 #[.pointer (some ⟨qb, 0, none⟩), .int .i64 v] w fun e w' => e = .returned (got (saysL Tb v)) ∧ Two w0 qa qb x y Ta Tb T0 w' := by
  have h0 := h
  obtain ⟨Sa, Sb, ha, hb, h1, h2, h3, h4⟩ := h
  exact (rgot_any qb Sb Tb v w hb (by omega) (by omega)).mono fun e w' ⟨he, hB⟩ => ⟨he, h0.below hB⟩
theorem t2_all (h : Two w0 qa qb x y Ta Tb T0 w) (b1 : Ta.length ≤ 1000) (b2 : (flat Ta).length ≤ 1000) : Calls Try.prog 23 #[.pointer (some ⟨qa, 0, none⟩)] w fun e w' => ∃ (B : Option Addr) (d : Nat), e = .returned (.slice B (allS (flat Ta)).length d) ∧ OutAt w B d (allS (flat Ta)) w' := by
  obtain ⟨Sa, Sb, ha, _⟩ := h
  exact (all_any qa Sa Ta w ha b1 b2).mono fun e w' ⟨B, d, he, hr, hB⟩ => ⟨B, d, he, hr, hB⟩
theorem t2_depth (h : Two w0 qa qb x y Ta Tb T0 w) (b1 : Ta.length ≤ 1000) : Calls Try.prog 24 #[.pointer (some ⟨qa, 0, none⟩)] w fun e w' => e = .returned (.int .i64 Ta.length) ∧ w' = w := by
  obtain ⟨Sa, Sb, ha, _⟩ := h
  exact depth_any qa Sa Ta w ha (by omega)
theorem t2_rall (h : Two w0 qa qb x y Ta Tb T0 w) (b1 : Tb.length ≤ 1000) (b2 : (flat Tb).length ≤ 1000) : Calls Try.prog 26 #[.pointer (some ⟨qb, 0, none⟩)] w fun e w' => ∃ (B : Option Addr) (d : Nat), e = .returned (.slice B (allS (flat Tb)).length d) ∧ PairsAt w' w'.heap.size B (allS (flat Tb)) ∧ Below w.heap.size w w' := by
  obtain ⟨Sa, Sb, _, hb, _⟩ := h
  exact rall_any qb Sb Tb w hb (by omega) (by omega)
theorem Two.len (h : Two w0 qa qb x y Ta Tb T0 w) : ∃ A c, w.cell? ⟨qb, 0, none⟩ = some (.slice A Tb.length c) ∧ qb < w.heap.size := by
  obtain ⟨Sa, Sb, _, hb, _⟩ := h
  exact hb.len
end
theorem OutAt.pairs {w : World} {B : Option Addr} {d : Nat} {l : List Pr} {wr : World} (h : OutAt w B d l wr) : PairsAt wr wr.heap.size B l := (cl_pairs (n := 0) (.inr h.1)).1
/-- The two, new. -/
theorem t2_new {w0 w1 w2 : World} {qa qb : Nat} {Sb : Nat → Prop} (hB : Below w0.heap.size w0 w1) (hq : RB w1 qa (fun b => b = qa) [[]]) (hqa : w0.heap.size ≤ qa) (hr : RR w2 qb Sb [[]]) (hS : ∀ b, Sb b → w1.heap.size ≤ b) (hB2 : Below w1.heap.size w1 w2) : Two w0 qa qb qa qb [[]] [[]] [] w2 := by
  have hF : Fro (fun _ => False) w1 w2 := Fro.of_below hB2 (Nat.le_refl _)
  refine ⟨fun b => b = qa, Sb, hq.keep hF (fun _ _ h => h), hr, fun b h => ⟨by rw [h]; exact hqa, fun hs => ?_⟩, fun b h => by have := hS b h; have := hB.size; omega, hB.trans (hB2.mono hB.size), .inl ⟨rfl, rfl⟩⟩
  have := hS b hs
  have := hq.lt b h
  omega
end Go.Proofs.Ytmjcipojidimgaa
