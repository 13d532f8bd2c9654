/-
  A BUFFER AS IT LIES, with the blocks that are its own (RB), and contracts of package buffer's New, Put, Push, Depth: each changes just what the buffer owns, and makes new memory. Conditions: as they stand.
-/
import Derived.Test.YtmjcipojidimgaaLn
import Derived.Deep.AppendLies
import Derived.Deep.RegionLawGrows
namespace Go.Proofs.Ytmjcipojidimgaa
set_option maxRecDepth 100000
open Go.RowKit Go.Maps Go.Shelf
set_option linter.unusedVariables false
/-- Nothing that was there has turned, but for blocks of S. -/
structure Fro (S : Nat → Prop) (w w' : World) : Prop where
  os : w'.os = w.os
  tape : w'.tape = w.tape
  output : w'.output = w.output
  size : w.heap.size ≤ w'.heap.size
  block : ∀ i, i < w.heap.size → ¬ S i → w'.heap[i]? = w.heap[i]?
theorem Fro.refl (S : Nat → Prop) (w : World) : Fro S w w := ⟨rfl, rfl, rfl, Nat.le_refl _, fun _ _ _ => rfl⟩
theorem Fro.trans {S S' : Nat → Prop} {a b c : World} (h : Fro S a b) (k : Fro S' b c) (hS : ∀ i, S' i → S i ∨ a.heap.size ≤ i) : Fro S a c :=
  ⟨k.os.trans h.os, k.tape.trans h.tape, k.output.trans h.output, Nat.le_trans h.size k.size, fun i hi hn => (k.block i (by have := h.size; omega) (fun hs => by rcases hS i hs with e | e; exact hn e; omega)).trans (h.block i hi hn)⟩
theorem Fro.weak {S S' : Nat → Prop} {a b : World} (h : Fro S a b) (hS : ∀ i, S i → i < a.heap.size → S' i) : Fro S' a b := ⟨h.os, h.tape, h.output, h.size, fun i hi hn => h.block i hi fun hs => hn (hS i hs hi)⟩
theorem Fro.of_below {S : Nat → Prop} {a b : World} {B : Nat} (h : Below B a b) (hB : a.heap.size ≤ B) : Fro S a b := ⟨h.os, h.tape, h.output, h.size, fun i hi _ => h.block i (by omega)⟩
theorem Fro.of_grown {S : Nat → Prop} {a b : World} {row : Option Nat} (h : a.grownBy b row) (hr : ∀ r, row = some r → S r) : Fro S a b := ⟨h.os, h.tape, h.output, h.size, fun i hi hn => h.block i hi fun e => hn (hr i e.symm)⟩
theorem Fro.set {S : Nat → Prop} {a : World} (p : Addr) (u : Value) (hp : S p.block) : Fro S a (a.setCell p u) := ⟨rfl, rfl, rfl, by simp [World.setCell], fun i hi hn => Below.heap_setCell a p u i (fun e => hn (e ▸ hp))⟩
theorem Fro.below {S : Nat → Prop} {a b : World} {B : Nat} (h : Fro S a b) (hS : ∀ i, S i → B ≤ i) (hB : B ≤ a.heap.size) : Below B a b := ⟨h.os, h.tape, h.output, h.size, fun i hi => h.block i (by omega) fun hs => by have := hS i hs; omega⟩
/-- A buffer of the levels T (the highest one first), at q; S: the blocks that are its own. -/
structure BufAt (w : World) (q : Nat) (S : Nat → Prop) (p0 : Option Nat) (top : List Pr) (A : Option Addr) (c : Nat) (L : List (Option Nat × List Pr)) : Prop where
  own : S q
  obj : w.heap[q]? = some (.cells #[.map p0, .slice A L.length c] 55 (0, 0))
  row : w.ownsRow 0 52 1 (.slice A L.length c) L.length (L.map fun x => .map x.1)
  rowS : ∀ p, A = some p → S p.block
  top_ : LO w p0 top.length (rowSays top)
  lev : ∀ x ∈ L, LO w x.1 x.2.length (rowSays x.2)
  topS : ∀ b, p0 = some b → S b
  levS : ∀ x ∈ L, ∀ b, x.1 = some b → S b
  apart : (p0 :: L.map Prod.fst).Pairwise (fun a b => a = none ∨ a ≠ b)
  full : p0 = none ∨ top ≠ []
  fullL : ∀ x ∈ L, x.1 = none ∨ x.2 ≠ []
  okT : ∀ e ∈ top, wfI e.1 ∧ wfI e.2
  okL : ∀ x ∈ L, ∀ e ∈ x.2, wfI e.1 ∧ wfI e.2
  lt : ∀ b, S b → b < w.heap.size
def RB (w : World) (q : Nat) (S : Nat → Prop) (T : List (List Pr)) : Prop := ∃ p0 top A c L, BufAt w q S p0 top A c L ∧ T = top :: (L.map Prod.snd).reverse
theorem ownsRow_of_block {w w' : World} {base : Nat} {e : TypeId} {size : Nat} {A : Option Addr} {n c k : Nat} {xs : List Value} (h : w.ownsRow base e size (.slice A n c) k xs) (hb : ∀ p, A = some p → w'.heap[p.block]? = w.heap[p.block]?) : w'.ownsRow base e size (.slice A n c) k xs := by
  refine ⟨h.1, ?_⟩
  rcases h.2 with h2 | ⟨g, cap, cur, hv, h3, h4, h5⟩
  · exact .inl h2
  · injection hv with hA hn hc
    exact .inr ⟨g, cap, cur, by rw [hA, hn, hc], h3, (hb _ hA).trans h4, h5⟩
theorem BufAt.frame {w w' : World} {q : Nat} {S S' : Nat → Prop} {p0 : Option Nat} {top : List Pr} {A : Option Addr} {c : Nat} {L : List (Option Nat × List Pr)} (h : BufAt w q S p0 top A c L) (hS : ∀ b, S b → S' b) (hk : ∀ b, S b → w'.heap[b]? = w.heap[b]?) (hl : ∀ b, S' b → b < w'.heap.size) : BufAt w' q S' p0 top A c L where
  own := hS _ h.own
  obj := (hk q h.own).trans h.obj
  row := ownsRow_of_block h.row fun p e => hk _ (h.rowS p e)
  rowS p e := hS _ (h.rowS p e)
  top_ := h.top_.of_block fun b e => hk b (h.topS b e)
  lev x hx := (h.lev x hx).of_block fun b e => hk b (h.levS x hx b e)
  topS b e := hS _ (h.topS b e)
  levS x hx b e := hS _ (h.levS x hx b e)
  apart := h.apart
  full := h.full
  fullL := h.fullL
  okT := h.okT
  okL := h.okL
  lt := hl
theorem RB.keep {w w' : World} {q : Nat} {S S2 : Nat → Prop} {T : List (List Pr)} (h : RB w q S T) (f : Fro S2 w w') (hS : ∀ b, S b → ¬ S2 b) : RB w' q S T := by
  obtain ⟨p0, top, A, c, L, hb, e⟩ := h
  exact ⟨p0, top, A, c, L, hb.frame (fun _ h => h) (fun b hs => f.block b (hb.lt b hs) (hS b hs)) (fun b hs => Nat.lt_of_lt_of_le (hb.lt b hs) f.size), e⟩
theorem RB.lt {w : World} {q : Nat} {S : Nat → Prop} {T : List (List Pr)} (h : RB w q S T) : ∀ b, S b → b < w.heap.size := by obtain ⟨p0, top, A, c, L, hb, e⟩ := h; exact hb.lt
theorem RB.ne {w : World} {q : Nat} {S : Nat → Prop} {T : List (List Pr)} (h : RB w q S T) : T ≠ [] := by obtain ⟨p0, top, A, c, L, hb, e⟩ := h; rw [e]; simp
theorem BufAt.c0 {w : World} {q : Nat} {S : Nat → Prop} {p0 : Option Nat} {top : List Pr} {A : Option Addr} {c : Nat} {L : List (Option Nat × List Pr)} (h : BufAt w q S p0 top A c L) : w.cell? ⟨q, 0, none⟩ = some (.map p0) ∧ w.cell? ⟨q, 1, none⟩ = some (.slice A L.length c) ∧ w.frozen? ⟨q, 0, none⟩ = false ∧ w.frozen? ⟨q, 1, none⟩ = false := by
  have := h.obj
  simp [World.cell?, World.frozen?, this]
set_option maxHeartbeats 1000000 in
theorem new_any (w : World) : Calls Try.prog 9 #[] w fun e w' => e = .returned (.pointer (some ⟨w.heap.size, 0, none⟩)) ∧ RB w' w.heap.size (fun b => b = w.heap.size) [[]] ∧ Below w.heap.size w w' ∧ w'.heap.size = w.heap.size + 1 := by
  go_enter Try.func9, Try.ntmps9
  go_wp2_with fail
  go_ret
  refine ⟨rfl, ⟨none, [], none, 0, [], ?_, rfl⟩, (Below.refl _ w).alloc (Nat.le_refl _) _, by simp⟩
  exact ⟨rfl, World.alloc_heap_new w _, ⟨rfl, .inl ⟨rfl, rfl⟩⟩, (fun p e => by cases e), .inl ⟨rfl, fun v _ => rfl⟩, by simp, by simp, by simp, by simp, .inl rfl, by simp, by simp, by simp, fun b e => by rw [e]; simp⟩
theorem setBlock8 {w : World} {q : Nat} {cs : Array Value} {t : TypeId} {fr : Nat × Nat} (h : w.heap[q]? = some (.cells cs t fr)) (i : Nat) (u : Value) : (w.setCell ⟨q, i, none⟩ u).heap[q]? = some (.cells (cs.setIfInBounds i u) t fr) := by
  obtain ⟨hlt, hk⟩ := Array.getElem?_eq_some_iff.1 h
  show (w.heap.modify q _)[q]? = _
  rw [Array.getElem?_eq_getElem (by rw [Array.size_modify]; exact hlt), Array.getElem_modify_self, hk]
  rfl
theorem wf_of {x : Int} (h : wfI x) : -9223372036854775808 ≤ x ∧ x ≤ 9223372036854775807 := by simpa [wfI, Lit.wf, IntKind.min, IntKind.max, IntKind.signed, IntKind.bits] using h
set_option maxHeartbeats 2000000 in
theorem put_low (q : Nat) (p0 : Option Nat) (sl : Value) (n : Nat) (f : Int → Option Int) (v x : Int) (hv : wfI v) (hx : wfI x) (w : World) (hq : w.heap[q]? = some (.cells #[.map p0, sl] 55 (0, 0))) (hl : LO w p0 n f) (hn : n ≤ 1000000) :
    Calls Try.prog 13 #[.pointer (some ⟨q, 0, none⟩), .int .i64 v, .int .i64 x] w fun e w' => e = .returned (.int .i64 0) ∧ ∃ b, (p0 = some b ∨ (p0 = none ∧ b = w.heap.size)) ∧ w'.heap[q]? = some (.cells #[.map (some b), sl] 55 (0, 0)) ∧ LV w' b (n + 1) (fun u => if v = u then some x else f u) ∧ Fro (fun i => i = q ∨ i = b) w w' := by
  have hqlt : q < w.heap.size := (Array.getElem?_eq_some_iff.1 hq).1
  have c0 : w.cell? ⟨q, 0, none⟩ = some (.map p0) := by simp [World.cell?, hq]
  have f0 : w.frozen? ⟨q, 0, none⟩ = false := by simp [World.frozen?, hq]
  have hmm := @run_makeMap Try.prog
  have hkey := keyOf_int_mk (P := Try.prog) Try.underlying3 hv
  rcases hl with ⟨rfl, hf⟩ | ⟨b, rfl, D, ho, hf⟩
  · have hqn := run_eql_map_nil_sl (P := Try.prog) w 52 _ _ none Try.underlying52
    have hz1 : (w.setCell ⟨q, 0, none⟩ (.map (some w.heap.size))).heap.size = w.heap.size := by simp [World.setCell]
    have hmade : ((w.setCell ⟨q, 0, none⟩ (.map (some w.heap.size))).alloc (.map #[] 0)).ownsMap (H := Unit) Try.prog 3 (plainElem Try.prog 2) w.heap.size 0 (.map []) := by
      have := World.ownsMap_made (H := Unit) (w.setCell ⟨q, 0, none⟩ (.map (some w.heap.size))) Try.prog 3 (plainElem Try.prog 2)
      rwa [hz1] at this
    have hq1 : ((w.setCell ⟨q, 0, none⟩ (.map (some w.heap.size))).alloc (.map #[] 0)).heap[q]? = some (.cells #[.map (some w.heap.size), sl] 55 (0, 0)) := (Below.heap_alloc _ _ q (by rw [hz1]; exact hqlt)).trans (setBlock8 hq 0 (.map (some w.heap.size)))
    have hc2 : ((w.setCell ⟨q, 0, none⟩ (.map (some w.heap.size))).alloc (.map #[] 0)).cell? ⟨q, 0, none⟩ = some (.map (some w.heap.size)) := by simp [World.cell?, hq1]
    have hF1 : Fro (fun i => i = q) w ((w.setCell ⟨q, 0, none⟩ (.map (some w.heap.size))).alloc (.map #[] 0)) := (Fro.set (S := fun i => i = q) ⟨q, 0, none⟩ (.map (some w.heap.size)) rfl).trans (Fro.of_below (S := fun i => i = q) ((Below.refl _ (w.setCell ⟨q, 0, none⟩ (.map (some w.heap.size)))).alloc (Nat.le_refl _) _) (Nat.le_refl _)) (fun i h => .inl h)
    obtain ⟨w2, hrun, ho2, hg2⟩ := hmade.update keyed8 Try.underlying52 (by unfold maxLen; omega) hkey (plainElem_int Try.underlying2 hx)
    have hq2 : w2.heap[q]? = some (.cells #[.map (some w.heap.size), sl] 55 (0, 0)) := (hg2.block q (Array.getElem?_eq_some_iff.1 hq1).1 (fun e => by injection e with e; omega)).trans hq1
    have hF : Fro (fun i => i = q ∨ i = w.heap.size) w w2 := (hF1.weak (S' := fun i => i = q ∨ i = w.heap.size) (fun i h _ => .inl h)).trans (Fro.of_grown (S := fun i => i = w.heap.size) hg2 (fun r e => by injection e with e; exact e.symm)) (fun i h => .inl (.inr h))
    clear hz1 hmade hq1 hF1
    go_enter Try.func13, Try.ntmps13
    go_wp2_with fail
    go_ret
    refine ⟨rfl, w.heap.size, .inr ⟨by first | rfl | trivial, rfl⟩, hq2, ⟨_, ho2.mono (by omega), fun u hu => ?_⟩, hF⟩
    refine (lk_put isMap_empty hv x u).trans ?_
    show _ = if v = u then some x else f u
    rw [lk_empty, hf u hu]
  · have hqn := run_eql_map_nil_sl (P := Try.prog) w 52 _ _ (some b) Try.underlying52
    obtain ⟨w2, hrun, ho2, hg2⟩ := ho.update keyed8 Try.underlying52 (by unfold maxLen; omega) hkey (plainElem_int Try.underlying2 hx)
    have hbq : b ≠ q := fun e => by
      obtain ⟨es, cl, h⟩ := LV.is_map ⟨D, ho, hf⟩
      rw [e, hq] at h
      cases h
    have hq2 : w2.heap[q]? = some (.cells #[.map (some b), sl] 55 (0, 0)) := (hg2.block q hqlt (fun e => by injection e with e; exact hbq e.symm)).trans hq
    go_enter Try.func13, Try.ntmps13
    go_wp2_with fail
    go_ret
    refine ⟨rfl, b, .inl rfl, hq2, ⟨_, ho2, fun u hu => ?_⟩, Fro.of_grown hg2 (fun r e => by injection e with e; exact .inr e.symm)⟩
    refine (lk_put (isMap8 ho) hv x u).trans ?_
    show _ = if v = u then some x else f u
    rw [hf u hu]
theorem apart_put {p0 : Option Nat} {L : List (Option Nat)} {b : Nat} (h : (p0 :: L).Pairwise (fun a b => a = none ∨ a ≠ b)) (hb : p0 = some b ∨ ∀ x ∈ L, x ≠ some b) : (some b :: L).Pairwise (fun a b => a = none ∨ a ≠ b) := by
  obtain ⟨h1, h2⟩ := List.pairwise_cons.1 h
  refine List.pairwise_cons.2 ⟨fun x hx => .inr ?_, h2⟩
  rcases hb with rfl | hb
  · rcases h1 x hx with e | e
    · cases e
    · exact e
  · exact fun e => hb x hx e.symm
/-- Put: the highest level has x of the variable v. -/
theorem put_any (q : Nat) (S : Nat → Prop) (T : List (List Pr)) (v x : Int) (hv : wfI v) (hx : wfI x) (w : World) (h : RB w q S T) (hT : (flat T).length ≤ 100000) :
    Calls Try.prog 13 #[.pointer (some ⟨q, 0, none⟩), .int .i64 v, .int .i64 x] w fun e w' => e = .returned (.int .i64 0) ∧ ∃ S', RB w' q S' (putT v x T) ∧ (∀ b, S' b → S b ∨ w.heap.size ≤ b) ∧ Fro S w w' := by
  obtain ⟨p0, top, A, c, L, hb, rfl⟩ := h
  have hlen : top.length ≤ 1000000 := by
    have : (flat (top :: (L.map Prod.snd).reverse)).length = (flat (L.map Prod.snd).reverse ++ top).length := rfl
    rw [List.length_append] at this
    omega
  refine (put_low q p0 (.slice A L.length c) top.length (rowSays top) v x hv hx w hb.obj hb.top_ hlen).mono ?_
  rintro e w' ⟨he, b, hpb, hq', hlv, hF⟩
  have hbS : S b ∨ (p0 = none ∧ b = w.heap.size) := by
    rcases hpb with e | e
    · exact .inl (hb.topS b e)
    · exact .inr e
  have hFS : Fro S w w' := hF.weak fun i hi hlt => by
    rcases hi with rfl | rfl
    · exact hb.own
    · rcases hbS with h | ⟨_, h⟩
      · exact h
      · omega
  have hkeep : ∀ i, S i → i ≠ q → i ≠ b → w'.heap[i]? = w.heap[i]? := fun i hi h1 h2 => hF.block i (hb.lt i hi) (fun h => by rcases h with h | h; exact h1 h; exact h2 h)
  have hmq : ∀ (p : Option Nat) (n : Nat) (f : Int → Option Int), LO w p n f → ∀ i, p = some i → i ≠ q := fun p n f hl i e hiq => by
    rcases hl with ⟨h, _⟩ | ⟨i', h, hlv⟩
    · rw [h] at e; cases e
    · rw [h] at e
      injection e with e
      subst e
      obtain ⟨es, cl, hm⟩ := hlv.is_map
      rw [hiq, hb.obj] at hm
      cases hm
  have hlb : ∀ x ∈ L, x.1 ≠ some b := fun x hx e => by
    rcases hpb with h | ⟨h, h2⟩
    · rcases (List.pairwise_cons.1 hb.apart).1 x.1 (List.mem_map_of_mem hx) with h' | h'
      · rw [h] at h'; cases h'
      · exact h' (h.trans e.symm)
    · have := hb.lt b (hb.levS x hx b e)
      omega
  have hrow : ∀ p, A = some p → w'.heap[p.block]? = w.heap[p.block]? := fun p e => by
    rcases hb.row.2 with ⟨h, _⟩ | ⟨g, cap, cur, h, _, hg, _⟩
    · injection h with h; rw [h] at e; cases e
    · injection h with h
      rw [h] at e
      injection e with e
      subst e
      refine hkeep g (hb.rowS _ h) (fun e => ?_) (fun e => ?_)
      · rw [e, hb.obj] at hg; injection hg with hg; injection hg with _ h2; exact absurd h2 (by decide)
      · rcases hpb with h3 | ⟨_, h3⟩
        · rcases hb.top_ with ⟨h4, _⟩ | ⟨b', h4, h5⟩
          · rw [h4] at h3; cases h3
          · rw [h4] at h3
            injection h3 with h3
            obtain ⟨es, cl, h6⟩ := h5.is_map
            rw [h3, ← e, hg] at h6
            cases h6
        · have := (Array.getElem?_eq_some_iff.1 hg).1
          omega
  refine ⟨he, fun i => S i ∨ i = b, ⟨some b, top ++ [(v, x)], A, c, L, ?_, rfl⟩, fun i hi => ?_, hFS⟩
  · exact {
      own := .inl hb.own
      obj := hq'
      row := ownsRow_of_block hb.row hrow
      rowS := fun p e => .inl (hb.rowS p e)
      top_ := .inr ⟨b, rfl, (hlv.mono (by simp)).congr fun u _ => (says_snoc top (v, x) u).symm⟩
      lev := fun y hy => (hb.lev y hy).of_block fun i e => hkeep i (hb.levS y hy i e) (hmq _ _ _ (hb.lev y hy) i e) (fun e2 => hlb y hy (by rw [e, e2]))
      topS := fun i e => by injection e with e; exact .inr e.symm
      levS := fun y hy i e => .inl (hb.levS y hy i e)
      apart := apart_put hb.apart (.inr fun y hy => by obtain ⟨z, hz, rfl⟩ := List.mem_map.1 hy; exact hlb z hz)
      full := .inr (by simp)
      fullL := hb.fullL
      okT := fun e he => by
        rcases List.mem_append.1 he with h | h
        · exact hb.okT e h
        · rw [List.mem_singleton.1 h]; exact ⟨hv, hx⟩
      okL := hb.okL
      lt := fun i hi => by
        rcases hi with hi | rfl
        · exact Nat.lt_of_lt_of_le (hb.lt i hi) hF.size
        · exact hlv.lt }
  · rcases hi with hi | rfl
    · exact .inl hi
    · rcases hbS with h | ⟨_, h⟩
      · exact .inl h
      · exact .inr (by omega)
end Go.Proofs.Ytmjcipojidimgaa
