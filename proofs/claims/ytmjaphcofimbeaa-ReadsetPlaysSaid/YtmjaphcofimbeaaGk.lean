/-
  CONTRACTS OF seesawref10's Copy and Add (layer 10 by its words). Conditions: as they stand.
-/
import Derived.Test.YtmjaphcofimbeaaGj
import Derived.Deep.RegionHeld3
namespace Go.Proofs.Ytmjaphcofimbeaa
set_option maxRecDepth 100000
open Go.RowKit Go.Deep
set_option linter.unusedVariables false
/-- A list, appended, as a step of a region that draws. -/
theorem step_list {w : World} {ops : Array Oper} {o : Oper} {a : Act} {K : Act → World → Prop} {Q : Exit → Act → World → Prop} {E : Prop} {base k : Nat} {sA : Option Addr} {scap : Nat} {xs : List Value} {hi c : Nat} {A : Option Addr} {L : List Int}
    (own : w.ownsRow base 3 1 (.slice sA k scap) k xs) (hb : base ≤ w.heap.size) (hI : Ints w hi A L) (hk : k + L.length ≤ 100000) (hgd : o.guard = none) (s x : Operand) (ho : o.op = .call { callee := .builtin .append, args := #[s, x], argTypes := #[22, 22] }) (hs : a.eval s = .slice sA k scap) (hx : a.eval x = .slice A L.length c)
    (h : ∀ A' c' w', w'.ownsRow base 3 1 (.slice A' (k + L.length) c') (k + L.length) (xs ++ vI L) → w.grownBy w' (Value.ownBlock (.slice sA k scap)) → K (a.put o.dst (.slice A' (k + L.length) c')) w') :
    if Region.wanted o (yielded ops a.tmps) = true then Oper.wp Try.prog o a w K Q else E := by
  have hw : Region.wanted o (yielded ops a.tmps) = true := by simp [Region.wanted, hgd]
  rw [if_pos hw]
  exact wp_append_list own hb hI hk s x ho hs hx h
theorem own_lt10 {w : World} {base k : Nat} {e : TypeId} {A : Option Addr} {c : Nat} {xs : List Value} (own : w.ownsRow base e 1 (.slice A k c) k xs) : (∀ p, A = some p → base ≤ p.block ∧ p.block < w.heap.size) ∧ k ≤ c ∧ c ≤ maxLen := by
  rcases own.2 with ⟨hv, h0⟩ | ⟨g, cap, cur, hv, hb, hg, h1, h2, _⟩
  · injection hv with e1 e2 e3
    subst e1 e3
    exact ⟨fun p e => (by cases e), by omega, by decide⟩
  · injection hv with e1 e2 e3
    subst e1 e3
    exact ⟨fun p e => (by cases e; exact ⟨hb, (Array.getElem?_eq_some_iff.1 hg).1⟩), h1, h2⟩
theorem refAt_new {w : World} {base : Nat} {V st : Int} {L : List Int} {A : Option Addr} {c : Nat} (own : w.ownsRow base 3 1 (.slice A L.length c) L.length (vI L)) (hL : L.length ≤ 1000) : RefAt (w.alloc (.cells #[.int .i64 V, .int .i64 st, .slice A L.length c] 36)) w.heap.size base V st L := by
  obtain ⟨h1, h2, h3⟩ := own_lt10 own
  obtain ⟨A', c', hv, hI⟩ := Ints.of_own (L := L) own rfl (by omega)
  injection hv with e1 _ e3
  subst e1 e3
  exact ⟨A, c, heap_alloc_new w _, hI.at10 ((Below.refl _ _).alloc (Nat.le_refl _) _) (by simp), fun p e => ⟨(h1 p e).1, by have := (h1 p e).2; omega⟩, h2, h3⟩
set_option maxHeartbeats 4000000 in
theorem rcopy_any {w : World} {g lo : Nat} {V st : Int} {L : List Int} (h : RefAt w g lo V st L) (hL : L.length ≤ 1000) : Calls Try.prog 8 #[.pointer (some ⟨g, 0, none⟩)] w fun e w' => ∃ g', e = .returned (.pointer (some ⟨g', 0, none⟩)) ∧ RefAt w' g' w.heap.size V st L ∧ Below w.heap.size w w' ∧ w.heap.size ≤ g' := by
  have hgl := h.lt
  obtain ⟨A, c, hr, hI, _⟩ := h.ex
  have c0 : w.cell? ⟨g, 0, none⟩ = some (.int .i64 V) := by simp [World.cell?, hr]
  have c1 : w.cell? ⟨g, 1, none⟩ = some (.int .i64 st) := by simp [World.cell?, hr]
  have c2 : w.cell? ⟨g, 2, none⟩ = some (.slice A L.length c) := by simp [World.cell?, hr]
  have hl := hI.len
  have HI := Lib.hid hI
  clear h hr hI
  go_enter Try.func8, Try.ntmps8
  go_upto_region 1 with fail
  have OWE := Lib.hid (own_empty (w := w.drew) w.heap.size (Nat.le_refl _))
  have hz3 : Hid (w.heap.size ≤ (w.drew.alloc (.cells #[] 3)).heap.size) := by show _ ≤ _; simp
  have HI3 : Hid (Ints (w.drew.alloc (.cells #[] 3)) w.heap.size A L) := HI.out.below (((Below.refl w.heap.size w).drew).alloc (Nat.le_refl _) (.cells #[] 3)) (Nat.le_refl _)
  have h0k : 0 + L.length ≤ 100000 := by omega
  have HB5 : Hid (∀ w5 : World, (w.drew.alloc (.cells #[] 3)).grownBy w5 (Value.ownBlock (.slice (some ⟨w.drew.heap.size, 0, none⟩) 0 0)) → Below w.heap.size w w5) := fun w5 hg => own_below OWE.out (Nat.le_refl _) (((Below.refl w.heap.size w).drew).alloc (Nat.le_refl _) (.cells #[] 3)) hg hz3.out
  have HKK : Hid (∀ w5 : World, (w.drew.alloc (.cells #[] 3)).grownBy w5 (Value.ownBlock (.slice (some ⟨w.drew.heap.size, 0, none⟩) 0 0)) → w5.cell? ⟨g, 0, none⟩ = some (.int .i64 V) ∧ w5.cell? ⟨g, 1, none⟩ = some (.int .i64 st) ∧ w5.cell? ⟨g, 2, none⟩ = some (.slice A L.length c)) := fun w5 hg => ⟨((HB5.out _ hg).cell (p := ⟨g, 0, none⟩) hgl).trans c0, ((HB5.out _ hg).cell (p := ⟨g, 1, none⟩) hgl).trans c1, ((HB5.out _ hg).cell (p := ⟨g, 2, none⟩) hgl).trans c2⟩
  go_region_held3 (fun w' => w'.cell? ⟨g, 0, none⟩ = some (.int .i64 V) ∧ w'.cell? ⟨g, 1, none⟩ = some (.int .i64 st) ∧ w'.cell? ⟨g, 2, none⟩ = some (.slice A L.length c))
    (first | exact HKK.out _ hg5 | go_keep)
    (first
      | (refine step_list OWE.out hz3.out HI3.out h0k rfl (.tmp 11) (.tmp 15) rfl rfl rfl ?_; intro A5 c5 w5 own5 hg5)
      | fail)
  go_wp2_with fail
  go_ret
  have hn : RefAt (w5.alloc (.cells #[.int .i64 V, .int .i64 st, .slice A5 L.length c5] 36)) w5.heap.size w.heap.size V st L := refAt_new (by simpa using own5) hL
  exact ⟨_, rfl, hn, (HB5.out _ hg5).alloc (HB5.out _ hg5).size _, (HB5.out _ hg5).size⟩
end Go.Proofs.Ytmjaphcofimbeaa
