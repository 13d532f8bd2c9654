/-
  CONTRACTS OF LAYER 6: whether a setup's numbers may be; Check, off what is told of the threads; a setup without threads; the examples that each law asks first. No condition but those that stand.
-/
import Derived.Test.YtnkdaehmdcpafaaDoorUb
namespace Go.Proofs.YtnkdaehmdcpafaaDoor
open Go.RowKit
set_option linter.unusedVariables false
/-- A setup's five cells. -/
def setupV (st cl tr : Int) (I : Option Addr) (n c : Nat) (T : Option Addr) (m c' : Nat) : Value := .agg #[.int .i64 st, .int .i64 cl, .int .i64 tr, .slice I n c, .slice T m c']
structure SFive (w : World) (g : Nat) (st cl tr : Int) (I : Option Addr) (n c : Nat) (T : Option Addr) (m c' : Nat) : Prop where
  c0 : w.cell? ⟨g, 0, none⟩ = some (.int .i64 st)
  c1 : w.cell? ⟨g, 1, none⟩ = some (.int .i64 cl)
  c2 : w.cell? ⟨g, 2, none⟩ = some (.int .i64 tr)
  c3 : w.cell? ⟨g, 3, none⟩ = some (.slice I n c)
  c4 : w.cell? ⟨g, 4, none⟩ = some (.slice T m c')
theorem SFive.new (w : World) (st cl tr : Int) (I : Option Addr) (n c : Nat) (T : Option Addr) (m c' : Nat) : SFive (w.alloc (.cells #[.int .i64 st, .int .i64 cl, .int .i64 tr, .slice I n c, .slice T m c'] 25)) w.heap.size st cl tr I n c T m c' :=
  ⟨World.cell?_alloc_mark w _ _ (0, 0) 0, World.cell?_alloc_mark w _ _ (0, 0) 1, World.cell?_alloc_mark w _ _ (0, 0) 2, World.cell?_alloc_mark w _ _ (0, 0) 3, World.cell?_alloc_mark w _ _ (0, 0) 4⟩
theorem SFive.below {w w' : World} {B g : Nat} {st cl tr : Int} {I : Option Addr} {n c : Nat} {T : Option Addr} {m c' : Nat} (h : SFive w g st cl tr I n c T m c') (hb : Below B w w') (hg : g < B) : SFive w' g st cl tr I n c T m c' :=
  ⟨(hb.cell (p := ⟨g, 0, none⟩) hg).trans h.c0, (hb.cell (p := ⟨g, 1, none⟩) hg).trans h.c1, (hb.cell (p := ⟨g, 2, none⟩) hg).trans h.c2, (hb.cell (p := ⟨g, 3, none⟩) hg).trans h.c3, (hb.cell (p := ⟨g, 4, none⟩) hg).trans h.c4⟩
theorem sfive_below (w : World) (st cl tr : Int) (I : Option Addr) (n c : Nat) (T : Option Addr) (m c' : Nat) : Below w.heap.size w (w.alloc (.cells #[.int .i64 st, .int .i64 cl, .int .i64 tr, .slice I n c, .slice T m c'] 25)) := (Below.refl _ _).alloc (Nat.le_refl _) _
theorem numF_and (st cl tr : Int) (n : Nat) {a b c d : Bool} (h1 : inF n 1 32 = a) (h2 : inF st 1 n = b) (h3 : inF cl 0 1099511627776 = c) (h4 : inF tr 1 1000 = d) : numF st cl tr n = (a && (b && (c && d))) := by unfold numF; rw [h1, h2, h3, h4]
set_option maxRecDepth 100000 in
theorem numbers_any (st cl tr : Int) (I : Option Addr) (n c : Nat) (T : Option Addr) (m c' : Nat) (hn : n ≤ 9223372036854775807) (w : World) :
    Calls Tryd.prog 33 #[.agg #[.int .i64 st, .int .i64 cl, .int .i64 tr, .slice I n c, .slice T m c']] w fun e w' => e = .returned (.bool (numF st cl tr n)) ∧ Below w.heap.size w w' := by
  obtain ⟨a, ha⟩ : ∃ a, inF n 1 32 = a := ⟨_, rfl⟩
  obtain ⟨b, hb⟩ : ∃ b, inF st 1 n = b := ⟨_, rfl⟩
  obtain ⟨x, hx⟩ : ∃ x, inF cl 0 1099511627776 = x := ⟨_, rfl⟩
  obtain ⟨y, hy⟩ : ∃ y, inF tr 1 1000 = y := ⟨_, rfl⟩
  have HN := Lib.hid (numF_and st cl tr n ha hb hx hy)
  have H1 := Lib.hid (fun w => by have := within_any n 1 32 w; rw [ha] at this; exact this)
  have H2 := Lib.hid (fun w => by have := within_any st 1 n w; rw [hb] at this; exact this)
  have H3 := Lib.hid (fun w => by have := within_any cl 0 1099511627776 w; rw [hx] at this; exact this)
  have H4 := Lib.hid (fun w => by have := within_any tr 1 1000 w; rw [hy] at this; exact this)
  have HB := Lib.hid (sfive_below w st cl tr I n c T m c')
  clear ha hb hx hy
  go_enter Tryd.func33, Tryd.ntmps33
  go_wp2_with fail
  refine (H1.out _).mono ?_
  rintro _ _ ⟨rfl, rfl⟩
  cases a with
  | false =>
    go_wp2_with fail
    go_ret
    exact ⟨by rw [HN.out]; rfl, HB.out⟩
  | true =>
    go_wp2_with fail
    refine (H2.out _).mono ?_
    rintro _ _ ⟨rfl, rfl⟩
    cases b with
    | false =>
      go_wp2_with fail
      go_ret
      exact ⟨by rw [HN.out]; rfl, HB.out⟩
    | true =>
      go_wp2_with fail
      refine (H3.out _).mono ?_
      rintro _ _ ⟨rfl, rfl⟩
      cases x with
      | false =>
        go_wp2_with fail
        go_ret
        exact ⟨by rw [HN.out]; rfl, HB.out⟩
      | true =>
        go_wp2_with fail
        refine (H4.out _).mono ?_
        rintro _ _ ⟨rfl, rfl⟩
        go_wp2_with fail
        go_ret
        exact ⟨by rw [HN.out]; rfl, HB.out⟩
set_option maxRecDepth 100000 in
/-- Check, off what is told of the threads. -/
theorem check_of (st cl tr : Int) (I : Option Addr) (n c : Nat) (T : Option Addr) (m c' : Nat) (hn : n ≤ 9223372036854775807) (tb : Bool) (w : World)
    (ht : ∀ W', Below w.heap.size w W' → Calls Tryd.prog 34 #[.slice T m c'] W' fun e w' => e = .returned (.bool tb) ∧ Below W'.heap.size W' w') :
    Calls Tryd.prog 14 #[.agg #[.int .i64 st, .int .i64 cl, .int .i64 tr, .slice I n c, .slice T m c']] w fun e w' => e = .returned (.int .i64 (errF (numF st cl tr n && tb))) ∧ Below w.heap.size w w' := by
  have HB := Lib.hid (sfive_below w st cl tr I n c T m c')
  have HF := Lib.hid (fun W' (h : Below (w.alloc (.cells #[.int .i64 st, .int .i64 cl, .int .i64 tr, .slice I n c, .slice T m c'] 25)).heap.size (w.alloc (.cells #[.int .i64 st, .int .i64 cl, .int .i64 tr, .slice I n c, .slice T m c'] 25)) W') => (SFive.new w st cl tr I n c T m c').below h (by simp))
  have HN := Lib.hid (fun W' => numbers_any st cl tr I n c T m c' hn W')
  have HT := Lib.hid ht
  obtain ⟨nb, hnb⟩ : ∃ nb, nb = numF st cl tr n := ⟨_, rfl⟩
  rw [← hnb] at HN ⊢
  clear hnb ht
  go_enter Tryd.func14, Tryd.ntmps14
  go_wp2_with fail
  refine (HN.out _).mono ?_
  rintro _ w1 ⟨rfl, b1⟩
  have f4 := (HF.out w1 b1).c4
  have H1 := Lib.hid (HB.out.trans (b1.mono HB.out.size))
  clear b1
  cases nb with
  | false =>
    go_wp2_with fail
    go_ret
    exact ⟨rfl, H1.out⟩
  | true =>
    go_wp2_with fail
    refine (HT.out w1 H1.out).mono ?_
    rintro _ w2 ⟨rfl, b2⟩
    have H2 := Lib.hid (H1.out.trans (b2.mono H1.out.size))
    clear b2
    cases tb with
    | false =>
      go_wp2_with fail
      go_ret
      exact ⟨rfl, H2.out⟩
    | true =>
      go_wp2_with fail
      go_ret
      exact ⟨rfl, H2.out⟩
set_option maxRecDepth 100000 in
theorem threads_none (c : Nat) (w : World) : Calls Tryd.prog 34 #[.slice none 0 c] w fun e w' => e = .returned (.bool true) ∧ Below w.heap.size w w' := by
  go_enter Tryd.func34, Tryd.ntmps34
  go_wp2_with fail
  go_loopw [12] (fun i wr => i = .int .i64 0 ∧ wr = w) (fun i _ => 0)
  case atStart => exact ⟨rfl, rfl⟩
  case round =>
    obtain ⟨rfl, rfl⟩ := hrel
    go_wp2_with fail
    go_ret
    exact ⟨rfl, Below.refl _ _⟩
end Go.Proofs.YtnkdaehmdcpafaaDoor
