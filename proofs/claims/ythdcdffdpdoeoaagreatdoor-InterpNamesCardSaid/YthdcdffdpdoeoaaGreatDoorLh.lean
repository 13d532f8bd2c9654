/-
  CONTRACTS OF PACKAGE buffer's level: fill (what a lower level has of other variables, too) and over (a level and the one below it as one): on every order in which a map's entries may come. Conditions: as they stand.
-/
import Derived.Test.YthdcdffdpdoeoaaGreatDoorLe
import Derived.Test.YthdcdffdpdoeoaaGreatDoorLg
import Derived.Lib.Hide
import Derived.Below
import Derived.PlainAid
namespace Go.Proofs.YthdcdffdpdoeoaaGreatDoor
set_option maxRecDepth 100000
open Go.RowKit Go.Maps Go.Shelf
set_option linter.unusedVariables false
theorem zero8 (w : World) : (zeroValue 2).run Tryz.prog w = .ok (.int .i64 0) w := by kernel_rfl
/-- A level: nil, and it says nothing; or a map. -/
def LO (w : World) (p : Option Nat) (n : Nat) (f : Int → Option Int) : Prop := (p = none ∧ ∀ v, wfI v → f v = none) ∨ ∃ b, p = some b ∧ LV w b n f
theorem LO.of_block {w w' : World} {p : Option Nat} {n : Nat} {f : Int → Option Int} (h : LO w p n f) (hb : ∀ b, p = some b → w'.heap[b]? = w.heap[b]?) : LO w' p n f := by
  rcases h with h | ⟨b, rfl, h⟩
  · exact .inl h
  · exact .inr ⟨b, rfl, h.of_block (hb b rfl)⟩
theorem LO.lt {w : World} {p : Option Nat} {n : Nat} {f : Int → Option Int} (h : LO w p n f) : ∀ b, p = some b → b < w.heap.size := by
  rcases h with ⟨rfl, _⟩ | ⟨b, rfl, h⟩
  · intro b e; cases e
  · intro c e; cases e; exact h.lt
theorem LO.congr {w : World} {p : Option Nat} {n : Nat} {f g : Int → Option Int} (h : LO w p n f) (e : ∀ v, wfI v → f v = g v) : LO w p n g := by
  rcases h with ⟨rfl, h⟩ | ⟨b, rfl, h⟩
  · exact .inl ⟨rfl, fun v hv => (e v hv).symm.trans (h v hv)⟩
  · exact .inr ⟨b, rfl, h.congr e⟩
theorem LO.mono {w : World} {p : Option Nat} {n n' : Nat} {f : Int → Option Int} (h : LO w p n f) (hn : n ≤ n') : LO w p n' f := by
  rcases h with h | ⟨b, rfl, h⟩
  · exact .inl h
  · exact .inr ⟨b, rfl, h.mono hn⟩
set_option maxHeartbeats 2000000 in
theorem fill_map (bl bw nl nw : Nat) (f : Int → Option Int) (Dw : DU) (w : World) (hl : LV w bl nl f) (hw : w.ownsMap Tryz.prog 3 (plainElem Tryz.prog 2) bw nw Dw) (hne : bw ≠ bl) (hr : nl + size Dw ≤ 1000000) :
    Calls Tryz.prog 54 #[.map (some bl), .map (some bw)] w fun e w' => e = .returned (.tuple #[]) ∧ LV w' bl (nl + size Dw) (fun v => (f v).or (lk Dw v)) ∧ w.grownBy w' (some bl) := by
  have hbl := hl.lt
  have hbw := hw.lt
  obtain ⟨Nw, hNw⟩ : ∃ N, N = size Dw := ⟨_, rfl⟩
  rw [← hNw] at hr ⊢
  go_enter Tryz.func54, Tryz.ntmps54
  go_wp2_with (first
    | (at_range; refine wpList_range_own _ rfl _ 89 rfl 3 2 keyed8 Tryz.underlying89 _ bw nw _ rfl hw ?_; intro w0 hrg0 hg0 hs0)
    | go_in)
  go_frame
  rw [← hNw] at hrg0
  go_loopw [4] (fun _ wr => ∃ (left : Lit → Bool) (cnt : Nat), wr.ranges Tryz.prog 3 (plainElem Tryz.prog 2) bw w.heap.size nw Dw left cnt ∧ cnt ≤ Nw ∧ LV wr bl (nl + (Nw - cnt)) (fun v => (f v).or (if left (kI v) = true then none else lk Dw v)) ∧ w.grownBy wr (some bl))
    (fun _ wr => wr.rangeLeft bw w.heap.size)
  case atStart =>
    refine ⟨_, _, hrg0, Nat.le_refl _, ((hl.of_block (hg0.block bl hbl (by simp))).mono (by omega)).congr fun v hv => ?_, hg0.but _⟩
    by_cases h : has Dw (kI v) = true
    · rw [if_pos h, Option.or_none]
    · rw [if_neg h, lk_none (by simpa using h), Option.or_none]
  case round =>
    obtain ⟨left, cnt, hrg, hcs, hlv, hgw⟩ := hrel
    go_wp2_with (first
      | (at_next; refine wpList_next_ranges_ii _ rfl _ rfl 3 2 .i64 .i64 keyed8 Tryz.underlying3 Tryz.underlying2 bw w.heap.size nw _ _ _ rfl hrg ?_ ?_)
      | go_in)
    · intro hc0 hl0
      go_wp2
      go_end0
      exact ⟨rfl, (hlv.mono (by omega)).congr fun v hv => by rw [if_neg (by rw [hl0]; decide)], hgw⟩
    · intro x c w1 cnt1 hwx hwc hlx hat hrg1 hlt hg1 hs1 hen
      have hlv1 := hlv.of_block (hg1.block bl hlv.lt (fun e => by cases e; omega))
      have hg1w : w.grownBy w1 (some bl) := ⟨hg1.os.trans hgw.os, hg1.tape.trans hgw.tape, hg1.output.trans hgw.output, Nat.le_trans hgw.size hg1.size, fun i hi hb => (hg1.block i (by have := hgw.size; omega) (fun e => by cases e; omega)).trans (hgw.block i hi hb)⟩
      have hhx : has Dw (kI x) = true := has_true_of_atKey hat
      have hlk : lk Dw x = some c := by rw [lk_at (hat _), if_pos hhx]
      obtain ⟨D1, ho1, hf1⟩ := hlv1
      have hkey := keyOf_int_mk Tryz.underlying3 hwx
      have hnl : nl + (Nw - cnt) < maxLen := by unfold maxLen; omega
      have hz1 : w1.heap.size = w1.heap.size := rfl
      clear hz1
      have step : ∀ v, wfI v → (f v).or (if left (kI v) = true then none else lk Dw v) = lk D1 v := fun v hv => (hf1 v hv).symm
      by_cases hin : has D1 (kI x) = true
      · have hgoal : ∀ v, wfI v → lk D1 v = (f v).or (if (left (kI v) && !(kI v).sameKey (.int .i64 x)) = true then none else lk Dw v) := fun v hv => by
          by_cases e : v = x
          · subst e
            have h1 := step v hv
            have h2 : left (kI v) = true := hlx
            rw [if_pos h2, Option.or_none] at h1
            have h3 := lk_isSome (D := D1) (v := v)
            rw [hin, ← h1] at h3
            obtain ⟨y, hy⟩ := Option.isSome_iff_exists.1 h3
            rw [← h1, hy]
            rfl
          · rw [← step v hv, show (kI v).sameKey (.int .i64 x) = false from sameKey_ne (kI_ne e)]
            simp
        have hin2 : has D1 (.int .i64 x) = true := hin
        clear step hf1
        go_wp2_with (first
          | (at_lookup; refine wpList_lookup_own_ok_int _ rfl _ _ 89 rfl 3 2 .i64 keyed8 Tryz.underlying89 Tryz.underlying2 (zero8 _) bl _ D1 rfl ho1 _ _ rfl hkey ?_; intro c2 hat2 hwc2; rw [hin2])
          | go_in)
        go_roundw
        case rel => exact ⟨_, cnt1, hrg1, by omega, LV.mono (w := w1) ⟨D1, ho1, hgoal⟩ (by omega), hg1w⟩
        case measure => rw [hrg1.left_eq, hrg.left_eq]; exact hlt
      · have hin2 : has D1 (.int .i64 x) = false := Bool.eq_false_iff.2 hin
        have hm1 := isMap8 ho1
        have hgoal : ∀ v, wfI v → lk (D1.put (.int .i64 x) (.lit (.int .i64 c))) v = (f v).or (if (left (kI v) && !(kI v).sameKey (.int .i64 x)) = true then none else lk Dw v) := fun v hv => by
          refine (lk_put hm1 hwx c v).trans ?_
          by_cases e : x = v
          · subst e
            have h1 := step x hv
            rw [lk_none hin2] at h1
            have h2 : f x = none := by cases hfx : f x with
              | none => rfl
              | some y => rw [hfx] at h1; cases h1
            rw [if_pos rfl, h2, show (kI x).sameKey (.int .i64 x) = true from WideAt.sameKey_self (isKey_kI hv), hlk]
            simp
          · rw [if_neg e, ← step v hv, show (kI v).sameKey (.int .i64 x) = false from sameKey_ne (kI_ne (Ne.symm e))]
            simp
        clear step hf1
        go_wp2_with (first
          | (at_lookup; refine wpList_lookup_own_ok_int _ rfl _ _ 89 rfl 3 2 .i64 keyed8 Tryz.underlying89 Tryz.underlying2 (zero8 _) bl _ D1 rfl ho1 _ _ rfl hkey ?_; intro c2 hat2 hwc2; rw [hin2])
          | (at_mapUpdate; refine wpList_mapUpdate_own _ rfl _ _ _ 89 rfl 3 2 keyed8 Tryz.underlying89 _ bl _ _ rfl ho1 hnl _ _ _ rfl rfl hkey _ [] (plainElem_int Tryz.underlying2 hwc) ?_; intro w2 ho2 hg2; go_frame)
          | go_in)
        have hrg2 := hrg1.kept hg2 (fun e => by have := Option.some.inj e; omega) (fun e => by have := Option.some.inj e; omega)
        go_roundw
        case rel => exact ⟨_, cnt1, hrg2, by omega, LV.mono (w := w2) ⟨_, ho2, hgoal⟩ (by omega), hg1w.trans hg2⟩
        case measure => rw [hrg2.left_eq, hrg.left_eq]; exact hlt
set_option maxHeartbeats 2000000 in
theorem fill_nil (bl nl : Nat) (f : Int → Option Int) (w : World) (hl : LV w bl nl f) :
    Calls Tryz.prog 54 #[.map (some bl), .map none] w fun e w' => e = .returned (.tuple #[]) ∧ LV w' bl nl f ∧ w.grownBy w' (some bl) := by
  have hrg := run_range_nilMap (P := Tryz.prog) w 89 3 2 Tryz.underlying89
  have hnx : ∀ ty, (Instr.next (.pointer (some ⟨w.heap.size, 0, none⟩)) false ty).run Tryz.prog (w.alloc (.mapIter none 0 #[] 0)) = _ := fun ty => run_next_nilMap _ ty 0 0 #[]
  go_enter Tryz.func54, Tryz.ntmps54
  go_wp2
  refine wp_loop_rounds 1 ?_
  rw [rounds_succ]
  go_wp2
  go_end0
  exact ⟨rfl, hl.of_block (Below.heap_alloc _ _ _ hl.lt), World.grownBy_alloc w _ (some bl)⟩
theorem fill_any (bl : Nat) (lo : Option Nat) (nl nw : Nat) (f g : Int → Option Int) (w : World) (hl : LV w bl nl f) (hw : LO w lo nw g) (hne : lo ≠ some bl) (hr : nl + nw ≤ 1000000) :
    Calls Tryz.prog 54 #[.map (some bl), .map lo] w fun e w' => e = .returned (.tuple #[]) ∧ LV w' bl (nl + nw) (fun v => (f v).or (g v)) ∧ w.grownBy w' (some bl) := by
  rcases hw with ⟨rfl, hg⟩ | ⟨bw, rfl, Dw, ho, hf⟩
  · refine (fill_nil bl nl f w hl).mono fun e w' ⟨he, h1, h2⟩ => ⟨he, (h1.mono (by omega)).congr fun v hv => by rw [hg v hv, Option.or_none], h2⟩
  · have hs := ho.size_le
    refine (fill_map bl bw nl nw f Dw w hl ho (fun e => hne (by rw [e])) (by omega)).mono fun e w' ⟨he, h1, h2⟩ => ⟨he, (h1.mono (by omega)).congr fun v hv => by rw [hf v hv], h2⟩
/-- maps.Copy: a map's entries laid into another one. -/
theorem mcopy_any (bd : Nat) (ps : Option Nat) (nd ns : Nat) (f g : Int → Option Int) (w : World) (hd : LV w bd nd f) (hs : LO w ps ns g) (hne : ps ≠ some bd) (hr : nd + ns ≤ 1000000) :
    Calls Tryz.prog 85 #[.map (some bd), .map ps] w fun e w' => e = .returned (.tuple #[]) ∧ LV w' bd (nd + ns) (fun v => (g v).or (f v)) ∧ w.grownBy w' (some bd) := by
  obtain ⟨Dd, hod, hfd⟩ := hd
  rcases hs with ⟨rfl, hg⟩ | ⟨bs, rfl, Ds, hos, hgs⟩
  · have h := AnyX.maps_Copy_opt (H := Unit) copyL keyed8 (plainElem Tryz.prog 2) bd nd none Dd .nil w hod (.inl ⟨rfl, rfl⟩) hne (by show nd + 0 ≤ maxLen; unfold maxLen; omega)
    refine Calls.mono h fun e w' ⟨he, h1, h2⟩ => ⟨he, LV.mono (w := w') ⟨_, h1, fun v hv => ?_⟩ (by show nd + 0 ≤ _; omega), h2⟩
    show lk Dd v = (g v).or (f v)
    rw [hfd v hv, hg v hv, Option.none_or]
  · have hsz := hos.size_le
    have h := AnyX.maps_Copy_opt (H := Unit) copyL keyed8 (plainElem Tryz.prog 2) bd nd (some bs) Dd Ds w hod (.inr ⟨bs, ns, rfl, hos⟩) hne (by unfold maxLen; omega)
    refine Calls.mono h fun e w' ⟨he, h1, h2⟩ => ⟨he, LV.mono (w := w') ⟨_, h1, fun v hv => ?_⟩ (by omega), h2⟩
    rw [lk_merge hod hos v hv, hfd v hv, hgs v hv]
theorem mcopy_nil (w : World) :
    Calls Tryz.prog 85 #[.map none, .map none] w fun e w' => e = .returned (.tuple #[]) ∧ w.grownBy w' none :=
  Calls.mono (AnyX.maps_Copy_nil copyL none w) fun e w' ⟨he, hw⟩ => ⟨he, by rw [hw]; exact World.grownBy_alloc w _ none⟩
/-- maps.Clone. -/
theorem mclone_any (p : Option Nat) (n : Nat) (f : Int → Option Int) (w : World) (h : LO w p n f) :
    Calls Tryz.prog 57 #[.map p] w fun e w' => ∃ p', e = .returned (.map p') ∧ (∀ b, p' = some b → b = w.heap.size) ∧ (p = none ↔ p' = none) ∧ LO w' p' n f ∧ Below w.heap.size w w' := by
  rcases h with ⟨rfl, hf⟩ | ⟨b, rfl, D, ho, hf⟩
  · refine Calls.mono (AnyW.maps_Clone_nil cloneL w) fun e w' ⟨he, hw⟩ => ?_
    subst hw
    exact ⟨none, he, (fun b e => by cases e), Iff.rfl, .inl ⟨rfl, hf⟩, Below.refl _ _⟩
  · refine Calls.mono (AnyW.maps_Clone_owns cloneL 3 (plainElem Tryz.prog 2) b n D w ho) fun e w' ⟨he, h1, h2, h3⟩ => ?_
    exact ⟨some w.heap.size, he, (fun b e => by cases e; rfl), by simp, .inr ⟨_, rfl, D, h1, hf⟩, h3⟩
theorem len_pos {w : World} {b n : Nat} {D : DU} (h : w.ownsMap Tryz.prog 3 (plainElem Tryz.prog 2) b n D) {v : Int} (hv : wfI v) (hs : (lk D v).isSome = true) : 0 < size D := by
  obtain ⟨es, rfl, _⟩ := h.entries keyed8
  rw [lk_isSome] at hs
  obtain ⟨p, hp, _⟩ := List.any_eq_true.1 hs
  exact List.length_pos_of_mem hp
set_option maxHeartbeats 2000000 in
/-- A level and the one below it as one: p, the higher one, if it is a map, says something. -/
theorem over_any (p lo : Option Nat) (n nw : Nat) (f g : Int → Option Int) (w : World) (hp : LO w p n f) (hs : p = none ∨ ∃ v, wfI v ∧ (f v).isSome = true) (hl : LO w lo nw g) (hne : p = none ∨ lo ≠ p) (hr : nw + n ≤ 1000000) :
    Calls Tryz.prog 70 #[.map p, .map lo] w fun e w' => ∃ p', e = .returned (.map p') ∧ (p' = p ∨ p' = lo) ∧ LO w' p' (nw + n) (fun v => (f v).or (g v)) ∧ w.grownBy w' p' := by
  rcases hp with ⟨rfl, hf⟩ | ⟨b, rfl, hb⟩
  · -- the higher one is nil
    have hfg : ∀ v, wfI v → g v = (f v).or (g v) := fun v hv => by rw [hf v hv, Option.none_or]
    rcases hl with ⟨rfl, hg0⟩ | ⟨c, rfl, hc⟩
    · have hrun := fun w ty => len_nil (P := Tryz.prog) (w := w) Tryz.underlying89 ty
      go_enter Tryz.func70, Tryz.ntmps70
      go_wp2_with (go_at_call 85; refine (mcopy_nil _).mono ?_; rintro e w' ⟨rfl, hg⟩)
      go_ret
      exact ⟨none, rfl, .inl rfl, .inl ⟨rfl, fun v hv => (hfg v hv).symm.trans (hg0 v hv)⟩, by assumption⟩
    · obtain ⟨D, ho, hfD⟩ := hc
      have hrun := fun w ty => len_nil (P := Tryz.prog) (w := w) Tryz.underlying89 ty
      have hcall := mcopy_any c none nw n g f w ⟨D, ho, hfD⟩ (.inl ⟨rfl, hf⟩) (by simp) hr
      have i1 : ¬ ((size D : Int) < 0) := by omega
      go_enter Tryz.func70, Tryz.ntmps70
      go_wp2_with (first
        | (at_len; refine wpList_len_own _ rfl _ 89 rfl 3 2 Tryz.underlying89 _ c _ D rfl ho ?_)
        | (go_at_call 85; refine hcall.mono ?_; rintro e w' ⟨rfl, hlv, hg⟩)
        | go_in)
      go_ret
      exact ⟨some c, rfl, .inr rfl, .inr ⟨c, rfl, hlv⟩, hg⟩
  · obtain ⟨D, ho, hfD⟩ := hb
    obtain ⟨v0, hv0, hs0⟩ : ∃ v, wfI v ∧ (f v).isSome = true := by
      rcases hs with h | h
      · cases h
      · exact h
    have hpos := len_pos ho hv0 (by rw [hfD v0 hv0]; exact hs0)
    have hcF := fill_any b lo n nw f g w ⟨D, ho, hfD⟩ hl (by rcases hne with h | h; cases h; exact h) (by omega)
    rcases hl with ⟨rfl, hg⟩ | ⟨c, rfl, D2, ho2, hf2⟩
    · have hrun := fun w ty => len_nil (P := Tryz.prog) (w := w) Tryz.underlying89 ty
      have i1 : (0 : Int) < (size D : Int) := by omega
      go_enter Tryz.func70, Tryz.ntmps70
      go_wp2_with (first
        | (at_len; refine wpList_len_own _ rfl _ 89 rfl 3 2 Tryz.underlying89 _ b _ D rfl ho ?_)
        | (go_at_call 54; refine hcF.mono ?_; rintro e w' ⟨rfl, hlv, hg⟩)
        | go_in)
      go_ret
      exact ⟨some b, rfl, .inl rfl, .inr ⟨b, rfl, hlv.mono (by omega)⟩, by assumption⟩
    · have hcC := mcopy_any c (some b) nw n g f w ⟨D2, ho2, hf2⟩ (.inr ⟨b, rfl, D, ho, hfD⟩) (by rcases hne with h | h; cases h; exact fun e => h e.symm) hr
      by_cases hlt : size D2 < size D
      · have i1 : (size D2 : Int) < (size D : Int) := by omega
        go_enter Tryz.func70, Tryz.ntmps70
        go_wp2_with (first
          | (at_len; refine wpList_len_own _ rfl (.tmp 5) 89 rfl 3 2 Tryz.underlying89 _ b _ D rfl ho ?_)
          | (at_len; refine wpList_len_own _ rfl (.tmp 7) 89 rfl 3 2 Tryz.underlying89 _ c _ D2 rfl ho2 ?_)
          | (go_at_call 54; refine hcF.mono ?_; rintro e w' ⟨rfl, hlv, hg⟩)
          | go_in)
        go_ret
        exact ⟨some b, rfl, .inl rfl, .inr ⟨b, rfl, hlv.mono (by omega)⟩, hg⟩
      · have i1 : ¬ ((size D2 : Int) < (size D : Int)) := by omega
        go_enter Tryz.func70, Tryz.ntmps70
        go_wp2_with (first
          | (at_len; refine wpList_len_own _ rfl (.tmp 5) 89 rfl 3 2 Tryz.underlying89 _ b _ D rfl ho ?_)
          | (at_len; refine wpList_len_own _ rfl (.tmp 7) 89 rfl 3 2 Tryz.underlying89 _ c _ D2 rfl ho2 ?_)
          | (go_at_call 85; refine hcC.mono ?_; rintro e w' ⟨rfl, hlv, hg⟩)
          | go_in)
        go_ret
        exact ⟨some c, rfl, .inr rfl, .inr ⟨c, rfl, hlv⟩, hg⟩
end Go.Proofs.YthdcdffdpdoeoaaGreatDoor
