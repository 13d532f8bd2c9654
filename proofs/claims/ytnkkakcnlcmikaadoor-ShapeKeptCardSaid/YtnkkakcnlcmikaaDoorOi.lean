/-
  ShapeOwner, but for its card: between a Lock and the Free, or Undo, of that stripe nothing else locks it, frees it, looks at it, loads of it. Conditions: CheckC.
-/
import Derived.Test.YtnkkakcnlcmikaaDoorOh
namespace Go.Proofs.YtnkkakcnlcmikaaDoor
set_option maxRecDepth 100000
open Go.RowKit
set_option linter.unusedVariables false
/-- What an event's stripe is: whose it is then. -/
theorem own_event {T V S : Int} {q : Sh} {e : Ev} (hI : Inv S T q) (hm : mayS T V S q e = true) :
    (0 ≤ e.th) ∧ (e.kd = 4 ∨ e.kd = 2 → q.own e.pl = -1 ∧ 0 ≤ e.pl ∧ e.pl < S) ∧ (e.kd = 9 ∨ e.kd = 11 → q.own e.pl = e.th ∧ 0 ≤ e.pl ∧ e.pl < S) ∧ (e.kd = 3 → q.own (e.pl % S) = -1) ∧ (e.kd = 8 → q.own (e.pl % S) = e.th) ∧ (e.kd = 3 ∨ e.kd = 8 → 0 ≤ e.pl ∧ e.pl < V) := by
  obtain ⟨hb, hq⟩ := may13 hm
  obtain ⟨hsz, hth, hk⟩ := (may_iff _ _ _ _).1 hb
  have hA := hI.t e.th hth.1
  have ho := hI.own
  unfold MayK at hk
  refine ⟨hth.1, fun h => ?_, fun h => ?_, fun h => ?_, fun h => ?_, fun h => ?_⟩
  · have := ho e.pl
    rcases h with h | h <;> simp [mayQ, h] at hq <;> omega
  · rcases h with h | h
    · simp [mayQ, h] at hq
      exact ⟨hA.mine _ _ (Nat.le_refl _) hq.2.2, by omega, by omega⟩
    · simp [mayQ, h] at hq
      exact ⟨hA.mine _ _ (Nat.le_refl _) hq.2.2, by omega, by omega⟩
  · have := ho (e.pl % S)
    simp [mayQ, h] at hq
    omega
  · simp [mayQ, h] at hq
    omega
  · omega
def rowO (q : Sh) : Array Value := ((List.range 32).map fun (s : Nat) => Value.int .i64 (q.own s + 1)).toArray
theorem rowO_at (q : Sh) (s : Nat) (h : s < 32) : (rowO q)[s]? = some (.int .i64 (q.own s + 1)) := by
  unfold rowO
  rw [List.getElem?_toArray, List.getElem?_map, List.getElem?_range h]
  rfl
theorem rowO_set (q q' : Sh) (s : Nat) (n : Int) (h : ∀ i : Int, q'.own i = if i = s then n else q.own i) : (rowO q).setIfInBounds s (.int .i64 (n + 1)) = rowO q' := by
  apply Array.ext_getElem?
  intro i
  by_cases hi : i < 32
  · rw [rowO_at q' i hi, h]
    by_cases his : i = s
    · subst his
      rw [if_pos rfl]
      exact Array.getElem?_setIfInBounds_self_of_lt (by simp [rowO]; omega)
    · rw [if_neg (by omega), Array.getElem?_setIfInBounds_ne (by omega), rowO_at q i hi]
  · rw [Array.getElem?_eq_none (by simp [rowO]; omega), Array.getElem?_eq_none (by simp [rowO]; omega)]
theorem rowO_same (q q' : Sh) (h : q'.own = q.own) : rowO q' = rowO q := by unfold rowO; rw [h]
theorem rowO_init : rowO sh0 = #[.int .i64 0, .int .i64 0, .int .i64 0, .int .i64 0, .int .i64 0, .int .i64 0, .int .i64 0, .int .i64 0, .int .i64 0, .int .i64 0, .int .i64 0, .int .i64 0, .int .i64 0, .int .i64 0, .int .i64 0, .int .i64 0, .int .i64 0, .int .i64 0, .int .i64 0, .int .i64 0, .int .i64 0, .int .i64 0, .int .i64 0, .int .i64 0, .int .i64 0, .int .i64 0, .int .i64 0, .int .i64 0, .int .i64 0, .int .i64 0, .int .i64 0, .int .i64 0] := by kernel_rfl
theorem row_next {w : World} {g : Nat} {t : TypeId} {q q' : Sh} (h : w.heap[g]? = some (.cells (rowO q) t (0, 0))) (hq : q'.own = q.own) : w.heap[g]? = some (.cells (rowO q') t (0, 0)) := by rw [rowO_same q q' hq]; exact h
theorem row_put {w : World} {g k : Nat} {t : TypeId} {q q' : Sh} {n : Int} (h : w.heap[g]? = some (.cells (rowO q) t (0, 0))) (hq : ∀ i : Int, q'.own i = if i = k then n else q.own i) : (w.setCell ⟨g, k, none⟩ (.int .i64 (n + 1))).heap[g]? = some (.cells (rowO q') t (0, 0)) := by rw [← rowO_set q q' k n hq]; exact heap_setCell_same w g k _ t _ h
theorem row_zero {w : World} {g k : Nat} {t : TypeId} {q q' : Sh} (h : w.heap[g]? = some (.cells (rowO q) t (0, 0))) (hq : ∀ i : Int, q'.own i = if i = k then -1 else q.own i) : (w.setCell ⟨g, k, none⟩ (.int .i64 0)).heap[g]? = some (.cells (rowO q') t (0, 0)) := row_put (n := -1) h hq
theorem store_rowO {w : World} {g k : Nat} {cs cs' : Array Value} {t : TypeId} {v : Value} (hg : w.heap[g]? = some (.cells cs t (0, 0))) (h : cs.setIfInBounds k v = cs') : (w.setCell ⟨g, k, none⟩ v).heap[g]? = some (.cells cs' t (0, 0)) := by rw [← h]; exact heap_setCell_same w g k cs t v hg
def Yes (w : World) (r : Ending) (w' : World) : Prop := r = .returned (.bool true) ∧ Below w.heap.size w w'
set_option maxHeartbeats 8000000 in
theorem owner_walk {Tb : World → Prop} (HC : CheckC Tb) (w : World) (ht : Tb w) (T V S : Int) (A : Option Addr) (L : List Ev) (c : Nat) (hT : i64P T) (hV : i64P V) (hS : i64P S) (hl : L.length ≤ 9223372036854775807) (he : EvsAt w w.heap.size A L) :
    Calls Tryd.prog 6 #[trV T V S A L.length c] w (Yes w) := by
  have HW : Hid (∀ w1, Below w.heap.size w w1 → Calls Tryd.prog 10 #[] w1 fun r w' => r = .returned (.bool true) ∧ Below w1.heap.size w1 w') := fun w1 hb => works_any HC w1 (HC.below w w1 ht hb)
  have HF : Hid (L.length ≤ 2000 → ∀ w1, Below w.heap.size w w1 → Calls Tryd.prog 20 #[trV T V S A L.length c] w1 fun r w' => r = .returned (.bool (fineB T V S L)) ∧ Below w1.heap.size w1 w') := fun h w1 hb => fine_any HC w1 (HC.below w w1 ht hb) T V S A L c hT hV hS h ((he.below hb (Nat.le_refl _)).mono hb.size)
  obtain ⟨n, hn⟩ : ∃ n, n = L.length := ⟨_, rfl⟩
  have HE := Lib.hid he
  rw [← hn] at HF hl ⊢
  unfold trV at HF ⊢
  have HN := Lib.hid hn
  clear ht hT hV he HC hn
  by_cases h2 : 2000 < n
  · have i1 : (2000 : Int) < (n : Int) := by omega
    clear h2 hl HF
    go_enter Tryd.func6, Tryd.ntmps6
    go_wp2_with fail
    have h0 : Below w.heap.size w (w.alloc (.cells #[.int .i64 T, .int .i64 V, .int .i64 S, .slice A n c] 35)) := (Below.refl _ _).alloc (Nat.le_refl _) _
    refine (HW.out _ h0).mono ?_
    rintro _ w1 ⟨rfl, b1⟩
    have x3 : w1.cell? ⟨w.heap.size, 3, none⟩ = some (.slice A n c) := (b1.cell (by simp)).trans (World.cell?_alloc_mark w #[.int .i64 T, .int .i64 V, .int .i64 S, .slice A n c] 35 (0, 0) 3)
    have B1 : Hid (Below w.heap.size w w1) := h0.trans (b1.mono h0.size)
    clear b1 h0
    go_wp2_with fail
    refine (HW.out _ B1.out).mono ?_
    rintro _ w2 ⟨rfl, b2⟩
    have B2 : Hid (Below w.heap.size w w2) := B1.out.trans (b2.mono B1.out.size)
    clear b2 x3
    go_wp2_with fail
    go_ret
    exact ⟨rfl, B2.out⟩
  · have i1 : (n : Int) ≤ 2000 := by omega
    have HF2 := Lib.hid (HF.out (by omega))
    clear HF
    obtain ⟨b, hb⟩ : ∃ b, b = fineB T V S L := ⟨_, rfl⟩
    rw [← hb] at HF2
    have HB := Lib.hid hb
    clear hb
    go_enter Tryd.func6, Tryd.ntmps6
    go_wp2_with fail
    have h0 : Below w.heap.size w (w.alloc (.cells #[.int .i64 T, .int .i64 V, .int .i64 S, .slice A n c] 35)) := (Below.refl _ _).alloc (Nat.le_refl _) _
    refine (HW.out _ h0).mono ?_
    rintro _ w1 ⟨rfl, b1⟩
    have r1 : w1.heap[w.heap.size]? = some (.cells #[.int .i64 T, .int .i64 V, .int .i64 S, .slice A n c] 35 (0, 0)) := (b1.block _ (by simp)).trans (heap_alloc_new w _)
    have x0 := cell_of_row w1 _ 0 _ _ _ r1
    have x1 := cell_of_row w1 _ 1 _ _ _ r1
    have x2 := cell_of_row w1 _ 2 _ _ _ r1
    have x3 := cell_of_row w1 _ 3 _ _ _ r1
    simp only [List.getElem?_toArray, List.getElem?_cons_zero, List.getElem?_cons_succ] at x0 x1 x2 x3
    have B1 : Hid (Below w.heap.size w w1) := h0.trans (b1.mono h0.size)
    have R1 := Lib.hid r1
    clear b1 h0 r1
    go_wp2_with fail
    refine (HF2.out _ B1.out).mono ?_
    rintro _ w2 ⟨rfl, b2⟩
    have B2 : Hid (Below w.heap.size w w2) := B1.out.trans (b2.mono B1.out.size)
    have R2 : Hid (w2.heap[w.heap.size]? = some (.cells #[.int .i64 T, .int .i64 V, .int .i64 S, .slice A n c] 35 (0, 0))) := row_stays R1.out b2
    clear b2 x0 x1 x2 x3 R1 HF2
    by_cases hbt : b = false
    · subst hbt
      go_wp2_with fail
      go_ret
      exact ⟨rfl, B2.out⟩
    · obtain rfl : b = true := by simpa using hbt
      obtain ⟨hsz, _, hfine⟩ := fine_iff.1 (of_decide_eq_true HB.out.symm : checkF T V S L = (L.length, 0))
      have HFI := Lib.hid hfine
      simp only [size13, Bool.and_eq_true, decide_eq_true_eq] at hsz
      obtain ⟨sn, rfl⟩ : ∃ sn : Nat, S = sn := ⟨S.toNat, by omega⟩
      have hs1 : 1 ≤ sn := by omega
      have hs32 : sn ≤ 32 := by omega
      clear hbt hfine HB hsz hS
      go_wp2_with fail
      obtain ⟨go, hgo⟩ : ∃ g, g = w2.heap.size := ⟨_, rfl⟩
      obtain ⟨W3, hW3⟩ : ∃ W3, W3 = w2.alloc (.cells (rowO sh0) 49) := ⟨_, rfl⟩
      have rgo : W3.heap[go]? = some (.cells (rowO (behind sn (L.take 0))) 49 (0, 0)) := by rw [hW3, hgo]; exact heap_alloc_new w2 _
      have b3 : Below go w2 W3 := by rw [hW3, hgo]; exact (Below.refl _ _).alloc (Nat.le_refl _) _
      have hlt1 : w.heap.size < go := by rw [hgo]; exact (Array.getElem?_eq_some_iff.1 R2.out).1
      have R3 : Hid (W3.heap[w.heap.size]? = some (.cells #[.int .i64 T, .int .i64 V, .int .i64 sn, .slice A n c] 35 (0, 0))) := row_staysN R2.out b3 hlt1
      have B3 : Hid (Below w.heap.size w W3) := B2.out.trans (b3.mono (by omega))
      have RG := Lib.hid rgo
      rw [rowO_init] at hW3
      rw [← hW3, ← hgo]
      clear hW3 b3 B2 R2 rgo hgo HW
      go_loopw [4] (fun iv wr => ∃ i : Nat, i ≤ n ∧ iv = .int .i64 i ∧ Hid (wr.heap[go]? = some (.cells (rowO (behind sn (L.take i))) 49 (0, 0))) ∧ Hid (Below go W3 wr)) (fun iv _ => n - (intOf iv).toNat)
      case atStart => exact ⟨0, by omega, rfl, RG, Below.refl _ _⟩
      case round =>
        obtain ⟨i, hi, rfl, hrow, hB⟩ := hrel
        have rt := row_staysN R3.out hB.out hlt1
        have x2 := cell_of_row wr _ 2 _ _ _ rt
        have x3 := cell_of_row wr _ 3 _ _ _ rt
        simp only [List.getElem?_toArray, List.getElem?_cons_zero, List.getElem?_cons_succ] at x2 x3
        have BW : Hid (Below w.heap.size w wr) := B3.out.trans (hB.out.mono (by omega))
        by_cases hlt : i < n
        · obtain ⟨a, rfl, ha, hev⟩ := HE.out i (by rw [← HN.out]; exact hlt)
          have hev := hev.below BW.out (by rw [add_blockO]; exact ha)
          have hm := HFI.out i _ (nthE_of (by rw [← HN.out]; exact hlt))
          have hI := fine_inv HFI.out i (by rw [← HN.out]; exact hi)
          have hnx := behind_next (S := sn) (nthE_of (L := L) (i := i) (by rw [← HN.out]; exact hlt))
          obtain ⟨q, hq⟩ : ∃ q, q = behind sn (L.take i) := ⟨_, rfl⟩
          rw [← hq] at hm hI hnx hrow
          obtain ⟨h0, h24, h911, h3, h8, h38⟩ := own_event hI hm
          have hk13 : 1 ≤ (nthE L i).kd ∧ (nthE L i).kd ≤ 13 := by
            obtain ⟨_, _, hk⟩ := (may_iff _ _ _ _).1 (may13 hm).1
            unfold MayK at hk
            omega
          have hok := hev.ok
          have hth : (nthE L i).th ≤ 1000 := by
            obtain ⟨hsz, hth, _⟩ := (may_iff _ _ _ _).1 (may13 hm).1
            simp only [sizesB, Bool.and_eq_true, decide_eq_true_eq] at hsz
            omega
          have HNX := Lib.hid hnx
          obtain ⟨c0, c1, c2, c3, c4, c5, c6, _⟩ := hev
          generalize nthE L i = e at *
          obtain ⟨kd, th, tx, pl, v, x, why⟩ := e
          simp only at c0 c1 c2 c3 c4 c5 c6 h0 h24 h911 h3 h8 h38 hk13 hth
          have hii : (i : Int) < (n : Int) := by omega
          have hgol : go < wr.heap.size := (Array.getElem?_eq_some_iff.1 hrow.out).1
          have hmi : (sn : Int) ≠ 0 := by omega
          have hrows : Hid (∀ o : Obj, (wr.alloc o).heap[go]? = some (.cells (rowO q) 49 (0, 0))) := fun o => row_stays hrow.out ((Below.refl _ wr).alloc (Nat.le_refl _) o)
          have HAL : Hid (∀ o : Obj, Below go W3 (wr.alloc o)) := fun o => hB.out.alloc (by omega) o
          clear hq hI hm rt hnx ha hlt hok
          have : kd = 1 ∨ kd = 2 ∨ kd = 3 ∨ kd = 4 ∨ kd = 5 ∨ kd = 6 ∨ kd = 7 ∨ kd = 8 ∨ kd = 9 ∨ kd = 10 ∨ kd = 11 ∨ kd = 12 ∨ kd = 13 := by omega
          rcases this with rfl | rfl | rfl | rfl | rfl | rfl | rfl | rfl | rfl | rfl | rfl | rfl | rfl
          · clear h24 h911 h3 h8 h38
            go_wp2_with fail
            refine ⟨?_, ?measure⟩
            · exact ⟨i + 1, by omega, by go_num, by rw [HNX.out]; exact row_next (hrows.out _) (by simp [stepS]), HAL.out _⟩
            case measure => simp [intOf]; omega
          · obtain ⟨ho, hp0, hpS⟩ := h24 (by omega)
            clear h24 h911 h3 h8 h38
            obtain ⟨pk, rfl⟩ : ∃ pk : Nat, pl = pk := ⟨pl.toNat, by omega⟩
            have hpk : pk < 32 := by omega
            have y0 : (wr.alloc (.cells #[.int .u8 2, .int .i64 th, .int .i64 tx, .int .i64 pk, .int .i64 v, .int .i64 x, .int .u8 why] 27)).cell? ⟨go, pk, none⟩ = some (.int .i64 (-1 + 1)) := by rw [cell_of_row _ go pk _ _ _ (hrows.out _), rowO_at q pk hpk, ho]
            have y1 := frozen_of_row (wr.alloc (.cells #[.int .u8 2, .int .i64 th, .int .i64 tx, .int .i64 pk, .int .i64 v, .int .i64 x, .int .u8 why] 27)) go pk _ _ (hrows.out _)
            have z0 : wr.cell? ⟨go, pk, none⟩ = some (.int .i64 (-1 + 1)) := by rw [cell_of_row _ go pk _ _ _ hrow.out, rowO_at q pk hpk, ho]
            have z1 := frozen_of_row wr go pk _ _ hrow.out
            have hp2 : (pk : Int) < 32 := by omega
            clear ho hp0 hpS
            go_wp2_with fail
            refine ⟨?_, ?measure⟩
            · exact ⟨i + 1, by omega, by go_num, by rw [HNX.out]; exact row_next (hrows.out _) (by simp [stepS]), HAL.out _⟩
            case measure => simp [intOf]; omega
          · have ho := h3 rfl
            obtain ⟨hp0, hpV⟩ := h38 (by omega)
            clear h24 h911 h3 h8 h38
            obtain ⟨pk0, rfl⟩ : ∃ pk0 : Nat, pl = pk0 := ⟨pl.toNat, by omega⟩
            have hmod : (pk0 : Int) % (sn : Int) = ((pk0 % sn : Nat) : Int) := by omega
            rw [hmod] at ho
            have hpk2 : pk0 % sn < sn := Nat.mod_lt _ (by omega)
            obtain ⟨pk, hpke⟩ : ∃ pk, pk = pk0 % sn := ⟨_, rfl⟩
            rw [← hpke] at ho hpk2 hmod
            have hpk : pk < 32 := by omega
            have e1 : (pk0 : Int).tmod (sn : Int) = (pk : Int) := by rw [← hmod]; exact Int.tmod_eq_emod_of_nonneg (by omega)
            have e2 : IntKind.i64.wrap (pk : Int) = (pk : Int) := IntWalk.i64_in _ ⟨by omega, by omega⟩
            have y0 : (wr.alloc (.cells #[.int .u8 3, .int .i64 th, .int .i64 tx, .int .i64 pk0, .int .i64 v, .int .i64 x, .int .u8 why] 27)).cell? ⟨go, pk, none⟩ = some (.int .i64 (-1 + 1)) := by rw [cell_of_row _ go pk _ _ _ (hrows.out _), rowO_at q pk hpk, ho]
            have y1 := frozen_of_row (wr.alloc (.cells #[.int .u8 3, .int .i64 th, .int .i64 tx, .int .i64 pk0, .int .i64 v, .int .i64 x, .int .u8 why] 27)) go pk _ _ (hrows.out _)
            have z0 : wr.cell? ⟨go, pk, none⟩ = some (.int .i64 (-1 + 1)) := by rw [cell_of_row _ go pk _ _ _ hrow.out, rowO_at q pk hpk, ho]
            have hp2 : (pk : Int) < 32 := by omega
            have x2a : (wr.alloc (.cells #[.int .u8 3, .int .i64 th, .int .i64 tx, .int .i64 pk0, .int .i64 v, .int .i64 x, .int .u8 why] 27)).cell? ⟨w.heap.size, 2, none⟩ = some (.int .i64 sn) := (((Below.refl _ wr).alloc (Nat.le_refl _) _).cell (there_blockW x2)).trans x2
            clear ho hp0 hpV hmod hpk2 hpke
            go_wp2_with fail
            refine ⟨?_, ?measure⟩
            · exact ⟨i + 1, by omega, by go_num, by rw [HNX.out]; exact row_next (hrows.out _) (by simp [stepS]), HAL.out _⟩
            case measure => simp [intOf]; omega
          · obtain ⟨ho, hp0, hpS⟩ := h24 (by omega)
            clear h24 h911 h3 h8 h38
            obtain ⟨pk, rfl⟩ : ∃ pk : Nat, pl = pk := ⟨pl.toNat, by omega⟩
            have hpk : pk < 32 := by omega
            have y0 : (wr.alloc (.cells #[.int .u8 4, .int .i64 th, .int .i64 tx, .int .i64 pk, .int .i64 v, .int .i64 x, .int .u8 why] 27)).cell? ⟨go, pk, none⟩ = some (.int .i64 (-1 + 1)) := by rw [cell_of_row _ go pk _ _ _ (hrows.out _), rowO_at q pk hpk, ho]
            have y1 := frozen_of_row (wr.alloc (.cells #[.int .u8 4, .int .i64 th, .int .i64 tx, .int .i64 pk, .int .i64 v, .int .i64 x, .int .u8 why] 27)) go pk _ _ (hrows.out _)
            have z0 : wr.cell? ⟨go, pk, none⟩ = some (.int .i64 (-1 + 1)) := by rw [cell_of_row _ go pk _ _ _ hrow.out, rowO_at q pk hpk, ho]
            have z1 := frozen_of_row wr go pk _ _ hrow.out
            have hp2 : (pk : Int) < 32 := by omega
            clear ho hp0 hpS
            go_wp2_with fail
            refine ⟨?_, ?measure⟩
            · exact ⟨i + 1, by omega, by go_num, by rw [HNX.out]; exact row_stays (row_put hrow.out (fun i => by simp [stepS, updF])) ((Below.refl _ _).alloc (Nat.le_refl _) _), (hB.out.setCell (p := ⟨go, pk, none⟩) (Nat.le_refl _) _).alloc (by simp; omega) _⟩
            case measure => simp [intOf]; omega
          · clear h24 h911 h3 h8 h38
            go_wp2_with fail
            refine ⟨?_, ?measure⟩
            · exact ⟨i + 1, by omega, by go_num, by rw [HNX.out]; exact row_next (hrows.out _) (by simp [stepS]), HAL.out _⟩
            case measure => simp [intOf]; omega
          · clear h24 h911 h3 h8 h38
            go_wp2_with fail
            refine ⟨?_, ?measure⟩
            · exact ⟨i + 1, by omega, by go_num, by rw [HNX.out]; exact row_next (hrows.out _) (by simp [stepS]), HAL.out _⟩
            case measure => simp [intOf]; omega
          · clear h24 h911 h3 h8 h38
            go_wp2_with fail
            refine ⟨?_, ?measure⟩
            · exact ⟨i + 1, by omega, by go_num, by rw [HNX.out]; exact row_next (hrows.out _) (by simp [stepS]), HAL.out _⟩
            case measure => simp [intOf]; omega
          · have ho := h8 rfl
            obtain ⟨hp0, hpV⟩ := h38 (by omega)
            clear h24 h911 h3 h8 h38
            obtain ⟨pk0, rfl⟩ : ∃ pk0 : Nat, pl = pk0 := ⟨pl.toNat, by omega⟩
            have hmod : (pk0 : Int) % (sn : Int) = ((pk0 % sn : Nat) : Int) := by omega
            rw [hmod] at ho
            have hpk2 : pk0 % sn < sn := Nat.mod_lt _ (by omega)
            obtain ⟨pk, hpke⟩ : ∃ pk, pk = pk0 % sn := ⟨_, rfl⟩
            rw [← hpke] at ho hpk2 hmod
            have hpk : pk < 32 := by omega
            have e1 : (pk0 : Int).tmod (sn : Int) = (pk : Int) := by rw [← hmod]; exact Int.tmod_eq_emod_of_nonneg (by omega)
            have e2 : IntKind.i64.wrap (pk : Int) = (pk : Int) := IntWalk.i64_in _ ⟨by omega, by omega⟩
            have y0 : (wr.alloc (.cells #[.int .u8 8, .int .i64 th, .int .i64 tx, .int .i64 pk0, .int .i64 v, .int .i64 x, .int .u8 why] 27)).cell? ⟨go, pk, none⟩ = some (.int .i64 (th + 1)) := by rw [cell_of_row _ go pk _ _ _ (hrows.out _), rowO_at q pk hpk, ho]
            have y1 := frozen_of_row (wr.alloc (.cells #[.int .u8 8, .int .i64 th, .int .i64 tx, .int .i64 pk0, .int .i64 v, .int .i64 x, .int .u8 why] 27)) go pk _ _ (hrows.out _)
            have z0 : wr.cell? ⟨go, pk, none⟩ = some (.int .i64 (th + 1)) := by rw [cell_of_row _ go pk _ _ _ hrow.out, rowO_at q pk hpk, ho]
            have hp2 : (pk : Int) < 32 := by omega
            have x2a : (wr.alloc (.cells #[.int .u8 8, .int .i64 th, .int .i64 tx, .int .i64 pk0, .int .i64 v, .int .i64 x, .int .u8 why] 27)).cell? ⟨w.heap.size, 2, none⟩ = some (.int .i64 sn) := (((Below.refl _ wr).alloc (Nat.le_refl _) _).cell (there_blockW x2)).trans x2
            clear ho hp0 hpV hmod hpk2 hpke
            go_wp2_with fail
            obtain ⟨W5, hW5⟩ : ∃ W5, W5 = wr.alloc (.cells #[.int .u8 8, .int .i64 th, .int .i64 tx, .int .i64 pk0, .int .i64 v, .int .i64 x, .int .u8 why] 27) := ⟨_, rfl⟩
            have ge5 : W5.heap[wr.heap.size]? = some (.cells #[.int .u8 8, .int .i64 th, .int .i64 tx, .int .i64 pk0, .int .i64 v, .int .i64 x, .int .u8 why] 27) := by rw [hW5]; exact heap_alloc_new wr _
            have rg5 := hrows.out (.cells #[.int .u8 8, .int .i64 th, .int .i64 tx, .int .i64 pk0, .int .i64 v, .int .i64 x, .int .u8 why] 27)
            have b5 := HAL.out (.cells #[.int .u8 8, .int .i64 th, .int .i64 tx, .int .i64 pk0, .int .i64 v, .int .i64 x, .int .u8 why] 27)
            rw [← hW5] at y0 y1 rg5 b5 ⊢
            have ce := cell_of_row W5 _ 1 _ _ _ ge5
            simp only [List.getElem?_toArray, List.getElem?_cons_zero, List.getElem?_cons_succ] at ce
            have h5 : go < W5.heap.size := (Array.getElem?_eq_some_iff.1 rg5).1
            have RG5 := Lib.hid rg5
            have B5 := Lib.hid b5
            clear hW5 ge5 rg5 b5
            go_quiet (fail)
            go_wp2_with fail
            refine ⟨?_, ?measure⟩
            · exact ⟨i + 1, by omega, by go_num, by rw [HNX.out]; exact row_next (w := W5.drewN _) RG5.out (by simp [stepS]), B5.out.trans ((drewN_belowW W5 _).mono (Nat.le_of_lt h5))⟩
            case measure => simp [intOf]; omega
          · obtain ⟨ho, hp0, hpS⟩ := h911 (by omega)
            clear h24 h911 h3 h8 h38
            obtain ⟨pk, rfl⟩ : ∃ pk : Nat, pl = pk := ⟨pl.toNat, by omega⟩
            have hpk : pk < 32 := by omega
            have y0 : (wr.alloc (.cells #[.int .u8 9, .int .i64 th, .int .i64 tx, .int .i64 pk, .int .i64 v, .int .i64 x, .int .u8 why] 27)).cell? ⟨go, pk, none⟩ = some (.int .i64 (th + 1)) := by rw [cell_of_row _ go pk _ _ _ (hrows.out _), rowO_at q pk hpk, ho]
            have y1 := frozen_of_row (wr.alloc (.cells #[.int .u8 9, .int .i64 th, .int .i64 tx, .int .i64 pk, .int .i64 v, .int .i64 x, .int .u8 why] 27)) go pk _ _ (hrows.out _)
            have z0 : wr.cell? ⟨go, pk, none⟩ = some (.int .i64 (th + 1)) := by rw [cell_of_row _ go pk _ _ _ hrow.out, rowO_at q pk hpk, ho]
            have z1 := frozen_of_row wr go pk _ _ hrow.out
            have hp2 : (pk : Int) < 32 := by omega
            clear ho hp0 hpS
            go_wp2_with fail
            obtain ⟨W5, hW5⟩ : ∃ W5, W5 = wr.alloc (.cells #[.int .u8 9, .int .i64 th, .int .i64 tx, .int .i64 pk, .int .i64 v, .int .i64 x, .int .u8 why] 27) := ⟨_, rfl⟩
            have ge5 : W5.heap[wr.heap.size]? = some (.cells #[.int .u8 9, .int .i64 th, .int .i64 tx, .int .i64 pk, .int .i64 v, .int .i64 x, .int .u8 why] 27) := by rw [hW5]; exact heap_alloc_new wr _
            have rg5 := hrows.out (.cells #[.int .u8 9, .int .i64 th, .int .i64 tx, .int .i64 pk, .int .i64 v, .int .i64 x, .int .u8 why] 27)
            have b5 := HAL.out (.cells #[.int .u8 9, .int .i64 th, .int .i64 tx, .int .i64 pk, .int .i64 v, .int .i64 x, .int .u8 why] 27)
            rw [← hW5] at y0 y1 rg5 b5 ⊢
            have ce := cell_of_row W5 _ 1 _ _ _ ge5
            simp only [List.getElem?_toArray, List.getElem?_cons_zero, List.getElem?_cons_succ] at ce
            have h5 : go < W5.heap.size := (Array.getElem?_eq_some_iff.1 rg5).1
            have RG5 := Lib.hid rg5
            have B5 := Lib.hid b5
            clear hW5 ge5 rg5 b5
            go_quiet (fail)
            go_wp2_with fail
            refine ⟨?_, ?measure⟩
            · exact ⟨i + 1, by omega, by go_num, by rw [HNX.out]; exact row_zero (w := W5.drewN _) RG5.out (fun i => by simp [stepS, updF]), (B5.out.trans ((drewN_belowW W5 _).mono (Nat.le_of_lt h5))).setCell (p := ⟨go, pk, none⟩) (Nat.le_refl _) _⟩
            case measure => simp [intOf]; omega
          · clear h24 h911 h3 h8 h38
            go_wp2_with fail
            refine ⟨?_, ?measure⟩
            · exact ⟨i + 1, by omega, by go_num, by rw [HNX.out]; exact row_next (hrows.out _) (by simp [stepS]), HAL.out _⟩
            case measure => simp [intOf]; omega
          · obtain ⟨ho, hp0, hpS⟩ := h911 (by omega)
            clear h24 h911 h3 h8 h38
            obtain ⟨pk, rfl⟩ : ∃ pk : Nat, pl = pk := ⟨pl.toNat, by omega⟩
            have hpk : pk < 32 := by omega
            have y0 : (wr.alloc (.cells #[.int .u8 11, .int .i64 th, .int .i64 tx, .int .i64 pk, .int .i64 v, .int .i64 x, .int .u8 why] 27)).cell? ⟨go, pk, none⟩ = some (.int .i64 (th + 1)) := by rw [cell_of_row _ go pk _ _ _ (hrows.out _), rowO_at q pk hpk, ho]
            have y1 := frozen_of_row (wr.alloc (.cells #[.int .u8 11, .int .i64 th, .int .i64 tx, .int .i64 pk, .int .i64 v, .int .i64 x, .int .u8 why] 27)) go pk _ _ (hrows.out _)
            have z0 : wr.cell? ⟨go, pk, none⟩ = some (.int .i64 (th + 1)) := by rw [cell_of_row _ go pk _ _ _ hrow.out, rowO_at q pk hpk, ho]
            have z1 := frozen_of_row wr go pk _ _ hrow.out
            have hp2 : (pk : Int) < 32 := by omega
            clear ho hp0 hpS
            go_wp2_with fail
            obtain ⟨W5, hW5⟩ : ∃ W5, W5 = wr.alloc (.cells #[.int .u8 11, .int .i64 th, .int .i64 tx, .int .i64 pk, .int .i64 v, .int .i64 x, .int .u8 why] 27) := ⟨_, rfl⟩
            have ge5 : W5.heap[wr.heap.size]? = some (.cells #[.int .u8 11, .int .i64 th, .int .i64 tx, .int .i64 pk, .int .i64 v, .int .i64 x, .int .u8 why] 27) := by rw [hW5]; exact heap_alloc_new wr _
            have rg5 := hrows.out (.cells #[.int .u8 11, .int .i64 th, .int .i64 tx, .int .i64 pk, .int .i64 v, .int .i64 x, .int .u8 why] 27)
            have b5 := HAL.out (.cells #[.int .u8 11, .int .i64 th, .int .i64 tx, .int .i64 pk, .int .i64 v, .int .i64 x, .int .u8 why] 27)
            rw [← hW5] at y0 y1 rg5 b5 ⊢
            have ce := cell_of_row W5 _ 1 _ _ _ ge5
            simp only [List.getElem?_toArray, List.getElem?_cons_zero, List.getElem?_cons_succ] at ce
            have h5 : go < W5.heap.size := (Array.getElem?_eq_some_iff.1 rg5).1
            have RG5 := Lib.hid rg5
            have B5 := Lib.hid b5
            clear hW5 ge5 rg5 b5
            go_quiet (fail)
            go_wp2_with fail
            refine ⟨?_, ?measure⟩
            · exact ⟨i + 1, by omega, by go_num, by rw [HNX.out]; exact row_zero (w := W5.drewN _) RG5.out (fun i => by simp [stepS, updF]), (B5.out.trans ((drewN_belowW W5 _).mono (Nat.le_of_lt h5))).setCell (p := ⟨go, pk, none⟩) (Nat.le_refl _) _⟩
            case measure => simp [intOf]; omega
          · clear h24 h911 h3 h8 h38
            go_wp2_with fail
            refine ⟨?_, ?measure⟩
            · exact ⟨i + 1, by omega, by go_num, by rw [HNX.out]; exact row_next (hrows.out _) (by simp [stepS]), HAL.out _⟩
            case measure => simp [intOf]; omega
          · clear h24 h911 h3 h8 h38
            go_wp2_with fail
            refine ⟨?_, ?measure⟩
            · exact ⟨i + 1, by omega, by go_num, by rw [HNX.out]; exact row_next (hrows.out _) (by simp [stepS]), HAL.out _⟩
            case measure => simp [intOf]; omega
        · obtain rfl : i = n := by omega
          go_wp2_with fail
          go_ret
          exact ⟨rfl, BW.out⟩
end Go.Proofs.YtnkkakcnlcmikaaDoor
