/-
  ShapeVersions, but for its card: Bumps rise; versions. Laid by gen/gen_oj.py. Conditions: CheckC.
-/
import Derived.Test.YtnkkakcnlcmikaaDoorOi
import Derived.Test.YtnkkakcnlcmikaaDoorYh
import Derived.StillTailTactics
namespace Go.Proofs.YtnkkakcnlcmikaaDoor
set_option maxRecDepth 100000
open Go.RowKit
set_option linter.unusedVariables false
/-- A row of numbers. -/
def rowN (n : Nat) (f : Int → Int) : Array Value := ((List.range n).map fun (s : Nat) => Value.int .i64 (f s)).toArray
theorem rowN_size (n : Nat) (f : Int → Int) : (rowN n f).size = n := by simp [rowN]
theorem rowN_at (n : Nat) (f : Int → Int) (s : Nat) (h : s < n) : (rowN n f)[s]? = some (.int .i64 (f s)) := by
  unfold rowN
  rw [List.getElem?_toArray, List.getElem?_map, List.getElem?_range h]
  rfl
theorem rowN_congr {n : Nat} {f f' : Int → Int} (h : ∀ s : Nat, s < n → f' s = f s) : rowN n f' = rowN n f := by
  apply Array.ext_getElem?
  intro i
  by_cases hi : i < n
  · rw [rowN_at n f' i hi, rowN_at n f i hi, h i hi]
  · rw [Array.getElem?_eq_none (by rw [rowN_size]; omega), Array.getElem?_eq_none (by rw [rowN_size]; omega)]
theorem rowN_set (n : Nat) (f f' : Int → Int) (s : Nat) (m : Int) (h : ∀ i : Nat, i < n → f' i = if i = s then m else f i) : (rowN n f).setIfInBounds s (.int .i64 m) = rowN n f' := by
  apply Array.ext_getElem?
  intro i
  by_cases hi : i < n
  · rw [rowN_at n f' i hi, h i hi]
    by_cases his : i = s
    · subst his
      rw [if_pos rfl]
      exact Array.getElem?_setIfInBounds_self_of_lt (by rw [rowN_size]; omega)
    · rw [if_neg (by omega), Array.getElem?_setIfInBounds_ne (by omega), rowN_at n f i hi]
  · rw [Array.getElem?_eq_none (by simp [rowN_size]; omega), Array.getElem?_eq_none (by rw [rowN_size]; omega)]
theorem rowN_next {w : World} {g n : Nat} {t : TypeId} {f f' : Int → Int} (h : w.heap[g]? = some (.cells (rowN n f) t (0, 0))) (hq : ∀ s : Nat, s < n → f' s = f s) : w.heap[g]? = some (.cells (rowN n f') t (0, 0)) := by rw [rowN_congr hq]; exact h
theorem rowN_put {w : World} {g k n : Nat} {t : TypeId} {f f' : Int → Int} {m : Int} (h : w.heap[g]? = some (.cells (rowN n f) t (0, 0))) (hq : ∀ i : Nat, i < n → f' i = if i = k then m else f i) : (w.setCell ⟨g, k, none⟩ (.int .i64 m)).heap[g]? = some (.cells (rowN n f') t (0, 0)) := by rw [← rowN_set n f f' k m hq]; exact heap_setCell_same w g k _ t _ h
theorem keep_set {w : World} {g b k : Nat} {v : Value} {o : Obj} (h : w.heap[g]? = some o) (hne : g ≠ b) : (w.setCell ⟨b, k, none⟩ v).heap[g]? = some o := by rw [heap_setCell_other w ⟨b, k, none⟩ g v hne]; exact h
theorem rowN6_init : rowN 6 (fun _ => 0) = #[.int .i64 0, .int .i64 0, .int .i64 0, .int .i64 0, .int .i64 0, .int .i64 0] := by kernel_rfl
theorem rowN32_init : rowN 32 (fun _ => 0) = #[.int .i64 0, .int .i64 0, .int .i64 0, .int .i64 0, .int .i64 0, .int .i64 0, .int .i64 0, .int .i64 0, .int .i64 0, .int .i64 0, .int .i64 0, .int .i64 0, .int .i64 0, .int .i64 0, .int .i64 0, .int .i64 0, .int .i64 0, .int .i64 0, .int .i64 0, .int .i64 0, .int .i64 0, .int .i64 0, .int .i64 0, .int .i64 0, .int .i64 0, .int .i64 0, .int .i64 0, .int .i64 0, .int .i64 0, .int .i64 0, .int .i64 0, .int .i64 0] := by kernel_rfl
/-- What holds of an event's versions. -/
theorem ver_event {T V S : Int} {q : Sh} {e : Ev} (hI : Inv S T q) (hm : mayS T V S q e = true) :
    (0 ≤ e.th ∧ e.th < T ∧ T ≤ 6) ∧ (e.kd = 1 → q.clk ≤ e.v) ∧ (e.kd = 5 → q.clk < e.v) ∧ (e.kd = 7 → e.v ≠ 0 → e.v = q.bmp e.th) ∧ (e.kd = 2 → e.v ≤ (q.att e.th).rv ∧ q.ver e.pl ≤ e.v ∧ 0 ≤ e.pl ∧ e.pl < S) ∧ (e.kd = 9 → q.ver e.pl < q.bmp e.th ∧ 0 ≤ e.pl ∧ e.pl < S) := by
  obtain ⟨hb, hq⟩ := may13 hm
  obtain ⟨hsz, hth, hk⟩ := (may_iff _ _ _ _).1 hb
  simp only [sizesB, Bool.and_eq_true, decide_eq_true_eq] at hsz
  have hA := hI.t e.th hth.1
  unfold MayK at hk
  refine ⟨⟨hth.1, by omega, by omega⟩, fun h => ?_, fun h => ?_, fun h hv => ?_, fun h => ?_, fun h => ?_⟩
  · simp [mayQ, h] at hq
    exact hq.2.2.2
  · simp [mayQ, h] at hq
    exact hq.2.2
  · simp [mayQ, h, hv, checksA] at hq
    have := (hA.bmw (by omega)).1
    omega
  · simp [mayQ, h] at hq
    exact ⟨hq.2.2.2.2, hq.2.2.2.1, by omega, by omega⟩
  · simp [mayQ, h] at hq
    have hn := hA.let' hth.1 hq.2.2
    have hbm := hA.bmw (.inr (.inr ⟨by omega, hn.2.2.2⟩))
    have := hbm.2.2.2 _ _ (Nat.le_refl _) hq.2.2
    exact ⟨by omega, by omega, by omega⟩
theorem att_rv (S : Int) (a : Att) (e : Ev) (h : e.kd ≠ 1) : (attF S a e).rv = a.rv := by
  unfold attF
  rw [if_neg h]
  repeat' split
  all_goals rfl
theorem rv_next (S : Int) (q : Sh) (e : Ev) (h : e.kd ≠ 1) (s : Int) : ((stepS S q e).att s).rv = (q.att s).rv := by
  simp only [stepS, updF]
  split
  · rename_i hs
    subst hs
    exact att_rv S _ e h
  · rfl
theorem updF_cast (f : Int → Int) (k s : Nat) (v : Int) : updF f k v s = if s = k then v else f s := by
  unfold updF
  by_cases h : s = k
  · rw [if_pos h, if_pos (by omega)]
  · rw [if_neg h, if_neg (by omega)]
theorem alloc3 (w : World) (a b c : Obj) : (((w.alloc a).alloc b).alloc c).heap[w.heap.size]? = some a ∧ (((w.alloc a).alloc b).alloc c).heap[w.heap.size + 1]? = some b ∧ (((w.alloc a).alloc b).alloc c).heap[w.heap.size + 1 + 1]? = some c ∧ Below w.heap.size w (((w.alloc a).alloc b).alloc c) := by
  have h1 : (w.alloc a).heap[w.heap.size]? = some a := heap_alloc_new w a
  have h2 : ((w.alloc a).alloc b).heap[w.heap.size + 1]? = some b := by have := heap_alloc_new (w.alloc a) b; rwa [World.size_alloc] at this
  have h3 : (((w.alloc a).alloc b).alloc c).heap[w.heap.size + 1 + 1]? = some c := by have := heap_alloc_new ((w.alloc a).alloc b) c; rwa [World.size_alloc, World.size_alloc] at this
  have b1 : Below w.heap.size w (w.alloc a) := (Below.refl _ _).alloc (Nat.le_refl _) _
  have b2 := b1.alloc b1.size b
  have b3 := b2.alloc b2.size c
  have s2 : Below (w.alloc a).heap.size (w.alloc a) ((w.alloc a).alloc b) := (Below.refl _ _).alloc (Nat.le_refl _) _
  have s3 : Below ((w.alloc a).alloc b).heap.size ((w.alloc a).alloc b) (((w.alloc a).alloc b).alloc c) := (Below.refl _ _).alloc (Nat.le_refl _) _
  exact ⟨row_stays (row_stays h1 s2) s3, row_stays h2 s3, h3, b3⟩
set_option maxHeartbeats 8000000 in
theorem versions_walk {Tb : World → Prop} (HC : CheckC Tb) (w : World) (ht : Tb w) (T V S : Int) (A : Option Addr) (L : List Ev) (c : Nat) (hT : i64P T) (hV : i64P V) (hS : i64P S) (hl : L.length ≤ 9223372036854775807) (he : EvsAt w w.heap.size A L) :
    Calls Tryd.prog 7 #[trV T V S A L.length c] w (Yes w) := by
  have HW : Hid (∀ w1, Below w.heap.size w w1 → Calls Tryd.prog 10 #[] w1 fun r w' => r = .returned (.bool true) ∧ Below w1.heap.size w1 w') := fun w1 hb => works_any HC w1 (HC.below w w1 ht hb)
  have HF : Hid (L.length ≤ 2000 → ∀ w1, Below w.heap.size w w1 → Calls Tryd.prog 20 #[trV T V S A L.length c] w1 fun r w' => r = .returned (.bool (fineB T V S L)) ∧ Below w1.heap.size w1 w') := fun h w1 hb => fine_any HC w1 (HC.below w w1 ht hb) T V S A L c hT hV hS h ((he.below hb (Nat.le_refl _)).mono hb.size)
  obtain ⟨n, hn⟩ : ∃ n, n = L.length := ⟨_, rfl⟩
  have HE := Lib.hid he
  rw [← hn] at HF hl ⊢
  unfold trV at HF ⊢
  have HN := Lib.hid hn
  clear ht hT hV hS he HC hn
  by_cases h2 : 2000 < n
  · have i1 : (2000 : Int) < (n : Int) := by omega
    clear h2 hl HF
    go_enter Tryd.func7, Tryd.ntmps7
    go_wp2_with fail
    have h0 : Below w.heap.size w (w.alloc (.cells #[.int .i64 T, .int .i64 V, .int .i64 S, .slice A n c] 35)) := (Below.refl _ _).alloc (Nat.le_refl _) _
    refine (HW.out _ h0).mono ?_
    rintro _ w1 ⟨rfl, b1⟩
    have x3 : w1.cell? ⟨w.heap.size, 3, none⟩ = some (.slice A n c) := (b1.cell (by simp)).trans (World.cell?_alloc_mark w #[.int .i64 T, .int .i64 V, .int .i64 S, .slice A n c] 35 (0, 0) 3)
    have B1 : Hid (Below w.heap.size w w1) := h0.trans (b1.mono h0.size)
    clear b1 h0
    go_wp2_with fail
    refine (HW.out _ B1.out).mono ?_
    rintro _ w2 ⟨rfl, b2⟩
    have B2 : Hid (Below w.heap.size w w2) := B1.out.trans (b2.mono B1.out.size)
    clear b2 x3
    go_wp2_with fail
    go_ret
    exact ⟨rfl, B2.out⟩
  · have i1 : (n : Int) ≤ 2000 := by omega
    have HF2 := Lib.hid (HF.out (by omega))
    clear HF
    obtain ⟨b, hb⟩ : ∃ b, b = fineB T V S L := ⟨_, rfl⟩
    rw [← hb] at HF2
    have HB := Lib.hid hb
    clear hb
    go_enter Tryd.func7, Tryd.ntmps7
    go_wp2_with fail
    have h0 : Below w.heap.size w (w.alloc (.cells #[.int .i64 T, .int .i64 V, .int .i64 S, .slice A n c] 35)) := (Below.refl _ _).alloc (Nat.le_refl _) _
    refine (HW.out _ h0).mono ?_
    rintro _ w1 ⟨rfl, b1⟩
    have r1 : w1.heap[w.heap.size]? = some (.cells #[.int .i64 T, .int .i64 V, .int .i64 S, .slice A n c] 35 (0, 0)) := (b1.block _ (by simp)).trans (heap_alloc_new w _)
    have x0 := cell_of_row w1 _ 0 _ _ _ r1
    have x1 := cell_of_row w1 _ 1 _ _ _ r1
    have x2 := cell_of_row w1 _ 2 _ _ _ r1
    have x3 := cell_of_row w1 _ 3 _ _ _ r1
    simp only [List.getElem?_toArray, List.getElem?_cons_zero, List.getElem?_cons_succ] at x0 x1 x2 x3
    have B1 : Hid (Below w.heap.size w w1) := h0.trans (b1.mono h0.size)
    have R1 := Lib.hid r1
    clear b1 h0 r1
    go_wp2_with fail
    refine (HF2.out _ B1.out).mono ?_
    rintro _ w2 ⟨rfl, b2⟩
    have B2 : Hid (Below w.heap.size w w2) := B1.out.trans (b2.mono B1.out.size)
    have R2 : Hid (w2.heap[w.heap.size]? = some (.cells #[.int .i64 T, .int .i64 V, .int .i64 S, .slice A n c] 35 (0, 0))) := row_stays R1.out b2
    clear b2 x0 x1 x2 x3 R1 HF2
    by_cases hbt : b = false
    · subst hbt
      go_wp2_with fail
      go_ret
      exact ⟨rfl, B2.out⟩
    · obtain rfl : b = true := by simpa using hbt
      obtain ⟨hsz, _, hfine⟩ := fine_iff.1 (of_decide_eq_true HB.out.symm : checkF T V S L = (L.length, 0))
      have HFI := Lib.hid hfine
      have HSZ := Lib.hid hsz
      simp only [size13, Bool.and_eq_true, decide_eq_true_eq] at hsz
      obtain ⟨sn, rfl⟩ : ∃ sn : Nat, S = sn := ⟨S.toNat, by omega⟩
      have hs1 : 1 ≤ sn := by omega
      have hs32 : sn ≤ 32 := by omega
      clear hbt hfine HB hsz
      clear HSZ
      go_wp2_with fail
      obtain ⟨W3, hW3⟩ : ∃ W3, W3 = ((w2.alloc (.cells (rowN 6 fun _ => 0) 50)).alloc (.cells (rowN 6 fun _ => 0) 50)).alloc (.cells (rowN 32 fun _ => 0) 49) := ⟨_, rfl⟩
      obtain ⟨ga, hga⟩ : ∃ g, g = w2.heap.size := ⟨_, rfl⟩
      obtain ⟨gb, hgb⟩ : ∃ g, g = ga + 1 := ⟨_, rfl⟩
      obtain ⟨gc, hgc⟩ : ∃ g, g = gb + 1 := ⟨_, rfl⟩
      obtain ⟨ra, rb, rc, b3⟩ := alloc3 w2 (.cells (rowN 6 fun _ => 0) 50) (.cells (rowN 6 fun _ => 0) 50) (.cells (rowN 32 fun _ => 0) 49)
      rw [← hW3, ← hga] at b3
      rw [← hW3, ← hga] at ra
      rw [← hW3, ← hga, ← hgb] at rb
      rw [← hW3, ← hga, ← hgb, ← hgc] at rc
      have hlt1 : w.heap.size < ga := by rw [hga]; exact (Array.getElem?_eq_some_iff.1 R2.out).1
      have hab : ga ≠ gb := by omega
      have hac : ga ≠ gc := by omega
      have hbc : gb ≠ gc := by omega
      have hga1 : ga ≤ gb := by omega
      have hga2 : ga ≤ gc := by omega
      have R3 : Hid (W3.heap[w.heap.size]? = some (.cells #[.int .i64 T, .int .i64 V, .int .i64 sn, .slice A n c] 35 (0, 0))) := row_staysN R2.out b3 hlt1
      have B3 : Hid (Below w.heap.size w W3) := B2.out.trans (b3.mono (by omega))
      have RA := Lib.hid ra
      have RB := Lib.hid rb
      have RC := Lib.hid rc
      rw [rowN6_init, rowN32_init] at hW3
      rw [← hW3, ← hga, ← hgb, ← hgc]
      clear hW3 b3 B2 R2 ra rb rc hgc hgb hga HW
      go_loopw [3, 7] (fun tv iv wr => ∃ (i : Nat) (f : Int → Int), i ≤ n ∧ tv = .int .i64 (behind sn (L.take i)).clk ∧ iv = .int .i64 i ∧ Hid (wr.heap[ga]? = some (.cells (rowN 6 fun t => ((behind sn (L.take i)).att t).rv) 50 (0, 0))) ∧ Hid (wr.heap[gb]? = some (.cells (rowN 6 (behind sn (L.take i)).bmp) 50 (0, 0))) ∧ Hid (wr.heap[gc]? = some (.cells (rowN 32 f) 49 (0, 0))) ∧ Hid (∀ s, f s ≤ (behind sn (L.take i)).ver s) ∧ Hid (Below ga W3 wr)) (fun _ iv _ => n - (intOf iv).toNat)
      case atStart => exact ⟨0, fun _ => 0, by omega, rfl, rfl, RA, RB, RC, fun s => Int.le_refl _, Below.refl _ _⟩
      case round =>
        obtain ⟨i, f, hi, rfl, rfl, hra, hrb, hrc, hfv, hB⟩ := hrel
        have rt := row_staysN R3.out hB.out hlt1
        have x3 := cell_of_row wr _ 3 _ _ _ rt
        simp only [List.getElem?_toArray, List.getElem?_cons_zero, List.getElem?_cons_succ] at x3
        have BW : Hid (Below w.heap.size w wr) := B3.out.trans (hB.out.mono (by omega))
        by_cases hlt : i < n
        · obtain ⟨a, rfl, ha, hev⟩ := HE.out i (by rw [← HN.out]; exact hlt)
          have hev := hev.below BW.out (by rw [add_blockO]; exact ha)
          have hm := HFI.out i _ (nthE_of (by rw [← HN.out]; exact hlt))
          have hI := fine_inv HFI.out i (by rw [← HN.out]; exact hi)
          have hnx := behind_next (S := sn) (nthE_of (L := L) (i := i) (by rw [← HN.out]; exact hlt))
          obtain ⟨q, hq⟩ : ∃ q, q = behind sn (L.take i) := ⟨_, rfl⟩
          rw [← hq] at hm hI hnx hra hrb hfv ⊢
          obtain ⟨⟨h0, hT1, hT6⟩, v1, v5, v7, v2, v9⟩ := ver_event hI hm
          have hk13 := (may_iff _ _ _ _).1 (may13 hm).1
          have hk13 : 1 ≤ (nthE L i).kd ∧ (nthE L i).kd ≤ 13 := by
            have hk := hk13.2.2
            unfold MayK at hk
            omega
          have hok := hev.ok
          have HNX := Lib.hid hnx
          obtain ⟨c0, c1, c2, c3, c4, c5, c6, _⟩ := hev
          generalize nthE L i = e at *
          obtain ⟨kd, th, tx, pl, v, x, why⟩ := e
          simp only at c0 c1 c2 c3 c4 c5 c6 h0 hT1 v1 v5 v7 v2 v9 hk13
          have hii : (i : Int) < (n : Int) := by omega
          obtain ⟨tk, rfl⟩ : ∃ tk : Nat, th = tk := ⟨th.toNat, by omega⟩
          have htk : tk < 6 := by omega
          have htk6 : (tk : Int) < 6 := by omega
          have hga3 : ga < wr.heap.size := (Array.getElem?_eq_some_iff.1 hra.out).1
          have hgb3 : gb < wr.heap.size := (Array.getElem?_eq_some_iff.1 hrb.out).1
          have hgc3 : gc < wr.heap.size := (Array.getElem?_eq_some_iff.1 hrc.out).1
          have HRA : Hid (∀ o : Obj, (wr.alloc o).heap[ga]? = some (.cells (rowN 6 fun t => (q.att t).rv) 50 (0, 0))) := fun o => row_stays hra.out ((Below.refl _ wr).alloc (Nat.le_refl _) o)
          have HRB : Hid (∀ o : Obj, (wr.alloc o).heap[gb]? = some (.cells (rowN 6 q.bmp) 50 (0, 0))) := fun o => row_stays hrb.out ((Below.refl _ wr).alloc (Nat.le_refl _) o)
          have HRC : Hid (∀ o : Obj, (wr.alloc o).heap[gc]? = some (.cells (rowN 32 f) 49 (0, 0))) := fun o => row_stays hrc.out ((Below.refl _ wr).alloc (Nat.le_refl _) o)
          have HAL : Hid (∀ o : Obj, Below ga W3 (wr.alloc o)) := fun o => hB.out.alloc (by omega) o
          obtain ⟨ck, hck⟩ : ∃ z, z = q.clk := ⟨_, rfl⟩
          have HCK := Lib.hid hck
          rw [← hck] at v1 v5 ⊢
          clear hq hI hm rt hnx ha hlt hok hT1 hT6 hck h0
          have : kd = 1 ∨ kd = 2 ∨ kd = 3 ∨ kd = 4 ∨ kd = 5 ∨ kd = 6 ∨ kd = 7 ∨ kd = 8 ∨ kd = 9 ∨ kd = 10 ∨ kd = 11 ∨ kd = 12 ∨ kd = 13 := by omega
          rcases this with rfl | rfl | rfl | rfl | rfl | rfl | rfl | rfl | rfl | rfl | rfl | rfl | rfl
          · have v1' := v1 rfl
            have y0 : (wr.alloc (.cells #[.int .u8 1, .int .i64 tk, .int .i64 tx, .int .i64 pl, .int .i64 v, .int .i64 x, .int .u8 why] 27)).cell? ⟨ga, tk, none⟩ = some (.int .i64 (q.att tk).rv) := by rw [cell_of_row _ ga tk _ _ _ (HRA.out _), rowN_at _ _ tk htk]
            have y1 := frozen_of_row (wr.alloc (.cells #[.int .u8 1, .int .i64 tk, .int .i64 tx, .int .i64 pl, .int .i64 v, .int .i64 x, .int .u8 why] 27)) ga tk _ _ (HRA.out _)
            have z0 : wr.cell? ⟨ga, tk, none⟩ = some (.int .i64 (q.att tk).rv) := by rw [cell_of_row _ ga tk _ _ _ hra.out, rowN_at _ _ tk htk]
            have z1 := frozen_of_row wr ga tk _ _ hra.out
            clear v1 v5 v7 v2 v9
            go_wp2_with fail
            refine ⟨?_, ?measure⟩
            · refine ⟨i + 1, f, by omega, ?_, by go_num, ?_, ?_, ?_, ?_, ?_⟩
              · rw [HNX.out]; simp [stepS]
              · rw [HNX.out]; exact row_stays (rowN_put hra.out (fun s _ => by simp only [stepS, updF]; split <;> rename_i hs; (rw [if_pos (by omega)]; simp [attF]); (rw [if_neg (by omega)]))) ((Below.refl _ _).alloc (Nat.le_refl _) _)
              · rw [HNX.out]; exact rowN_next (row_stays (keep_set hrb.out hab.symm) ((Below.refl _ _).alloc (Nat.le_refl _) _)) (fun s _ => by simp [stepS])
              · exact row_stays (keep_set hrc.out hac.symm) ((Below.refl _ _).alloc (Nat.le_refl _) _)
              · rw [HNX.out]; exact fun s => Int.le_trans (hfv.out s) (by simp [stepS])
              · exact (hB.out.setCell (p := ⟨ga, tk, none⟩) (Nat.le_refl _) _).alloc (by simp; omega) _
            case measure => simp [intOf]; omega
          · obtain ⟨hv1, hv2, hp0, hpS⟩ := v2 rfl
            obtain ⟨pk, rfl⟩ : ∃ pk : Nat, pl = pk := ⟨pl.toNat, by omega⟩
            have hpk : pk < 32 := by omega
            have hpk32 : (pk : Int) < 32 := by omega
            have hfp := hfv.out pk
            clear v1 v5 v7 v2 v9
            go_wp2_with fail
            obtain ⟨W5, hW5⟩ : ∃ W5, W5 = wr.alloc (.cells #[.int .u8 2, .int .i64 tk, .int .i64 tx, .int .i64 pk, .int .i64 v, .int .i64 x, .int .u8 why] 27) := ⟨_, rfl⟩
            have ge5 : W5.heap[wr.heap.size]? = some (.cells #[.int .u8 2, .int .i64 tk, .int .i64 tx, .int .i64 pk, .int .i64 v, .int .i64 x, .int .u8 why] 27) := by rw [hW5]; exact heap_alloc_new wr _
            have ra5 := HRA.out (.cells #[.int .u8 2, .int .i64 tk, .int .i64 tx, .int .i64 pk, .int .i64 v, .int .i64 x, .int .u8 why] 27)
            have rb5 := HRB.out (.cells #[.int .u8 2, .int .i64 tk, .int .i64 tx, .int .i64 pk, .int .i64 v, .int .i64 x, .int .u8 why] 27)
            have rc5 := HRC.out (.cells #[.int .u8 2, .int .i64 tk, .int .i64 tx, .int .i64 pk, .int .i64 v, .int .i64 x, .int .u8 why] 27)
            have b5 := HAL.out (.cells #[.int .u8 2, .int .i64 tk, .int .i64 tx, .int .i64 pk, .int .i64 v, .int .i64 x, .int .u8 why] 27)
            rw [← hW5] at ra5 rb5 rc5 b5 ⊢
            have ya : W5.cell? ⟨ga, tk, none⟩ = some (.int .i64 (q.att tk).rv) := by rw [cell_of_row W5 ga tk _ _ _ ra5, rowN_at _ _ tk htk]
            have yc : W5.cell? ⟨gc, pk, none⟩ = some (.int .i64 (f pk)) := by rw [cell_of_row W5 gc pk _ _ _ rc5, rowN_at _ _ pk hpk]
            obtain ⟨z1, hz1⟩ : ∃ z, z = (q.att tk).rv := ⟨_, rfl⟩
            obtain ⟨z2, hz2⟩ : ∃ z, z = f pk := ⟨_, rfl⟩
            rw [← hz1] at ya hv1
            rw [← hz2] at yc hfp
            have i5 : z2 ≤ v := by omega
            have i6 : v ≤ z1 := hv1
            have HV2 := Lib.hid hv2
            obtain ⟨ce0, ce1, ce2, ce3, ce4, ce5, ce6⟩ := evat ge5
            have h5 : ga < W5.heap.size := (Array.getElem?_eq_some_iff.1 ra5).1
            have RA5 := Lib.hid ra5
            have RB5 := Lib.hid rb5
            have RC5 := Lib.hid rc5
            have B5 := Lib.hid b5
            clear hW5 ra5 rb5 rc5 b5 ge5 hz1 hz2 hv1 hv2 hfp
            go_quiet (fail)
            go_wp2_with fail
            refine ⟨?_, ?measure⟩
            · refine ⟨i + 1, f, by omega, ?_, by go_num, ?_, ?_, ?_, ?_, ?_⟩
              · rw [HNX.out]; simp [stepS, HCK.out]
              · rw [HNX.out]; exact rowN_next (w := W5.drewN _) RA5.out (fun s _ => rv_next sn q _ (by simp) s)
              · rw [HNX.out]; exact rowN_next (w := W5.drewN _) RB5.out (fun s _ => by simp [stepS])
              · exact RC5.out
              · rw [HNX.out]; exact fun s => Int.le_trans (hfv.out s) (by simp [stepS]; simp only [updF]; split <;> rename_i hs; (rw [hs]; exact HV2.out); exact Int.le_refl _)
              · exact B5.out.trans ((drewN_belowW W5 _).mono (Nat.le_of_lt h5))
            case measure => simp [intOf]; omega
          · clear v1 v5 v7 v2 v9
            go_wp2_with fail
            refine ⟨?_, ?measure⟩
            · refine ⟨i + 1, f, by omega, ?_, by go_num, ?_, ?_, ?_, ?_, ?_⟩
              · rw [HNX.out]; simp [stepS, HCK.out]
              · rw [HNX.out]; exact rowN_next (HRA.out _) (fun s _ => rv_next sn q _ (by simp) s)
              · rw [HNX.out]; exact rowN_next (HRB.out _) (fun s _ => by simp [stepS])
              · exact HRC.out _
              · rw [HNX.out]; exact fun s => Int.le_trans (hfv.out s) (by simp [stepS])
              · exact HAL.out _
            case measure => simp [intOf]; omega
          · clear v1 v5 v7 v2 v9
            go_wp2_with fail
            refine ⟨?_, ?measure⟩
            · refine ⟨i + 1, f, by omega, ?_, by go_num, ?_, ?_, ?_, ?_, ?_⟩
              · rw [HNX.out]; simp [stepS, HCK.out]
              · rw [HNX.out]; exact rowN_next (HRA.out _) (fun s _ => rv_next sn q _ (by simp) s)
              · rw [HNX.out]; exact rowN_next (HRB.out _) (fun s _ => by simp [stepS])
              · exact HRC.out _
              · rw [HNX.out]; exact fun s => Int.le_trans (hfv.out s) (by simp [stepS])
              · exact HAL.out _
            case measure => simp [intOf]; omega
          · have v5' := v5 rfl
            have y0 : (wr.alloc (.cells #[.int .u8 5, .int .i64 tk, .int .i64 tx, .int .i64 pl, .int .i64 v, .int .i64 x, .int .u8 why] 27)).cell? ⟨gb, tk, none⟩ = some (.int .i64 (q.bmp tk)) := by rw [cell_of_row _ gb tk _ _ _ (HRB.out _), rowN_at _ _ tk htk]
            have y1 := frozen_of_row (wr.alloc (.cells #[.int .u8 5, .int .i64 tk, .int .i64 tx, .int .i64 pl, .int .i64 v, .int .i64 x, .int .u8 why] 27)) gb tk _ _ (HRB.out _)
            have z0 : wr.cell? ⟨gb, tk, none⟩ = some (.int .i64 (q.bmp tk)) := by rw [cell_of_row _ gb tk _ _ _ hrb.out, rowN_at _ _ tk htk]
            have z1 := frozen_of_row wr gb tk _ _ hrb.out
            clear v1 v5 v7 v2 v9
            go_wp2_with fail
            refine ⟨?_, ?measure⟩
            · refine ⟨i + 1, f, by omega, ?_, by go_num, ?_, ?_, ?_, ?_, ?_⟩
              · rw [HNX.out]; simp [stepS]
              · rw [HNX.out]; exact rowN_next (row_stays (keep_set hra.out hab) ((Below.refl _ _).alloc (Nat.le_refl _) _)) (fun s _ => rv_next sn q _ (by simp) s)
              · rw [HNX.out]; exact row_stays (rowN_put hrb.out (fun s _ => by simpa [stepS] using updF_cast q.bmp tk s v)) ((Below.refl _ _).alloc (Nat.le_refl _) _)
              · exact row_stays (keep_set hrc.out hbc.symm) ((Below.refl _ _).alloc (Nat.le_refl _) _)
              · rw [HNX.out]; exact fun s => Int.le_trans (hfv.out s) (by simp [stepS])
              · exact (hB.out.setCell (p := ⟨gb, tk, none⟩) hga1 _).alloc (by simp; omega) _
            case measure => simp [intOf]; omega
          · clear v1 v5 v7 v2 v9
            go_wp2_with fail
            refine ⟨?_, ?measure⟩
            · refine ⟨i + 1, f, by omega, ?_, by go_num, ?_, ?_, ?_, ?_, ?_⟩
              · rw [HNX.out]; simp [stepS, HCK.out]
              · rw [HNX.out]; exact rowN_next (HRA.out _) (fun s _ => rv_next sn q _ (by simp) s)
              · rw [HNX.out]; exact rowN_next (HRB.out _) (fun s _ => by simp [stepS])
              · exact HRC.out _
              · rw [HNX.out]; exact fun s => Int.le_trans (hfv.out s) (by simp [stepS])
              · exact HAL.out _
            case measure => simp [intOf]; omega
          · by_cases hv0 : v = 0
            · subst hv0
              clear v1 v5 v7 v2 v9
              go_wp2_with fail
              obtain ⟨W5, hW5⟩ : ∃ W5, W5 = wr.alloc (.cells #[.int .u8 7, .int .i64 tk, .int .i64 tx, .int .i64 pl, .int .i64 0, .int .i64 x, .int .u8 why] 27) := ⟨_, rfl⟩
              have ge5 : W5.heap[wr.heap.size]? = some (.cells #[.int .u8 7, .int .i64 tk, .int .i64 tx, .int .i64 pl, .int .i64 0, .int .i64 x, .int .u8 why] 27) := by rw [hW5]; exact heap_alloc_new wr _
              have ra5 := HRA.out (.cells #[.int .u8 7, .int .i64 tk, .int .i64 tx, .int .i64 pl, .int .i64 0, .int .i64 x, .int .u8 why] 27)
              have rb5 := HRB.out (.cells #[.int .u8 7, .int .i64 tk, .int .i64 tx, .int .i64 pl, .int .i64 0, .int .i64 x, .int .u8 why] 27)
              have rc5 := HRC.out (.cells #[.int .u8 7, .int .i64 tk, .int .i64 tx, .int .i64 pl, .int .i64 0, .int .i64 x, .int .u8 why] 27)
              have b5 := HAL.out (.cells #[.int .u8 7, .int .i64 tk, .int .i64 tx, .int .i64 pl, .int .i64 0, .int .i64 x, .int .u8 why] 27)
              rw [← hW5] at ra5 rb5 rc5 b5 ⊢
              have yb := cell_of_row W5 gb tk _ _ _ rb5
              obtain ⟨ce0, ce1, ce2, ce3, ce4, ce5, ce6⟩ := evat ge5
              have h5 : ga < W5.heap.size := (Array.getElem?_eq_some_iff.1 ra5).1
              have RA5 := Lib.hid ra5
              have RB5 := Lib.hid rb5
              have RC5 := Lib.hid rc5
              have B5 := Lib.hid b5
              clear hW5 ra5 rb5 rc5 b5 ge5
              go_quiet (fail)
              go_wp2_with fail
              refine ⟨?_, ?measure⟩
              · refine ⟨i + 1, f, by omega, ?_, by go_num, ?_, ?_, ?_, ?_, ?_⟩
                · rw [HNX.out]; simp [stepS, HCK.out]
                · rw [HNX.out]; exact rowN_next (w := W5.drewN _) RA5.out (fun s _ => rv_next sn q _ (by simp) s)
                · rw [HNX.out]; exact rowN_next (w := W5.drewN _) RB5.out (fun s _ => by simp [stepS])
                · exact RC5.out
                · rw [HNX.out]; exact fun s => Int.le_trans (hfv.out s) (by simp [stepS])
                · exact B5.out.trans ((drewN_belowW W5 _).mono (Nat.le_of_lt h5))
              case measure => simp [intOf]; omega
            · have hve := v7 rfl hv0
              have hvb : (v == 0) = false := beq_eq_false_iff_ne.2 hv0
              have HVE := Lib.hid hve
              clear hve
              clear v1 v5 v7 v2 v9
              go_wp2_with fail
              obtain ⟨W5, hW5⟩ : ∃ W5, W5 = wr.alloc (.cells #[.int .u8 7, .int .i64 tk, .int .i64 tx, .int .i64 pl, .int .i64 v, .int .i64 x, .int .u8 why] 27) := ⟨_, rfl⟩
              have ge5 : W5.heap[wr.heap.size]? = some (.cells #[.int .u8 7, .int .i64 tk, .int .i64 tx, .int .i64 pl, .int .i64 v, .int .i64 x, .int .u8 why] 27) := by rw [hW5]; exact heap_alloc_new wr _
              have ra5 := HRA.out (.cells #[.int .u8 7, .int .i64 tk, .int .i64 tx, .int .i64 pl, .int .i64 v, .int .i64 x, .int .u8 why] 27)
              have rb5 := HRB.out (.cells #[.int .u8 7, .int .i64 tk, .int .i64 tx, .int .i64 pl, .int .i64 v, .int .i64 x, .int .u8 why] 27)
              have rc5 := HRC.out (.cells #[.int .u8 7, .int .i64 tk, .int .i64 tx, .int .i64 pl, .int .i64 v, .int .i64 x, .int .u8 why] 27)
              have b5 := HAL.out (.cells #[.int .u8 7, .int .i64 tk, .int .i64 tx, .int .i64 pl, .int .i64 v, .int .i64 x, .int .u8 why] 27)
              rw [← hW5] at ra5 rb5 rc5 b5 ⊢
              have yb : W5.cell? ⟨gb, tk, none⟩ = some (.int .i64 v) := by rw [cell_of_row W5 gb tk _ _ _ rb5, rowN_at _ _ tk htk, ← HVE.out]
              obtain ⟨ce0, ce1, ce2, ce3, ce4, ce5, ce6⟩ := evat ge5
              have h5 : ga < W5.heap.size := (Array.getElem?_eq_some_iff.1 ra5).1
              have RA5 := Lib.hid ra5
              have RB5 := Lib.hid rb5
              have RC5 := Lib.hid rc5
              have B5 := Lib.hid b5
              clear hW5 ra5 rb5 rc5 b5 ge5
              go_quiet (fail)
              go_wp2_with fail
              refine ⟨?_, ?measure⟩
              · refine ⟨i + 1, f, by omega, ?_, by go_num, ?_, ?_, ?_, ?_, ?_⟩
                · rw [HNX.out]; simp [stepS, HCK.out]
                · rw [HNX.out]; exact rowN_next (w := W5.drewN _) RA5.out (fun s _ => rv_next sn q _ (by simp) s)
                · rw [HNX.out]; exact rowN_next (w := W5.drewN _) RB5.out (fun s _ => by simp [stepS])
                · exact RC5.out
                · rw [HNX.out]; exact fun s => Int.le_trans (hfv.out s) (by simp [stepS])
                · exact B5.out.trans ((drewN_belowW W5 _).mono (Nat.le_of_lt h5))
              case measure => simp [intOf]; omega
          · clear v1 v5 v7 v2 v9
            go_wp2_with fail
            refine ⟨?_, ?measure⟩
            · refine ⟨i + 1, f, by omega, ?_, by go_num, ?_, ?_, ?_, ?_, ?_⟩
              · rw [HNX.out]; simp [stepS, HCK.out]
              · rw [HNX.out]; exact rowN_next (HRA.out _) (fun s _ => rv_next sn q _ (by simp) s)
              · rw [HNX.out]; exact rowN_next (HRB.out _) (fun s _ => by simp [stepS])
              · exact HRC.out _
              · rw [HNX.out]; exact fun s => Int.le_trans (hfv.out s) (by simp [stepS])
              · exact HAL.out _
            case measure => simp [intOf]; omega
          · obtain ⟨hv1, hp0, hpS⟩ := v9 rfl
            obtain ⟨pk, rfl⟩ : ∃ pk : Nat, pl = pk := ⟨pl.toNat, by omega⟩
            have hpk : pk < 32 := by omega
            have hpk32 : (pk : Int) < 32 := by omega
            have hfp := hfv.out pk
            clear v1 v5 v7 v2 v9
            go_wp2_with fail
            obtain ⟨W5, hW5⟩ : ∃ W5, W5 = wr.alloc (.cells #[.int .u8 9, .int .i64 tk, .int .i64 tx, .int .i64 pk, .int .i64 v, .int .i64 x, .int .u8 why] 27) := ⟨_, rfl⟩
            have ge5 : W5.heap[wr.heap.size]? = some (.cells #[.int .u8 9, .int .i64 tk, .int .i64 tx, .int .i64 pk, .int .i64 v, .int .i64 x, .int .u8 why] 27) := by rw [hW5]; exact heap_alloc_new wr _
            have ra5 := HRA.out (.cells #[.int .u8 9, .int .i64 tk, .int .i64 tx, .int .i64 pk, .int .i64 v, .int .i64 x, .int .u8 why] 27)
            have rb5 := HRB.out (.cells #[.int .u8 9, .int .i64 tk, .int .i64 tx, .int .i64 pk, .int .i64 v, .int .i64 x, .int .u8 why] 27)
            have rc5 := HRC.out (.cells #[.int .u8 9, .int .i64 tk, .int .i64 tx, .int .i64 pk, .int .i64 v, .int .i64 x, .int .u8 why] 27)
            have b5 := HAL.out (.cells #[.int .u8 9, .int .i64 tk, .int .i64 tx, .int .i64 pk, .int .i64 v, .int .i64 x, .int .u8 why] 27)
            rw [← hW5] at ra5 rb5 rc5 b5 ⊢
            obtain ⟨z1, hz1⟩ : ∃ z, z = q.bmp tk := ⟨_, rfl⟩
            obtain ⟨z2, hz2⟩ : ∃ z, z = f pk := ⟨_, rfl⟩
            have yb : W5.cell? ⟨gb, tk, none⟩ = some (.int .i64 z1) := by rw [cell_of_row W5 gb tk _ _ _ rb5, rowN_at _ _ tk htk, hz1]
            have yc : W5.cell? ⟨gc, pk, none⟩ = some (.int .i64 z2) := by rw [cell_of_row W5 gc pk _ _ _ rc5, rowN_at _ _ pk hpk, hz2]
            have i5 : z2 < z1 := by omega
            have yf := frozen_of_row W5 gc pk _ _ rc5
            have HZ1 := Lib.hid hz1
            obtain ⟨ce0, ce1, ce2, ce3, ce4, ce5, ce6⟩ := evat ge5
            have h5 : ga < W5.heap.size := (Array.getElem?_eq_some_iff.1 ra5).1
            have RA5 := Lib.hid ra5
            have RB5 := Lib.hid rb5
            have RC5 := Lib.hid rc5
            have B5 := Lib.hid b5
            clear hW5 ra5 rb5 rc5 b5 ge5 hz1 hz2 hv1 hfp
            go_quiet (fail)
            go_wp2_with fail
            obtain ⟨W6, hW6⟩ : ∃ W6, W6 = W5.drewN nq := ⟨_, rfl⟩
            have d1 : W6.cell? ⟨wr.heap.size, 1, none⟩ = some (.int .i64 tk) := by rw [hW6]; exact ce1
            have d3 : W6.cell? ⟨wr.heap.size, 3, none⟩ = some (.int .i64 pk) := by rw [hW6]; exact ce3
            have db : W6.cell? ⟨gb, tk, none⟩ = some (.int .i64 z1) := by rw [hW6]; exact yb
            have dc : W6.cell? ⟨gc, pk, none⟩ = some (.int .i64 z2) := by rw [hW6]; exact yc
            have df : W6.frozen? ⟨gc, pk, none⟩ = false := by rw [hW6]; exact yf
            have RA6 : Hid (W6.heap[ga]? = some (.cells (rowN 6 fun t => (q.att t).rv) 50 (0, 0))) := by rw [hW6]; exact RA5.out
            have RB6 : Hid (W6.heap[gb]? = some (.cells (rowN 6 q.bmp) 50 (0, 0))) := by rw [hW6]; exact RB5.out
            have RC6 : Hid (W6.heap[gc]? = some (.cells (rowN 32 f) 49 (0, 0))) := by rw [hW6]; exact RC5.out
            have B6 : Hid (Below ga W3 W6) := by rw [hW6]; exact B5.out.trans ((drewN_belowW W5 _).mono (Nat.le_of_lt h5))
            rw [← hW6]
            clear hW6 ce0 ce1 ce2 ce3 ce4 ce5 ce6 yb yc yf h5 RA5 RB5 RC5 B5
            go_still_tail 6, (by kernel_rfl)
            change wpList _ _ _ _ _ W6.drew
            go_wp2_with fail
            refine ⟨?_, ?measure⟩
            · refine ⟨i + 1, updF f pk z1, by omega, ?_, by go_num, ?_, ?_, ?_, ?_, ?_⟩
              · rw [HNX.out]; simp [stepS, HCK.out]
              · rw [HNX.out]; exact rowN_next (keep_set (w := W6.drew) RA6.out hac) (fun s _ => rv_next sn q _ (by simp) s)
              · rw [HNX.out]; exact rowN_next (keep_set (w := W6.drew) RB6.out hbc) (fun s _ => by simp [stepS])
              · exact rowN_put (w := W6.drew) RC6.out (fun s _ => updF_cast f pk s z1)
              · rw [HNX.out]; exact fun s => by simp [stepS]; rw [← HZ1.out]; simp only [updF]; split; exact Int.le_refl _; exact hfv.out s
              · exact (B6.out.drew).setCell (p := ⟨gc, pk, none⟩) hga2 _
            case measure => simp [intOf]; omega
          · clear v1 v5 v7 v2 v9
            go_wp2_with fail
            refine ⟨?_, ?measure⟩
            · refine ⟨i + 1, f, by omega, ?_, by go_num, ?_, ?_, ?_, ?_, ?_⟩
              · rw [HNX.out]; simp [stepS, HCK.out]
              · rw [HNX.out]; exact rowN_next (HRA.out _) (fun s _ => rv_next sn q _ (by simp) s)
              · rw [HNX.out]; exact rowN_next (HRB.out _) (fun s _ => by simp [stepS])
              · exact HRC.out _
              · rw [HNX.out]; exact fun s => Int.le_trans (hfv.out s) (by simp [stepS])
              · exact HAL.out _
            case measure => simp [intOf]; omega
          · clear v1 v5 v7 v2 v9
            go_wp2_with fail
            refine ⟨?_, ?measure⟩
            · refine ⟨i + 1, f, by omega, ?_, by go_num, ?_, ?_, ?_, ?_, ?_⟩
              · rw [HNX.out]; simp [stepS, HCK.out]
              · rw [HNX.out]; exact rowN_next (HRA.out _) (fun s _ => rv_next sn q _ (by simp) s)
              · rw [HNX.out]; exact rowN_next (HRB.out _) (fun s _ => by simp [stepS])
              · exact HRC.out _
              · rw [HNX.out]; exact fun s => Int.le_trans (hfv.out s) (by simp [stepS])
              · exact HAL.out _
            case measure => simp [intOf]; omega
          · clear v1 v5 v7 v2 v9
            go_wp2_with fail
            refine ⟨?_, ?measure⟩
            · refine ⟨i + 1, f, by omega, ?_, by go_num, ?_, ?_, ?_, ?_, ?_⟩
              · rw [HNX.out]; simp [stepS, HCK.out]
              · rw [HNX.out]; exact rowN_next (HRA.out _) (fun s _ => rv_next sn q _ (by simp) s)
              · rw [HNX.out]; exact rowN_next (HRB.out _) (fun s _ => by simp [stepS])
              · exact HRC.out _
              · rw [HNX.out]; exact fun s => Int.le_trans (hfv.out s) (by simp [stepS])
              · exact HAL.out _
            case measure => simp [intOf]; omega
          · clear v1 v5 v7 v2 v9
            go_wp2_with fail
            refine ⟨?_, ?measure⟩
            · refine ⟨i + 1, f, by omega, ?_, by go_num, ?_, ?_, ?_, ?_, ?_⟩
              · rw [HNX.out]; simp [stepS, HCK.out]
              · rw [HNX.out]; exact rowN_next (HRA.out _) (fun s _ => rv_next sn q _ (by simp) s)
              · rw [HNX.out]; exact rowN_next (HRB.out _) (fun s _ => by simp [stepS])
              · exact HRC.out _
              · rw [HNX.out]; exact fun s => Int.le_trans (hfv.out s) (by simp [stepS])
              · exact HAL.out _
            case measure => simp [intOf]; omega
        · obtain rfl : i = n := by omega
          go_wp2_with fail
          go_ret
          exact ⟨rfl, BW.out⟩
end Go.Proofs.YtnkkakcnlcmikaaDoor
