/-
  ShapeKept, but for its card: a well-formed trace without all attempts that aborted, or wait, is well-formed. Laid by gen/gen_owa.py. Conditions: CheckC.
-/
import Derived.Test.YtnkkakcnlcmikaaDoorOz
import Derived.Test.YtnkkakcnlcmikaaDoorOi
import Derived.Test.YtnkkakcnlcmikaaDoorSf
import Derived.BigQuiet
import Derived.Deep.OwnRows
import Derived.Deep.CutBlock
import Derived.Deep.DeepCutAuto
namespace Go.Proofs.YtnkkakcnlcmikaaDoor
set_option maxRecDepth 100000
open Go.RowKit Go.Deep Go.Maps
set_option linter.unusedVariables false
set_option linter.unusedSimpArgs false
/-- What is gone, of the first i events. -/
def goneE (L : List Ev) (j t n : Nat) : Bool := (nthE L j).th == (t : Int) && ((nthE L j).kd == 10 || (nthE L j).kd == 12) && numB (nthE L j).th (L.take (j + 1)) == n
def goneB (L : List Ev) (i t n : Nat) : Bool := (List.range i).any fun j => goneE L j t n
theorem goneB_next (L : List Ev) (i t n : Nat) : goneB L (i + 1) t n = (goneB L i t n || goneE L i t n) := by simp [goneB, List.range_succ]
theorem goneB_iff (L : List Ev) (t n : Nat) : goneB L L.length t n = true ↔ goneP L t n := by
  unfold goneB goneP goneE
  simp only [List.any_eq_true, List.mem_range, Bool.and_eq_true, Bool.or_eq_true, beq_iff_eq]
  constructor
  · rintro ⟨j, hj, ⟨h1, h2⟩, h3⟩
    exact ⟨j, nthE L j, nthE_of hj, h1, h2, by rw [← h1]; exact h3⟩
  · rintro ⟨j, e, he, h1, h2, h3⟩
    have hj : j < L.length := (List.getElem?_eq_some_iff.1 he).1
    rw [nthE_of hj] at he
    cases he
    exact ⟨j, hj, ⟨h1, h2⟩, by rw [h1]; exact h3⟩
def ofV (L : List Ev) (i k : Nat) : Value := .int .i64 ((if k < i then numB (nthE L k).th (L.take (k + 1)) else 0 : Nat) : Int)
theorem ofV_0 (L : List Ev) (n : Nat) : (madeCells #[Value.int .i64 0] n) = rowV n (ofV L 0) := by
  apply Array.toList_inj.1
  rw [toList_madeCells_one]
  have : ofV L 0 = fun _ => Value.int .i64 0 := by funext k; simp [ofV]
  rw [this]
  simp [rowV, List.map_const']
/-- All that the first loop keeps. -/
structure KeptSt (W3 w : World) (g n : Nat) (L : List Ev) (i : Nat) : Prop where
  b : Below g W3 w
  of : w.heap[g]? = some (.cells (rowV n (ofV L i)) 3 (0, 0))
  bg : w.heap[g + 1]? = some (.cells (rowV 6 fun t => .int .i64 (numB t (L.take i) : Nat)) 50 (0, 0))
  mp : GoneMap w (g + 2) i (goneB L i)
structure KeptMid (W3 w : World) (g n : Nat) (L : List Ev) (i : Nat) : Prop where
  b : Below g W3 w
  of : w.heap[g]? = some (.cells (rowV n (ofV L (i + 1))) 3 (0, 0))
  bg : w.heap[g + 1]? = some (.cells (rowV 6 fun t => .int .i64 (numB t (L.take (i + 1)) : Nat)) 50 (0, 0))
  mp : GoneMap w (g + 2) i (goneB L i)
section
variable {W3 w w' : World} {g n i t : Nat} {L : List Ev}
theorem KeptSt.below (h : KeptSt W3 w g n L i) (hb : Below w.heap.size w w') : KeptSt W3 w' g n L i := by
  have h0 := (Array.getElem?_eq_some_iff.1 h.of).1
  have h1 := (Array.getElem?_eq_some_iff.1 h.bg).1
  exact ⟨h.b.trans (hb.mono (by omega)), (hb.block _ h0).trans h.of, (hb.block _ h1).trans h.bg, h.mp.block (hb.block _ h.mp.lt)⟩
theorem ofV_set {m : Nat} (hi : i < n) (hm : numB (nthE L i).th (L.take (i + 1)) = m) : (rowV n (ofV L i)).setIfInBounds i (.int .i64 (m : Int)) = rowV n (ofV L (i + 1)) :=
  rowV_set hi _ (by simp [ofV, hm]) (fun j _ hj => by
    unfold ofV
    by_cases h : j < i
    · rw [if_pos h, if_pos (by omega)]
    · rw [if_neg h, if_neg (by omega)])
theorem KeptSt.mid (h : KeptSt W3 w g n L i) (hi : i < n) (hn : n = L.length) (hk : (nthE L i).kd ≠ 1) (ht : (nthE L i).th = t) : KeptMid W3 (w.setCell ⟨g, i, none⟩ (.int .i64 (numB t (L.take i) : Nat))) g n L i := by
  have hnb : ∀ s, numB s (L.take (i + 1)) = numB s (L.take i) := fun s => by
    rw [numB_next s (nthE_of (by omega)), if_neg (fun h => hk h.2), Nat.add_zero]
  refine ⟨h.b.setCell (p := ⟨g, i, none⟩) (Nat.le_refl _) _, ?_, ?_, h.mp.block (hset_other _ _ _ _ _ (by omega))⟩
  · rw [hset_same _ _ _ _ _ _ h.of, ofV_set hi (by rw [ht, hnb])]
  · rw [hset_other _ _ _ _ _ (by omega), h.bg]
    rw [show (fun t : Nat => Value.int .i64 (numB t (L.take (i + 1)) : Nat)) = fun t : Nat => Value.int .i64 (numB t (L.take i) : Nat) from funext fun s => by rw [hnb]]
theorem KeptSt.midB (h : KeptSt W3 w g n L i) (hi : i < n) (hn : n = L.length) (hk : (nthE L i).kd = 1) (ht : (nthE L i).th = t) (h6 : t < 6) : KeptMid W3 ((w.setCell ⟨g + 1, t, none⟩ (.int .i64 ((numB t (L.take i) : Nat) + 1))).setCell ⟨g, i, none⟩ (.int .i64 ((numB t (L.take i) : Nat) + 1))) g n L i := by
  have hnb : ∀ s, numB s (L.take (i + 1)) = numB s (L.take i) + if t = s then 1 else 0 := fun s => by
    rw [numB_next s (nthE_of (by omega)), ht]
    by_cases hs : (t : Int) = s
    · rw [if_pos ⟨hs, hk⟩, if_pos hs]
    · rw [if_neg (fun h => hs h.1), if_neg hs]
  have hnt : numB t (L.take (i + 1)) = numB t (L.take i) + 1 := by rw [hnb, if_pos rfl]
  refine ⟨(h.b.setCell (p := ⟨g + 1, t, none⟩) (by show g ≤ g + 1; omega) _).setCell (p := ⟨g, i, none⟩) (Nat.le_refl _) _, ?_, ?_, h.mp.block ((hset_other _ _ _ _ _ (by omega)).trans (hset_other _ _ _ _ _ (by omega)))⟩
  · rw [hset_same _ _ _ _ _ _ ((hset_other _ _ _ _ _ (by omega)).trans h.of), ← ofV_set (m := numB t (L.take i) + 1) hi (by rw [ht, hnt])]
    rfl
  · rw [hset_other _ _ _ _ _ (by omega), hset_same _ _ _ _ _ _ h.bg]
    rw [rowV_set (c' := fun s : Nat => Value.int .i64 (numB s (L.take (i + 1)) : Nat)) h6 _ (by rw [hnt]; rfl) (fun j _ hj => by rw [hnb, if_neg (by omega), Nat.add_zero])]
theorem KeptMid.stay (h : KeptMid W3 w g n L i) (hk : (nthE L i).kd ≠ 10 ∧ (nthE L i).kd ≠ 12) : KeptSt W3 w g n L (i + 1) :=
  ⟨h.b, h.of, h.bg, h.mp.congr (Nat.le_succ _) fun t m => by rw [goneB_next]; simp [goneE, hk.1, hk.2]⟩
theorem KeptMid.gone {m : Nat} (h : KeptMid W3 w g n L i) (hk : (nthE L i).kd = 10 ∨ (nthE L i).kd = 12) (ht : (nthE L i).th = t) (hm : numB t (L.take (i + 1)) = m) (hM : GoneMap w' (g + 2) (i + 1) (fun t' m' => goneB L i t' m' || (t' == t && m' == m))) (hg : w.grownBy w' (some (g + 2))) : KeptSt W3 w' g n L (i + 1) := by
  have h0 := (Array.getElem?_eq_some_iff.1 h.of).1
  have h1 := (Array.getElem?_eq_some_iff.1 h.bg).1
  refine ⟨h.b.grown hg (by omega) (fun k hk => by cases hk; omega), (hg.block _ h0 (by simp)).trans h.of, (hg.block _ h1 (by simp)).trans h.bg, hM.congr (Nat.le_refl _) fun t' m' => ?_⟩
  rw [goneB_next]
  congr 1
  unfold goneE
  rw [ht, hm]
  have e1 : ((nthE L i).kd == 10 || (nthE L i).kd == 12) = true := by rcases hk with h | h <;> simp [h]
  rw [e1, Bool.and_true]
  rw [Bool.eq_iff_iff]
  simp only [Bool.and_eq_true, beq_iff_eq]
  omega
theorem KeptSt.ofC (h : KeptSt W3 w g n L n) {k : Nat} (hk : k < n) : w.cell? ⟨g, k, none⟩ = some (.int .i64 (numB (nthE L k).th (L.take (k + 1)) : Nat)) := by
  rw [cell_of_row w g k _ _ _ h.of, rowV_get _ _ hk]
  simp [ofV, hk]
end
theorem row_add' (g i : Nat) : (⟨g, 0, none⟩ : Addr).add i = ⟨g, i, none⟩ := by cases i <;> simp [Addr.add]
theorem cell_setCell_same' {w : World} {g k : Nat} {u v : Value} (h : w.cell? ⟨g, k, none⟩ = some u) : (w.setCell ⟨g, k, none⟩ v).cell? ⟨g, k, none⟩ = some v := World.cell?_setCell_same' _ _ _ (by rw [h]; rfl)
theorem kthree_0 (w : World) (o1 o2 o3 : Obj) : (((w.alloc o1).alloc o2).alloc o3).heap[w.heap.size]? = some o1 :=
  (((Below.refl _ _).alloc (Nat.le_refl _) o3).block w.heap.size (by simp; omega)).trans ((((Below.refl _ _).alloc (Nat.le_refl _) o2).block w.heap.size (by simp)).trans (heap_alloc_new w _))
theorem kthree_1 (w : World) (o1 o2 o3 : Obj) : (((w.alloc o1).alloc o2).alloc o3).heap[w.heap.size + 1]? = some o2 := by
  refine (((Below.refl _ _).alloc (Nat.le_refl _) o3).block (w.heap.size + 1) (by simp)).trans ?_
  have := heap_alloc_new (w.alloc o1) o2
  simpa using this
theorem mk_ints (n : Nat) (hn : n ≤ 2000) (W : World) : (Instr.makeSlice 51 (.int .i64 (n : Int)) (.int .i64 (n : Int))).run Tryd.prog W = .ok (.slice (some ⟨W.heap.size, 0, none⟩) n n) (W.alloc (.cells (madeCells #[.int .i64 0] n) 3)) := run_make_row' (P := Tryd.prog) 51 3 (.int .i64 0) 8 u_ints (by kernel_rfl) rfl .i64 .i64 n (by omega) (by omega) W
theorem grown_setK (w : World) (g k : Nat) (u : Value) : w.grownBy (w.setCell ⟨g, k, none⟩ u) (some g) := ⟨rfl, rfl, rfl, by simp, fun b hb hne => hset_other _ _ _ _ _ (fun e => hne (by rw [e]))⟩
/-- All that the second loop keeps. -/
structure Kept2 (W6 w : World) (g8 : Nat) (T V S : Int) (K : List Ev) : Prop where
  b : Below g8 W6 w
  u : ∃ A c, w.heap[g8]? = some (.cells #[.int .i64 T, .int .i64 V, .int .i64 S, .slice A K.length c] 35 (0, 0)) ∧ w.ownsRow (g8 + 1) 27 7 (.slice A K.length c) K.length (evsC K)
theorem Kept2.start (W : World) (T V S : Int) : Kept2 W (W.alloc (.cells #[.int .i64 T, .int .i64 V, .int .i64 S, .slice none 0 0] 35)) W.heap.size T V S [] :=
  ⟨(Below.refl _ _).alloc (Nat.le_refl _) _, none, 0, heap_alloc_new W _, World.ownsRow_nil _ _ _ _⟩
theorem Kept2.more {W6 w w' : World} {g8 : Nat} {T V S : Int} {K : List Ev} {e : Ev} {A' : Option Addr} {c' : Nat} (h : Kept2 W6 w g8 T V S K) (hw : Below (g8 + 1) w w') (own : w'.ownsRow (g8 + 1) 27 7 (.slice A' (K.length + 1) c') (K.length + 1) (evsC K ++ (evC e).toList)) : Kept2 W6 (w'.setCell ⟨g8, 3, none⟩ (.slice A' (K.length + 1) c')) g8 T V S (K ++ [e]) := by
  obtain ⟨A, c, h1, _⟩ := h.u
  refine ⟨(h.b.trans (hw.mono (Nat.le_succ _))).setCell (p := ⟨g8, 3, none⟩) (Nat.le_refl _) _, A', c', ?_, ?_⟩
  · rw [hset_same _ _ _ _ _ _ ((hw.block g8 (Nat.lt_succ_self _)).trans h1), List.length_append]
    rfl
  · have e1 : evsC (K ++ [e]) = evsC K ++ (evC e).toList := by simp [evsC]
    rw [e1, List.length_append]
    refine own.kept (grown_setK w' g8 3 _) (.inr fun hc => ?_)
    have := (own.lt _ hc).1
    omega
theorem Kept2.drewN {W6 w : World} {g8 : Nat} {T V S : Int} {K : List Ev} (h : Kept2 W6 w g8 T V S K) (m : Nat) : Kept2 W6 (w.drewN m) g8 T V S K := by
  have hb := drewN_belowW w m
  obtain ⟨A, c, h1, h2⟩ := h.u
  have hlt := (Array.getElem?_eq_some_iff.1 h1).1
  refine ⟨h.b.trans (hb.mono (Nat.le_of_lt hlt)), A, c, (hb.block _ hlt).trans h1, h2.kept (row := none) ⟨hb.os, hb.tape, hb.output, hb.size, fun k hk _ => hb.block k hk⟩ ?_⟩
  cases h3 : Value.ownBlock (.slice A K.length c) with
  | none => exact .inl rfl
  | some x => exact .inr (by simp)
theorem gone_all {T V S : Int} {L : List Ev} (hF : Fine T V S L) (t : Int) (n : Nat) : (fun (t : Int) (m : Nat) => decide (0 ≤ t) && goneB L L.length t.toNat m) t n = true ↔ goneP L t n := by
  show (decide (0 ≤ t) && goneB L L.length t.toNat n) = true ↔ _
  by_cases ht : 0 ≤ t
  · obtain ⟨k, rfl⟩ : ∃ k : Nat, t = k := ⟨t.toNat, by omega⟩
    rw [decide_eq_true ht, Bool.true_and]
    exact goneB_iff L k n
  · rw [decide_eq_false ht, Bool.false_and]
    refine ⟨fun h => (by cases h), ?_⟩
    rintro ⟨j, e, he, h1, _, _⟩
    obtain ⟨_, hth, _⟩ := (may_iff _ _ _ _).1 (may13 (hF j e he)).1
    omega
theorem keptF_next {G : Int → Nat → Bool} {L : List Ev} {j : Nat} (h : j < L.length) : keptF G L (j + 1) = if G (nthE L j).th (numB (nthE L j).th (L.take (j + 1))) = true then keptF G L j else keptF G L j ++ [nthE L j] := by
  rw [keptF, nthE_of h]
theorem keptF_len (G : Int → Nat → Bool) (L : List Ev) : ∀ j, (keptF G L j).length ≤ j
  | 0 => Nat.le_refl _
  | j + 1 => by
    have := keptF_len G L j
    rw [keptF]
    cases L[j]? with
    | none => show (keptF G L j).length ≤ _; omega
    | some e =>
      show (if _ then _ else _ : List Ev).length ≤ _
      split
      · omega
      · rw [List.length_append]; simp; omega
theorem keptF_mem (G : Int → Nat → Bool) (L : List Ev) : ∀ j x, x ∈ keptF G L j → x ∈ L
  | 0, x, h => by simp [keptF] at h
  | j + 1, x, h => by
    rw [keptF] at h
    cases he : L[j]? with
    | none => rw [he] at h; exact keptF_mem G L j x h
    | some e =>
      rw [he] at h
      simp only at h
      split at h
      · exact keptF_mem G L j x h
      · rcases List.mem_append.1 h with h | h
        · exact keptF_mem G L j x h
        · have : x = e := by simpa using h
          rw [this]
          exact List.mem_of_getElem? he
theorem keptF_ok {G : Int → Nat → Bool} {L : List Ev} {w : World} {B : Nat} {A : Option Addr} (h : EvsAt w B A L) (j i : Nat) (hi : i < (keptF G L j).length) : EvOk (nthE (keptF G L j) i) := by
  have h1 := List.mem_of_getElem? (nthE_of hi)
  obtain ⟨x, hx, he⟩ := List.mem_iff_getElem.1 (keptF_mem G L j _ h1)
  have := h.ok hx
  have e2 := nthE_of hx
  rw [List.getElem?_eq_getElem hx, he] at e2
  rw [Option.some.inj e2]
  exact this
set_option maxHeartbeats 8000000 in
theorem kept_walk {Tb : World → Prop} (HC : CheckC Tb) (w : World) (ht : Tb w) (T V S : Int) (A : Option Addr) (L : List Ev) (c : Nat) (hT : i64P T) (hV : i64P V) (hS : i64P S) (hl : L.length ≤ 9223372036854775807) (he : EvsAt w w.heap.size A L) :
    Calls Tryd.prog 8 #[trV T V S A L.length c] w (Yes w) := by
  have HW : Hid (∀ w1, Below w.heap.size w w1 → Calls Tryd.prog 10 #[] w1 fun r w' => r = .returned (.bool true) ∧ Below w1.heap.size w1 w') := fun w1 hb => works_any HC w1 (HC.below w w1 ht hb)
  have HF : Hid (L.length ≤ 2000 → ∀ w1, Below w.heap.size w w1 → Calls Tryd.prog 20 #[trV T V S A L.length c] w1 fun r w' => r = .returned (.bool (fineB T V S L)) ∧ Below w1.heap.size w1 w') := fun h w1 hb => fine_any HC w1 (HC.below w w1 ht hb) T V S A L c hT hV hS h ((he.below hb (Nat.le_refl _)).mono hb.size)
  obtain ⟨n, hn⟩ : ∃ n, n = L.length := ⟨_, rfl⟩
  have HE := Lib.hid he
  rw [← hn] at HF hl ⊢
  unfold trV at HF ⊢
  have HN := Lib.hid hn
  have HC0 : Hid (CheckC Tb ∧ Tb w ∧ i64P T ∧ i64P V ∧ i64P S) := ⟨HC, ht, hT, hV, hS⟩
  clear ht hT hV hS he HC hn
  by_cases h2 : 2000 < n
  · have i1 : (2000 : Int) < (n : Int) := by omega
    clear h2 hl HF
    go_enter Tryd.func8, Tryd.ntmps8
    go_wp2_with fail
    have h0 : Below w.heap.size w (w.alloc (.cells #[.int .i64 T, .int .i64 V, .int .i64 S, .slice A n c] 35)) := (Below.refl _ _).alloc (Nat.le_refl _) _
    refine (HW.out _ h0).mono ?_
    rintro _ w1 ⟨rfl, b1⟩
    have x3 : w1.cell? ⟨w.heap.size, 3, none⟩ = some (.slice A n c) := (b1.cell (by simp)).trans (World.cell?_alloc_mark w #[.int .i64 T, .int .i64 V, .int .i64 S, .slice A n c] 35 (0, 0) 3)
    have B1 : Hid (Below w.heap.size w w1) := h0.trans (b1.mono h0.size)
    clear b1 h0
    go_wp2_with fail
    refine (HW.out _ B1.out).mono ?_
    rintro _ w2 ⟨rfl, b2⟩
    have B2 : Hid (Below w.heap.size w w2) := B1.out.trans (b2.mono B1.out.size)
    clear b2 x3
    go_wp2_with fail
    go_ret
    exact ⟨rfl, B2.out⟩
  · have i1 : (n : Int) ≤ 2000 := by omega
    have HF2 := Lib.hid (HF.out (by omega))
    clear HF
    obtain ⟨b, hb⟩ : ∃ b, b = fineB T V S L := ⟨_, rfl⟩
    rw [← hb] at HF2
    have HB := Lib.hid hb
    clear hb
    go_enter Tryd.func8, Tryd.ntmps8
    go_wp2_with fail
    have h0 : Below w.heap.size w (w.alloc (.cells #[.int .i64 T, .int .i64 V, .int .i64 S, .slice A n c] 35)) := (Below.refl _ _).alloc (Nat.le_refl _) _
    refine (HW.out _ h0).mono ?_
    rintro _ w1 ⟨rfl, b1⟩
    have r1 : w1.heap[w.heap.size]? = some (.cells #[.int .i64 T, .int .i64 V, .int .i64 S, .slice A n c] 35 (0, 0)) := (b1.block _ (by simp)).trans (heap_alloc_new w _)
    have x0 := cell_of_row w1 _ 0 _ _ _ r1
    have x1 := cell_of_row w1 _ 1 _ _ _ r1
    have x2 := cell_of_row w1 _ 2 _ _ _ r1
    have x3 := cell_of_row w1 _ 3 _ _ _ r1
    simp only [List.getElem?_toArray, List.getElem?_cons_zero, List.getElem?_cons_succ] at x0 x1 x2 x3
    have B1 : Hid (Below w.heap.size w w1) := h0.trans (b1.mono h0.size)
    have R1 := Lib.hid r1
    clear b1 h0 r1
    go_wp2_with fail
    refine (HF2.out _ B1.out).mono ?_
    rintro _ w2 ⟨rfl, b2⟩
    have B2 : Hid (Below w.heap.size w w2) := B1.out.trans (b2.mono B1.out.size)
    have R2 : Hid (w2.heap[w.heap.size]? = some (.cells #[.int .i64 T, .int .i64 V, .int .i64 S, .slice A n c] 35 (0, 0))) := row_stays R1.out b2
    clear b2 x0 x1 x2 x3 R1 HF2
    by_cases hbt : b = false
    · subst hbt
      go_wp2_with fail
      go_ret
      exact ⟨rfl, B2.out⟩
    · obtain rfl : b = true := by simpa using hbt
      obtain ⟨hsz, _, hfine⟩ := fine_iff.1 (of_decide_eq_true HB.out.symm : checkF T V S L = (L.length, 0))
      have HFI := Lib.hid hfine
      have HSZ := Lib.hid hsz
      simp only [size13, Bool.and_eq_true, decide_eq_true_eq] at hsz
      obtain ⟨sn, rfl⟩ : ∃ sn : Nat, S = sn := ⟨S.toNat, by omega⟩
      have hs1 : 1 ≤ sn := by omega
      have hs32 : sn ≤ 32 := by omega
      clear hbt hfine HB hsz
      have hmk := mk_ints n (by omega)
      have hmm := @run_makeMap Tryd.prog
      have x3 := cell_of_row w2 _ 3 _ _ _ R2.out
      simp only [List.getElem?_toArray, List.getElem?_cons_zero, List.getElem?_cons_succ] at x3
      go_wp2_with fail
      clear hmk hmm x3
      obtain ⟨g, hg⟩ : ∃ g, g = w2.heap.size := ⟨_, rfl⟩
      obtain ⟨W3, hW3⟩ : ∃ W3, W3 = ((w2.alloc (.cells (madeCells #[.int .i64 0] n) 3)).alloc (.cells #[.int .i64 0, .int .i64 0, .int .i64 0, .int .i64 0, .int .i64 0, .int .i64 0] 50)).alloc (.map #[] 0) := ⟨_, rfl⟩
      have hlt1 : w.heap.size < g := by rw [hg]; exact (Array.getElem?_eq_some_iff.1 R2.out).1
      have R0 : Hid (KeptSt W3 W3 g n L 0) := by
        refine ⟨Below.refl _ _, ?_, ?_, ?_⟩
        · rw [hW3, hg, ← ofV_0]; exact kthree_0 w2 _ _ _
        · rw [hW3, hg, List.take_zero]; exact kthree_1 w2 _ _ _
        · have := GoneMap.made ((w2.alloc (.cells (madeCells #[.int .i64 0] n) 3)).alloc (.cells #[.int .i64 0, .int .i64 0, .int .i64 0, .int .i64 0, .int .i64 0, .int .i64 0] 50))
          rw [← hW3] at this
          have e : ((w2.alloc (.cells (madeCells #[.int .i64 0] n) 3)).alloc (.cells #[.int .i64 0, .int .i64 0, .int .i64 0, .int .i64 0, .int .i64 0, .int .i64 0] 50)).heap.size = g + 2 := by rw [hg]; simp
          rw [e] at this
          exact this
      have b3 : Below g w2 W3 := by rw [hW3, hg]; exact (((Below.refl _ _).alloc (Nat.le_refl _) _).alloc (by simp) _).alloc (by simp; omega) _
      have R3 : Hid (W3.heap[w.heap.size]? = some (.cells #[.int .i64 T, .int .i64 V, .int .i64 sn, .slice A n c] 35 (0, 0))) := row_staysN R2.out b3 hlt1
      have B3 : Hid (Below w.heap.size w W3) := B2.out.trans (b3.mono (by omega))
      rw [← hW3, show w2.heap.size + 1 + 1 = g + 2 by omega, show w2.heap.size + 1 = g + 1 by omega, ← hg]
      clear hW3 b3 B2 R2 hg HW
      go_loopw [6] (fun iv wr => ∃ i : Nat, i ≤ n ∧ iv = .int .i64 i ∧ Hid (KeptSt W3 wr g n L i)) (fun iv _ => n - (intOf iv).toNat)
      case atStart => exact ⟨0, by omega, rfl, R0⟩
      case round =>
        obtain ⟨i, hi, rfl, hrow⟩ := hrel
        have rt := row_staysN R3.out hrow.out.b hlt1
        have x3 := cell_of_row wr _ 3 _ _ _ rt
        simp only [List.getElem?_toArray, List.getElem?_cons_zero, List.getElem?_cons_succ] at x3
        have BW : Hid (Below w.heap.size w wr) := B3.out.trans (hrow.out.b.mono (by omega))
        by_cases hlt : i < n
        · obtain ⟨a, rfl, ha, hev⟩ := HE.out i (by rw [← HN.out]; exact hlt)
          have hev := hev.below BW.out (by rw [add_blockO]; exact ha)
          have hm := HFI.out i _ (nthE_of (by rw [← HN.out]; exact hlt))
          obtain ⟨_, hth, hk⟩ := (may_iff _ _ _ _).1 (may13 hm).1
          have hT6 : T ≤ 6 := by have := HSZ.out; simp only [size13, Bool.and_eq_true, decide_eq_true_eq] at this; omega
          obtain ⟨t, hte⟩ : ∃ t : Nat, (nthE L i).th = t := ⟨(nthE L i).th.toNat, by omega⟩
          have ht6 : t < 6 := by omega
          have HS := Lib.hid (hrow.out.mid hlt HN.out (t := t))
          have HSB := Lib.hid (hrow.out.midB hlt HN.out (t := t))
          have HST : Hid (∀ o : Obj, KeptSt W3 (wr.alloc o) g n L i) := fun o => hrow.out.below ((Below.refl _ _).alloc (Nat.le_refl _) _)
          have HX : Hid ((nthE L i).th = t) := hte
          obtain ⟨c0, c1, c2, c3, c4, c5, c6, hok⟩ := hev
          obtain ⟨kd, hkd⟩ : ∃ kd, kd = (nthE L i).kd := ⟨_, rfl⟩
          have HKD := Lib.hid hkd
          rw [hte] at c1
          rw [← hkd] at c0
          obtain ⟨e2, he2⟩ : ∃ x, x = (nthE L i).tx := ⟨_, rfl⟩
          obtain ⟨e3, he3⟩ : ∃ x, x = (nthE L i).pl := ⟨_, rfl⟩
          obtain ⟨e4, he4⟩ : ∃ x, x = (nthE L i).v := ⟨_, rfl⟩
          obtain ⟨e5, he5⟩ : ∃ x, x = (nthE L i).x := ⟨_, rfl⟩
          obtain ⟨e6, he6⟩ : ∃ x, x = (nthE L i).why := ⟨_, rfl⟩
          rw [← he2] at c2
          rw [← he3] at c3
          rw [← he4] at c4
          rw [← he5] at c5
          rw [← he6] at c6
          obtain ⟨m, hm⟩ : ∃ m, m = numB t (L.take i) := ⟨_, rfl⟩
          have HM := Lib.hid hm
          have hm9 : m ≤ n := by
            have h1 : numB t (L.take i) ≤ (L.take i).length := List.countP_le_length
            rw [List.length_take] at h1
            omega
          have it0 : (0 : Int) ≤ (t : Int) := by omega
          have it1 : (t : Int) < 6 := by omega
          have hii : (i : Int) < (n : Int) := by omega
          have HST0 := hrow
          clear hm rt ha hok hth hk hte hkd he2 he3 he4 he5 he6 hrow
          by_cases k1 : kd = 1
          · subst k1
            have hsz := (Array.getElem?_eq_some_iff.1 (HST0.out).of).1
            have hsz1 := (Array.getElem?_eq_some_iff.1 (HST0.out).bg).1
            have y0 : (wr.alloc (.cells #[.int .u8 1, .int .i64 (t : Int), .int .i64 e2, .int .i64 e3, .int .i64 e4, .int .i64 e5, .int .u8 e6] 27)).cell? ⟨g + 1, t, none⟩ = some (.int .i64 (m : Int)) := by rw [cell_of_row _ (g + 1) t _ _ _ (HST.out _).bg, rowV_get _ _ ht6, HM.out]
            have y0f := frozen_of_row _ (g + 1) t _ _ (HST.out (.cells #[.int .u8 1, .int .i64 (t : Int), .int .i64 e2, .int .i64 e3, .int .i64 e4, .int .i64 e5, .int .u8 e6] 27)).bg
            have y1 : (wr.alloc (.cells #[.int .u8 1, .int .i64 (t : Int), .int .i64 e2, .int .i64 e3, .int .i64 e4, .int .i64 e5, .int .u8 e6] 27)).cell? ⟨g, i, none⟩ = some (ofV L i i) := by rw [cell_of_row _ g i _ _ _ (HST.out _).of, rowV_get _ _ hlt]
            have y2 := frozen_of_row _ g i _ _ (HST.out (.cells #[.int .u8 1, .int .i64 (t : Int), .int .i64 e2, .int .i64 e3, .int .i64 e4, .int .i64 e5, .int .u8 e6] 27)).of
            have rE := heap_alloc_new wr (.cells #[.int .u8 1, .int .i64 (t : Int), .int .i64 e2, .int .i64 e3, .int .i64 e4, .int .i64 e5, .int .u8 e6] 27)
            have r6 : ((wr.alloc (.cells #[.int .u8 1, .int .i64 (t : Int), .int .i64 e2, .int .i64 e3, .int .i64 e4, .int .i64 e5, .int .u8 e6] 27)).setCell ⟨g + 1, t, none⟩ (.int .i64 ((m : Int) + 1))).heap[wr.heap.size]? = some (.cells #[.int .u8 1, .int .i64 (t : Int), .int .i64 e2, .int .i64 e3, .int .i64 e4, .int .i64 e5, .int .u8 e6] 27) := (hset_other _ _ _ _ _ (by omega)).trans rE
            have rt6 := cell_of_row _ _ 1 _ _ _ r6
            have r62 : ((wr.alloc (.cells #[.int .u8 1, .int .i64 (t : Int), .int .i64 e2, .int .i64 e3, .int .i64 e4, .int .i64 e5, .int .u8 e6] 27)).setCell ⟨g + 1, t, none⟩ (.int .i64 ((m : Int) + 1))).cell? ⟨g + 1, t, none⟩ = some (.int .i64 ((m : Int) + 1)) := cell_setCell_same' y0
            have r63 : ((wr.alloc (.cells #[.int .u8 1, .int .i64 (t : Int), .int .i64 e2, .int .i64 e3, .int .i64 e4, .int .i64 e5, .int .u8 e6] 27)).setCell ⟨g + 1, t, none⟩ (.int .i64 ((m : Int) + 1))).cell? ⟨g, i, none⟩ = some (ofV L i i) := (World.cell?_of_block (a := ⟨g, i, none⟩) (show (World.setCell _ _ _).heap[g]? = _ from hset_other _ _ _ _ _ (by omega))).trans y1
            have r64 : ((wr.alloc (.cells #[.int .u8 1, .int .i64 (t : Int), .int .i64 e2, .int .i64 e3, .int .i64 e4, .int .i64 e5, .int .u8 e6] 27)).setCell ⟨g + 1, t, none⟩ (.int .i64 ((m : Int) + 1))).frozen? ⟨g, i, none⟩ = false := (World.frozen?_of_block (a := ⟨g, i, none⟩) (show (World.setCell _ _ _).heap[g]? = _ from hset_other _ _ _ _ _ (by omega))).trans y2
            have r7 : (((wr.alloc (.cells #[.int .u8 1, .int .i64 (t : Int), .int .i64 e2, .int .i64 e3, .int .i64 e4, .int .i64 e5, .int .u8 e6] 27)).setCell ⟨g + 1, t, none⟩ (.int .i64 ((m : Int) + 1))).setCell ⟨g, i, none⟩ (.int .i64 ((m : Int) + 1))).heap[wr.heap.size]? = some (.cells #[.int .u8 1, .int .i64 (t : Int), .int .i64 e2, .int .i64 e3, .int .i64 e4, .int .i64 e5, .int .u8 e6] 27) := (hset_other _ _ _ _ _ (by omega)).trans r6
            have r70 := cell_of_row _ _ 0 _ _ _ r7
            simp only [List.getElem?_toArray, List.getElem?_cons_zero, List.getElem?_cons_succ] at rt6 r70
            have H6 : Hid (KeptSt W3 (((wr.alloc (.cells #[.int .u8 1, .int .i64 (t : Int), .int .i64 e2, .int .i64 e3, .int .i64 e4, .int .i64 e5, .int .u8 e6] 27)).setCell ⟨g + 1, t, none⟩ (.int .i64 ((m : Int) + 1))).setCell ⟨g, i, none⟩ (.int .i64 ((m : Int) + 1))) g n L (i + 1)) := by
              have := (HST.out (.cells #[.int .u8 1, .int .i64 (t : Int), .int .i64 e2, .int .i64 e3, .int .i64 e4, .int .i64 e5, .int .u8 e6] 27)).midB hlt HN.out HKD.out.symm HX.out ht6
              rw [← HM.out] at this
              exact this.stay (by rw [← HKD.out]; decide)
            clear hsz hsz1 rE r6 r7 HS
            go_wp2_with fail
            refine ⟨?_, ?measure⟩
            · exact ⟨i + 1, by omega, by go_num, H6⟩
            case measure => simp [intOf]; omega
          · have z1 : (kd == 1) = false := beq_eq_false_iff_ne.2 k1
            by_cases k10 : kd = 10
            · subst k10
              have hsz := (Array.getElem?_eq_some_iff.1 (HST0.out).of).1
              have hsz1 := (Array.getElem?_eq_some_iff.1 (HST0.out).bg).1
              have y0 : (wr.alloc (.cells #[.int .u8 10, .int .i64 (t : Int), .int .i64 e2, .int .i64 e3, .int .i64 e4, .int .i64 e5, .int .u8 e6] 27)).cell? ⟨g + 1, t, none⟩ = some (.int .i64 (m : Int)) := by rw [cell_of_row _ (g + 1) t _ _ _ (HST.out _).bg, rowV_get _ _ ht6, HM.out]
              have y0f := frozen_of_row _ (g + 1) t _ _ (HST.out (.cells #[.int .u8 10, .int .i64 (t : Int), .int .i64 e2, .int .i64 e3, .int .i64 e4, .int .i64 e5, .int .u8 e6] 27)).bg
              have y1 : (wr.alloc (.cells #[.int .u8 10, .int .i64 (t : Int), .int .i64 e2, .int .i64 e3, .int .i64 e4, .int .i64 e5, .int .u8 e6] 27)).cell? ⟨g, i, none⟩ = some (ofV L i i) := by rw [cell_of_row _ g i _ _ _ (HST.out _).of, rowV_get _ _ hlt]
              have y2 := frozen_of_row _ g i _ _ (HST.out (.cells #[.int .u8 10, .int .i64 (t : Int), .int .i64 e2, .int .i64 e3, .int .i64 e4, .int .i64 e5, .int .u8 e6] 27)).of
              have rE := heap_alloc_new wr (.cells #[.int .u8 10, .int .i64 (t : Int), .int .i64 e2, .int .i64 e3, .int .i64 e4, .int .i64 e5, .int .u8 e6] 27)
              have r5 : ((wr.alloc (.cells #[.int .u8 10, .int .i64 (t : Int), .int .i64 e2, .int .i64 e3, .int .i64 e4, .int .i64 e5, .int .u8 e6] 27)).setCell ⟨g, i, none⟩ (.int .i64 (m : Int))).heap[wr.heap.size]? = some (.cells #[.int .u8 10, .int .i64 (t : Int), .int .i64 e2, .int .i64 e3, .int .i64 e4, .int .i64 e5, .int .u8 e6] 27) := (hset_other _ _ _ _ _ (by omega)).trans rE
              have r0 := cell_of_row _ _ 0 _ _ _ r5
              have rt1 := cell_of_row _ _ 1 _ _ _ r5
              simp only [List.getElem?_toArray, List.getElem?_cons_zero, List.getElem?_cons_succ] at r0 rt1
              have rO : ((wr.alloc (.cells #[.int .u8 10, .int .i64 (t : Int), .int .i64 e2, .int .i64 e3, .int .i64 e4, .int .i64 e5, .int .u8 e6] 27)).setCell ⟨g, i, none⟩ (.int .i64 (m : Int))).cell? ((⟨g, 0, none⟩ : Addr).add i) = some (.int .i64 (m : Int)) := by rw [row_add']; exact cell_setCell_same' y1
              have HMID : Hid (KeptMid W3 ((wr.alloc (.cells #[.int .u8 10, .int .i64 (t : Int), .int .i64 e2, .int .i64 e3, .int .i64 e4, .int .i64 e5, .int .u8 e6] 27)).setCell ⟨g, i, none⟩ (.int .i64 (m : Int))) g n L i) := by rw [HM.out]; exact (HST.out _).mid hlt HN.out (by rw [← HKD.out]; decide) HX.out
              have HN1 : Hid (numB t (L.take (i + 1)) = m) := by rw [numB_next t (nthE_of (by rw [← HN.out]; exact hlt)), if_neg (fun h => by have := HKD.out; rw [h.2] at this; exact absurd this (by decide)), Nat.add_zero]; exact HM.out.symm
              clear hsz hsz1 y0f rE r5 HSB
              go_wp2_with fail
              obtain ⟨W5, hW5⟩ : ∃ W5, W5 = ((wr.alloc (.cells #[.int .u8 10, .int .i64 (t : Int), .int .i64 e2, .int .i64 e3, .int .i64 e4, .int .i64 e5, .int .u8 e6] 27)).setCell ⟨g, i, none⟩ (.int .i64 (m : Int))) := ⟨_, rfl⟩
              rw [← hW5] at rt1 rO HMID ⊢
              clear hW5 y0 y1 y2 r0
              refine regK16 rfl _ (by exact Nat.le_of_ble_eq_true rfl) _ g (g + 2) wr.heap.size i n t m i (goneB L i) hlt (by omega) (by omega) (by omega) (by exact rt1) (by exact rO) (by exact HMID.out.mp) rfl rfl rfl rfl ?_
              intro w6 m6 g6
              simp only [regK16_ds, putAll, List.setIfInBounds_toArray, List.set_cons_succ, List.set_cons_zero]
              have H6 : Hid (KeptSt W3 w6 g n L (i + 1)) := HMID.out.gone (by rw [← HKD.out]; decide) HX.out HN1.out m6 g6
              clear m6 g6 rt1 rO HMID
              go_wp2_with fail
              refine ⟨?_, ?measure⟩
              · exact ⟨i + 1, by omega, by go_num, H6⟩
              case measure => simp [intOf]; omega
            by_cases k12 : kd = 12
            · subst k12
              have hsz := (Array.getElem?_eq_some_iff.1 (HST0.out).of).1
              have hsz1 := (Array.getElem?_eq_some_iff.1 (HST0.out).bg).1
              have y0 : (wr.alloc (.cells #[.int .u8 12, .int .i64 (t : Int), .int .i64 e2, .int .i64 e3, .int .i64 e4, .int .i64 e5, .int .u8 e6] 27)).cell? ⟨g + 1, t, none⟩ = some (.int .i64 (m : Int)) := by rw [cell_of_row _ (g + 1) t _ _ _ (HST.out _).bg, rowV_get _ _ ht6, HM.out]
              have y0f := frozen_of_row _ (g + 1) t _ _ (HST.out (.cells #[.int .u8 12, .int .i64 (t : Int), .int .i64 e2, .int .i64 e3, .int .i64 e4, .int .i64 e5, .int .u8 e6] 27)).bg
              have y1 : (wr.alloc (.cells #[.int .u8 12, .int .i64 (t : Int), .int .i64 e2, .int .i64 e3, .int .i64 e4, .int .i64 e5, .int .u8 e6] 27)).cell? ⟨g, i, none⟩ = some (ofV L i i) := by rw [cell_of_row _ g i _ _ _ (HST.out _).of, rowV_get _ _ hlt]
              have y2 := frozen_of_row _ g i _ _ (HST.out (.cells #[.int .u8 12, .int .i64 (t : Int), .int .i64 e2, .int .i64 e3, .int .i64 e4, .int .i64 e5, .int .u8 e6] 27)).of
              have rE := heap_alloc_new wr (.cells #[.int .u8 12, .int .i64 (t : Int), .int .i64 e2, .int .i64 e3, .int .i64 e4, .int .i64 e5, .int .u8 e6] 27)
              have r5 : ((wr.alloc (.cells #[.int .u8 12, .int .i64 (t : Int), .int .i64 e2, .int .i64 e3, .int .i64 e4, .int .i64 e5, .int .u8 e6] 27)).setCell ⟨g, i, none⟩ (.int .i64 (m : Int))).heap[wr.heap.size]? = some (.cells #[.int .u8 12, .int .i64 (t : Int), .int .i64 e2, .int .i64 e3, .int .i64 e4, .int .i64 e5, .int .u8 e6] 27) := (hset_other _ _ _ _ _ (by omega)).trans rE
              have r0 := cell_of_row _ _ 0 _ _ _ r5
              have rt1 := cell_of_row _ _ 1 _ _ _ r5
              simp only [List.getElem?_toArray, List.getElem?_cons_zero, List.getElem?_cons_succ] at r0 rt1
              have rO : ((wr.alloc (.cells #[.int .u8 12, .int .i64 (t : Int), .int .i64 e2, .int .i64 e3, .int .i64 e4, .int .i64 e5, .int .u8 e6] 27)).setCell ⟨g, i, none⟩ (.int .i64 (m : Int))).cell? ((⟨g, 0, none⟩ : Addr).add i) = some (.int .i64 (m : Int)) := by rw [row_add']; exact cell_setCell_same' y1
              have HMID : Hid (KeptMid W3 ((wr.alloc (.cells #[.int .u8 12, .int .i64 (t : Int), .int .i64 e2, .int .i64 e3, .int .i64 e4, .int .i64 e5, .int .u8 e6] 27)).setCell ⟨g, i, none⟩ (.int .i64 (m : Int))) g n L i) := by rw [HM.out]; exact (HST.out _).mid hlt HN.out (by rw [← HKD.out]; decide) HX.out
              have HN1 : Hid (numB t (L.take (i + 1)) = m) := by rw [numB_next t (nthE_of (by rw [← HN.out]; exact hlt)), if_neg (fun h => by have := HKD.out; rw [h.2] at this; exact absurd this (by decide)), Nat.add_zero]; exact HM.out.symm
              clear hsz hsz1 y0f rE r5 HSB
              go_wp2_with fail
              obtain ⟨W5, hW5⟩ : ∃ W5, W5 = ((wr.alloc (.cells #[.int .u8 12, .int .i64 (t : Int), .int .i64 e2, .int .i64 e3, .int .i64 e4, .int .i64 e5, .int .u8 e6] 27)).setCell ⟨g, i, none⟩ (.int .i64 (m : Int))) := ⟨_, rfl⟩
              rw [← hW5] at rt1 rO HMID ⊢
              clear hW5 y0 y1 y2 r0
              refine regK16 rfl _ (by exact Nat.le_of_ble_eq_true rfl) _ g (g + 2) wr.heap.size i n t m i (goneB L i) hlt (by omega) (by omega) (by omega) (by exact rt1) (by exact rO) (by exact HMID.out.mp) rfl rfl rfl rfl ?_
              intro w6 m6 g6
              simp only [regK16_ds, putAll, List.setIfInBounds_toArray, List.set_cons_succ, List.set_cons_zero]
              have H6 : Hid (KeptSt W3 w6 g n L (i + 1)) := HMID.out.gone (by rw [← HKD.out]; decide) HX.out HN1.out m6 g6
              clear m6 g6 rt1 rO HMID
              go_wp2_with fail
              refine ⟨?_, ?measure⟩
              · exact ⟨i + 1, by omega, by go_num, H6⟩
              case measure => simp [intOf]; omega
            · have z10 : (kd == 10) = false := beq_eq_false_iff_ne.2 k10
              have z12 : (kd == 12) = false := beq_eq_false_iff_ne.2 k12
              have hsz := (Array.getElem?_eq_some_iff.1 (HST0.out).of).1
              have hsz1 := (Array.getElem?_eq_some_iff.1 (HST0.out).bg).1
              have y0 : (wr.alloc (.cells #[.int .u8 kd, .int .i64 (t : Int), .int .i64 e2, .int .i64 e3, .int .i64 e4, .int .i64 e5, .int .u8 e6] 27)).cell? ⟨g + 1, t, none⟩ = some (.int .i64 (m : Int)) := by rw [cell_of_row _ (g + 1) t _ _ _ (HST.out _).bg, rowV_get _ _ ht6, HM.out]
              have y0f := frozen_of_row _ (g + 1) t _ _ (HST.out (.cells #[.int .u8 kd, .int .i64 (t : Int), .int .i64 e2, .int .i64 e3, .int .i64 e4, .int .i64 e5, .int .u8 e6] 27)).bg
              have y1 : (wr.alloc (.cells #[.int .u8 kd, .int .i64 (t : Int), .int .i64 e2, .int .i64 e3, .int .i64 e4, .int .i64 e5, .int .u8 e6] 27)).cell? ⟨g, i, none⟩ = some (ofV L i i) := by rw [cell_of_row _ g i _ _ _ (HST.out _).of, rowV_get _ _ hlt]
              have y2 := frozen_of_row _ g i _ _ (HST.out (.cells #[.int .u8 kd, .int .i64 (t : Int), .int .i64 e2, .int .i64 e3, .int .i64 e4, .int .i64 e5, .int .u8 e6] 27)).of
              have rE := heap_alloc_new wr (.cells #[.int .u8 kd, .int .i64 (t : Int), .int .i64 e2, .int .i64 e3, .int .i64 e4, .int .i64 e5, .int .u8 e6] 27)
              have r5 : ((wr.alloc (.cells #[.int .u8 kd, .int .i64 (t : Int), .int .i64 e2, .int .i64 e3, .int .i64 e4, .int .i64 e5, .int .u8 e6] 27)).setCell ⟨g, i, none⟩ (.int .i64 (m : Int))).heap[wr.heap.size]? = some (.cells #[.int .u8 kd, .int .i64 (t : Int), .int .i64 e2, .int .i64 e3, .int .i64 e4, .int .i64 e5, .int .u8 e6] 27) := (hset_other _ _ _ _ _ (by omega)).trans rE
              have r0 := cell_of_row _ _ 0 _ _ _ r5
              have rt1 := cell_of_row _ _ 1 _ _ _ r5
              simp only [List.getElem?_toArray, List.getElem?_cons_zero, List.getElem?_cons_succ] at r0 rt1
              have H6 : Hid (KeptSt W3 ((wr.alloc (.cells #[.int .u8 kd, .int .i64 (t : Int), .int .i64 e2, .int .i64 e3, .int .i64 e4, .int .i64 e5, .int .u8 e6] 27)).setCell ⟨g, i, none⟩ (.int .i64 (m : Int))) g n L (i + 1)) := by rw [HM.out]; exact ((HST.out _).mid hlt HN.out (by rw [← HKD.out]; exact k1) HX.out).stay (by rw [← HKD.out]; exact ⟨k10, k12⟩)
              clear hsz hsz1 y0f rE r5 HSB rt1
              go_wp2_with fail
              refine ⟨?_, ?measure⟩
              · exact ⟨i + 1, by omega, by go_num, H6⟩
              case measure => simp [intOf]; omega
        · obtain rfl : i = n := by omega
          rename World => wz
          have xt0 := cell_of_row wz _ 0 _ _ _ rt
          have xt1 := cell_of_row wz _ 1 _ _ _ rt
          have xt2 := cell_of_row wz _ 2 _ _ _ rt
          simp only [List.getElem?_toArray, List.getElem?_cons_zero, List.getElem?_cons_succ] at xt0 xt1 xt2
          have hgw : g + 2 < wz.heap.size := hrow.out.mp.lt
          have RT := Lib.hid rt
          clear rt
          go_wp2_with fail
          clear xt0 xt1 xt2 x3
          obtain ⟨g8, hg8⟩ : ∃ g8, g8 = wz.heap.size := ⟨_, rfl⟩
          have K0 := Kept2.start wz T V sn
          obtain ⟨W7, hW7⟩ : ∃ W7, W7 = wz.alloc (.cells #[.int .i64 T, .int .i64 V, .int .i64 sn, .slice none 0 0] 35) := ⟨_, rfl⟩
          rw [← hW7] at K0 ⊢
          rw [← hg8] at K0 hgw ⊢
          clear hW7 hg8
          obtain ⟨G, hG⟩ : ∃ G : Int → Nat → Bool, G = fun t m => decide (0 ≤ t) && goneB L L.length t.toNat m := ⟨_, rfl⟩
          have KZ : Hid (Kept2 wz W7 g8 T V sn (keptF G L 0)) := K0
          have HG := Lib.hid hG
          clear K0 hG
          go_loopw [9] (fun jv wr => ∃ j : Nat, j ≤ i ∧ jv = .int .i64 j ∧ Hid (Kept2 wz wr g8 T V sn (keptF G L j))) (fun jv _ => i - (intOf jv).toNat)
          case atStart => exact ⟨0, by omega, rfl, KZ⟩
          case round =>
            obtain ⟨j, hj, rfl, hk2⟩ := hrel
            have ht3 := row_staysN RT.out hk2.out.b (by omega)
            have x3 := cell_of_row wr _ 3 _ _ _ ht3
            simp only [List.getElem?_toArray, List.getElem?_cons_zero, List.getElem?_cons_succ] at x3
            have BY : Hid (Below w.heap.size w wr) := BW.out.trans (hk2.out.b.mono (by omega))
            clear ht3
            by_cases hjl : j < i
            · obtain ⟨a, rfl, ha, hev⟩ := HE.out j (by rw [← HN.out]; exact hjl)
              have hev := hev.below BY.out (by rw [add_blockO]; exact ha)
              have hm := HFI.out j _ (nthE_of (by rw [← HN.out]; exact hjl))
              obtain ⟨_, hth, hk⟩ := (may_iff _ _ _ _).1 (may13 hm).1
              have hT6 : T ≤ 6 := by have := HSZ.out; simp only [size13, Bool.and_eq_true, decide_eq_true_eq] at this; omega
              obtain ⟨t, hte⟩ : ∃ t : Nat, (nthE L j).th = t := ⟨(nthE L j).th.toNat, by omega⟩
              have hof := (hk2.out.b.cell (p := ⟨g, j, none⟩) (by show g < g8; omega)).trans (hrow.out.ofC hjl)
              have hmp := hrow.out.mp.block (hk2.out.b.block (g + 2) (by omega))
              obtain ⟨m, hm9⟩ : ∃ m, m = numB t (L.take (j + 1)) := ⟨_, rfl⟩
              rw [hte, ← hm9] at hof
              have hml : m ≤ 2000 := by
                have h1 : numB t (L.take (j + 1)) ≤ (L.take (j + 1)).length := List.countP_le_length
                rw [List.length_take] at h1
                omega
              have HRUN : Hid (∀ l, (Instr.lookup 52 (.map (some (g + 2))) (.agg #[.int .i64 (t : Int), .int .i64 (m : Int)]) false).run Tryd.prog (wr.drewN l) = .ok (.int .i64 (if goneB L i t m = true then 1 else 0)) (wr.drewN l)) := fun l => (hmp.block ((drewN_belowW wr l).block _ hmp.lt)).look (by omega) (by omega)
              have HEV := Lib.hid hev
              have hnx := keptF_next (G := G) (L := L) (j := j) (by rw [← HN.out]; exact hjl)
              have hGe : G (nthE L j).th (numB (nthE L j).th (L.take (j + 1))) = goneB L i t m := by
                rw [HG.out, hte, ← hm9, HN.out]
                show (decide ((0 : Int) ≤ (t : Int)) && goneB L L.length (t : Int).toNat m) = _
                rw [decide_eq_true (by omega), Bool.true_and]
                rfl
              rw [hGe] at hnx
              have HNX := Lib.hid hnx
              have c1 := hev.c1
              rw [hte] at c1
              have hjj : (j : Int) < (i : Int) := by omega
              clear hev hm hte hth hk hm9 hmp hnx hGe
              have hof2 : wr.cell? ((⟨g, 0, none⟩ : Addr).add j) = some (.int .i64 (m : Int)) := by rw [row_add']; exact hof
              have hrun := HRUN.out
              by_cases hgn : goneB L i t m = true
              · simp only [hgn, if_true] at hrun
                have hK : keptF G L (j + 1) = keptF G L j := by rw [HNX.out, if_pos hgn]
                have HK := Lib.hid hK
                clear hgn hK HNX HRUN HEV
                go_wp2_with fail
                go_quiet (fail)
                go_wp2_with fail
                refine ⟨?_, ?measure⟩
                · exact ⟨j + 1, by omega, by go_num, by rw [HK.out]; exact hk2.out.drewN _⟩
                case measure => simp [intOf]; omega
              · have hgf : goneB L i t m = false := by simpa using hgn
                simp only [hgf, Bool.false_eq_true, if_false] at hrun
                have hK : keptF G L (j + 1) = keptF G L j ++ [nthE L j] := by rw [HNX.out, if_neg hgn]
                have HK := Lib.hid hK
                clear hgn hgf hK HNX HRUN
                go_wp2_with fail
                go_quiet (fail)
                go_wp2_with fail
                obtain ⟨A8, c8, r8, own8⟩ := hk2.out.u
                have hlt8 := (Array.getElem?_eq_some_iff.1 r8).1
                have c83 := cell_of_row wr g8 3 _ _ _ r8
                have f83 := frozen_of_row wr g8 3 _ _ r8
                simp only [List.getElem?_toArray, List.getElem?_cons_zero, List.getElem?_cons_succ] at c83
                refine regK23 rfl _ (by exact Nat.le_of_ble_eq_true rfl) _ g8 w.heap.size j i (keptF G L j).length c8 c A8 a (nthE L j) (evsC (keptF G L j)) hjl (by have := keptF_len G L j; omega) (by exact hlt8) (by omega) (by omega) (by exact c83) (by exact f83) (by exact x3) (by exact HEV.out.below (drewN_belowW wr _) (by rw [add_blockO]; have := BY.out.size; omega)) (by exact own8) rfl rfl rfl ?_
                intro y0 y1 y2 y3 y4 y5 y6 y7 A' c' w6 b6 own6
                simp only [regK23_ds, putAll, List.setIfInBounds_toArray, List.set_cons_succ, List.set_cons_zero]
                have H6 : Hid (Kept2 wz (w6.setCell ⟨g8, 3, none⟩ (.slice A' ((keptF G L j).length + 1) c')) g8 T V sn (keptF G L (j + 1))) := by rw [HK.out]; exact (hk2.out.drewN _).more b6 own6
                clear own6 b6 own8 r8 c83 f83
                go_wp2_with fail
                refine ⟨?_, ?measure⟩
                · exact ⟨j + 1, by omega, by go_num, H6⟩
                case measure => simp [intOf]; omega
            · obtain rfl : j = i := by omega
              obtain ⟨A8, c8, r8, own8⟩ := hk2.out.u
              have y0 := cell_of_row wr g8 0 _ _ _ r8
              have y1 := cell_of_row wr g8 1 _ _ _ r8
              have y2 := cell_of_row wr g8 2 _ _ _ r8
              have y3 := cell_of_row wr g8 3 _ _ _ r8
              simp only [List.getElem?_toArray, List.getElem?_cons_zero, List.getElem?_cons_succ] at y0 y1 y2 y3
              have hkl := keptF_len G L j
              have hfin : fineB T V sn (keptF G L j) = true := decide_eq_true (fine_iff.2 ⟨HSZ.out, by omega, (kept_fine HFI.out G (by rw [HG.out]; exact gone_all HFI.out) j (by rw [HN.out]; exact Nat.le_refl _)).1⟩)
              have HFK := Lib.hid (fine_any HC0.out.1 wr (HC0.out.1.below w wr HC0.out.2.1 BY.out) T V sn A8 (keptF G L j) c8 HC0.out.2.2.1 HC0.out.2.2.2.1 HC0.out.2.2.2.2 (by omega) (EvsAt.ownK own8 rfl (fun k hk => keptF_ok HE.out j k hk)).1)
              rw [hfin] at HFK
              unfold trV at HFK
              obtain ⟨kn, hkn⟩ : ∃ kn, kn = (keptF G L j).length := ⟨_, rfl⟩
              rw [← hkn] at HFK y3
              clear own8 r8 hfin hkn hkl
              go_wp2_with fail
              refine HFK.out.mono ?_
              rintro _ w9 ⟨rfl, b9⟩
              have B9 : Hid (Below w.heap.size w w9) := BY.out.trans (b9.mono BY.out.size)
              clear b9 y0 y1 y2 y3 x3
              go_wp2_with fail
              go_ret
              exact ⟨rfl, B9.out⟩
end Go.Proofs.YtnkkakcnlcmikaaDoor
