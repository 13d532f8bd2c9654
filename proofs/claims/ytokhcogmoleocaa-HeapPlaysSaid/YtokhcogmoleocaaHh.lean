/-
  CONTRACTS OF PACKAGE heap: slices.Clone of numbers; Values, Owners, Versions. Laid by gen/gen_hh.py. Conditions: as they stand.
-/
import Derived.Test.YtokhcogmoleocaaHg
import Derived.Laws.AppendOwn
import Derived.StillTailTactics
namespace Go.Proofs.Ytokhcogmoleocaa
set_option maxRecDepth 100000
open Go.RowKit Go.Deep
set_option linter.unusedVariables false
/-- What a Clone leaves. -/
def Cloned1H (t : TypeId) (vs : List Value) (n : Nat) (w : World) (e : Ending) (w' : World) : Prop := ∃ A cap, e = .returned (.slice A n cap) ∧ w'.ownsRow w.heap.size t 1 (.slice A n cap) n vs ∧ Below w.heap.size w w'
theorem cloned1_ofH {t : TypeId} {vs : List Value} {n : Nat} {w w1 w' : World} {v : Value} (h : w'.ownsRow w.heap.size t 1 v n vs) (hb : Below w.heap.size w w') : Cloned1H t vs n w (.returned v) w' := by
  have h' := h
  obtain ⟨_, ⟨rfl, rfl⟩ | ⟨g, cap, cur, rfl, _⟩⟩ := h'
  · exact ⟨none, 0, rfl, h, hb⟩
  · exact ⟨_, cap, rfl, h, hb⟩
theorem int64_info6H : (Try.prog.info? 2).map (fun i => (i.zero, i.size, i.bytes)) = some (some (.int .i64 0), 1, 8) := by kernel_rfl
theorem eqcIn_intsH (d : Nat) (b : Option Addr) (l c : Nat) (w : World) : (Op.equalIn (d + 1) 33 (.slice b l c) (.slice none 0 0)).run Try.prog w = .ok b.isNone w := by
  cases b <;> simp [Op.equalIn, run_underlying Try.underlying33]
theorem eqc_intsH (b : Option Addr) (l c : Nat) (w : World) : (Op.equal 33 (.slice b l c) (.slice none 0 0)).run Try.prog w = .ok b.isNone w := eqcIn_intsH 9999 b l c w
theorem eqcl_intsH (b : Option Addr) (l c : Nat) (w : World) : (Go.binOp .eql 33 (.slice b l c) (.slice none 0 0)).run Try.prog w = .ok (.bool b.isNone) w := by
  simp only [Go.binOp]
  simp [eqc_intsH]
set_option maxRecDepth 100000 in
theorem clone_intsH (vs : List Value) (n : Nat) (hvn : vs.length = n) (h1 : ∀ u ∈ vs, u.oneCell' = true) (hn : n ≤ 100000) (A : Option Addr) (c : Nat) (w : World) (h : ∀ k (h : k < vs.length), ∃ p, A = some p ∧ w.cell? (p.add k) = some vs[k]) :
    Calls Try.prog 43 #[.slice A n c] w (Cloned1H 2 vs n w) := by
  cases A with
  | none =>
    have h0 : vs = [] := by
      cases vs with
      | nil => rfl
      | cons x r =>
        obtain ⟨p, hp, _⟩ := h 0 (by simp)
        cases hp
    subst h0
    obtain rfl : n = 0 := by simpa using hvn.symm
    have heq := eqcl_intsH none
    clear h h1 hvn
    go_enter Try.func43, Try.ntmps43
    go_wp2_with fail
    go_ret
    exact cloned1_ofH (w1 := w) (World.ownsRow_nil _ _ _ _) (Below.refl _ _)
  | some p =>
    have heq := eqcl_intsH (some p)
    have hb0 : Below w.heap.size w (w.alloc (.cells #[] 2)) := (Below.refl _ _).alloc (Nat.le_refl _) _
    have hown := World.ownsRow_made (e := 2) (base := w.heap.size) (size := 1) w #[] 0 (Nat.le_refl _) (by unfold maxLen; omega) rfl
    have HN : Hid (∀ j u, vs[j]? = some u → (w.alloc (.cells #[] 2)).cell? (p.add j) = some u) := fun j u hu => by
      have hj : j < vs.length := by
        rcases Nat.lt_or_ge j vs.length with h | h
        · exact h
        · rw [List.getElem?_eq_none h] at hu; cases hu
      obtain ⟨p', hp, hc⟩ := h j hj
      cases hp
      rw [List.getElem?_eq_getElem hj] at hu
      rw [← hu, ← hc]
      exact hb0.cell (block_lt_of_cell hc)
    have HOWN := Lib.hid hown
    have HB := Lib.hid hb0
    have H1 := Lib.hid h1
    have HL := Lib.hid hvn
    obtain ⟨i0, hi0, hz0, hz1, hz2⟩ := info_parts2 int64_info6H
    clear h hb0 hown h1 hvn
    go_enter Try.func43, Try.ntmps43
    go_wp2_with (first
      | (at_builtin; refine wpList_append_own _ rfl _ _ 33 rfl w.heap.size 2 i0 _ 1 8 Try.underlying33 hi0 hz0 hz1 hz2 rfl (by decide) _ 0 [] rfl HOWN.out p n c vs rfl (by rw [HL.out]; omega) HN.out H1.out (by unfold maxLen; omega) (by omega) (by simp) ?_; intro v' w' hown' hgrow hnil)
      | fail)
    rw [Nat.zero_add, List.nil_append] at hown'
    have hbl : Below w.heap.size w w' := HB.out.grown hgrow (by simp) (fun k e => by
      have h9 : some k = some w.heap.size := e.symm
      cases h9
      exact Nat.le_refl _)
    go_ret
    exact cloned1_ofH (w1 := w) hown' hbl
theorem int_info6HI : (Try.prog.info? 3).map (fun i => (i.zero, i.size, i.bytes)) = some (some (.int .i64 0), 1, 8) := by kernel_rfl
theorem eqcIn_intsHI (d : Nat) (b : Option Addr) (l c : Nat) (w : World) : (Op.equalIn (d + 1) 35 (.slice b l c) (.slice none 0 0)).run Try.prog w = .ok b.isNone w := by
  cases b <;> simp [Op.equalIn, run_underlying Try.underlying35]
theorem eqc_intsHI (b : Option Addr) (l c : Nat) (w : World) : (Op.equal 35 (.slice b l c) (.slice none 0 0)).run Try.prog w = .ok b.isNone w := eqcIn_intsHI 9999 b l c w
theorem eqcl_intsHI (b : Option Addr) (l c : Nat) (w : World) : (Go.binOp .eql 35 (.slice b l c) (.slice none 0 0)).run Try.prog w = .ok (.bool b.isNone) w := by
  simp only [Go.binOp]
  simp [eqc_intsHI]
set_option maxRecDepth 100000 in
theorem clone_intsHI (vs : List Value) (n : Nat) (hvn : vs.length = n) (h1 : ∀ u ∈ vs, u.oneCell' = true) (hn : n ≤ 100000) (A : Option Addr) (c : Nat) (w : World) (h : ∀ k (h : k < vs.length), ∃ p, A = some p ∧ w.cell? (p.add k) = some vs[k]) :
    Calls Try.prog 44 #[.slice A n c] w (Cloned1H 3 vs n w) := by
  cases A with
  | none =>
    have h0 : vs = [] := by
      cases vs with
      | nil => rfl
      | cons x r =>
        obtain ⟨p, hp, _⟩ := h 0 (by simp)
        cases hp
    subst h0
    obtain rfl : n = 0 := by simpa using hvn.symm
    have heq := eqcl_intsHI none
    clear h h1 hvn
    go_enter Try.func44, Try.ntmps44
    go_wp2_with fail
    go_ret
    exact cloned1_ofH (w1 := w) (World.ownsRow_nil _ _ _ _) (Below.refl _ _)
  | some p =>
    have heq := eqcl_intsHI (some p)
    have hb0 : Below w.heap.size w (w.alloc (.cells #[] 3)) := (Below.refl _ _).alloc (Nat.le_refl _) _
    have hown := World.ownsRow_made (e := 3) (base := w.heap.size) (size := 1) w #[] 0 (Nat.le_refl _) (by unfold maxLen; omega) rfl
    have HN : Hid (∀ j u, vs[j]? = some u → (w.alloc (.cells #[] 3)).cell? (p.add j) = some u) := fun j u hu => by
      have hj : j < vs.length := by
        rcases Nat.lt_or_ge j vs.length with h | h
        · exact h
        · rw [List.getElem?_eq_none h] at hu; cases hu
      obtain ⟨p', hp, hc⟩ := h j hj
      cases hp
      rw [List.getElem?_eq_getElem hj] at hu
      rw [← hu, ← hc]
      exact hb0.cell (block_lt_of_cell hc)
    have HOWN := Lib.hid hown
    have HB := Lib.hid hb0
    have H1 := Lib.hid h1
    have HL := Lib.hid hvn
    obtain ⟨i0, hi0, hz0, hz1, hz2⟩ := info_parts2 int_info6HI
    clear h hb0 hown h1 hvn
    go_enter Try.func44, Try.ntmps44
    go_wp2_with (first
      | (at_builtin; refine wpList_append_own _ rfl _ _ 35 rfl w.heap.size 3 i0 _ 1 8 Try.underlying35 hi0 hz0 hz1 hz2 rfl (by decide) _ 0 [] rfl HOWN.out p n c vs rfl (by rw [HL.out]; omega) HN.out H1.out (by unfold maxLen; omega) (by omega) (by simp) ?_; intro v' w' hown' hgrow hnil)
      | fail)
    rw [Nat.zero_add, List.nil_append] at hown'
    have hbl : Below w.heap.size w w' := HB.out.grown hgrow (by simp) (fun k e => by
      have h9 : some k = some w.heap.size := e.symm
      cases h9
      exact Nat.le_refl _)
    go_ret
    exact cloned1_ofH (w1 := w) hown' hbl
theorem ints_ownH {w : World} {base : Nat} {t : TypeId} {A : Option Addr} {cap : Nat} {L : List Int} (h : w.ownsRow base t 1 (.slice A L.length cap) L.length (L.map (Value.int .i64))) (hl : L.length ≤ 100000) : ∃ (A' : Option Addr) (c' : Nat), Value.slice A L.length cap = .slice A' L.length c' ∧ Ints w w.heap.size A' L := by
  refine ⟨A, cap, rfl, by omega, fun k hk => ?_⟩
  obtain ⟨g, hg⟩ : ∃ g, A = some ⟨g, 0, none⟩ := by
    rcases h.2 with ⟨hv, h0⟩ | ⟨g, cap', cur, hv, _⟩
    · omega
    · injection hv with e1 _ _
      exact ⟨g, e1⟩
  subst hg
  have h1 := h.lt g rfl
  exact ⟨_, rfl, h1.2, h.cells (g := g) rfl k _ (by rw [List.getElem?_map, List.getElem?_eq_getElem hk]; rfl)⟩
theorem ownsRow_lowH {w : World} {base B : Nat} {t : TypeId} {size n : Nat} {v : Value} {xs : List Value} (h : w.ownsRow base t size v n xs) (hB : B ≤ base) : w.ownsRow B t size v n xs :=
  ⟨h.1, h.2.imp id fun ⟨g, cap, cur, a, b, c⟩ => ⟨g, cap, cur, a, Nat.le_trans hB b, c⟩⟩
/-- The numbers that Values tells. -/
def valuesL (c : Nat → Int) : List Int := (List.range (c 67).toNat).map fun j => c (68 + j)
set_option maxHeartbeats 8000000 in
theorem values_any {w : World} {g : Nat} {c : Nat → Int} (h : HeapAt w g c) (hb : HB c) : Calls Try.prog 23 #[.pointer (some ⟨g, 0, none⟩)] w fun e w' => ∃ (A : Option Addr) (cap : Nat), e = .returned (.slice A (valuesL c).length cap) ∧ Ints w' w'.heap.size A (valuesL c) ∧ w'.ownsRow w.heap.size 2 1 (.slice A (valuesL c).length cap) (valuesL c).length ((valuesL c).map (Value.int .i64)) ∧ Below w.heap.size w w' := by
  have HH := Lib.hid (here_any w g)
  obtain ⟨n, hn⟩ : ∃ n : Nat, c 67 = n := ⟨(c 67).toNat, by have := hb.s1; have := hb.v1; omega⟩
  have hn32 : n ≤ 32 := by have := hb.s2; have := hb.v2; omega
  have hlen : (valuesL c).length = n := by simp [valuesL, hn]
  have hgl := h.lt
  have c1 := h.cell (i := 67) (by decide)
  rw [hn] at c1
  have CC : Hid (∀ W, Below w.heap.size w W → Calls Try.prog 43 #[.slice (some ⟨g, 68, none⟩) n 32] W (Cloned1H 2 ((valuesL c).map (Value.int .i64)) n W)) := fun W hW => clone_intsH _ n (by rw [List.length_map]; exact hlen) (by simp [Value.oneCell']) (by omega) (some ⟨g, 68, none⟩) 32 W (fun j hj => by
    rw [List.length_map] at hj
    refine ⟨_, rfl, ?_⟩
    have ea : (⟨g, 68, none⟩ : Addr).add j = ⟨g, 68 + j, none⟩ := by unfold Addr.add; split <;> simp_all
    have hc := h.cell (i := 68 + j) (by omega)
    rw [ea]
    refine ((hW.cell (p := ⟨g, 68 + j, none⟩) hgl).trans hc).trans ?_
    simp [valuesL])
  have HE : Hid (∀ {e : Ending} {W w' : World}, Below w.heap.size w W → Cloned1H 2 ((valuesL c).map (Value.int .i64)) n W e w' → ∃ (A : Option Addr) (cap : Nat), e = .returned (.slice A (valuesL c).length cap) ∧ Ints w' w'.heap.size A (valuesL c) ∧ w'.ownsRow w.heap.size 2 1 (.slice A (valuesL c).length cap) (valuesL c).length ((valuesL c).map (Value.int .i64)) ∧ Below w.heap.size w w') := fun {e W w'} hW hC => by
    obtain ⟨A, cap, rfl, hr, hb'⟩ := hC
    rw [← hlen] at hr ⊢
    obtain ⟨A2, c2, hv, hi⟩ := ints_ownH hr (by omega)
    injection hv with e1 _ e3
    subst e1 e3
    refine ⟨A, cap, rfl, hi, ?_, hW.trans (hb'.mono hW.size)⟩
    exact ownsRow_lowH hr hW.size
  clear h hb hlen
  go_enter Try.func23, Try.ntmps23
  go_wp2_with fail
  refine HH.out.mono ?_
  rintro e w' ⟨rfl, rfl⟩
  clear HH
  have i0 : (0 : Int) ≤ (n : Int) := by omega
  have i1 : (n : Int) ≤ 32 := by omega
  go_upto_region 2 with fail
  have CC2 := Lib.hid (CC.out w.drew ((Below.refl _ _).drew))
  clear CC
  go_still_tail 8, (by kernel_rfl)
  change wpList _ _ _ _ _ w.drew
  go_wp2_with fail
  refine CC2.out.mono ?_
  rintro e w' hC
  obtain ⟨A, cap, rfl, hI, hO, hB⟩ := HE.out ((Below.refl _ _).drew) hC
  obtain ⟨L, hL⟩ : ∃ L, L = valuesL c := ⟨_, rfl⟩
  rw [← hL] at hI hO
  have HL := Lib.hid hL
  have HI := Lib.hid hI
  have HO := Lib.hid hO
  have HB := Lib.hid hB
  clear hC hL hI hO hB HE
  go_wp2_with fail
  go_ret
  rw [← HL.out]
  exact ⟨A, cap, rfl, HI.out, HO.out, HB.out⟩
/-- The numbers that Owners tells. -/
def ownersL (c : Nat → Int) : List Int := (List.range (c 0).toNat).map fun j => c (1 + j)
set_option maxHeartbeats 8000000 in
theorem owners_any {w : World} {g : Nat} {c : Nat → Int} (h : HeapAt w g c) (hb : HB c) : Calls Try.prog 24 #[.pointer (some ⟨g, 0, none⟩)] w fun e w' => ∃ (A : Option Addr) (cap : Nat), e = .returned (.slice A (ownersL c).length cap) ∧ Ints w' w'.heap.size A (ownersL c) ∧ w'.ownsRow w.heap.size 3 1 (.slice A (ownersL c).length cap) (ownersL c).length ((ownersL c).map (Value.int .i64)) ∧ Below w.heap.size w w' := by
  have HH := Lib.hid (here_any w g)
  obtain ⟨n, hn⟩ : ∃ n : Nat, c 0 = n := ⟨(c 0).toNat, by have := hb.s1; have := hb.v1; omega⟩
  have hn32 : n ≤ 32 := by have := hb.s2; have := hb.v2; omega
  have hlen : (ownersL c).length = n := by simp [ownersL, hn]
  have hgl := h.lt
  have c1 := h.cell (i := 0) (by decide)
  rw [hn] at c1
  have CC : Hid (∀ W, Below w.heap.size w W → Calls Try.prog 44 #[.slice (some ⟨g, 1, none⟩) n 32] W (Cloned1H 3 ((ownersL c).map (Value.int .i64)) n W)) := fun W hW => clone_intsHI _ n (by rw [List.length_map]; exact hlen) (by simp [Value.oneCell']) (by omega) (some ⟨g, 1, none⟩) 32 W (fun j hj => by
    rw [List.length_map] at hj
    refine ⟨_, rfl, ?_⟩
    have ea : (⟨g, 1, none⟩ : Addr).add j = ⟨g, 1 + j, none⟩ := by unfold Addr.add; split <;> simp_all
    have hc := h.cell (i := 1 + j) (by omega)
    rw [ea]
    refine ((hW.cell (p := ⟨g, 1 + j, none⟩) hgl).trans hc).trans ?_
    simp [ownersL])
  have HE : Hid (∀ {e : Ending} {W w' : World}, Below w.heap.size w W → Cloned1H 3 ((ownersL c).map (Value.int .i64)) n W e w' → ∃ (A : Option Addr) (cap : Nat), e = .returned (.slice A (ownersL c).length cap) ∧ Ints w' w'.heap.size A (ownersL c) ∧ w'.ownsRow w.heap.size 3 1 (.slice A (ownersL c).length cap) (ownersL c).length ((ownersL c).map (Value.int .i64)) ∧ Below w.heap.size w w') := fun {e W w'} hW hC => by
    obtain ⟨A, cap, rfl, hr, hb'⟩ := hC
    rw [← hlen] at hr ⊢
    obtain ⟨A2, c2, hv, hi⟩ := ints_ownH hr (by omega)
    injection hv with e1 _ e3
    subst e1 e3
    refine ⟨A, cap, rfl, hi, ?_, hW.trans (hb'.mono hW.size)⟩
    exact ownsRow_lowH hr hW.size
  clear h hb hlen
  go_enter Try.func24, Try.ntmps24
  go_wp2_with fail
  refine HH.out.mono ?_
  rintro e w' ⟨rfl, rfl⟩
  clear HH
  have i0 : (0 : Int) ≤ (n : Int) := by omega
  have i1 : (n : Int) ≤ 32 := by omega
  go_upto_region 2 with fail
  have CC2 := Lib.hid (CC.out w.drew ((Below.refl _ _).drew))
  clear CC
  go_still_tail 10, (by kernel_rfl)
  change wpList _ _ _ _ _ w.drew
  go_wp2_with fail
  refine CC2.out.mono ?_
  rintro e w' hC
  obtain ⟨A, cap, rfl, hI, hO, hB⟩ := HE.out ((Below.refl _ _).drew) hC
  obtain ⟨L, hL⟩ : ∃ L, L = ownersL c := ⟨_, rfl⟩
  rw [← hL] at hI hO
  have HL := Lib.hid hL
  have HI := Lib.hid hI
  have HO := Lib.hid hO
  have HB := Lib.hid hB
  clear hC hL hI hO hB HE
  go_wp2_with fail
  go_ret
  rw [← HL.out]
  exact ⟨A, cap, rfl, HI.out, HO.out, HB.out⟩
/-- The numbers that Versions tells. -/
def versionsL (c : Nat → Int) : List Int := (List.range (c 0).toNat).map fun j => c (33 + j)
set_option maxHeartbeats 8000000 in
theorem versions_any {w : World} {g : Nat} {c : Nat → Int} (h : HeapAt w g c) (hb : HB c) : Calls Try.prog 25 #[.pointer (some ⟨g, 0, none⟩)] w fun e w' => ∃ (A : Option Addr) (cap : Nat), e = .returned (.slice A (versionsL c).length cap) ∧ Ints w' w'.heap.size A (versionsL c) ∧ w'.ownsRow w.heap.size 3 1 (.slice A (versionsL c).length cap) (versionsL c).length ((versionsL c).map (Value.int .i64)) ∧ Below w.heap.size w w' := by
  have HH := Lib.hid (here_any w g)
  obtain ⟨n, hn⟩ : ∃ n : Nat, c 0 = n := ⟨(c 0).toNat, by have := hb.s1; have := hb.v1; omega⟩
  have hn32 : n ≤ 32 := by have := hb.s2; have := hb.v2; omega
  have hlen : (versionsL c).length = n := by simp [versionsL, hn]
  have hgl := h.lt
  have c1 := h.cell (i := 0) (by decide)
  rw [hn] at c1
  have CC : Hid (∀ W, Below w.heap.size w W → Calls Try.prog 44 #[.slice (some ⟨g, 33, none⟩) n 32] W (Cloned1H 3 ((versionsL c).map (Value.int .i64)) n W)) := fun W hW => clone_intsHI _ n (by rw [List.length_map]; exact hlen) (by simp [Value.oneCell']) (by omega) (some ⟨g, 33, none⟩) 32 W (fun j hj => by
    rw [List.length_map] at hj
    refine ⟨_, rfl, ?_⟩
    have ea : (⟨g, 33, none⟩ : Addr).add j = ⟨g, 33 + j, none⟩ := by unfold Addr.add; split <;> simp_all
    have hc := h.cell (i := 33 + j) (by omega)
    rw [ea]
    refine ((hW.cell (p := ⟨g, 33 + j, none⟩) hgl).trans hc).trans ?_
    simp [versionsL])
  have HE : Hid (∀ {e : Ending} {W w' : World}, Below w.heap.size w W → Cloned1H 3 ((versionsL c).map (Value.int .i64)) n W e w' → ∃ (A : Option Addr) (cap : Nat), e = .returned (.slice A (versionsL c).length cap) ∧ Ints w' w'.heap.size A (versionsL c) ∧ w'.ownsRow w.heap.size 3 1 (.slice A (versionsL c).length cap) (versionsL c).length ((versionsL c).map (Value.int .i64)) ∧ Below w.heap.size w w') := fun {e W w'} hW hC => by
    obtain ⟨A, cap, rfl, hr, hb'⟩ := hC
    rw [← hlen] at hr ⊢
    obtain ⟨A2, c2, hv, hi⟩ := ints_ownH hr (by omega)
    injection hv with e1 _ e3
    subst e1 e3
    refine ⟨A, cap, rfl, hi, ?_, hW.trans (hb'.mono hW.size)⟩
    exact ownsRow_lowH hr hW.size
  clear h hb hlen
  go_enter Try.func25, Try.ntmps25
  go_wp2_with fail
  refine HH.out.mono ?_
  rintro e w' ⟨rfl, rfl⟩
  clear HH
  have i0 : (0 : Int) ≤ (n : Int) := by omega
  have i1 : (n : Int) ≤ 32 := by omega
  go_upto_region 2 with fail
  have CC2 := Lib.hid (CC.out w.drew ((Below.refl _ _).drew))
  clear CC
  go_still_tail 10, (by kernel_rfl)
  change wpList _ _ _ _ _ w.drew
  go_wp2_with fail
  refine CC2.out.mono ?_
  rintro e w' hC
  obtain ⟨A, cap, rfl, hI, hO, hB⟩ := HE.out ((Below.refl _ _).drew) hC
  obtain ⟨L, hL⟩ : ∃ L, L = versionsL c := ⟨_, rfl⟩
  rw [← hL] at hI hO
  have HL := Lib.hid hL
  have HI := Lib.hid hI
  have HO := Lib.hid hO
  have HB := Lib.hid hB
  clear hC hL hI hO hB HE
  go_wp2_with fail
  go_ret
  rw [← HL.out]
  exact ⟨A, cap, rfl, HI.out, HO.out, HB.out⟩
end Go.Proofs.Ytokhcogmoleocaa
