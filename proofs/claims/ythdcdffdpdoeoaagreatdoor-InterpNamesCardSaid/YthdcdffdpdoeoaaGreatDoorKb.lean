/-
  CONTRACT OF PACKAGE interp's New (layer 9). Conditions: as they stand.
-/
import Derived.Test.YthdcdffdpdoeoaaGreatDoorKa
namespace Go.Proofs.YthdcdffdpdoeoaaGreatDoor
set_option maxRecDepth 100000
open Go.RowKit Go.Deep
set_option linter.unusedVariables false
set_option maxHeartbeats 4000000 in
theorem new_arg (vars : Int) (hv : vars < 1 ∨ 32 < vars) (hw : wfI vars) (A : Option Addr) (k c : Nat) (G : Option Addr) (gk gc : Nat) (w : World) : Calls Tryz.prog 12 #[.slice A k c, .int .i64 vars, .slice G gk gc] w fun e w' => e = .returned (.tuple #[.pointer none, .int .i64 1]) ∧ Below w.heap.size w w' := by
  rcases hv with hv | hv
  · go_enter Tryz.func12, Tryz.ntmps12
    go_wp2_with fail
    exact bodyPost_ret (v := .tuple #[.pointer none, .int .i64 1]) (by simp [results, Tryz.results12, go_sem]) rfl ⟨rfl, by go_grown⟩
  · have hv2 : ¬ vars < 1 := by omega
    go_enter Tryz.func12, Tryz.ntmps12
    go_wp2_with fail
    exact bodyPost_ret (v := .tuple #[.pointer none, .int .i64 1]) (by simp [results, Tryz.results12, go_sem]) rfl ⟨rfl, by go_grown⟩
set_option maxHeartbeats 4000000 in
theorem new_form (D : Nat) (A : Option Addr) (c : Nat) (tx : List St) (vars : Int) (G : Option Addr) (gk gc : Nat) (w : World) (hkd : Kd w) (hk : SKids w 0 w.heap.size D A tx) (hD : D ≤ 1000) (hl : tx.length ≤ 1000) (hv1 : 1 ≤ vars) (hv2 : vars ≤ 32) (hg : gk ≤ 1000) (hm : mayF D tx gk = false) : Calls Tryz.prog 12 #[.slice A tx.length c, .int .i64 vars, .slice G gk gc] w fun e w' => e = .returned (.tuple #[.pointer none, .int .i64 4]) ∧ Below w.heap.size w w' := by
  have hn1 : ¬ vars < 1 := by omega
  have hn2 : ¬ 32 < vars := by omega
  have HM := Lib.hid (fun (W : World) (hb : Below w.heap.size w W) => codemay_of D A c tx gk (by omega) (by omega) 0 w.heap.size W (hkd.below hb (Nat.le_refl _)) (hk.below hb (Nat.le_refl _)) hb.size (by omega) (by omega))
  rw [hm] at HM
  clear hkd hk hm
  go_enter Tryz.func12, Tryz.ntmps12
  go_wp2_with fail
  refine (HM.out w (Below.refl _ _)).mono ?_
  rintro e w1 ⟨rfl, b1⟩
  have B1 := Lib.hid b1
  clear b1
  go_wp2_with fail
  exact bodyPost_ret (v := .tuple #[.pointer none, .int .i64 4]) (by simp [results, Tryz.results12, go_sem]) rfl ⟨rfl, B1.out⟩
set_option maxHeartbeats 8000000 in
theorem new_machine (D : Nat) (A : Option Addr) (c : Nat) (tx : List St) (vars : Int) (G : Option Addr) (gc : Nat) (got : List Int) (w : World) (hkd : Kd w) (hk : SKids w 0 w.heap.size D A tx) (hD : D ≤ 1000) (hl : tx.length ≤ 1000) (hv1 : 1 ≤ vars) (hv2 : vars ≤ 32) (hg : Ints w w.heap.size G got) (hgl : got.length ≤ 1000) (hgw : ∀ x ∈ got, wfI x) (hm : mayF D tx got.length = true) : Calls Tryz.prog 12 #[.slice A tx.length c, .int .i64 vars, .slice G got.length gc] w fun e w' =>
    ∃ (E : Ev9) (L' : List Fx) (T' : List (List Pr)) (A' : Option Addr) (c' : Nat) (S' SB' I' : Nat → Prop), e = .returned (.tuple #[.pointer (some ⟨E.q, 0, none⟩), .int .i64 0]) ∧ E.vars = vars ∧ E.got = got ∧ RMat E w' [0, 0, 0, 0, 0, 0, 0, 0] L' T' 0 A' c' S' SB' I' ∧ kOf (plF L') T' = bareI (itemsI tx []) ∧ flatB T' = [] ∧ T'.length = keptN (plF L') + 1 ∧ Ready9 (plF L') ∧ (∀ b, S' b → w.heap.size ≤ b) ∧ Below w.heap.size w w' := by
  have hn1 : ¬ vars < 1 := by omega
  have hn2 : ¬ 32 < vars := by omega
  obtain ⟨hsm, hgood⟩ := may_good hk hm
  have HM := Lib.hid (fun (W : World) (hb : Below w.heap.size w W) => codemay_of D A c tx got.length (by omega) (by omega) 0 w.heap.size W (hkd.below hb (Nat.le_refl _)) (hk.below hb (Nat.le_refl _)) hb.size (by omega) (by omega))
  rw [hm] at HM
  have HC := Lib.hid (fun (W : World) (hb : Below w.heap.size w W) => codecopy9_any D A c tx 0 w.heap.size W (hk.below hb (Nat.le_refl _)) hb.size (by omega) hsm)
  have HG := Lib.hid (fun (W : World) (hb : Below w.heap.size w W) => clone_ints9 (got.map (Value.int .i64)) got.length (by simp) (by intro u hu; obtain ⟨x, _, rfl⟩ := List.mem_map.1 hu; rfl) (by omega) G gc W (fun k hk => by
    obtain ⟨p, e, _, hc⟩ := (hg.below hb (Nat.le_refl _)).cell k (by simpa using hk)
    exact ⟨p, e, by rw [hc]; simp⟩))
  have HB9 := Lib.hid (fun (W : World) => new_any W)
  have HGG := Lib.hid (And.intro hgood (And.intro hgl (And.intro hgw (And.intro hv1 (And.intro hv2 hl)))))
  clear hkd hk hm hsm hgood hg hgl hgw hv1 hv2
  go_enter Tryz.func12, Tryz.ntmps12
  go_wp2_with fail
  refine (HM.out w (Below.refl _ _)).mono ?_
  rintro e w1 ⟨rfl, b1⟩
  have B1 := Lib.hid b1
  clear b1
  go_wp2_with fail
  refine (HG.out w1 B1.out).mono ?_
  rintro e w2 ⟨G2, gc2, rfl, own2, b2⟩
  have B2 := Lib.hid (B1.out.trans (b2.mono B1.out.size))
  have OWN2 := Lib.hid own2
  have B12 := Lib.hid b2
  clear b2 own2
  go_wp2_with fail
  refine (HB9.out w2).mono ?_
  rintro e w3 ⟨rfl, rb3, b3, z3⟩
  have B3 := Lib.hid (B2.out.trans (b3.mono B2.out.size))
  have B23 := Lib.hid b3
  have RB3 := Lib.hid rb3
  have Z3 := Lib.hid z3
  clear rb3 b3 z3
  go_wp2_with fail
  obtain ⟨W4, hW4⟩ : ∃ W4, W4 = w3.alloc (.cells #[.int .i64 vars, .slice G2 got.length gc2, .int .i64 0, .int .i64 0, .int .i64 0, .int .i64 0, .int .i64 0, .int .i64 0, .int .i64 0, .int .i64 0, .pointer (some ⟨w2.heap.size, 0, none⟩), .slice none 0 0, .int .i64 0] 63) := ⟨_, rfl⟩
  have hb4 : Below w3.heap.size w3 W4 := by rw [hW4]; exact (Below.refl _ _).alloc (Nat.le_refl _) _
  have hq4 : W4.heap[w3.heap.size]? = some (.cells #[.int .i64 vars, .slice G2 got.length gc2, .int .i64 0, .int .i64 0, .int .i64 0, .int .i64 0, .int .i64 0, .int .i64 0, .int .i64 0, .int .i64 0, .pointer (some ⟨w2.heap.size, 0, none⟩), .slice none 0 0, .int .i64 0] 63 (0, 0)) := by rw [hW4]; exact World.alloc_heap_new w3 _
  have hz4 : W4.heap.size = w3.heap.size + 1 := by rw [hW4]; simp
  rw [← hW4]
  clear hW4
  have B4 := Lib.hid (B3.out.trans (hb4.mono B3.out.size))
  have HQ4 := Lib.hid hq4
  have B34 := Lib.hid hb4
  have Z4 := Lib.hid hz4
  clear hb4 hq4 hz4
  refine (HC.out W4 B4.out).mono ?_
  rintro e w5 ⟨A5, c5, rfl, hcap5, hk5, b5, _⟩
  have HM5 : Hid (RMat ⟨w3.heap.size, vars, got, G2, gc2, w2.heap.size, W4.heap.size, w5.heap.size, D⟩ w5 [0, 0, 0, 0, 0, 0, 0, 0] [] [[]] 0 none 0 (fun b => w.heap.size ≤ b ∧ b < w5.heap.size) (fun b => b = w2.heap.size) (fun b => (W4.heap.size ≤ b ∧ b < w5.heap.size) ∨ ∃ p, G2 = some p ∧ b = p.block)) := by
    obtain ⟨_, hgl, hgw, hv1, hv2, _⟩ := HGG.out
    have s0 := B1.out.size
    have s1 := B2.out.size
    have s3 := B23.out.size
    have s4 := Z4.out
    have s5 := b5.size
    have z3 := Z3.out
    have s2 := B12.out.size
    have hgb : ∀ p, G2 = some p → w1.heap.size ≤ p.block ∧ p.block < w2.heap.size := fun p e => OWN2.out.lt p.block (by rw [e]; rfl)
    have b25 : Below w2.heap.size w2 w5 := (B23.out.trans (B34.out.mono (by omega))).trans (b5.mono (by omega))
    exact {
      obj := by
        show w5.heap[w3.heap.size]? = _
        rw [b5.block w3.heap.size (by omega), HQ4.out]
        rfl
      row := World.ownsRow_nil _ _ _ _
      rowS := fun p e => by cases e
      buf := RB3.out.keep (Fro.of_below (S := fun _ => False) ((B34.out.trans (b5.mono (by omega)))) (Nat.le_refl _)) (fun b hb => id)
      bufS := fun b hb => by
        subst hb
        refine ⟨⟨by omega, by omega⟩, fun hi => ?_, by show w2.heap.size ≠ w3.heap.size; omega⟩
        rcases hi with hi | ⟨p, e, hi⟩
        · omega
        · have := hgb p e; omega
      qS := ⟨by show w.heap.size ≤ w3.heap.size; omega, by show w3.heap.size < _; omega⟩
      qI := fun hi => by
        rcases hi with hi | ⟨p, e, hi⟩
        · have : W4.heap.size ≤ w3.heap.size := hi.1; omega
        · have := hgb p e; have hi : w3.heap.size = p.block := hi; omega
      IS := fun b hb => by
        rcases hb with hb | ⟨p, e, rfl⟩
        · exact ⟨by omega, hb.2⟩
        · have := hgb p e; exact ⟨by omega, by omega⟩
      win := fun b b1 b2 => .inl ⟨b1, b2⟩
      hiw := Nat.le_refl _
      got := fun k hk => by
        have hk : k < got.length := hk
        obtain ⟨g, cap, hv, _, hlt⟩ := OWN2.out.form (by omega)
        injection hv with hA
        refine ⟨⟨g, 0, none⟩, hA, .inr ⟨_, hA, rfl⟩, ?_⟩
        have := OWN2.out.cells (g := g) (by rw [hA]; rfl) k (.int .i64 got[k]) (by simp [hk])
        refine (b25.cell ?_).trans this
        rw [ad_block]
        exact (hgb _ hA).2
      gl := hgl
      gwf := hgw
      len := rfl
      wf := fun x hx => by simp at hx; rw [hx]; rw [wf_iff]; omega
      fr := fun f hf => by cases hf
      deep := ⟨0, by show (0 : Nat) ≤ 7; omega⟩
      lev := by decide
      flat := by decide
      v1 := hv1
      v2 := hv2
      lt := fun b hb => hb.2 }
  have HEN := Lib.hid (enter_any HM5.out ⟨tx, A5, c5, [], none, 0, 0, none⟩ ⟨hk5, hcap5, SKc.nil _ _ _ _ _, Nat.le_refl _, Nat.zero_le _, by have := HGG.out.2.2.2.2.2; show tx.length ≤ _; omega, Nat.zero_le _, fun k e => by cases e⟩ ⟨6, ⟨HGG.out.1, by simp [Fx.pl], by simp [Fx.pl]⟩, by show (7 : Nat) ≤ 7; omega⟩)
  have B5 := Lib.hid (B4.out.trans (b5.mono B4.out.size))
  clear hcap5 hk5 b5
  go_wp2_with fail
  refine HEN.out.mono ?_
  rintro e w6 ⟨⟨v, rfl⟩, A6, c6, S6, h6, t6⟩
  have HLV := Lib.hid (leave_any h6 (by rfl) (by decide))
  have T6 := Lib.hid t6
  clear h6 t6
  go_wp2_with fail
  refine HLV.out.mono ?_
  rintro e w7 ⟨⟨v7, rfl⟩, L7, T7, A7, c7, S7, SB7, h7, t7, k7, f7, n7, r7⟩
  have HR := Lib.hid (And.intro h7 (And.intro (T6.out.trans t7) (And.intro k7 (And.intro f7 (And.intro n7 r7)))))
  clear h7 t7 k7 f7 n7 r7
  go_wp2_with fail
  refine bodyPost_ret (v := .tuple #[.pointer (some ⟨w3.heap.size, 0, none⟩), .int .i64 0]) (by simp [results, Tryz.results12, go_sem]) rfl ?_
  have hs5 := B5.out.size
  refine ⟨_, L7, T7, A7, c7, S7, SB7, _, rfl, rfl, rfl, HR.out.1, HR.out.2.2.1, HR.out.2.2.2.1, HR.out.2.2.2.2.1, HR.out.2.2.2.2.2, fun b hb => ?_, ?_⟩
  · rcases HR.out.2.1.own b hb with e | e
    · exact e.1
    · omega
  · exact B5.out.trans (HR.out.2.1.fro.below (fun i hi => hi.1) hs5)
end Go.Proofs.YthdcdffdpdoeoaaGreatDoor
