/-
  STEPS (layer 11's statements): as they lie in memory, opened out of an argument, or handed in by value; what one does; a heap behind many. Conditions: as they stand.
-/
import Derived.Test.YtokhcogmoleocaaHj
import Derived.Deep.Slices
import Derived.Deep.Fields
import Derived.Carry
namespace Go.Proofs.Ytokhcogmoleocaa
set_option maxRecDepth 100000
open Go.ChangeShapes Go.WideShapes Go.RowKit Go.Deep
set_option linter.unusedVariables false
structure S11 where
  kind : Nat
  at' : Int
  who : Int
  ver : Int
  x : Int
instance : Inhabited S11 := ⟨⟨0, 0, 0, 0, 0⟩⟩
def S11.v (s : S11) : Value := .agg #[.int .u8 s.kind, .int .i64 s.at', .int .i64 s.who, .int .i64 s.ver, .int .i64 s.x]
/-- Step number i. -/
def nth11 (L : List S11) (i : Nat) : S11 := L.getD i default
/-- At p lies a step. -/
structure SAt11 (w : World) (p : Addr) (s : S11) : Prop where
  c0 : w.cell? p = some (.int .u8 s.kind)
  c1 : w.cell? ⟨p.block, p.off + 1, none⟩ = some (.int .i64 s.at')
  c2 : w.cell? ⟨p.block, p.off + 2, none⟩ = some (.int .i64 s.who)
  c3 : w.cell? ⟨p.block, p.off + 3, none⟩ = some (.int .i64 s.ver)
  c4 : w.cell? ⟨p.block, p.off + 4, none⟩ = some (.int .i64 s.x)
/-- At A lie these steps, below block B. -/
def Steps11 (w : World) (B : Nat) (A : Option Addr) (L : List S11) : Prop := ∀ i, i < L.length → ∃ a, A = some a ∧ a.block < B ∧ SAt11 w (a.add (i * 5)) (nth11 L i)
theorem SAt11.below {w w' : World} {B : Nat} {p : Addr} {s : S11} (h : SAt11 w p s) (hb : Below B w w') (hp : p.block < B) : SAt11 w' p s :=
  ⟨(hb.cell hp).trans h.c0, (hb.cell (p := ⟨p.block, _, none⟩) hp).trans h.c1, (hb.cell (p := ⟨p.block, _, none⟩) hp).trans h.c2, (hb.cell (p := ⟨p.block, _, none⟩) hp).trans h.c3, (hb.cell (p := ⟨p.block, _, none⟩) hp).trans h.c4⟩
theorem Steps11.below {w w' : World} {B : Nat} {A : Option Addr} {L : List S11} (h : Steps11 w B A L) (hb : Below B w w') : Steps11 w' B A L := fun i hi => by
  obtain ⟨a, e, ha, hs⟩ := h i hi
  exact ⟨a, e, ha, hs.below hb (by rw [ad_block]; exact ha)⟩
section
variable {H : Type} {enc : TypeId × Value → H} {w : World} {base : Nat} {spare : Nat → Bool} {held : Bool}
theorem wf_u8H {n : Int} (h : (Lit.int .u8 n).wf = true) : 0 ≤ n ∧ n ≤ 255 := by simpa [Lit.wf, IntKind.min, IntKind.max, IntKind.signed, IntKind.bits] using h
theorem one_ofH {α : Type} {cs : List α} {j n : Nat} (hl : cs.length = n) (h : j < n) : ∃ v, (cs.drop j).take 1 = [v] ∧ cs[j]? = some v := by
  refine ⟨cs[j]'(by omega), ?_, List.getElem?_eq_getElem (by omega)⟩
  rw [List.drop_eq_getElem_cons (by omega)]
  rfl
theorem step_cellsH : Try.prog.cellsOf 48 = 5 := by kernel_rfl
theorem cells_u8H : Try.prog.cellsOf 5 = 1 := by kernel_rfl
theorem cells_i64H : Try.prog.cellsOf 2 = 1 := by kernel_rfl
theorem cells_intH : Try.prog.cellsOf 3 = 1 := by kernel_rfl
/-- The five cells of a step. -/
theorem open_cellsH {n : Nat} {cs : List Value} {x : DataW H × List MemPlace} (hl : cs.length = 5) (h : DataW.trod enc Try.prog w base spare held n 48 cs = some x) : ∃ s : S11, cs = [.int .u8 s.kind, .int .i64 s.at', .int .i64 s.who, .int .i64 s.ver, .int .i64 s.x] := by
  obtain ⟨xs, m, _, _, _, hxl, hf⟩ := DataW.trod_struct Try.underlying48 h
  obtain ⟨v0, t0, g0⟩ := one_ofH hl (show 0 < 5 by omega)
  obtain ⟨v1, t1, g1⟩ := one_ofH hl (show 1 < 5 by omega)
  obtain ⟨v2, t2, g2⟩ := one_ofH hl (show 2 < 5 by omega)
  obtain ⟨v3, t3, g3⟩ := one_ofH hl (show 3 < 5 by omega)
  obtain ⟨v4, t4, g4⟩ := one_ofH hl (show 4 < 5 by omega)
  have hx : xs.length = 5 := hxl
  obtain ⟨y0, _, z0⟩ := one_ofH hx (show 0 < 5 by omega)
  obtain ⟨y1, _, z1⟩ := one_ofH hx (show 1 < 5 by omega)
  obtain ⟨y2, _, z2⟩ := one_ofH hx (show 2 < 5 by omega)
  obtain ⟨y3, _, z3⟩ := one_ofH hx (show 3 < 5 by omega)
  obtain ⟨y4, _, z4⟩ := one_ofH hx (show 4 < 5 by omega)
  have h0 : DataW.trod enc Try.prog w base spare held m 5 ((cs.drop 0).take (Try.prog.cellsOf 5)) = xs[0]? := hf 0 _ rfl
  have h1 : DataW.trod enc Try.prog w base spare held m 3 ((cs.drop 1).take (Try.prog.cellsOf 3)) = xs[1]? := hf 1 _ rfl
  have h2 : DataW.trod enc Try.prog w base spare held m 3 ((cs.drop 2).take (Try.prog.cellsOf 3)) = xs[2]? := hf 2 _ rfl
  have h3 : DataW.trod enc Try.prog w base spare held m 3 ((cs.drop 3).take (Try.prog.cellsOf 3)) = xs[3]? := hf 3 _ rfl
  have h4 : DataW.trod enc Try.prog w base spare held m 2 ((cs.drop 4).take (Try.prog.cellsOf 2)) = xs[4]? := hf 4 _ rfl
  simp only [cells_u8H, cells_i64H, cells_intH, t0, t1, t2, t3, t4, z0, z1, z2, z3, z4] at h0 h1 h2 h3 h4
  obtain ⟨a0, e0, _, w0⟩ := DataW.trod_int Try.underlying5 h0
  obtain ⟨a1, e1, _, w1⟩ := DataW.trod_int Try.underlying3 h1
  obtain ⟨a2, e2, _, w2⟩ := DataW.trod_int Try.underlying3 h2
  obtain ⟨a3, e3, _, w3⟩ := DataW.trod_int Try.underlying3 h3
  obtain ⟨a4, e4, _, w4⟩ := DataW.trod_int Try.underlying2 h4
  cases e0; cases e1; cases e2; cases e3; cases e4
  have b0 := wf_u8H w0
  obtain ⟨k0, rfl⟩ := Int.eq_ofNat_of_zero_le b0.1
  refine ⟨⟨k0, a1, a2, a3, a4⟩, ?_⟩
  apply List.ext_getElem?
  intro j
  match j with
  | 0 => exact g0
  | 1 => exact g1
  | 2 => exact g2
  | 3 => exact g3
  | 4 => exact g4
  | j + 5 => rw [List.getElem?_eq_none (by omega), List.getElem?_eq_none (by simp)]
/-- An argument of type Step, by value. -/
theorem open_step11 {r : Reach} {b0 : Nat} {v : Value} {d : DataW H} {ps : List MemPlace} (hv : Value.okWide Try.prog w r b0 48 v) (h : DataW.Trod enc Try.prog w base spare held 48 v d ps) : ∃ s : S11, v = s.v := by
  obtain ⟨fuel, hf⟩ := h
  have hu := Try.underlying48
  simp only [Value.okWide, hu] at hv
  obtain ⟨cs, rfl, h2, _⟩ := hv
  have h5 : cs.size = 5 := h2.trans (by kernel_rfl)
  obtain ⟨s, hs⟩ := open_cellsH (cs := cs.toList) (by simpa using h5) hf
  exact ⟨s, congrArg Value.agg (Array.toList_inj.1 hs)⟩
/-- An argument of type []Step: a slice of so many steps. -/
theorem open_steps11 {r : Reach} {b0 : Nat} {v : Value} {d : DataW H} {ps : List MemPlace} (hv : Value.okWide Try.prog w r b0 43 v) (h : DataW.Trod enc Try.prog w base spare held 43 v d ps) :
    ∃ A c L, v = .slice A (L : List S11).length c ∧ L.length ≤ 9223372036854775807 ∧ Steps11 w w.heap.size A L := by
  obtain ⟨fuel, hf⟩ := h
  rcases open_slice Try.underlying43 hf with ⟨hcs, _⟩ | ⟨a, len, cap, m, n, D, Pl, hcs, hb, hl, hm, hmm, hx, hi⟩
  · obtain ⟨A, n0, c0, rfl⟩ := okWide_slice Try.underlying43 hv
    simp [Value.cells] at hcs
    obtain ⟨rfl, rfl, rfl⟩ := hcs
    exact ⟨none, 0, [], rfl, by simp, fun i hi => absurd hi (by simp)⟩
  · obtain ⟨A, n0, c0, rfl⟩ := okWide_slice Try.underlying43 hv
    simp [Value.cells] at hcs
    obtain ⟨rfl, rfl, rfl⟩ := hcs
    have hlm : n0 ≤ m := by rw [hmm]; split <;> omega
    have hst : ∀ i, i < n0 → ∃ st, SAt11 w (a.add (i * 5)) st := fun i hi' => by
      obtain ⟨cs', hc, ht⟩ := hi i (by omega)
      rw [step_cellsH] at hc
      obtain ⟨_, hl5, hat⟩ := World.cells?_some hc
      obtain ⟨s, rfl⟩ := open_cellsH hl5 ht
      exact ⟨s, hat 0 (by omega), hat 1 (by omega), hat 2 (by omega), hat 3 (by omega), hat 4 (by omega)⟩
    obtain ⟨F, hF⟩ := choose_lt hst
    have hlen : ((List.range n0).map F).length = n0 := by simp
    unfold maxLen at hm
    refine ⟨some a, c0, (List.range n0).map F, by rw [hlen], by rw [hlen]; omega, fun i hi' => ?_⟩
    rw [hlen] at hi'
    have hg : nth11 ((List.range n0).map F) i = F i := by
      rw [nth11, List.getD_eq_getElem?_getD, List.getElem?_map, List.getElem?_range hi']
      rfl
    rw [hg]
    have hp := hF i hi'
    have hlt := block_lt_of_cell hp.c0
    exact ⟨a, rfl, by rwa [ad_block] at hlt, hp⟩
end
/-- What a step does: a number, an error, a heap's numbers. -/
def doN (c : Nat → Int) (s : S11) : Int := if s.kind = 3 then bumpN c else 0
def doE (c : Nat → Int) (s : S11) : Int := if s.kind = 0 then ownE c s.at' s.who else if s.kind = 1 then ownedE c s.at' s.who else if s.kind = 2 then freeE c s.at' s.who s.ver else if s.kind = 3 then bumpE c else setE c s.at'
def doC (c : Nat → Int) (s : S11) : Nat → Int := if s.kind = 0 then ownC c s.at' s.who else if s.kind = 1 then letC c s.at' s.who else if s.kind = 2 then freeC c s.at' s.who s.ver else if s.kind = 3 then bumpC c else setC11 c s.at' s.x
theorem HB.step {c : Nat → Int} (h : HB c) (s : S11) : HB (doC c s) := by
  unfold doC
  split
  · exact h.own _ _
  · split
    · exact h.let' _ _
    · split
      · exact h.free _ _ _
      · split
        · exact h.bump
        · exact h.set _ _
/-- What a step leaves. -/
structure UpdG (w : World) (g : Nat) (c : Nat → Int) (w' : World) : Prop where
  at' : HeapAt w' g c
  far : ∀ b, b ≠ g → b < w.heap.size → w'.heap[b]? = w.heap[b]?
  size : w.heap.size ≤ w'.heap.size
  low : ∀ B, B ≤ g → Below B w w'
theorem UpdH.boxed {w w' : World} {g : Nat} {c : Nat → Int} {o : Obj} (h : UpdH (w.alloc o) g c w') (hg : g < w.heap.size) : UpdG w g c w' :=
  ⟨h.at', fun b hb hl => (h.far b hb).trans (heap_alloc_old w o hl), by have := h.size; simp at this; omega, fun B hB => ((Below.refl B w).alloc (by omega) o).trans (h.low B hB)⟩
set_option maxHeartbeats 4000000 in
theorem do_any {w : World} {g : Nat} {c : Nat → Int} (h : HeapAt w g c) (hb : HB c) (s : S11) : Calls Try.prog 30 #[s.v, .pointer (some ⟨g, 0, none⟩)] w fun e w' => e = .returned (.tuple #[.int .i64 (doN c s), .int .i64 (doE c s)]) ∧ UpdG w g (doC c s) w' := by
  have hgl := h.lt
  obtain ⟨kind, at', who, ver, x⟩ := s
  have h' : HeapAt (w.alloc (.cells #[.int .u8 kind, .int .i64 at', .int .i64 who, .int .i64 ver, .int .i64 x] 48)) g c := h.below ((Below.refl w.heap.size w).alloc (Nat.le_refl _) _) hgl
  by_cases k0 : kind = 0
  · subst k0
    have HO := Lib.hid (own_any h' hb at' who)
    rw [show doN c ⟨0, at', who, ver, x⟩ = 0 from rfl, show doE c ⟨0, at', who, ver, x⟩ = ownE c at' who from rfl, show doC c ⟨0, at', who, ver, x⟩ = ownC c at' who from rfl]
    obtain ⟨r, hr⟩ : ∃ r, r = ownE c at' who := ⟨_, rfl⟩
    rw [← hr] at HO ⊢
    unfold S11.v
    clear h h' hb hr
    go_enter Try.func30, Try.ntmps30
    go_wp2_with fail
    refine HO.out.mono ?_
    rintro e w' ⟨rfl, hU⟩
    have HU := Lib.hid (hU.boxed hgl)
    clear hU
    go_wp2_with fail
    go_ret2
    exact ⟨rfl, HU.out⟩
  have q0 : ((kind : Int) == 0) = false := beq_eq_false_iff_ne.2 (by omega)
  by_cases k1 : kind = 1
  · subst k1
    have HO := Lib.hid (let_any h' hb at' who)
    rw [show doN c ⟨1, at', who, ver, x⟩ = 0 from rfl, show doE c ⟨1, at', who, ver, x⟩ = ownedE c at' who from rfl, show doC c ⟨1, at', who, ver, x⟩ = letC c at' who from rfl]
    obtain ⟨r, hr⟩ : ∃ r, r = ownedE c at' who := ⟨_, rfl⟩
    rw [← hr] at HO ⊢
    unfold S11.v
    clear h h' hb hr
    go_enter Try.func30, Try.ntmps30
    go_wp2_with fail
    refine HO.out.mono ?_
    rintro e w' ⟨rfl, hU⟩
    have HU := Lib.hid (hU.boxed hgl)
    clear hU
    go_wp2_with fail
    go_ret2
    exact ⟨rfl, HU.out⟩
  have q1 : ((kind : Int) == 1) = false := beq_eq_false_iff_ne.2 (by omega)
  by_cases k2 : kind = 2
  · subst k2
    have HO := Lib.hid (free_any h' hb at' who ver)
    rw [show doN c ⟨2, at', who, ver, x⟩ = 0 from rfl, show doE c ⟨2, at', who, ver, x⟩ = freeE c at' who ver from rfl, show doC c ⟨2, at', who, ver, x⟩ = freeC c at' who ver from rfl]
    obtain ⟨r, hr⟩ : ∃ r, r = freeE c at' who ver := ⟨_, rfl⟩
    rw [← hr] at HO ⊢
    unfold S11.v
    clear h h' hb hr
    go_enter Try.func30, Try.ntmps30
    go_wp2_with fail
    refine HO.out.mono ?_
    rintro e w' ⟨rfl, hU⟩
    have HU := Lib.hid (hU.boxed hgl)
    clear hU
    go_wp2_with fail
    go_ret2
    exact ⟨rfl, HU.out⟩
  have q2 : ((kind : Int) == 2) = false := beq_eq_false_iff_ne.2 (by omega)
  by_cases k3 : kind = 3
  · subst k3
    have HO := Lib.hid (bump_any h' hb)
    rw [show doN c ⟨3, at', who, ver, x⟩ = bumpN c from rfl, show doE c ⟨3, at', who, ver, x⟩ = bumpE c from rfl, show doC c ⟨3, at', who, ver, x⟩ = bumpC c from rfl]
    obtain ⟨r, hr⟩ : ∃ r, r = bumpE c := ⟨_, rfl⟩
    obtain ⟨n, hn⟩ : ∃ n, n = bumpN c := ⟨_, rfl⟩
    rw [← hr, ← hn] at HO ⊢
    unfold S11.v
    clear h h' hb hr hn
    go_enter Try.func30, Try.ntmps30
    go_wp2_with fail
    refine HO.out.mono ?_
    rintro e w' ⟨rfl, hU⟩
    have HU := Lib.hid (hU.boxed hgl)
    clear hU
    go_wp2_with fail
    go_ret2
    exact ⟨rfl, HU.out⟩
  have q3 : ((kind : Int) == 3) = false := beq_eq_false_iff_ne.2 (by omega)
  have HO := Lib.hid (set_any11 h' hb at' x)
  rw [show doN c ⟨kind, at', who, ver, x⟩ = 0 from if_neg k3, show doE c ⟨kind, at', who, ver, x⟩ = setE c at' by unfold doE; dsimp only; rw [if_neg k0, if_neg k1, if_neg k2, if_neg k3], show doC c ⟨kind, at', who, ver, x⟩ = setC11 c at' x by unfold doC; dsimp only; rw [if_neg k0, if_neg k1, if_neg k2, if_neg k3]]
  obtain ⟨r, hr⟩ : ∃ r, r = setE c at' := ⟨_, rfl⟩
  rw [← hr] at HO ⊢
  unfold S11.v
  clear h h' hb hr k0 k1 k2 k3
  go_enter Try.func30, Try.ntmps30
  go_wp2_with fail
  refine HO.out.mono ?_
  rintro e w' ⟨rfl, hU⟩
  have HU := Lib.hid (hU.boxed hgl)
  clear hU
  go_wp2_with fail
  go_ret2
  exact ⟨rfl, HU.out⟩
/-- A heap behind k steps. -/
def playF (c : Nat → Int) (L : List S11) : Nat → Nat → Int
  | 0 => c
  | k + 1 => doC (playF c L k) (nth11 L k)
theorem HB.play {c : Nat → Int} (h : HB c) (L : List S11) : ∀ k, HB (playF c L k)
  | 0 => h
  | k + 1 => (HB.play h L k).step _
set_option maxHeartbeats 4000000 in
theorem played_no {L : List Int} {st limit : Int} (h : badH L.length st limit = true) (A : Option Addr) (c : Nat) (hl : L.length ≤ 9223372036854775807) (v : Value) (w : World) : Calls Try.prog 33 #[.slice A L.length c, .int .i64 st, .int .i64 limit, v] w fun e w' => e = .returned (.pointer none) ∧ w = w' := by
  have HN := Lib.hid (hnew_no h A c hl w)
  go_enter Try.func33, Try.ntmps33
  go_wp2_with fail
  refine HN.out.mono ?_
  rintro e w' ⟨rfl, rfl⟩
  go_wp2_with fail
  go_ret
  exact ⟨rfl, rfl⟩
set_option maxHeartbeats 8000000 in
theorem played_yes {L : List Int} {st limit : Int} (h : badH L.length st limit = false) {w : World} {A A' : Option Addr} (c c' : Nat) (hI : Ints w w.heap.size A L) {S : List S11} (hS : Steps11 w w.heap.size A' S) (hn : S.length ≤ 9223372036854775807) : Calls Try.prog 33 #[.slice A L.length c, .int .i64 st, .int .i64 limit, .slice A' S.length c'] w fun e w' => ∃ g, e = .returned (.pointer (some ⟨g, 0, none⟩)) ∧ HeapAt w' g (playF (newF L st limit) S S.length) ∧ w.heap.size ≤ g ∧ Below w.heap.size w w' := by
  have HN := Lib.hid (hnew_yes h c hI)
  have HBN := Lib.hid (HB.new h)
  obtain ⟨c0, hc0⟩ : ∃ c0, c0 = newF L st limit := ⟨_, rfl⟩
  rw [← hc0] at HN HBN ⊢
  have HS := Lib.hid hS
  clear h hI hS hc0
  go_enter Try.func33, Try.ntmps33
  go_wp2_with fail
  refine HN.out.mono ?_
  rintro e w1 ⟨g, rfl, hH, hg, hb⟩
  have HH := Lib.hid hH
  have HB1 := Lib.hid hb
  have HG : Hid (w.heap.size ≤ g) := hg
  clear hH hb hg HN
  go_wp2_with fail
  go_loopw [11] (fun i wr => ∃ k : Nat, k ≤ S.length ∧ i = .int .i64 k ∧ Hid (HeapAt wr g (playF c0 S k)) ∧ Hid (Below w.heap.size w wr)) (fun i _ => S.length - (intOf i).toNat)
  case atStart => exact ⟨0, by omega, by go_num, HH, HB1⟩
  case round =>
    obtain ⟨k, hk, rfl, hA, hB⟩ := hrel
    by_cases hlt : k < S.length
    · obtain ⟨p, rfl, mp, hs⟩ := HS.out k hlt
      have hsw := hs.below hB.out (by rw [ad_block]; exact mp)
      have e0 := hsw.c0
      have e1 := hsw.c1
      have e2 := hsw.c2
      have e3 := hsw.c3
      have e4 := hsw.c4
      have HD := Lib.hid (do_any hA.out (HBN.out.play S k) (nth11 S k))
      have i1 : (0 : Int) ≤ (k : Int) := by omega
      have i2 : (k : Int) < (S.length : Int) := by omega
      obtain ⟨s, hs9⟩ : ∃ s, s = nth11 S k := ⟨_, rfl⟩
      have HE : Hid (doC (playF c0 S k) s = playF c0 S (k + 1)) := by show _ = _; rw [hs9]; rfl
      rw [← hs9] at e0 e1 e2 e3 e4 HD
      unfold S11.v at HD
      clear hsw hs mp hs9
      go_wp2_with fail
      refine HD.out.mono ?_
      rintro e w3 ⟨rfl, hU⟩
      have H3 : Hid (HeapAt w3 g (playF c0 S (k + 1))) := by show HeapAt _ _ _; rw [← HE.out]; exact hU.at'
      have B3 := Lib.hid (hB.out.trans (hU.low _ HG.out))
      clear hU HE HD e0 e1 e2 e3 e4 hA hB
      go_wp2_with fail
      go_roundw
      case rel => exact ⟨k + 1, by omega, by go_num, H3, B3⟩
      case measure => simp [intOf]; omega
    · obtain rfl : k = S.length := by omega
      have i2 : ¬ (S.length : Int) < (S.length : Int) := by omega
      go_wp2_with fail
      go_ret
      exact ⟨g, rfl, hA.out, HG.out, hB.out⟩
end Go.Proofs.Ytokhcogmoleocaa
