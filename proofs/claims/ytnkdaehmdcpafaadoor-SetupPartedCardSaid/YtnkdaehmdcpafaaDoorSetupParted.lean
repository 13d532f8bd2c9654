/-
  SetupParted (P6.4): for any number of stripes and of variables each variable is of just one stripe, and among its variables; of all stripes these are all variables, each once: the statement holds, and its card. Condition: code's table lies as its initialiser lays it, which the card ties to the program's text.
-/
import Derived.Test.YtnkdaehmdcpafaaDoorUd
import Derived.Test.YtnkdaehmdcpafaaDoorUl
import Derived.OwnWalk
import Derived.Laws.OwnMore
namespace Go.Proofs.YtnkdaehmdcpafaaDoor
open Go.ChangeShapes Go.WideShapes Go.ChangeAt Go.RowKit Go.WideElems Go.WideMaps
set_option linter.unusedVariables false
/-- How often a variable has been met, behind i stripes and k variables of the next one. -/
def mark (s i k v : Nat) : Int := if v % s < i ∨ (v % s = i ∧ v < i + k * s) then 1 else 0
theorem mark_zero (s v : Nat) : mark s 0 0 v = 0 := by unfold mark; rw [if_neg (by omega)]
theorem mark_here {s i k : Nat} (h : i < s) : mark s i k (i + k * s) = 0 := by
  unfold mark
  rw [if_neg]
  rw [Nat.add_mul_mod_self_right, Nat.mod_eq_of_lt h]
  omega
theorem mark_step {s i k v : Nat} (h : i < s) : mark s i (k + 1) v = if v = i + k * s then 1 else mark s i k v := by
  unfold mark
  rw [Nat.add_mul, Nat.one_mul]
  by_cases he : v = i + k * s
  · subst he
    rw [if_pos rfl, if_pos]
    right
    rw [Nat.add_mul_mod_self_right, Nat.mod_eq_of_lt h]
    omega
  · rw [if_neg he]
    have hiff : (v % s < i ∨ (v % s = i ∧ v < i + (k * s + s))) ↔ (v % s < i ∨ (v % s = i ∧ v < i + k * s)) := by
      constructor
      · rintro (h1 | ⟨h1, h2⟩)
        · exact Or.inl h1
        · refine Or.inr ⟨h1, ?_⟩
          have hv := Nat.div_add_mod v s
          rw [Nat.mul_comm] at hv
          rcases Nat.lt_trichotomy (v / s) k with h3 | h3 | h3
          · have : (v / s + 1) * s ≤ k * s := Nat.mul_le_mul_right _ h3
            rw [Nat.add_mul] at this
            omega
          · subst h3
            omega
          · have : (k + 1) * s ≤ (v / s) * s := Nat.mul_le_mul_right _ h3
            rw [Nat.add_mul] at this
            omega
      · rintro (h1 | ⟨h1, h2⟩)
        · exact Or.inl h1
        · exact Or.inr ⟨h1, by omega⟩
    simp only [hiff]
theorem mark_next {s i n v : Nat} (hs : 1 ≤ s) (hv : v < n) : mark s i (vcount i s n) v = mark s (i + 1) 0 v := by
  unfold mark
  have hiff : (v % s < i ∨ (v % s = i ∧ v < i + vcount i s n * s)) ↔ (v % s < i + 1 ∨ (v % s = i + 1 ∧ v < i + 1 + 0 * s)) := by
    constructor
    · rintro (h1 | ⟨h1, h2⟩)
      · exact Or.inl (by omega)
      · exact Or.inl (by omega)
    · rintro (h1 | ⟨h1, h2⟩)
      · by_cases h3 : v % s < i
        · exact Or.inl h3
        · refine Or.inr ⟨by omega, ?_⟩
          have hd := Nat.div_add_mod v s
          rw [Nat.mul_comm] at hd
          have h4 : v / s < vcount i s n := (vcount_lt hs).2 (by omega)
          have : (v / s + 1) * s ≤ vcount i s n * s := Nat.mul_le_mul_right _ h4
          rw [Nat.add_mul] at this
          omega
      · have := Nat.mod_le v s
        omega
  simp only [hiff]
theorem mark_end {s v : Nat} (hs : 1 ≤ s) : mark s s 0 v = 1 := by unfold mark; rw [if_pos (Or.inl (Nat.mod_lt _ (by omega)))]
/-- A row of numbers that a call owns. -/
def Met (w : World) (G n : Nat) (f : Nat → Int) : Prop := ∃ cur, w.heap[G]? = some (.cells cur 3 (0, 0)) ∧ cur.size = n ∧ ∀ v, v < n → cur[v]? = some (.int .i64 (f v))
theorem Met.cell {w : World} {G n : Nat} {f : Nat → Int} (h : Met w G n f) {v : Nat} (hv : v < n) : w.cell? ⟨G, v, none⟩ = some (.int .i64 (f v)) ∧ w.frozen? ⟨G, v, none⟩ = false := by
  obtain ⟨cur, h1, h2, h3⟩ := h
  refine ⟨?_, by simp [World.frozen?, h1]⟩
  simp only [World.cell?, h1]
  exact h3 v hv
theorem Met.lt {w : World} {G n : Nat} {f : Nat → Int} (h : Met w G n f) : G < w.heap.size := by
  obtain ⟨cur, h1, h2, h3⟩ := h
  exact (Array.getElem?_eq_some_iff.1 h1).1
theorem Met.below {w w' : World} {B G n : Nat} {f : Nat → Int} (h : Met w G n f) (hb : Below B w w') (hG : G < B) : Met w' G n f := by
  obtain ⟨cur, h1, h2, h3⟩ := h
  exact ⟨cur, (hb.block G hG).trans h1, h2, h3⟩
theorem Met.as {w : World} {G n : Nat} {f f' : Nat → Int} (h : Met w G n f) (he : ∀ v, v < n → f v = f' v) : Met w G n f' := by
  obtain ⟨cur, h1, h2, h3⟩ := h
  exact ⟨cur, h1, h2, fun v hv => by rw [h3 v hv, he v hv]⟩
theorem Met.set {w : World} {G n x : Nat} {y : Int} {f : Nat → Int} (h : Met w G n f) (hx : x < n) : Met (w.setCell ⟨G, x, none⟩ (.int .i64 y)) G n (fun v => if v = x then y else f v) := by
  obtain ⟨cur, h1, h2, h3⟩ := h
  refine ⟨_, heap_set_same w G x _ _ _ h1, by simp [h2], fun v hv => ?_⟩
  by_cases he : v = x
  · subst he
    rw [Array.getElem?_setIfInBounds_self_of_lt (by omega)]
    simp
  · rw [Array.getElem?_setIfInBounds_ne (by omega), h3 v hv]
    simp [he]
/-- All blocks but G lie as they lay. -/
structure But (G : Nat) (X Y : World) : Prop where
  size : X.heap.size ≤ Y.heap.size
  block : ∀ b, b < X.heap.size → b ≠ G → Y.heap[b]? = X.heap[b]?
theorem Met.made {w : World} {G n : Nat} (h : w.ownsRow G 3 1 (.slice (some ⟨G, 0, none⟩) n n) n (madeCells (Value.int .i64 0).cells (n * 1)).toList) (hn : 1 ≤ n) : Met w G n (fun _ => 0) := by
  obtain ⟨h1, h2 | ⟨g, cap, cur, hv, hb, hr, hc1, hc2, hs, ht⟩⟩ := h
  · cases h2.1
  · obtain ⟨rfl, rfl⟩ : g = G ∧ cap = n := by
      injection hv with e1 e2 e3
      injection e1 with e1
      injection e1 with e1
      exact ⟨e1.symm, e3.symm⟩
    refine ⟨cur, hr, by omega, fun v hv => ?_⟩
    have e : (madeCells (Value.int .i64 0).cells (cap * 1)).toList = List.replicate (cap * 1) (.int .i64 0) := toList_madeCells_one _ _
    rw [e] at ht
    have h3 : (cur.toList.take (cap * 1))[v]? = (List.replicate (cap * 1) (Value.int .i64 0))[v]? := by rw [ht]
    rw [List.getElem?_take_of_lt (by omega), List.getElem?_replicate_of_lt (by omega)] at h3
    rw [← Array.getElem?_toList]
    exact h3
set_option maxRecDepth 100000 in
set_option maxHeartbeats 4000000 in
theorem SetupParted_walk (s : Int) (s0 : -9223372036854775808 ≤ s) (s1 : s < 9223372036854775808) (n : Int) (n0 : -9223372036854775808 ≤ n) (n1 : n < 9223372036854775808) (W : World) :
    Calls Tryd.prog 7 #[.int .i64 s, .int .i64 n] W fun e w' => e = .returned (.bool true) ∧ Below W.heap.size W w' := by
  have HA := Lib.hid awake_any
  by_cases c1 : s < 1
  · go_enter Tryd.func7, Tryd.ntmps7
    go_wp2_with fail
    refine (HA.out W).mono ?_
    rintro _ w1 ⟨rfl, b1⟩
    go_wp2_with fail
    go_ret
    exact ⟨rfl, b1⟩
  by_cases c2 : n < 1
  · go_enter Tryd.func7, Tryd.ntmps7
    go_wp2_with fail
    refine (HA.out W).mono ?_
    rintro _ w1 ⟨rfl, b1⟩
    go_wp2_with fail
    go_ret
    exact ⟨rfl, b1⟩
  by_cases c3 : 200 < s
  · go_enter Tryd.func7, Tryd.ntmps7
    go_wp2_with fail
    refine (HA.out W).mono ?_
    rintro _ w1 ⟨rfl, b1⟩
    go_wp2_with fail
    go_ret
    exact ⟨rfl, b1⟩
  by_cases c4 : 500 < n
  · go_enter Tryd.func7, Tryd.ntmps7
    go_wp2_with fail
    refine (HA.out W).mono ?_
    rintro _ w1 ⟨rfl, b1⟩
    go_wp2_with fail
    go_ret
    exact ⟨rfl, b1⟩
  obtain ⟨s, rfl⟩ := Int.eq_ofNat_of_zero_le (show 0 ≤ s by omega)
  obtain ⟨n, rfl⟩ := Int.eq_ofNat_of_zero_le (show 0 ≤ n by omega)
  have hs : 1 ≤ s := by omega
  have hn : 1 ≤ n := by omega
  have HV : Hid (∀ (i : Nat) (w : World), i < s → Calls Tryd.prog 22 #[.int .i64 i, .int .i64 s, .int .i64 n] w fun e w' => ∃ A c, e = .returned (.tuple #[.slice A (vcount i s n) c, .int .i64 0]) ∧ Ints w' w'.heap.size A (vrow i s (vcount i s n)) ∧ (∀ p, A = some p → w.heap.size ≤ p.block) ∧ Below w.heap.size w w') := fun i w hi => by
    have h1 : varsF i s n = vrow i s (vcount i s n) := by unfold varsF; rw [if_neg (by omega)]; simp
    have h2 : varsE i s n = 0 := by unfold varsE; rw [if_neg (by omega)]
    have := vars_any i s n (by omega) (by omega) (by omega) (by omega) (by omega) w
    unfold Told at this
    rw [h1, h2, vrow_len] at this
    exact this
  have HC := Lib.hid (fun i k => vcount_lt (a := i) (s := s) (n := n) (k := k) hs)
  have HCL := Lib.hid (fun i => vcount_le (a := i) (s := s) (n := n) hs)
  have HM := Lib.hid (fun i (v : Nat) (hv : v < n) => mark_next (s := s) (i := i) hs hv)
  have HE := Lib.hid (fun v => mark_end (s := s) (v := v) hs)
  have HS : Hid (∀ i k (w : World), i < s → i + k * s < n → Calls Tryd.prog 20 #[.int .i64 ((i + k * s : Nat) : Int), .int .i64 s] w fun e w' => e = .returned (.tuple #[.int .i64 i, .int .i64 0]) ∧ w = w') := fun i k w hi hk => by
    have := stripe_any ((i + k * s : Nat) : Int) s (by omega) (by omega) (by omega) w
    have e : strF ((i + k * s : Nat) : Int) s = ((i : Int), 0) := by
      unfold strF
      rw [if_neg (by omega)]
      have : ((i + k * s : Nat) : Int) % (s : Int) = (((i + k * s) % s : Nat) : Int) := by omega
      rw [this, Nat.add_mul_mod_self_right, Nat.mod_eq_of_lt hi]
    rw [e] at this
    exact this
  obtain ⟨i0, hi0, hz0, hz1, hz2⟩ := info_parts2 plain_int_info
  go_enter Tryd.func7, Tryd.ntmps7
  go_wp2_with fail
  refine (HA.out W).mono ?_
  rintro _ w1 ⟨rfl, b1⟩
  clear s0 s1 n0 n1
  go_wp2_with (first
    | (refine wpList_make_full _ rfl (.tmp 29) (.tmp 29) 42 rfl w1.heap.size 3 i0 _ 1 Tryd.underlying42 hi0 hz0 hz1 .i64 .i64 _ _ n rfl rfl rfl rfl (by rw [hz2]; omega) (by unfold maxLen; omega) (Nat.le_refl _) ?_; intro w2 hown hgrow)
    | fail)
  obtain ⟨G, hG⟩ : ∃ G, G = w1.heap.size := ⟨_, rfl⟩
  rw [← hG] at hown ⊢
  have hm2 : Met w2 G n (fun v => mark s 0 0 v) := (Met.made hown hn).as fun v _ => (mark_zero s v).symm
  have b2 : Below W.heap.size W w2 := b1.trans ((show Below w1.heap.size w1 w2 from ⟨hgrow.os, hgrow.tape, hgrow.output, hgrow.size, fun i hi => hgrow.block i hi (by simp)⟩).mono b1.size)
  have HG : Hid (W.heap.size ≤ G) := by have := b1.size; show _ ≤ _; omega
  have HI := Lib.hid (And.intro hm2 b2)
  clear hown hgrow hm2 b2 hG b1 hi0 hz0 hz1 hz2
  go_loopw [6] (fun u wr => ∃ i : Nat, i ≤ s ∧ u = .int .i64 i ∧ Hid (Met wr G n (fun v => mark s i 0 v) ∧ Below W.heap.size W wr)) (fun u _ => s - (intOf u).toNat)
  case atStart => exact ⟨0, by omega, by go_num, HI⟩
  case round =>
    obtain ⟨i, hi, rfl, hO⟩ := hrel
    by_cases hlt : i < s
    · go_wp2_with fail
      refine (HV.out i wr hlt).mono ?_
      rintro _ w3 ⟨A, cc, rfl, hA, hAp, b3⟩
      obtain ⟨K, hK⟩ : ∃ K, K = vcount i s n := ⟨_, rfl⟩
      rw [← hK] at hA ⊢
      have HK := Lib.hid hK
      have hKn : K ≤ 1000 := by have := HCL.out i; omega
      have HA3 : Hid (∀ (k : Nat) (w' : World), k < K → But G w3 w' → ∃ p, A = some p ∧ w'.cell? (p.add k) = some (.int .i64 ((i + k * s : Nat) : Int))) := fun k w' hk hw => by
        obtain ⟨p, hp, m1, m2⟩ := hA.cell k (by rw [vrow_len]; exact hk)
        have hl := hAp p hp
        have hG := hO.out.1.lt
        refine ⟨p, hp, (World.cell?_of_block (hw.block _ (by rw [ad_block]; exact m1) (by rw [ad_block]; omega))).trans ?_⟩
        rw [m2, vrow_get _ _ _ _ hk]
      have HI3 : Hid (Met w3 G n (fun v => mark s i 0 v) ∧ Below W.heap.size W w3 ∧ But G w3 w3) := ⟨hO.out.1.below b3 hO.out.1.lt, hO.out.2.trans (b3.mono hO.out.2.size), Nat.le_refl _, fun _ _ _ => rfl⟩
      clear hK hA b3 hO hAp
      go_wp2_with fail
      go_loopw [9] (fun u wr => ∃ k : Nat, k ≤ K ∧ u = .int .i64 k ∧ Hid (Met wr G n (fun v => mark s i k v) ∧ Below W.heap.size W wr ∧ But G w3 wr)) (fun u _ => K - (intOf u).toNat)
      case atStart => exact ⟨0, by omega, by go_num, HI3⟩
      case round =>
        obtain ⟨k, hk, rfl, hQ⟩ := hrel
        by_cases hkl : k < K
        · have hx := (HC.out i k).1 (by have := HK.out; omega)
          obtain ⟨p, rfl, f1⟩ := HA3.out k wr hkl hQ.out.2.2
          obtain ⟨d1, d2⟩ := hQ.out.1.cell hx
          rw [mark_here hlt] at d1
          have HSS := Lib.hid (fun w => HS.out i k w hlt hx)
          have HQ2 : Hid (∀ N, Met ((wr.drewN N).setCell ⟨G, i + k * s, none⟩ (.int .i64 1)) G n (fun v => mark s i (k + 1) v) ∧ Below W.heap.size W ((wr.drewN N).setCell ⟨G, i + k * s, none⟩ (.int .i64 1)) ∧ But G w3 ((wr.drewN N).setCell ⟨G, i + k * s, none⟩ (.int .i64 1))) := fun N =>
            ⟨((show Met (wr.drewN N) G n (fun v => mark s i k v) from hQ.out.1).set hx).as (fun v _ => (mark_step hlt).symm), (hQ.out.2.1.trans ((drewN_below2 wr N).mono hQ.out.2.1.size)).setCell (p := ⟨G, _, none⟩) HG.out _, by simpa using hQ.out.2.2.size, fun b hb hbG => (Below.heap_setCell (wr.drewN N) ⟨G, _, none⟩ _ b hbG).trans (hQ.out.2.2.block b hb hbG)⟩
          have HF : Hid (∀ N, ((wr.drewN N).setCell ⟨G, i + k * s, none⟩ (.int .i64 1)).cell? (p.add k) = some (.int .i64 ((i + k * s : Nat) : Int))) := fun N => by
            obtain ⟨p', hp', h⟩ := HA3.out k ((wr.drewN N).setCell ⟨G, i + k * s, none⟩ (.int .i64 1)) hkl ⟨by simpa using hQ.out.2.2.size, fun b hb hbG => (Below.heap_setCell (wr.drewN N) ⟨G, _, none⟩ _ b hbG).trans (hQ.out.2.2.block b hb hbG)⟩
            cases hp'
            exact h
          obtain ⟨x, hxx⟩ : ∃ x, x = i + k * s := ⟨_, rfl⟩
          rw [← hxx] at hx f1 d1 d2 HSS HQ2 HF
          have HX := Lib.hid hxx
          clear hxx
          have i1 : decide ((x : Int) < 0) = false := decide_eq_false (by omega)
          have i2 : decide (n ≤ x) = false := decide_eq_false (by omega)
          have HKL := Lib.hid hkl
          rcases Nat.eq_zero_or_pos k with hk0 | hk0
          · have i3 : decide (0 < k) = false := decide_eq_false (by omega)
            clear hk0
            go_wp2_with fail
            go_big_quiet (fail)
            have g1 := HF.out nq
            go_wp2_with fail
            refine (HSS.out _).mono ?_
            rintro _ _ ⟨rfl, rfl⟩
            go_wp2_with fail
            go_roundw
            case rel => exact ⟨k + 1, by have := HKL.out; omega, by go_num, HQ2.out nq⟩
            case measure => have := HKL.out; simp [intOf]; omega
          · obtain ⟨p', hp', f2⟩ := HA3.out (k - 1) wr (by omega) hQ.out.2.2
            cases hp'
            obtain ⟨j, hj⟩ : ∃ j, j = k - 1 := ⟨_, rfl⟩
            obtain ⟨y, hy⟩ : ∃ y, y = i + j * s := ⟨_, rfl⟩
            rw [← hj, ← hy] at f2
            have i3 : 0 < k := hk0
            have i3' : decide (0 < k) = true := decide_eq_true hk0
            have i4 : IntKind.i64.wrap ((k : Int) - 1) = (j : Int) := by rw [IntWalk.i64_in _ ⟨by omega, by omega⟩]; omega
            have i5 : decide (x ≤ y) = false := decide_eq_false (by
              have := HX.out
              have : k * s = j * s + s := by rw [show k = j + 1 by omega, Nat.add_mul, Nat.one_mul]
              omega)
            have i6 : j < K := by omega
            clear hj hy
            go_wp2_with fail
            go_big_quiet (fail)
            have g1 := HF.out nq
            go_wp2_with fail
            refine (HSS.out _).mono ?_
            rintro _ _ ⟨rfl, rfl⟩
            go_wp2_with fail
            go_roundw
            case rel => exact ⟨k + 1, by have := HKL.out; omega, by go_num, HQ2.out nq⟩
            case measure => have := HKL.out; simp [intOf]; omega
        · obtain rfl : k = K := by omega
          have HN : Hid (Met wr G n (fun v => mark s (i + 1) 0 v) ∧ Below W.heap.size W wr) := ⟨hQ.out.1.as fun v hv => by rw [HK.out]; exact HM.out i v hv, hQ.out.2.1⟩
          clear hkl hQ
          go_wp2_with fail
          go_roundw
          case rel => exact ⟨i + 1, by omega, by go_num, HN⟩
          case measure => simp [intOf]; omega
    · obtain rfl : i = s := by omega
      have HO2 : Hid (Met wr G n (fun v => 1) ∧ Below W.heap.size W wr) := ⟨hO.out.1.as (fun v _ => HE.out v), hO.out.2⟩
      clear hO hlt
      go_wp2_with fail
      go_loopw [12] (fun u wx => ∃ v : Nat, v ≤ n ∧ u = .int .i64 v ∧ Hid (Met wx G n (fun v => 1) ∧ Below W.heap.size W wx)) (fun u _ => n - (intOf u).toNat)
      case atStart => exact ⟨0, by omega, by go_num, HO2⟩
      case round =>
        obtain ⟨v, hv, rfl, HO3⟩ := hrel
        by_cases hlv : v < n
        · have d1 := (HO3.out.1.cell hlv).1
          go_wp2_with fail
          go_roundw
          case rel => exact ⟨v + 1, by omega, by go_num, HO3⟩
          case measure => simp [intOf]; omega
        · have hb := Lib.hid HO3.out.2
          go_wp2_with fail
          go_ret
          exact ⟨rfl, hb.out⟩
set_option maxRecDepth 100000 in
theorem SetupParted_lifted (os : Os) (started : os.Started) (H : Type) (enc : TypeId × Value → H) :
    ReturnsInHanded {} Tryd.checked os 7 .any (fun w args => (Rows.setupPartedSpec.pre enc Tryd.prog Tryd.f7 [] false w args ∧ laidMetH Tryd.prog [("seesaw/code.kinds", Rows.laid_seesaw_code_kinds)] w) ∧ sizedMet enc Tryd.prog Tryd.f7 (OpenSpec.ofChange Rows.setupPartedSpec) false w args)
      (Rows.setupPartedSpec.post enc Tryd.prog Tryd.f7 false true false false) := by
  refine returnsInHanded_of_change_and (C := Tryd.checked) (X := fun w _ => laidMetH Tryd.prog [("seesaw/code.kinds", Rows.laid_seesaw_code_kinds)] w) (fun _ _ _ hh h => h.of_heap hh) lift_own started (by kernel_rfl) Tryd.func7
    (ChangeSpec.witness_shaped (enc := enc) (C := Tryd.checked) (os := os) (X := fun w _ => laidMetH Tryd.prog [("seesaw/code.kinds", Rows.laid_seesaw_code_kinds)] w) false (World.doorLaid Tryd.prog 400 os) #[.int .i64 0, .int .i64 0] 8 rfl (World.shaped_of_RefB (by kernel_rfl) (by kernel_rfl)) (by kernel_rfl) (by kernel_rfl) (by kernel_rfl) (door_met os _)) ?_
  intro W base args ds gs before hval0 hW _ _ hL _
  have hval : ∀ (j : Nat) t v, Tryd.f7.params[j]? = some t → args[j]? = some v → Value.okWide Tryd.prog W .any base t v := hval0
  have hW' := hW
  obtain ⟨p, q, hA0, hV, rfl, hfz, hnd⟩ := hW
  have hA : DataW.TrodAll enc Tryd.prog W 0 (fun _ => true) true Tryd.f7.params.toList args.toList ds p := hA0
  rw [Tryd.params7] at hA hval
  obtain ⟨v0, vs0, d0, ds0, p0, q0, hargs, rfl, rfl, h0, r0⟩ := trodAll_cons hA
  obtain ⟨v1, vs1, d1, ds1, p1, q1, rfl, rfl, rfl, h1, r1⟩ := trodAll_cons r0
  obtain ⟨rfl, rfl, rfl⟩ := trodAll_nil r1
  obtain rfl : args = #[v0, v1] := by cases args; simp_all
  obtain ⟨rfl, rfl⟩ := trodVars_none hV
  obtain ⟨a0, rfl, rfl, rfl, w0⟩ := open_int Tryd.underlying3 (hval 0 3 v0 rfl rfl) h0
  obtain ⟨a1, rfl, rfl, rfl, w1⟩ := open_int Tryd.underlying3 (hval 1 3 v1 rfl rfl) h1
  clear hA0 hval0
  simp only [List.append_nil] at hW'
  refine (SetupParted_walk a0 (lit_range w0).1 (lit_range w0).2 a1 (lit_range w1).1 (lit_range w1).2 W).mono fun e W' ⟨he, hg⟩ => ?_
  subst he
  exact ⟨_, rfl, lift_post (pv := []) hW' (fun _ _ _ => (trodAll_cons_mk (shut_bool Tryd.underlying4 _) trodAll_mk0)) (fun sp hsp => (trodAll_cons_mk (shut_int Tryd.underlying3 w0) (trodAll_cons_mk (shut_int Tryd.underlying3 w1) trodAll_mk0))) (fun _ _ => rfl) (by simp)
    hg (ok_one (by kernel_rfl) rfl (okWide_bool_mk Tryd.underlying4 _))⟩
/-- THE STATEMENT of SetupParted: for every input the call returns true, and each argument reads behind it as before. -/
theorem SetupParted_holds : Rows.SetupPartedSaid :=
  OpenClaim.holds_of_wide 7 Tryd.f7 rfl rfl rfl rfl rfl rfl rfl ⟨rfl, rfl, rfl, rfl, rfl⟩ rfl rfl rfl rfl rfl (by kernel_rfl) Tryd.func7 (by kernel_rfl)
    (of_decide_eq_true (by kernel_rfl)) (by unfold Func.isWrapper; first | (rw [if_pos (by decide +kernel)]; kernel_rfl) | (rw [if_neg (by decide +kernel)]; exact ⟨rfl, rfl⟩))
    (fun os started H enc _ => SetupParted_lifted os started H enc)
/-- THE TIED CARD of SetupParted. -/
theorem SetupPartedCard_holds : Rows.SetupPartedCardSaid :=
  Claim7.holds_tied_plain_at .later [] [.data] true Rows.setupPartedCard.stood.harness false
    SetupParted_holds (fun _ h => by cases h) (by kernel_rfl) (fun _ h => by cases h) setupParted_row_tie rfl ⟨rfl, rfl⟩ (by kernel_rfl) rfl
    (fun f fn hf hfn => by
      obtain rfl : f = 7 := Option.some.inj ((show Tryd.prog.funcNamed "seesaw/seesawlaw06.SetupParted" = some 7 by kernel_rfl).symm.trans hf) |>.symm
      obtain rfl : fn = Tryd.f7 := (Option.some.inj (Tryd.func7.symm.trans hfn)).symm
      exact ⟨by kernel_rfl, fun j t ht => by
        rw [Tryd.params7] at ht
        have hm : t ∈ [3, 3] := by simpa using Array.mem_of_getElem? ht
        have hall : ([3, 3].all fun u => !Tryd.prog.wantsStandIn u) = true := by kernel_rfl
        exact (show Tryd.prog.wantsStandIn t = false by simpa using List.all_eq_true.1 hall t hm)⟩)
    (by kernel_rfl)
end Go.Proofs.YtnkdaehmdcpafaaDoor
