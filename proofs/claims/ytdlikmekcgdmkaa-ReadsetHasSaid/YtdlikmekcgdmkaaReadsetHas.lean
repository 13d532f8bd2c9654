/-
  ReadsetHas: for every input the call returns true, and each argument reads behind it as before. No condition. (What was added is there, whatever is added besides, in whatever row, and how often; nothing else is; what is told rises.)
-/
import Derived.Test.YtdlikmekcgdmkaaGi
import Derived.Test.YtdlikmekcgdmkaaLift
import Derived.Deep.RegionHeld3
import Derived.Deep.QuietTactic
import Derived.BigQuiet
namespace Go.Proofs.Ytdlikmekcgdmkaa
set_option maxRecDepth 100000
open Go.RowKit Go.Deep
open Go.ChangeShapes Go.WideShapes
set_option linter.unusedVariables false
/-- Two numbers more, in a region that draws. -/
theorem step_two {wx : World} {ops : Array Oper} {o : Oper} {a : Act} {K : Act → World → Prop} {Q : Exit → Act → World → Prop} {E : Prop} {base k : Nat} {sv : Value} {xs : List Value} {x : Int}
    (own : wx.ownsRow base 3 1 sv k xs) (hb : base ≤ wx.heap.size) (hk : k ≤ 90000) (hgd : o.guard = none) (s y : Operand) (ho : o.op = .call { callee := .builtin .append, args := #[s, y], argTypes := #[22, 22] }) (hs : a.eval s = sv) (hy : a.eval y = .slice (some ⟨wx.heap.size, 0, none⟩) 2 2)
    (h : ∀ g cap w', w'.ownsRow base 3 1 (.slice (some ⟨g, 0, none⟩) (k + 2) cap) (k + 2) (xs ++ [.int .i64 x, .int .i64 x]) → (wx.alloc (.cells #[.int .i64 x, .int .i64 x] 3)).grownBy w' sv.ownBlock → K (a.put o.dst (.slice (some ⟨g, 0, none⟩) (k + 2) cap)) w') :
    if Region.wanted o (yielded ops a.tmps) = true then Oper.wp Try.prog o a (wx.alloc (.cells #[.int .i64 x, .int .i64 x] 3)) K Q else E := by
  obtain ⟨i0, hi0, hz0, hz1, hz2⟩ := info_parts2 plain_int_info
  have hw : Region.wanted o (yielded ops a.tmps) = true := by simp [Region.wanted, hgd]
  rw [if_pos hw]
  exact wp_append_lies _ s y _ ho base 3 i0 _ 1 8 Try.underlying22 hi0 hz0 hz1 hz2 rfl (by omega) sv k xs hs (own.alloc _) ⟨wx.heap.size, 0, none⟩ 2 2 [.int .i64 x, .int .i64 x] hy rfl (World.news_of_block (cs := #[.int .i64 x, .int .i64 x]) (t := 3) (fr := (0, 0)) (heap_alloc_new wx _)) (by simp [Value.oneCell']) (by omega) (by unfold maxLen; omega) (by omega) (by simp; omega) (wx.heap.size + 1) (by simp) fun g cap w' h1 h2 _ _ => h g cap w' h1 h2
theorem cell_grown {wx w5 : World} {base k : Nat} {e : TypeId} {size : Nat} {sv : Value} {xs : List Value} {o : Obj} (own : wx.ownsRow base e size sv k xs) (hg : (wx.alloc o).grownBy w5 sv.ownBlock) (hb : base ≤ wx.heap.size) {q : Addr} (hq : q.block < base) : w5.cell? q = wx.cell? q := by
  unfold World.cell?
  rw [hg.block q.block (by simp; omega) (own_ge own hq), heap_alloc_old wx o (by omega)]
/-- Whether a number is the one asked for, and may be. -/
def pN (n x : Int) : Bool := decide (x = n) && (decide (0 ≤ n) && decide (n < 32))
def turnT (L : List Int) (k : Nat) : List Int := (L.drop k).reverse.flatMap fun x => [x, x]
theorem turnT_step {L : List Int} {k : Nat} (h : k < L.length) : turnT L k = turnT L (k + 1) ++ [L[k], L[k]] := by
  unfold turnT
  rw [List.drop_eq_getElem_cons h, List.reverse_cons, List.flatMap_append]
  simp
theorem turnT_len (L : List Int) (k : Nat) : (turnT L k).length = 2 * (L.length - k) := by
  unfold turnT
  rw [List.length_flatMap]
  have : ((L.drop k).reverse.map fun _ => 2).sum = 2 * (L.drop k).reverse.length := by
    generalize (L.drop k).reverse = M
    induction M with
    | nil => rfl
    | cons a M ih => simp only [List.map_cons, List.sum_cons, ih, List.length_cons]; omega
  simp only [List.length_cons, List.length_nil]
  rw [this]
  simp
theorem turnT_set (L : List Int) : setOf (turnT L 0) = setOf L := by
  funext n
  have h1 := setOf_iff (turnT L 0) n
  have h2 := setOf_iff L n
  have h3 : (n : Int) ∈ turnT L 0 ↔ (n : Int) ∈ L := by
    unfold turnT
    simp only [List.drop_zero, List.mem_flatMap, List.mem_reverse]
    constructor
    · rintro ⟨x, hx, hm⟩
      have : (n : Int) = x := by simpa using hm
      rw [this]
      exact hx
    · intro h
      exact ⟨n, h, by simp⟩
  rw [h3] at h1
  exact Bool.eq_iff_iff.2 (h1.trans h2.symm)
theorem any_pN (L : List Int) (n : Int) : L.any (pN n) = (decide (0 ≤ n ∧ n < 32) && setOf L n.toNat) := by
  apply Bool.eq_iff_iff.2
  simp only [List.any_eq_true, pN, Bool.and_eq_true, decide_eq_true_eq, setOf_iff]
  constructor
  · rintro ⟨x, hx, rfl, h1, h2⟩
    exact ⟨⟨h1, h2⟩, by omega, by rw [Int.toNat_of_nonneg h1]; exact hx⟩
  · rintro ⟨⟨h1, h2⟩, _, h4⟩
    rw [Int.toNat_of_nonneg h1] at h4
    exact ⟨n, h4, rfl, h1, h2⟩
theorem any_told (L : List Int) (n : Int) : (readF (setOf L) 32).any (fun y => decide (y = n)) = (decide (0 ≤ n ∧ n < 32) && setOf L n.toNat) := by
  apply Bool.eq_iff_iff.2
  simp only [List.any_eq_true, Bool.and_eq_true, decide_eq_true_eq, readF, natsI, List.mem_map, riseK, List.mem_filter, List.mem_range]
  constructor
  · rintro ⟨y, ⟨x, ⟨h1, h2⟩, rfl⟩, rfl⟩
    exact ⟨⟨by omega, by omega⟩, by simpa using h2⟩
  · rintro ⟨⟨h1, h2⟩, h3⟩
    exact ⟨n, ⟨n.toNat, ⟨by omega, h3⟩, by omega⟩, rfl⟩
theorem rise_up (f : Nat → Bool) (st : Int) (i j : Nat) (hij : i < j) (hj : j < (readF f st).length) : (readF f st)[i]'(by omega) < (readF f st)[j] := by
  have h1 : (riseK f st.toNat).Pairwise (· < ·) := List.Pairwise.filter _ List.pairwise_lt_range
  have h2 : (readF f st).Pairwise (· < ·) := by
    unfold readF natsI
    rw [List.pairwise_map]
    exact h1.imp fun h => by omega
  exact List.pairwise_iff_getElem.1 h2 i j _ _ hij
set_option maxHeartbeats 4000000 in
theorem has_big (rv n : Int) (A : Option Addr) (c k : Nat) (h0 : k ≤ 9223372036854775807) (h : 300 < k) (w : World) :
    Calls Try.prog 5 #[.int .i64 rv, .slice A k c, .int .i64 n] w fun e w' => e = .returned (.bool true) ∧ Below w.heap.size w w' := by
  have i0 : (300 : Int) < (k : Int) := by omega
  go_enter Try.func5, Try.ntmps5
  go_wp2_with fail
  refine (awake10_any _).mono ?_
  rintro e w1 ⟨rfl, b1⟩
  go_wp2_with fail
  go_ret
  exact ⟨rfl, b1⟩
set_option maxHeartbeats 8000000 in
theorem has_small (rv n : Int) (A : Option Addr) (c : Nat) (L : List Int) (h0 : L.length ≤ 300) (w : World) (hI : Ints w w.heap.size A L) :
    Calls Try.prog 5 #[.int .i64 rv, .slice A L.length c, .int .i64 n] w fun e w' => e = .returned (.bool true) ∧ Below w.heap.size w w' := by
  have i0 : ¬ (300 : Int) < (L.length : Int) := by omega
  have HI := Lib.hid hI
  clear hI
  go_enter Try.func5, Try.ntmps5
  go_wp2_with fail
  refine (awake10_any _).mono ?_
  rintro e w1 ⟨rfl, b1⟩
  have B1 := Lib.hid b1
  clear b1
  go_wp2_with fail
  refine (made_any rv (HI.out.at10 B1.out B1.out.size) (Nat.le_refl _) c).mono ?_
  rintro e w2 ⟨g, rfl, hS, hg, b2⟩
  have B2 := Lib.hid (B1.out.trans (b2.mono B1.out.size))
  have HS := Lib.hid hS
  clear b2 hS hg B1
  have h2 : Hid (w.heap.size ≤ w2.heap.size) := B2.out.size
  have HI2 := Lib.hid (HI.out.below B2.out (Nat.le_refl _))
  go_wp2_with fail
  go_loopw [9, 10, 11] (fun sm tv i wr => ∃ (k : Nat) (bk : Bool) (z : Int), k ≤ L.length ∧ sm = .bool bk ∧ i = .int .i64 z ∧ z = (k : Int) - 1 ∧ Hid (bk = (L.drop k).any (pN n)) ∧ Hid (wr.ownsRow w2.heap.size 3 1 tv (2 * (L.length - k)) (vI (turnT L k))) ∧ Hid (Below w2.heap.size w2 wr)) (fun _ _ i _ => (intOf i + 1).toNat)
  case atStart => exact ⟨L.length, false, _, by omega, rfl, rfl, by omega, by show _ = _; simp, by simpa [turnT, vI, Hid] using World.ownsRow_nil _ _ _ _, Below.refl _ _⟩
  case round =>
    obtain ⟨k, bk, z, hk, rfl, rfl, hz, hbk, hO, hB⟩ := hrel
    by_cases hlt : 1 ≤ k
    · obtain ⟨j, rfl⟩ : ∃ j, k = j + 1 := ⟨k - 1, by omega⟩
      obtain rfl : z = (j : Int) := by omega
      obtain ⟨p, rfl, hm, hc⟩ := HI2.out.cell j (by omega)
      have d1 := (hB.out.cell (p := p.add j) (by rw [ad_block]; have := h2.out; omega)).trans hc
      have hd : (L.drop j).any (pN n) = (pN n L[j] || (L.drop (j + 1)).any (pN n)) := by rw [List.drop_eq_getElem_cons (by omega), List.any_cons]
      have ht := turnT_step (L := L) (k := j) (by omega)
      obtain ⟨x, hx⟩ : ∃ x, x = L[j] := ⟨_, rfl⟩
      rw [← hx] at d1 hd ht
      rw [← hbk.out] at hd
      have hp : pN n x = (decide (x = n) && (decide (0 ≤ n) && decide (n < 32))) := rfl
      have HT := Lib.hid ht
      have HD := Lib.hid hd
      have HP := Lib.hid hp
      have i1 : (0 : Int) ≤ (j : Int) := by omega
      have i2 : (j : Int) < (L.length : Int) := by omega
      have OWD : Hid (wr.drew.ownsRow w2.heap.size 3 1 u10 (2 * (L.length - (j + 1))) (vI (turnT L (j + 1)))) := hO.out
      have hsz : w2.heap.size ≤ wr.drew.heap.size := hB.out.size
      obtain ⟨sA, sn, sc, hsv⟩ : ∃ sA sn sc, u10 = .slice sA sn sc := by
        rcases hO.out.2 with ⟨h, _⟩ | ⟨_, _, _, h, _⟩
        · exact ⟨_, _, _, h⟩
        · exact ⟨_, _, _, h⟩
      subst hsv
      have hBD : Hid (Below w2.heap.size w2 wr.drew) := hB.out.trans (Below.refl _ _).drew
      have hmq : Hid ((p.add j).block < w2.heap.size) := by show _ < _; rw [ad_block]; have := h2.out; omega
      clear hc hm hx hd ht hp hbk hO hB hz
      cases bk with
      | true =>
        have HN : Hid (true = (L.drop j).any (pN n)) := by show _ = _; rw [HD.out, HP.out]; simp
        clear HD HP
        go_upto_region 12 with fail
        go_region_held3 (fun w' => w'.cell? (p.add j) = some (.int .i64 x))
          (first | exact (cell_grown OWD.out hg5 hsz hmq.out).trans d1 | go_keep)
          (first
            | (refine step_two (x := x) OWD.out hsz (by omega) rfl (.tmp 57) (.tmp 66) rfl rfl rfl ?_; intro g5 cap5 w5 own5 hg5)
            | fail)
        go_wp2_with fail
        have OW5 : Hid (w5.ownsRow w2.heap.size 3 1 (.slice (some ⟨g5, 0, none⟩) (2 * (L.length - (j + 1)) + 2) cap5) (2 * (L.length - j)) (vI (turnT L j))) := by
          have e : 2 * (L.length - (j + 1)) + 2 = 2 * (L.length - j) := by omega
          show w5.ownsRow _ _ _ _ _ _
          rw [HT.out, vI_append, ← e]
          exact own5
        have HB5 := Lib.hid (own_below (OWD.out.alloc (.cells #[.int .i64 x, .int .i64 x] 3)) (Nat.le_refl _) (hBD.out.alloc hsz _) hg5 (by rw [World.size_alloc]; omega))
        clear own5 hg5 HT OWD hsz hBD
        go_roundw
        case rel => exact ⟨j, true, _, by omega, rfl, by go_num, rfl, HN, OW5, HB5⟩
        case measure => first | (simp [intOf]; done) | (simp [intOf]; omega)
      | false =>
        by_cases e1 : x = n
        · have q1 : (x == n) = true := beq_iff_eq.2 e1
          by_cases e2 : 0 ≤ n
          · by_cases e3 : n < 32
            · have q2 : decide (0 ≤ n) = true := decide_eq_true e2
              have q3 : decide (n < 32) = true := decide_eq_true e3
              have HN : Hid (true = (L.drop j).any (pN n)) := by show _ = _; rw [HD.out, HP.out]; simp [e1, e2, e3]
              clear HD HP e1 e2 e3
              go_upto_region 12 with fail
              go_region_held3 (fun w' => w'.cell? (p.add j) = some (.int .i64 x))
                (first | exact (cell_grown OWD.out hg5 hsz hmq.out).trans d1 | go_keep)
                (first
                  | (refine step_two (x := x) OWD.out hsz (by omega) rfl (.tmp 57) (.tmp 66) rfl rfl rfl ?_; intro g5 cap5 w5 own5 hg5)
                  | fail)
              go_wp2_with fail
              have OW5 : Hid (w5.ownsRow w2.heap.size 3 1 (.slice (some ⟨g5, 0, none⟩) (2 * (L.length - (j + 1)) + 2) cap5) (2 * (L.length - j)) (vI (turnT L j))) := by
                have e : 2 * (L.length - (j + 1)) + 2 = 2 * (L.length - j) := by omega
                show w5.ownsRow _ _ _ _ _ _
                rw [HT.out, vI_append, ← e]
                exact own5
              have HB5 := Lib.hid (own_below (OWD.out.alloc (.cells #[.int .i64 x, .int .i64 x] 3)) (Nat.le_refl _) (hBD.out.alloc hsz _) hg5 (by rw [World.size_alloc]; omega))
              clear own5 hg5 HT OWD hsz hBD
              go_roundw
              case rel => exact ⟨j, true, _, by omega, rfl, by go_num, rfl, HN, OW5, HB5⟩
              case measure => first | (simp [intOf]; done) | (simp [intOf]; omega)
            · have q2 : decide (0 ≤ n) = true := decide_eq_true e2
              have q3 : decide (n < 32) = false := decide_eq_false e3
              have HN : Hid (false = (L.drop j).any (pN n)) := by show _ = _; rw [HD.out, HP.out]; simp [e1, e2, e3]
              clear HD HP e1 e2 e3
              go_upto_region 12 with fail
              go_region_held3 (fun w' => w'.cell? (p.add j) = some (.int .i64 x))
                (first | exact (cell_grown OWD.out hg5 hsz hmq.out).trans d1 | go_keep)
                (first
                  | (refine step_two (x := x) OWD.out hsz (by omega) rfl (.tmp 57) (.tmp 66) rfl rfl rfl ?_; intro g5 cap5 w5 own5 hg5)
                  | fail)
              go_wp2_with fail
              have OW5 : Hid (w5.ownsRow w2.heap.size 3 1 (.slice (some ⟨g5, 0, none⟩) (2 * (L.length - (j + 1)) + 2) cap5) (2 * (L.length - j)) (vI (turnT L j))) := by
                have e : 2 * (L.length - (j + 1)) + 2 = 2 * (L.length - j) := by omega
                show w5.ownsRow _ _ _ _ _ _
                rw [HT.out, vI_append, ← e]
                exact own5
              have HB5 := Lib.hid (own_below (OWD.out.alloc (.cells #[.int .i64 x, .int .i64 x] 3)) (Nat.le_refl _) (hBD.out.alloc hsz _) hg5 (by rw [World.size_alloc]; omega))
              clear own5 hg5 HT OWD hsz hBD
              go_roundw
              case rel => exact ⟨j, false, _, by omega, rfl, by go_num, rfl, HN, OW5, HB5⟩
              case measure => first | (simp [intOf]; done) | (simp [intOf]; omega)
          · have q2 : decide (0 ≤ n) = false := decide_eq_false e2
            have HN : Hid (false = (L.drop j).any (pN n)) := by show _ = _; rw [HD.out, HP.out]; simp [e1, e2]
            clear HD HP e1 e2
            go_upto_region 12 with fail
            go_region_held3 (fun w' => w'.cell? (p.add j) = some (.int .i64 x))
              (first | exact (cell_grown OWD.out hg5 hsz hmq.out).trans d1 | go_keep)
              (first
                | (refine step_two (x := x) OWD.out hsz (by omega) rfl (.tmp 57) (.tmp 66) rfl rfl rfl ?_; intro g5 cap5 w5 own5 hg5)
                | fail)
            go_wp2_with fail
            have OW5 : Hid (w5.ownsRow w2.heap.size 3 1 (.slice (some ⟨g5, 0, none⟩) (2 * (L.length - (j + 1)) + 2) cap5) (2 * (L.length - j)) (vI (turnT L j))) := by
              have e : 2 * (L.length - (j + 1)) + 2 = 2 * (L.length - j) := by omega
              show w5.ownsRow _ _ _ _ _ _
              rw [HT.out, vI_append, ← e]
              exact own5
            have HB5 := Lib.hid (own_below (OWD.out.alloc (.cells #[.int .i64 x, .int .i64 x] 3)) (Nat.le_refl _) (hBD.out.alloc hsz _) hg5 (by rw [World.size_alloc]; omega))
            clear own5 hg5 HT OWD hsz hBD
            go_roundw
            case rel => exact ⟨j, false, _, by omega, rfl, by go_num, rfl, HN, OW5, HB5⟩
            case measure => first | (simp [intOf]; done) | (simp [intOf]; omega)
        · have q1 : (x == n) = false := beq_eq_false_iff_ne.2 e1
          have HN : Hid (false = (L.drop j).any (pN n)) := by show _ = _; rw [HD.out, HP.out]; simp [e1]
          clear HD HP e1
          go_upto_region 12 with fail
          go_region_held3 (fun w' => w'.cell? (p.add j) = some (.int .i64 x))
            (first | exact (cell_grown OWD.out hg5 hsz hmq.out).trans d1 | go_keep)
            (first
              | (refine step_two (x := x) OWD.out hsz (by omega) rfl (.tmp 57) (.tmp 66) rfl rfl rfl ?_; intro g5 cap5 w5 own5 hg5)
              | fail)
          go_wp2_with fail
          have OW5 : Hid (w5.ownsRow w2.heap.size 3 1 (.slice (some ⟨g5, 0, none⟩) (2 * (L.length - (j + 1)) + 2) cap5) (2 * (L.length - j)) (vI (turnT L j))) := by
            have e : 2 * (L.length - (j + 1)) + 2 = 2 * (L.length - j) := by omega
            show w5.ownsRow _ _ _ _ _ _
            rw [HT.out, vI_append, ← e]
            exact own5
          have HB5 := Lib.hid (own_below (OWD.out.alloc (.cells #[.int .i64 x, .int .i64 x] 3)) (Nat.le_refl _) (hBD.out.alloc hsz _) hg5 (by rw [World.size_alloc]; omega))
          clear own5 hg5 HT OWD hsz hBD
          go_roundw
          case rel => exact ⟨j, false, _, by omega, rfl, by go_num, rfl, HN, OW5, HB5⟩
          case measure => first | (simp [intOf]; done) | (simp [intOf]; omega)
    · obtain rfl : k = 0 := by omega
      have hzn : ¬ (0 : Int) ≤ z := by omega
      have hml := turnT_len L 0
      obtain ⟨A5, c5, hv5, hI5⟩ := Ints.of_own (L := turnT L 0) hO.out hml.symm (by omega)
      subst hv5
      have hbk2 : bk = L.any (pN n) := by have := hbk.out; rwa [List.drop_zero] at this
      have hts := turnT_set L
      have HBK : Hid ((decide (0 ≤ n ∧ n < 32) && setOf L n.toNat) = bk) := by show _ = _; rw [hbk2, any_pN]
      have hba : (readF (setOf L) 32).any (fun y => decide (y = n)) = bk := (any_told L n).trans HBK.out
      have hdl : (readF (setOf L) 32).length ≤ 32 := by
        have := riseK_len (setOf L) 32
        simpa [readF, natsI] using this
      have HMD : Hid (Calls Try.prog 23 #[.int .i64 rv, .slice A5 (turnT L 0).length c5] wr fun e w' => ∃ g, e = .returned (.tuple #[.pointer (some ⟨g, 0, none⟩), .bool true]) ∧ SetAt w' g (rvM rv) 32 (setOf L) ∧ wr.heap.size ≤ g ∧ Below wr.heap.size wr w') := by
        have h := made_any rv hI5 (Nat.le_refl _) c5
        rw [hts] at h
        exact h
      obtain ⟨nM, hnM⟩ : ∃ nM, nM = (turnT L 0).length := ⟨_, rfl⟩
      rw [← hnM] at HMD ⊢
      have hAL3 := HS
      have HB := Lib.hid hB.out
      have HSW := Lib.hid (HS.out.below hB.out)
      have B3 := Lib.hid (B2.out.trans (hB.out.mono h2.out))
      have HALL : Hid (∀ {w : World} {g : Nat}, SetAt w g (rvM rv) 32 (setOf L) → Calls Try.prog 17 #[.pointer (some ⟨g, 0, none⟩)] w fun e w' => ∃ (A : Option Addr) (c : Nat), e = .returned (.slice A (readF (setOf L) 32).length c) ∧ Ints w' w'.heap.size A (readF (setOf L) 32) ∧ Below w.heap.size w w') := fun h => (all_any h).mono fun e w' ⟨A, c, h1, h2, _, h3⟩ => ⟨A, c, h1, h2, h3⟩
      have HHAS : Hid (∀ {w : World} {g : Nat}, SetAt w g (rvM rv) 32 (setOf L) → Calls Try.prog 18 #[.pointer (some ⟨g, 0, none⟩), .int .i64 n] w fun e w' => e = .returned (.bool bk) ∧ w = w') := fun h => by
        have h := has_any h n
        rw [HBK.out] at h
        exact h
      obtain ⟨D, hD⟩ : ∃ D, D = readF (setOf L) 32 := ⟨_, rfl⟩
      have HUP : Hid (∀ i j (hij : i < j) (hj : j < D.length), D[i]'(by omega) < D[j]) := by
        rw [hD]
        exact rise_up (setOf L) 32
      rw [← hD] at hba hdl HALL
      clear hml hI5 hbk2 hts hnM hD hO hB hbk HBK HI2 HS hAL3 B2 hz
      go_wp2_with fail
      refine HMD.out.mono ?_
      rintro e w4 ⟨g4, rfl, hS4, _, b4⟩
      have B4 := Lib.hid (B3.out.trans (b4.mono B3.out.size))
      have HSW4 := Lib.hid (HSW.out.below b4)
      have HS4 := Lib.hid hS4
      clear b4 hS4 HMD B3 HSW HB
      dsimp only
      go_wp2_with fail
      refine (HALL.out HSW4.out).mono ?_
      rintro e w5 ⟨A6, c6, rfl, hI6, b5⟩
      have B5 := Lib.hid (B4.out.trans (b5.mono B4.out.size))
      have HSW5 := Lib.hid (HSW4.out.below b5)
      have HS5 := Lib.hid (HS4.out.below b5)
      have HI6 := Lib.hid hI6
      have h5 : Hid (w.heap.size ≤ w5.heap.size) := B5.out.size
      clear b5 hI6 B4 HSW4 HS4
      dsimp only
      go_wp2_with fail
      go_loopw [14] (fun i wr' => ∃ (j : Nat) (z : Int), (j = 0 ∨ j + 1 ≤ D.length) ∧ i = .int .i64 z ∧ z = (j : Int) + 1 ∧ Hid (Below w5.heap.size w5 wr')) (fun i _ => D.length + 1 - (intOf i).toNat)
      case atStart => exact ⟨0, _, .inl rfl, rfl, by omega, Below.refl _ _⟩
      case round =>
        obtain ⟨j, z, hj, rfl, hz, hBB⟩ := hrel
        by_cases hlt : j + 1 < D.length
        · obtain ⟨p1, rfl, m1, e1⟩ := HI6.out.cell j (by omega)
          obtain ⟨p2, hp2, m2, e2⟩ := HI6.out.cell (j + 1) hlt
          cases hp2
          have d1 := (hBB.out.cell (p := p1.add j) (by rw [ad_block]; exact m1)).trans e1
          have d2 := (hBB.out.cell (p := p1.add (j + 1)) (by rw [ad_block]; exact m1)).trans e2
          have hup := HUP.out j (j + 1) (by omega) hlt
          obtain ⟨y1, hy1⟩ : ∃ y, y = D[j] := ⟨_, rfl⟩
          obtain ⟨y2, hy2⟩ : ∃ y, y = D[j + 1] := ⟨_, rfl⟩
          rw [← hy1] at d1 hup
          rw [← hy2] at d2 hup
          have q1 : decide (y2 ≤ y1) = false := decide_eq_false (by omega)
          have i1 : (0 : Int) ≤ (j : Int) := by omega
          subst hz
          have i2 : (j : Int) + 1 < (D.length : Int) := by omega
          have i3 : (j : Int) < (D.length : Int) := by omega
          have i4 : (0 : Int) ≤ (j : Int) + 1 := by omega
          have i5 : IntKind.i64.wrap (j : Int) = (j : Int) := IntWalk.i64_in _ (by omega)
          have i6 : ((j : Int) + 1).toNat = j + 1 := by omega
          have ea : p1.add (j + 1) = ⟨p1.block, p1.off + (j + 1), none⟩ := by unfold Addr.add; split <;> simp_all
          rw [ea] at d2
          clear e1 e2 hup hy1 hy2 m1 m2
          go_upto_region 18 with fail
          go_quiet (fail)
          go_wp2_with fail
          have HBN := Lib.hid (hBB.out.trans ((drewN_below2 wr nq).mono hBB.out.size))
          go_roundw
          case rel => exact ⟨j + 1, _, .inr (by omega), rfl, by omega, HBN⟩
          case measure => simp [intOf]; omega
        · have hzn : ¬ z < (D.length : Int) := by omega
          clear hz hj
          go_wp2_with fail
          go_loopw [15, 16] (fun sm i wr' => ∃ (k : Nat) (tb : Bool), k ≤ D.length ∧ sm = .bool tb ∧ i = .int .i64 k ∧ Hid (tb = (D.take k).any (fun y => decide (y = n))) ∧ Hid (Below w5.heap.size w5 wr')) (fun _ i _ => D.length - (intOf i).toNat)
          case atStart => exact ⟨0, false, by omega, rfl, by go_num, rfl, hBB⟩
          case round =>
            obtain ⟨k, tb, hk, rfl, rfl, htb, hBC⟩ := hrel
            by_cases hlt : k < D.length
            · obtain ⟨p1, rfl, m1, e1⟩ := HI6.out.cell k hlt
              have d1 := (hBC.out.cell (p := p1.add k) (by rw [ad_block]; exact m1)).trans e1
              have ht : (D.take (k + 1)).any (fun y => decide (y = n)) = (tb || decide (D[k] = n)) := by
                rw [List.take_succ_eq_append_getElem hlt, List.any_append, ← htb.out]
                simp
              obtain ⟨x, hx⟩ : ∃ x, x = D[k] := ⟨_, rfl⟩
              rw [← hx] at d1 ht
              have i1 : (0 : Int) ≤ (k : Int) := by omega
              have i2 : (k : Int) < (D.length : Int) := by omega
              cases tb with
              | true =>
                have HT : Hid (true = (D.take (k + 1)).any (fun y => decide (y = n))) := by show _ = _; rw [ht]; rfl
                clear e1 ht hx m1 htb
                go_wp2_with fail
                go_roundw
                case rel => exact ⟨k + 1, true, by omega, rfl, by go_num, HT, hBC⟩
                case measure => simp [intOf]; omega
              | false =>
                obtain ⟨q, hq⟩ : ∃ q, q = decide (x = n) := ⟨_, rfl⟩
                have HT : Hid (q = (D.take (k + 1)).any (fun y => decide (y = n))) := by show _ = _; rw [ht, hq]; rfl
                have hq2 : (x == n) = q := by
                  rw [hq]
                  by_cases e : x = n
                  · rw [decide_eq_true e, e]; exact beq_self_eq_true n
                  · rw [decide_eq_false e]; exact beq_eq_false_iff_ne.2 e
                clear e1 ht hx m1 htb hq
                go_wp2_with fail
                go_roundw
                case rel => exact ⟨k + 1, q, by omega, rfl, by go_num, HT, hBC⟩
                case measure => simp [intOf]; omega
            · obtain rfl : k = D.length := by omega
              have hte : tb = bk := by
                have := htb.out
                rw [List.take_length] at this
                exact this.trans hba
              subst hte
              have hbb : (tb == tb) = true := beq_self_eq_true tb
              have B7 := Lib.hid (B5.out.trans (hBC.out.mono h5.out))
              have HSW7 := Lib.hid (HSW5.out.below hBC.out)
              have HS7 := Lib.hid (HS5.out.below hBC.out)
              have HI7 := Lib.hid (HI6.out.below hBC.out (Nat.le_refl _))
              have h75 : Hid (w5.heap.size ≤ wr.heap.size) := hBC.out.size
              clear htb hBC HSW5 HS5 HI6 B5 hba
              go_wp2_with fail
              refine (HHAS.out HSW7.out).mono ?_
              rintro e w' ⟨rfl, rfl⟩
              dsimp only
              go_wp2_with fail
              refine (HALL.out HS7.out).mono ?_
              rintro e w8 ⟨A8, c8, rfl, hI8, b8⟩
              have B8 := Lib.hid (B7.out.trans (b8.mono B7.out.size))
              have HN := Lib.hid (numbers_same D D A8 A6 c8 c6 w8.heap.size w5.heap.size w8 hI8 (HI7.out.below b8 h75.out) (Nat.le_refl _) (Nat.le_trans h75.out b8.size))
              clear b8 hI8 B7
              dsimp only
              go_wp2_with fail
              refine HN.out.mono ?_
              rintro e w9 ⟨rfl, b9⟩
              have B9 := Lib.hid (B8.out.trans (b9.mono B8.out.size))
              clear b9
              dsimp only
              go_wp2_with fail
              go_ret
              exact ⟨rfl, B9.out⟩
theorem ReadsetHas_walk (rv : Int) (h0 : (Lit.int .i64 rv).wf = true) (A1 : Option Addr) (c1 : Nat) (L1 : List Int) (w : World) (hI1 : Ints w w.heap.size A1 L1) (n : Int) (h2 : (Lit.int .i64 n).wf = true) :
    Calls Try.prog 5 #[.int .i64 rv, .slice A1 L1.length c1, .int .i64 n] w fun e w' => e = .returned (.bool true) ∧ Below w.heap.size w w' := by
  by_cases h : 300 < L1.length
  · exact has_big rv n A1 c1 _ hI1.len h w
  · exact has_small rv n A1 c1 L1 (by omega) w hI1
theorem ReadsetHas_laid : laidOutB Try.prog = true := by kernel_rfl
set_option maxRecDepth 100000 in
theorem ReadsetHas_lifted (os : Os) (started : os.Started) (H : Type) (enc : TypeId × Value → H) :
    ReturnsInHanded {} Try.checked os 5 .any (Rows.readsetHasSpec.pre6 enc Try.prog Try.f5 Rows.readsetHasRow.domain false) (Rows.readsetHasSpec.post enc Try.prog Try.f5 false true false false) := by
  refine returnsInHanded_of_change (C := Try.checked) lift_own started (by kernel_rfl) Try.func5
    (ChangeSpec.witness6 (enc := enc) (C := Try.checked) false ⟨#[], #[.int .i64 0, .slice none 0 0, .int .i64 0], []⟩ 8 (by kernel_rfl) (by kernel_rfl) (by kernel_rfl) (by kernel_rfl)) ?_
  intro W base args ds gs before hval0 hW hcnd _
  have hval : ∀ (j : Nat) t v, Try.f5.params[j]? = some t → args[j]? = some v → Value.okWide Try.prog W .any base t v := hval0
  have hW' := hW
  obtain ⟨p, q, hA0, hV, rfl, hfz, hnd⟩ := hW
  have hA : DataW.TrodAll enc Try.prog W 0 (fun _ => true) true Try.f5.params.toList args.toList ds p := hA0
  rw [Try.params5] at hA hval
  obtain ⟨v0, vs0, d0, ds0, p0, q0, hargs, rfl, rfl, h0, r0⟩ := trodAll_cons hA
  obtain ⟨v1, vs1, d1, ds1, p1, q1, rfl, rfl, rfl, h1, r1⟩ := trodAll_cons r0
  obtain ⟨v2, vs2, d2, ds2, p2, q2, rfl, rfl, rfl, h2, r2⟩ := trodAll_cons r1
  obtain ⟨rfl, rfl, rfl⟩ := trodAll_nil r2
  obtain rfl : args = #[v0, v1, v2] := by cases args; simp_all
  obtain ⟨rfl, rfl⟩ := trodVars_none hV
  obtain ⟨a0, rfl, rfl, rfl, w0⟩ := open_int Try.underlying3 (hval 0 3 v0 rfl rfl) h0
  obtain ⟨A1, c1, L1, rfl, hI1⟩ := open_nums10 (hval 1 22 v1 rfl rfl) h1
  obtain ⟨a2, rfl, rfl, rfl, w2⟩ := open_int Try.underlying3 (hval 2 3 v2 rfl rfl) h2
  clear hA0 hval0
  simp only [List.append_nil, List.nil_append] at hW'
  refine (ReadsetHas_walk a0 w0 A1 c1 L1 W hI1 a2 w2).mono fun e W' ⟨he, hg⟩ => ?_
  subst he
  exact ⟨_, rfl, lift_post (pv := []) hW' (fun _ _ _ => (trodAll_cons_mk (shut_bool Try.underlying4 _) trodAll_mk0)) (fun sp hsp => (trodAll_cons_mk (shut_int Try.underlying3 w0) (trodAll_cons_mk (WideElems.Trod_stays ReadsetHas_laid (by kernel_rfl) (of_decide_eq_true (by kernel_rfl)) h1 (fun x hx => hg.same (hW'.lt x (by simp [hx]))) (fun x hx => hsp x (by simp [hx]))) (trodAll_cons_mk (shut_int Try.underlying3 w2) trodAll_mk0)))) (fun _ _ => rfl) (by simp)
    hg (ok_one (by kernel_rfl) rfl (okWide_bool_mk Try.underlying4 _))⟩

/-- THE STATEMENT of ReadsetHas: for every input the call returns true, and each argument reads behind it as before. -/
theorem ReadsetHas_holds : Rows.ReadsetHasSaid :=
  OpenClaim.holds_of_wide 5 Try.f5 rfl rfl rfl rfl rfl rfl rfl ⟨rfl, rfl, rfl, rfl, rfl⟩ rfl rfl rfl rfl rfl (by kernel_rfl) Try.func5 (by kernel_rfl)
    (of_decide_eq_true (by kernel_rfl)) (by unfold Func.isWrapper; first | (rw [if_pos (by decide +kernel)]; kernel_rfl) | (rw [if_neg (by decide +kernel)]; exact ⟨rfl, rfl⟩))
    (fun os started H enc _ => ReadsetHas_lifted os started H enc)
end Go.Proofs.Ytdlikmekcgdmkaa
