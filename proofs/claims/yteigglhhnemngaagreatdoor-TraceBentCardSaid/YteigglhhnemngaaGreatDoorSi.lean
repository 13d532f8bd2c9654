/-
  CONTRACTS OF PACKAGE shape: goes, anothers, still, outdated. Conditions: as they stand.
-/
import Derived.Test.YteigglhhnemngaaGreatDoorSf
import Derived.BigQuiet
import Derived.Test.YteigglhhnemngaaGreatDoorQ10
import Derived.Deep.MidRow
namespace Go.Proofs.YteigglhhnemngaaGreatDoor
set_option maxRecDepth 100000
open Go.RowKit Go.Deep
set_option linter.unusedVariables false
section
variable {w : World} {g : Nat} {T V S : Int} {p : PS} {t : Nat}
set_option maxHeartbeats 4000000 in
theorem goes_any (h : ChkAt w g T V S p) (ht : t < 6) (k : Int) : Calls Tryz.prog 156 #[.pointer (some ⟨g, 69 + t * 71, none⟩), .int .i64 k] w fun e w' => e = .returned (.bool true) ∧ UpdC w g T V S (goP p t k) w' := by
  have HU := Lib.hid ((UpdC.refl h).wh ht k)
  have c0 := h.wh ht
  have fz := h.fr (69 + t * 71)
  obtain ⟨o, ho⟩ : ∃ o, o = 69 + t * 71 := ⟨_, rfl⟩
  rw [← ho] at HU c0 fz ⊢
  clear h ho
  go_enter Tryz.func156, Tryz.ntmps156
  go_wp2_with fail
  go_ret
  exact ⟨rfl, HU.out⟩
set_option maxHeartbeats 4000000 in
theorem anothers_any (o v who : Int) (w : World) : Calls Tryz.prog 157 #[.agg #[.int .i64 o, .int .i64 v], .int .i64 who] w fun e w' => e = .returned (.bool (decide (o ≠ -1) && decide (o ≠ who))) ∧ Below w.heap.size w w' := by
  by_cases h1 : o = -1
  · rw [show (decide (o ≠ -1) && decide (o ≠ who)) = false by simp [h1]]
    have e1 : (o != -1) = false := by simp [h1]
    clear h1
    go_enter Tryz.func157, Tryz.ntmps157
    go_wp2_with fail
    go_ret
    exact ⟨rfl, (Below.refl _ _).alloc (Nat.le_refl _) _⟩
  · have e1 : (o != -1) = true := by simp [h1]
    obtain ⟨b, hb⟩ : ∃ b, b = (o != who) := ⟨_, rfl⟩
    have e2 := hb.symm
    rw [show (decide (o ≠ -1) && decide (o ≠ who)) = b by rw [hb]; simp only [h1, ne_eq, not_false_eq_true, decide_true, Bool.true_and]; by_cases h : o = who <;> simp [h]]
    clear h1 hb
    go_enter Tryz.func157, Tryz.ntmps157
    go_wp2_with fail
    go_ret
    exact ⟨rfl, (Below.refl _ _).alloc (Nat.le_refl _) _⟩
set_option maxRecDepth 100000 in
theorem eql_stripe (a b c d : Int) (w : World) : (Go.binOp .eql 153 (.agg #[.int .i64 a, .int .i64 b]) (.agg #[.int .i64 c, .int .i64 d])).run Tryz.prog w = .ok (.bool (decide (a = c) && decide (b = d))) w := by
  have hu := Tryz.underlying153
  have hb := Tryz.underlying3
  rw [run_eql_struct, show (10000 : Nat) = 9999 + 1 from rfl, run_equalIn_agg w 9999 153 _ _ (by kernel_rfl) (by kernel_rfl)]
  simp only [Program.fieldsOf, hu]
  rw [show (9999 : Nat) = 9998 + 1 from rfl]
  have hsz := Tryz.sizeOf3
  have hia := Tryz.isAgg3
  simp [Op.eqFields, go_sem]
  by_cases h1 : a = c <;> by_cases h2 : b = d <;> simp [*]
theorem still_b {s : Nat} (hp : p.pos t = (s : Int)) : stillP p t = (decide (p.own s = -1) && decide (p.ver s = p.seen t)) := by
  unfold stillP
  rw [hp]
  rfl
set_option maxHeartbeats 4000000 in
theorem still_any (h : ChkAt w g T V S p) (ht : t < 6) {s : Nat} (hs : s < 32) (hp : p.pos t = (s : Int)) : Calls Tryz.prog 159 #[.pointer (some ⟨g, 0, none⟩), .pointer (some ⟨g, 69 + t * 71, none⟩)] w fun e w' => e = .returned (.bool (stillP p t)) ∧ ∃ n, w' = w.drewN n := by
  rw [still_b hp]
  have c0 := h.own hs
  have c1 := h.ver hs
  have c2 := h.pos ht
  have c3 := h.seen ht
  rw [hp] at c2
  have HE := fun w1 => eql_stripe (p.own s) (p.ver s) (-1) (p.seen t) w1
  obtain ⟨b, hb⟩ : ∃ b, b = (decide (p.own s = -1) && decide (p.ver s = p.seen t)) := ⟨_, rfl⟩
  rw [← hb] at HE ⊢
  generalize p.own s = x0 at *
  generalize p.ver s = x1 at *
  generalize p.seen t = x2 at *
  obtain ⟨o, ho⟩ : ∃ o, o = 69 + t * 71 := ⟨_, rfl⟩
  rw [← ho] at c2 c3 ⊢
  have i1 : (0 : Int) ≤ (s : Int) := by omega
  have i2 : (s : Int) < 32 := by omega
  clear h ho hb hp
  go_enter Tryz.func159, Tryz.ntmps159
  go_wp2_with fail
  go_quiet (fail)
  go_wp2_with fail
  go_ret
  exact ⟨rfl, _, rfl⟩
end
end Go.Proofs.YteigglhhnemngaaGreatDoor
namespace Go.Proofs.YteigglhhnemngaaGreatDoor
set_option maxRecDepth 100000
open Go.RowKit Go.Deep
set_option linter.unusedVariables false
def strL (T V S : Int) (p : PS) : List Value := (List.range 64).map fun j => cellP T V S p (5 + j)
theorem strL_len (T V S : Int) (p : PS) : (strL T V S p).length = 64 := by simp [strL]
theorem strL_at {T V S : Int} {p : PS} {j : Nat} (h : j < 64) : (strL T V S p)[j]? = some (cellP T V S p (5 + j)) := by simp [strL, h]
theorem retI {a b : Int} (h : a = b) : Ending.returned (.int .i64 b) = .returned (.int .i64 a) := by rw [h]
theorem retB {a b : Bool} (h : a = b) : Ending.returned (.bool b) = .returned (.bool a) := by rw [h]
section
variable {w : World} {g : Nat} {T V S : Int} {p : PS} {t : Nat}
theorem ChkAt.str (h : ChkAt w g T V S p) : w.rangeAt g 5 (strL T V S p) := fun j v hj => by
  have hl : j < 64 := by rw [← strL_len T V S p]; exact (List.getElem?_eq_some_iff.1 hj).1
  rw [strL_at hl] at hj
  rw [h.cell (by omega)]
  exact hj
theorem idx_str {k : Nat} (hk : k < 32) (w : World) : (Instr.index 154 (.agg (strL T V S p).toArray) (.int .i64 (k : Int))).run Tryz.prog w = .ok (.agg #[.int .i64 (p.own k), .int .i64 (p.ver k)]) w := by
  have hu := Tryz.underlying154
  have hs := Tryz.sizeOf153
  have ha := Tryz.isAgg153
  have hn : 0 ≤ (k : Int) ∧ (k : Int) < ((32 : Nat) : Int) := by omega
  have e1 : List.take 2 (List.drop (k * 2) (strL T V S p)) = [.int .i64 (p.own k), .int .i64 (p.ver k)] := by
    apply List.ext_getElem?
    intro j
    rw [List.getElem?_take, List.getElem?_drop]
    match j with
    | 0 =>
      rw [if_pos (by omega), strL_at (by omega), show 5 + (k * 2 + 0) = 5 + k * 2 by omega, c_own hk]
      rfl
    | 1 =>
      rw [if_pos (by omega), strL_at (by omega), show 5 + (k * 2 + 1) = 5 + k * 2 + 1 by omega, c_ver hk]
      rfl
    | j + 2 =>
      rw [if_neg (by omega)]
      simp
  simp [Instr.index, run_underlying hu, asIntOf, hn, part, go_sem]
  rw [if_pos hk, e1]
set_option maxHeartbeats 4000000 in
theorem least_any (h : ChkAt w g T V S p) (who : Int) : Calls Tryz.prog 158 #[.pointer (some ⟨g, 0, none⟩), .int .i64 who] w fun e w' => e = .returned (.int .i64 (leastP p who)) ∧ Below w.heap.size w w' := by
  have HR := Lib.hid h.str
  have HX := Lib.hid (fun (k : Nat) (hk : k < 32) (w1 : World) => idx_str (T := T) (V := V) (S := S) (p := p) hk w1)
  have hl := strL_len T V S p
  generalize strL T V S p = L at *
  clear h
  go_enter Tryz.func158, Tryz.ntmps158
  go_wp2_with (first
    | (refine wpList_load_mid rfl 154 _ rfl g 5 rfl L _ HR.out Tryz.underlying154 rfl (by rw [hl]; kernel_rfl) ?_)
    | fail)
  obtain ⟨cs, hcs⟩ : ∃ cs, cs = L.toArray := ⟨_, rfl⟩
  rw [← hcs] at HX ⊢
  clear hcs HR hl
  go_loopw [11] (fun iv wr => ∃ k : Nat, k ≤ 32 ∧ iv = .int .i64 k ∧ Hid (∀ j, j < k → p.own j ≠ who) ∧ Hid (Below w.heap.size w wr)) (fun iv _ => 32 - (intOf iv).toNat)
  case atStart => exact ⟨0, by omega, rfl, fun j hj => by omega, Below.refl _ _⟩
  case round =>
    obtain ⟨k, hk, rfl, hno, hB⟩ := hrel
    by_cases hlt : k < 32
    · have hx := HX.out k hlt
      have hii : (k : Int) < 32 := by omega
      have hno' := hno
      obtain ⟨y, hy⟩ : ∃ y, y = p.own k := ⟨_, rfl⟩
      obtain ⟨z, hz⟩ : ∃ z, z = p.ver k := ⟨_, rfl⟩
      rw [← hy, ← hz] at hx
      have HY := Lib.hid hy
      clear hy hz HX
      have HA : Hid (∀ o : Go.Obj, Below w.heap.size w (wr.alloc o)) := fun o => hB.out.alloc hB.out.size o
      by_cases hw : y = who
      · have HL : Hid (leastP p who = (k : Int)) := findN_some hlt (by simp [← HY.out, hw]) (fun j hj => by simpa using hno.out j hj)
        have e1 : (y == who) = true := by simp [hw]
        clear hw
        go_wp2_with fail
        go_ret
        exact ⟨retI HL.out, HA.out _⟩
      · have e1 : (y == who) = false := by simp [hw]
        have HN : Hid (∀ j, j < k + 1 → p.own j ≠ who) := fun j hj => by
          by_cases h : j < k
          · exact hno.out j h
          · obtain rfl : j = k := by omega
            rw [← HY.out]; exact hw
        clear hw
        go_wp2_with fail
        go_roundw
        case rel => exact ⟨k + 1, by omega, by go_num, HN, HA.out _⟩
        case measure => simp [intOf]; omega
    · have hii : ¬ (k : Int) < 32 := by omega
      have HL : Hid (leastP p who = -1) := findN_none fun s hs => by simpa using hno.out s (by omega)
      clear HX
      go_wp2_with fail
      go_ret
      exact ⟨retI HL.out, hB.out⟩
set_option maxHeartbeats 4000000 in
theorem next_any (h : ChkAt w g T V S p) (ht : t < 6) (hl : -1 ≤ p.last t ∧ p.last t ≤ 31) : Calls Tryz.prog 160 #[.pointer (some ⟨g, 69 + t * 71, none⟩)] w fun e w' => e = .returned (.int .i64 (nextP p t)) ∧ w = w' := by
  have c0 := h.last ht
  have HR := Lib.hid (fun (s : Nat) (hs : s < 32) => h.rd ht hs)
  obtain ⟨m, hm⟩ : ∃ m : Nat, p.last t = (m : Int) - 1 := ⟨(p.last t + 1).toNat, by omega⟩
  have hm32 : m ≤ 32 := by omega
  have HM := Lib.hid hm
  rw [hm] at c0
  obtain ⟨o, ho⟩ : ∃ o, o = 69 + t * 71 := ⟨_, rfl⟩
  rw [← ho] at HR c0 ⊢
  clear h ho hm hl
  have i0 : IntKind.i64.wrap ((m : Int) - 1 + 1) = (m : Int) := by rw [show (m : Int) - 1 + 1 = m by omega]; exact IntWalk.i64_in _ ⟨by omega, by omega⟩
  go_enter Tryz.func160, Tryz.ntmps160
  go_wp2_with fail
  go_loopw [3] (fun iv wr => ∃ k : Nat, m ≤ k ∧ k ≤ 32 ∧ iv = .int .i64 k ∧ Hid (∀ j : Nat, j < k → (decide (p.last t < (j : Int)) && p.rd t j) = false) ∧ wr = w) (fun iv _ => 32 - (intOf iv).toNat)
  case atStart => exact ⟨m, by omega, by omega, by go_num, (fun j hj => by have h1 := HM.out; rw [decide_eq_false (by omega)]; rfl), rfl⟩
  case round =>
    obtain ⟨k, hmk, hk, rfl, hno, rfl⟩ := hrel
    by_cases hlt : k < 32
    · have hx := HR.out k hlt
      have hii : (k : Int) < 32 := by omega
      have hi0 : (0 : Int) ≤ (k : Int) := by omega
      obtain ⟨y, hy⟩ : ∃ y, y = p.rd t k := ⟨_, rfl⟩
      rw [← hy] at hx
      have HY := Lib.hid hy
      clear hy HR
      by_cases hw : y = true
      · subst hw
        have HL : Hid (nextP p t = (k : Int)) := findN_some hlt (by have := HM.out; simp [← HY.out]; omega) (fun j hj => hno.out j hj)
        go_wp2_with fail
        go_ret
        exact ⟨retI HL.out, rfl⟩
      · obtain rfl : y = false := by simpa using hw
        have HN : Hid (∀ j : Nat, j < k + 1 → (decide (p.last t < (j : Int)) && p.rd t j) = false) := fun j hj => by
          by_cases h : j < k
          · exact hno.out j h
          · obtain rfl : j = k := by omega
            rw [← HY.out]; simp
        clear hw
        go_wp2_with fail
        go_roundw
        case rel => exact ⟨k + 1, by omega, by omega, by go_num, HN, trivial⟩
        case measure => simp [intOf]; omega
    · have hii : ¬ (k : Int) < 32 := by omega
      have HL : Hid (nextP p t = -1) := findN_none fun s hs => hno.out s (by omega)
      clear HR
      go_wp2_with fail
      go_ret
      exact ⟨retI HL.out, rfl⟩
set_option maxHeartbeats 4000000 in
theorem stored_any (h : ChkAt w g T V S p) (ht : t < 6) (who : Int) : Calls Tryz.prog 162 #[.pointer (some ⟨g, 0, none⟩), .pointer (some ⟨g, 69 + t * 71, none⟩), .int .i64 who] w fun e w' => e = .returned (.bool (allP p t who)) ∧ Below w.heap.size w w' := by
  have HR := Lib.hid h.str
  have HX := Lib.hid (fun (k : Nat) (hk : k < 32) (w1 : World) => idx_str (T := T) (V := V) (S := S) (p := p) hk w1)
  have hl := strL_len T V S p
  have hg := h.lt
  have HC := Lib.hid (fun (s : Nat) (hs : s < 32) => h.st ht hs)
  obtain ⟨o, ho⟩ : ∃ o, o = 69 + t * 71 := ⟨_, rfl⟩
  rw [← ho] at HC ⊢
  generalize strL T V S p = L at *
  clear h ho
  go_enter Tryz.func162, Tryz.ntmps162
  go_wp2_with (first
    | (refine wpList_load_mid rfl 154 _ rfl g 5 rfl L _ HR.out Tryz.underlying154 rfl (by rw [hl]; kernel_rfl) ?_)
    | fail)
  obtain ⟨cs, hcs⟩ : ∃ cs, cs = L.toArray := ⟨_, rfl⟩
  rw [← hcs] at HX ⊢
  clear hcs HR hl
  go_loopw [13] (fun iv wr => ∃ k : Nat, k ≤ 32 ∧ iv = .int .i64 k ∧ Hid (∀ j, j < k → (!(decide (p.own j = who) && !(p.st t j))) = true) ∧ Hid (Below w.heap.size w wr)) (fun iv _ => 32 - (intOf iv).toNat)
  case atStart => exact ⟨0, by omega, rfl, fun j hj => by omega, Below.refl _ _⟩
  case round =>
    obtain ⟨k, hk, rfl, hno, hB⟩ := hrel
    by_cases hlt : k < 32
    · have hx := HX.out k hlt
      have hii : (k : Int) < 32 := by omega
      have hi0 : (0 : Int) ≤ (k : Int) := by omega
      have cst := ((hB.out.alloc hB.out.size (.cells #[.int .i64 (p.own k), .int .i64 (p.ver k)] 153)).cell (p := ⟨g, o + 38 + k, none⟩) hg).trans (HC.out k hlt)
      obtain ⟨y, hy⟩ : ∃ y, y = p.own k := ⟨_, rfl⟩
      obtain ⟨z, hz⟩ : ∃ z, z = p.ver k := ⟨_, rfl⟩
      obtain ⟨b, hb⟩ : ∃ b, b = p.st t k := ⟨_, rfl⟩
      rw [← hy, ← hz] at hx cst
      rw [← hb] at cst
      have HY := Lib.hid hy
      have HZ := Lib.hid hb
      clear hy hz HX HC hb
      have HA : Hid (∀ o : Go.Obj, Below w.heap.size w (wr.alloc o)) := fun o => hB.out.alloc hB.out.size o
      have HN : Hid ((!(decide (y = who) && !b)) = true → ∀ j, j < k + 1 → (!(decide (p.own j = who) && !(p.st t j))) = true) := fun hq j hj => by
        by_cases h : j < k
        · exact hno.out j h
        · obtain rfl : j = k := by omega
          rw [← HY.out, ← HZ.out]; exact hq
      by_cases hw : y = who
      · have e1 : (y == who) = true := by simp [hw]
        cases b with
        | false =>
          have HL : Hid (allP p t who = false) := by
            show _ = _
            unfold allP
            rw [List.all_eq_false]
            exact ⟨k, List.mem_range.2 hlt, by rw [← HY.out, ← HZ.out, hw]; simp⟩
          clear hw HN
          go_wp2_with fail
          go_ret
          exact ⟨retB HL.out, HA.out _⟩
        | true =>
          have HN2 := Lib.hid (HN.out (by simp))
          clear hw HN
          go_wp2_with fail
          go_roundw
          case rel => exact ⟨k + 1, by omega, by go_num, HN2, HA.out _⟩
          case measure => simp [intOf]; omega
      · have e1 : (y == who) = false := by simp [hw]
        have HN2 := Lib.hid (HN.out (by simp [hw]))
        clear hw HN cst
        go_wp2_with fail
        go_roundw
        case rel => exact ⟨k + 1, by omega, by go_num, HN2, HA.out _⟩
        case measure => simp [intOf]; omega
    · have hii : ¬ (k : Int) < 32 := by omega
      have HL : Hid (allP p t who = true) := by
        show _ = _
        unfold allP
        rw [List.all_eq_true]
        intro s hs
        exact hno.out s (by have := List.mem_range.1 hs; omega)
      clear HX HC
      go_wp2_with fail
      go_ret
      exact ⟨retB HL.out, hB.out⟩
end
end Go.Proofs.YteigglhhnemngaaGreatDoor
