/-
  CONTRACTS OF PACKAGE shape: wake; row. Laid in part by program. Conditions: as they stand.
-/
import Derived.Test.YtnkkakcnlcmikaaDoorSr
namespace Go.Proofs.YtnkkakcnlcmikaaDoor
set_option maxRecDepth 100000
open Go.RowKit Go.Deep
set_option linter.unusedVariables false
set_option linter.unusedSimpArgs false
section
variable {w : World} {g : Nat} {T V S : Int} {p : PS} {t s : Nat} {e : Ev}
set_option maxHeartbeats 4000000 in
theorem wake_step (H : StepIn w g T V S p t s e) : Calls Tryd.prog 80 #[.pointer (some ⟨g, 0, none⟩), .pointer (some ⟨g, 69 + t * 71, none⟩), .int .i64 (s : Int), evV e] w (StepPost w g T V S p (wakeP p t s e)) := by
  obtain ⟨hc, ok, ht, hs, hth, hpl, hv⟩ := H
  obtain ⟨kd, th, tx, pl, v, x, y⟩ := e
  have hg := hc.lt
  have U0 : Hid (UpdC w g T V S p (w.alloc (.cells #[.int .u8 kd, .int .i64 th, .int .i64 tx, .int .i64 pl, .int .i64 v, .int .i64 x, .int .u8 y] 27))) := (UpdC.refl hc).alloc _
  clear hth hpl hv hc
  unfold evV
  simp only
  have hl := strL_len T V S p
  go_enter Tryd.func80, Tryd.ntmps80
  go_wp2_with (first
    | (refine wpList_load_mid rfl 59 _ rfl g 5 rfl (strL T V S p) _ U0.out.at'.str Tryd.underlying59 rfl (by rw [hl]; kernel_rfl) ?_)
    | fail)
  have HX := Lib.hid (fun (k : Nat) (hk : k < 32) (w1 : World) => idx_str (T := T) (V := V) (S := S) (p := p) hk w1)
  generalize (strL T V S p).toArray = cs at HX ⊢
  generalize w.alloc (.cells #[.int .u8 kd, .int .i64 th, .int .i64 tx, .int .i64 pl, .int .i64 v, .int .i64 x, .int .u8 y] 27) = W1 at U0 ⊢
  clear hl
  go_loopw [15] (fun iv wr => ∃ k : Nat, k ≤ 32 ∧ iv = .int .i64 k ∧ Hid (∀ j, j < k → (p.rd t j && decide (p.own j = -1) && decide (p.rv t < p.ver j)) = false) ∧ Hid (UpdC w g T V S p wr)) (fun iv _ => 32 - (intOf iv).toNat)
  case atStart => exact ⟨0, by omega, rfl, fun j hj => by omega, U0⟩
  case round =>
    obtain ⟨k, hk, rfl, hno, hU⟩ := hrel
    by_cases hlt : k < 32
    · have hx := HX.out k hlt
      have hii : (k : Int) < 32 := by omega
      have hi0 : (0 : Int) ≤ (k : Int) := by omega
      have crd := ((hU.out.alloc (.cells #[.int .i64 (p.own k), .int .i64 (p.ver k)] 58)).at'.rd ht hlt)
      have crv := ((hU.out.alloc (.cells #[.int .i64 (p.own k), .int .i64 (p.ver k)] 58)).at'.rv ht)
      have HA : Hid (∀ o : Obj, UpdC w g T V S p (wr.alloc o)) := fun o => hU.out.alloc o
      have HN : Hid ((p.rd t k && decide (p.own k = -1) && decide (p.rv t < p.ver k)) = false → ∀ j, j < k + 1 → (p.rd t j && decide (p.own j = -1) && decide (p.rv t < p.ver j)) = false) := fun hq j hj => by
        by_cases h : j < k
        · exact hno.out j h
        · obtain rfl : j = k := by omega
          exact hq
      clear HX
      have hcase : p.rd t k = false ∨ p.rd t k = true := by cases p.rd t k <;> simp
      rcases hcase with h1 | h1
      · have HN2 := Lib.hid (HN.out (by rw [h1]; rfl))
        rw [h1] at crd
        clear h1 HN
        go_wp2_with fail
        go_quiet (fail)
        go_wp2_with fail
        go_roundw
        case rel => exact ⟨k + 1, by omega, by go_num, HN2, (HA.out _).of (drewN_below2 _ _)⟩
        case measure => simp [intOf]; omega
      · rw [h1] at crd
        by_cases h2 : p.own k = -1
        · have e2 : (p.own k == -1) = true := by simp [h2]
          by_cases h3 : p.rv t < p.ver k
          · have e3 : decide (p.rv t < p.ver k) = true := by simpa using h3
            have HP : Hid (wakeP p t s ⟨kd, th, tx, pl, v, x, y⟩ = some (goP p t 0)) := if_pos (by unfold wakeB; rw [List.any_eq_true]; exact ⟨k, List.mem_range.2 hlt, by simp [h1, h2, h3]⟩)
            clear h1 h2 HN
            go_wp2_with fail
            go_quiet (fail)
            go_wp2_with fail
            refine (goes_any ((HA.out _).of (drewN_below2 _ _)).at' ht 0).mono ?_
            rintro e w2 ⟨rfl, hu⟩
            go_wp2_with fail
            go_ret
            exact StepPost.yes HP.out rfl (((HA.out _).of (drewN_below2 _ _)).trans hu)
          · have e3 : decide (p.rv t < p.ver k) = false := by simpa using h3
            have HN2 := Lib.hid (HN.out (by rw [e3]; simp))
            clear h1 h2 HN
            go_wp2_with fail
            go_quiet (fail)
            go_wp2_with fail
            go_roundw
            case rel => exact ⟨k + 1, by omega, by go_num, HN2, (HA.out _).of (drewN_below2 _ _)⟩
            case measure => simp [intOf]; omega
        · have e2 : (p.own k == -1) = false := by simp [h2]
          have HN2 := Lib.hid (HN.out (by simp [h2]))
          clear h1 h2 HN
          go_wp2_with fail
          go_quiet (fail)
          go_wp2_with fail
          go_roundw
          case rel => exact ⟨k + 1, by omega, by go_num, HN2, (HA.out _).of (drewN_below2 _ _)⟩
          case measure => simp [intOf]; omega
    · have hii : ¬ (k : Int) < 32 := by omega
      have HP : Hid (wakeP p t s ⟨kd, th, tx, pl, v, x, y⟩ = none) := if_neg (by unfold wakeB; rw [Bool.not_eq_true, List.any_eq_false]; intro j hj; simpa using hno.out j (by have := List.mem_range.1 hj; omega))
      clear HX
      go_wp2_with fail
      go_ret
      exact StepPost.no HP.out rfl hU.out
end
/-- A step, as a value. -/
def fnS (n : Nat) : Value := .func (.func n) #[] #[]
/-- Which step, as the program's array has it. -/
def tabV (wh k : Nat) : Value :=
  match wh, k with
  | 0, 1 => fnS 62
  | 1, 2 => fnS 63
  | 1, 4 => fnS 64
  | 1, 7 => fnS 65
  | 1, 12 => fnS 66
  | 1, 14 => fnS 67
  | 1, 15 => fnS 68
  | 1, 17 => fnS 69
  | 2, 3 => fnS 70
  | 2, 16 => fnS 71
  | 3, 4 => fnS 64
  | 3, 5 => fnS 72
  | 3, 17 => fnS 69
  | 3, 19 => fnS 73
  | 4, 6 => fnS 74
  | 4, 7 => fnS 75
  | 4, 18 => fnS 76
  | 5, 8 => fnS 77
  | 5, 9 => fnS 78
  | 6, 9 => fnS 78
  | 7, 11 => fnS 79
  | 8, 11 => fnS 79
  | 9, 13 => fnS 80
  | _, _ => .nilFunc
theorem tab_cases {wh k : Nat} (hw : wh ≤ 10) (hk : k ≤ 19) : (tabV wh k = .nilFunc ∧ tabS wh k = noP) ∨ (tabV wh k = fnS 62 ∧ tabS wh k = beginP) ∨ (tabV wh k = fnS 63 ∧ tabS wh k = lookP) ∨ (tabV wh k = fnS 64 ∧ tabS wh k = lockP) ∨ (tabV wh k = fnS 65 ∧ tabS wh k = restP) ∨ (tabV wh k = fnS 66 ∧ tabS wh k = waitP) ∨ (tabV wh k = fnS 67 ∧ tabS wh k = heldP) ∨ (tabV wh k = fnS 68 ∧ tabS wh k = newerP) ∨ (tabV wh k = fnS 69 ∧ tabS wh k = busyP) ∨ (tabV wh k = fnS 70 ∧ tabS wh k = loadP) ∨ (tabV wh k = fnS 71 ∧ tabS wh k = movedP) ∨ (tabV wh k = fnS 72 ∧ tabS wh k = bumpP) ∨ (tabV wh k = fnS 73 ∧ tabS wh k = fullP) ∨ (tabV wh k = fnS 74 ∧ tabS wh k = checkP) ∨ (tabV wh k = fnS 75 ∧ tabS wh k = commitP) ∨ (tabV wh k = fnS 76 ∧ tabS wh k = staleP) ∨ (tabV wh k = fnS 77 ∧ tabS wh k = storeP) ∨ (tabV wh k = fnS 78 ∧ tabS wh k = freeP) ∨ (tabV wh k = fnS 79 ∧ tabS wh k = undoP) ∨ (tabV wh k = fnS 80 ∧ tabS wh k = wakeP) := by
  have hw : wh = 0 ∨ wh = 1 ∨ wh = 2 ∨ wh = 3 ∨ wh = 4 ∨ wh = 5 ∨ wh = 6 ∨ wh = 7 ∨ wh = 8 ∨ wh = 9 ∨ wh = 10 := by omega
  have hk : k = 0 ∨ k = 1 ∨ k = 2 ∨ k = 3 ∨ k = 4 ∨ k = 5 ∨ k = 6 ∨ k = 7 ∨ k = 8 ∨ k = 9 ∨ k = 10 ∨ k = 11 ∨ k = 12 ∨ k = 13 ∨ k = 14 ∨ k = 15 ∨ k = 16 ∨ k = 17 ∨ k = 18 ∨ k = 19 := by omega
  rcases hw with rfl | rfl | rfl | rfl | rfl | rfl | rfl | rfl | rfl | rfl | rfl
  · rcases hk with rfl | rfl | rfl | rfl | rfl | rfl | rfl | rfl | rfl | rfl | rfl | rfl | rfl | rfl | rfl | rfl | rfl | rfl | rfl | rfl
    · exact (.inl ⟨rfl, rfl⟩)
    · exact (.inr (.inl ⟨rfl, rfl⟩))
    · exact (.inl ⟨rfl, rfl⟩)
    · exact (.inl ⟨rfl, rfl⟩)
    · exact (.inl ⟨rfl, rfl⟩)
    · exact (.inl ⟨rfl, rfl⟩)
    · exact (.inl ⟨rfl, rfl⟩)
    · exact (.inl ⟨rfl, rfl⟩)
    · exact (.inl ⟨rfl, rfl⟩)
    · exact (.inl ⟨rfl, rfl⟩)
    · exact (.inl ⟨rfl, rfl⟩)
    · exact (.inl ⟨rfl, rfl⟩)
    · exact (.inl ⟨rfl, rfl⟩)
    · exact (.inl ⟨rfl, rfl⟩)
    · exact (.inl ⟨rfl, rfl⟩)
    · exact (.inl ⟨rfl, rfl⟩)
    · exact (.inl ⟨rfl, rfl⟩)
    · exact (.inl ⟨rfl, rfl⟩)
    · exact (.inl ⟨rfl, rfl⟩)
    · exact (.inl ⟨rfl, rfl⟩)
  · rcases hk with rfl | rfl | rfl | rfl | rfl | rfl | rfl | rfl | rfl | rfl | rfl | rfl | rfl | rfl | rfl | rfl | rfl | rfl | rfl | rfl
    · exact (.inl ⟨rfl, rfl⟩)
    · exact (.inl ⟨rfl, rfl⟩)
    · exact (.inr (.inr (.inl ⟨rfl, rfl⟩)))
    · exact (.inl ⟨rfl, rfl⟩)
    · exact (.inr (.inr (.inr (.inl ⟨rfl, rfl⟩))))
    · exact (.inl ⟨rfl, rfl⟩)
    · exact (.inl ⟨rfl, rfl⟩)
    · exact (.inr (.inr (.inr (.inr (.inl ⟨rfl, rfl⟩)))))
    · exact (.inl ⟨rfl, rfl⟩)
    · exact (.inl ⟨rfl, rfl⟩)
    · exact (.inl ⟨rfl, rfl⟩)
    · exact (.inl ⟨rfl, rfl⟩)
    · exact (.inr (.inr (.inr (.inr (.inr (.inl ⟨rfl, rfl⟩))))))
    · exact (.inl ⟨rfl, rfl⟩)
    · exact (.inr (.inr (.inr (.inr (.inr (.inr (.inl ⟨rfl, rfl⟩)))))))
    · exact (.inr (.inr (.inr (.inr (.inr (.inr (.inr (.inl ⟨rfl, rfl⟩))))))))
    · exact (.inl ⟨rfl, rfl⟩)
    · exact (.inr (.inr (.inr (.inr (.inr (.inr (.inr (.inr (.inl ⟨rfl, rfl⟩)))))))))
    · exact (.inl ⟨rfl, rfl⟩)
    · exact (.inl ⟨rfl, rfl⟩)
  · rcases hk with rfl | rfl | rfl | rfl | rfl | rfl | rfl | rfl | rfl | rfl | rfl | rfl | rfl | rfl | rfl | rfl | rfl | rfl | rfl | rfl
    · exact (.inl ⟨rfl, rfl⟩)
    · exact (.inl ⟨rfl, rfl⟩)
    · exact (.inl ⟨rfl, rfl⟩)
    · exact (.inr (.inr (.inr (.inr (.inr (.inr (.inr (.inr (.inr (.inl ⟨rfl, rfl⟩))))))))))
    · exact (.inl ⟨rfl, rfl⟩)
    · exact (.inl ⟨rfl, rfl⟩)
    · exact (.inl ⟨rfl, rfl⟩)
    · exact (.inl ⟨rfl, rfl⟩)
    · exact (.inl ⟨rfl, rfl⟩)
    · exact (.inl ⟨rfl, rfl⟩)
    · exact (.inl ⟨rfl, rfl⟩)
    · exact (.inl ⟨rfl, rfl⟩)
    · exact (.inl ⟨rfl, rfl⟩)
    · exact (.inl ⟨rfl, rfl⟩)
    · exact (.inl ⟨rfl, rfl⟩)
    · exact (.inl ⟨rfl, rfl⟩)
    · exact (.inr (.inr (.inr (.inr (.inr (.inr (.inr (.inr (.inr (.inr (.inl ⟨rfl, rfl⟩)))))))))))
    · exact (.inl ⟨rfl, rfl⟩)
    · exact (.inl ⟨rfl, rfl⟩)
    · exact (.inl ⟨rfl, rfl⟩)
  · rcases hk with rfl | rfl | rfl | rfl | rfl | rfl | rfl | rfl | rfl | rfl | rfl | rfl | rfl | rfl | rfl | rfl | rfl | rfl | rfl | rfl
    · exact (.inl ⟨rfl, rfl⟩)
    · exact (.inl ⟨rfl, rfl⟩)
    · exact (.inl ⟨rfl, rfl⟩)
    · exact (.inl ⟨rfl, rfl⟩)
    · exact (.inr (.inr (.inr (.inl ⟨rfl, rfl⟩))))
    · exact (.inr (.inr (.inr (.inr (.inr (.inr (.inr (.inr (.inr (.inr (.inr (.inl ⟨rfl, rfl⟩))))))))))))
    · exact (.inl ⟨rfl, rfl⟩)
    · exact (.inl ⟨rfl, rfl⟩)
    · exact (.inl ⟨rfl, rfl⟩)
    · exact (.inl ⟨rfl, rfl⟩)
    · exact (.inl ⟨rfl, rfl⟩)
    · exact (.inl ⟨rfl, rfl⟩)
    · exact (.inl ⟨rfl, rfl⟩)
    · exact (.inl ⟨rfl, rfl⟩)
    · exact (.inl ⟨rfl, rfl⟩)
    · exact (.inl ⟨rfl, rfl⟩)
    · exact (.inl ⟨rfl, rfl⟩)
    · exact (.inr (.inr (.inr (.inr (.inr (.inr (.inr (.inr (.inl ⟨rfl, rfl⟩)))))))))
    · exact (.inl ⟨rfl, rfl⟩)
    · exact (.inr (.inr (.inr (.inr (.inr (.inr (.inr (.inr (.inr (.inr (.inr (.inr (.inl ⟨rfl, rfl⟩)))))))))))))
  · rcases hk with rfl | rfl | rfl | rfl | rfl | rfl | rfl | rfl | rfl | rfl | rfl | rfl | rfl | rfl | rfl | rfl | rfl | rfl | rfl | rfl
    · exact (.inl ⟨rfl, rfl⟩)
    · exact (.inl ⟨rfl, rfl⟩)
    · exact (.inl ⟨rfl, rfl⟩)
    · exact (.inl ⟨rfl, rfl⟩)
    · exact (.inl ⟨rfl, rfl⟩)
    · exact (.inl ⟨rfl, rfl⟩)
    · exact (.inr (.inr (.inr (.inr (.inr (.inr (.inr (.inr (.inr (.inr (.inr (.inr (.inr (.inl ⟨rfl, rfl⟩))))))))))))))
    · exact (.inr (.inr (.inr (.inr (.inr (.inr (.inr (.inr (.inr (.inr (.inr (.inr (.inr (.inr (.inl ⟨rfl, rfl⟩)))))))))))))))
    · exact (.inl ⟨rfl, rfl⟩)
    · exact (.inl ⟨rfl, rfl⟩)
    · exact (.inl ⟨rfl, rfl⟩)
    · exact (.inl ⟨rfl, rfl⟩)
    · exact (.inl ⟨rfl, rfl⟩)
    · exact (.inl ⟨rfl, rfl⟩)
    · exact (.inl ⟨rfl, rfl⟩)
    · exact (.inl ⟨rfl, rfl⟩)
    · exact (.inl ⟨rfl, rfl⟩)
    · exact (.inl ⟨rfl, rfl⟩)
    · exact (.inr (.inr (.inr (.inr (.inr (.inr (.inr (.inr (.inr (.inr (.inr (.inr (.inr (.inr (.inr (.inl ⟨rfl, rfl⟩))))))))))))))))
    · exact (.inl ⟨rfl, rfl⟩)
  · rcases hk with rfl | rfl | rfl | rfl | rfl | rfl | rfl | rfl | rfl | rfl | rfl | rfl | rfl | rfl | rfl | rfl | rfl | rfl | rfl | rfl
    · exact (.inl ⟨rfl, rfl⟩)
    · exact (.inl ⟨rfl, rfl⟩)
    · exact (.inl ⟨rfl, rfl⟩)
    · exact (.inl ⟨rfl, rfl⟩)
    · exact (.inl ⟨rfl, rfl⟩)
    · exact (.inl ⟨rfl, rfl⟩)
    · exact (.inl ⟨rfl, rfl⟩)
    · exact (.inl ⟨rfl, rfl⟩)
    · exact (.inr (.inr (.inr (.inr (.inr (.inr (.inr (.inr (.inr (.inr (.inr (.inr (.inr (.inr (.inr (.inr (.inl ⟨rfl, rfl⟩)))))))))))))))))
    · exact (.inr (.inr (.inr (.inr (.inr (.inr (.inr (.inr (.inr (.inr (.inr (.inr (.inr (.inr (.inr (.inr (.inr (.inl ⟨rfl, rfl⟩))))))))))))))))))
    · exact (.inl ⟨rfl, rfl⟩)
    · exact (.inl ⟨rfl, rfl⟩)
    · exact (.inl ⟨rfl, rfl⟩)
    · exact (.inl ⟨rfl, rfl⟩)
    · exact (.inl ⟨rfl, rfl⟩)
    · exact (.inl ⟨rfl, rfl⟩)
    · exact (.inl ⟨rfl, rfl⟩)
    · exact (.inl ⟨rfl, rfl⟩)
    · exact (.inl ⟨rfl, rfl⟩)
    · exact (.inl ⟨rfl, rfl⟩)
  · rcases hk with rfl | rfl | rfl | rfl | rfl | rfl | rfl | rfl | rfl | rfl | rfl | rfl | rfl | rfl | rfl | rfl | rfl | rfl | rfl | rfl
    · exact (.inl ⟨rfl, rfl⟩)
    · exact (.inl ⟨rfl, rfl⟩)
    · exact (.inl ⟨rfl, rfl⟩)
    · exact (.inl ⟨rfl, rfl⟩)
    · exact (.inl ⟨rfl, rfl⟩)
    · exact (.inl ⟨rfl, rfl⟩)
    · exact (.inl ⟨rfl, rfl⟩)
    · exact (.inl ⟨rfl, rfl⟩)
    · exact (.inl ⟨rfl, rfl⟩)
    · exact (.inr (.inr (.inr (.inr (.inr (.inr (.inr (.inr (.inr (.inr (.inr (.inr (.inr (.inr (.inr (.inr (.inr (.inl ⟨rfl, rfl⟩))))))))))))))))))
    · exact (.inl ⟨rfl, rfl⟩)
    · exact (.inl ⟨rfl, rfl⟩)
    · exact (.inl ⟨rfl, rfl⟩)
    · exact (.inl ⟨rfl, rfl⟩)
    · exact (.inl ⟨rfl, rfl⟩)
    · exact (.inl ⟨rfl, rfl⟩)
    · exact (.inl ⟨rfl, rfl⟩)
    · exact (.inl ⟨rfl, rfl⟩)
    · exact (.inl ⟨rfl, rfl⟩)
    · exact (.inl ⟨rfl, rfl⟩)
  · rcases hk with rfl | rfl | rfl | rfl | rfl | rfl | rfl | rfl | rfl | rfl | rfl | rfl | rfl | rfl | rfl | rfl | rfl | rfl | rfl | rfl
    · exact (.inl ⟨rfl, rfl⟩)
    · exact (.inl ⟨rfl, rfl⟩)
    · exact (.inl ⟨rfl, rfl⟩)
    · exact (.inl ⟨rfl, rfl⟩)
    · exact (.inl ⟨rfl, rfl⟩)
    · exact (.inl ⟨rfl, rfl⟩)
    · exact (.inl ⟨rfl, rfl⟩)
    · exact (.inl ⟨rfl, rfl⟩)
    · exact (.inl ⟨rfl, rfl⟩)
    · exact (.inl ⟨rfl, rfl⟩)
    · exact (.inl ⟨rfl, rfl⟩)
    · exact (.inr (.inr (.inr (.inr (.inr (.inr (.inr (.inr (.inr (.inr (.inr (.inr (.inr (.inr (.inr (.inr (.inr (.inr (.inl ⟨rfl, rfl⟩)))))))))))))))))))
    · exact (.inl ⟨rfl, rfl⟩)
    · exact (.inl ⟨rfl, rfl⟩)
    · exact (.inl ⟨rfl, rfl⟩)
    · exact (.inl ⟨rfl, rfl⟩)
    · exact (.inl ⟨rfl, rfl⟩)
    · exact (.inl ⟨rfl, rfl⟩)
    · exact (.inl ⟨rfl, rfl⟩)
    · exact (.inl ⟨rfl, rfl⟩)
  · rcases hk with rfl | rfl | rfl | rfl | rfl | rfl | rfl | rfl | rfl | rfl | rfl | rfl | rfl | rfl | rfl | rfl | rfl | rfl | rfl | rfl
    · exact (.inl ⟨rfl, rfl⟩)
    · exact (.inl ⟨rfl, rfl⟩)
    · exact (.inl ⟨rfl, rfl⟩)
    · exact (.inl ⟨rfl, rfl⟩)
    · exact (.inl ⟨rfl, rfl⟩)
    · exact (.inl ⟨rfl, rfl⟩)
    · exact (.inl ⟨rfl, rfl⟩)
    · exact (.inl ⟨rfl, rfl⟩)
    · exact (.inl ⟨rfl, rfl⟩)
    · exact (.inl ⟨rfl, rfl⟩)
    · exact (.inl ⟨rfl, rfl⟩)
    · exact (.inr (.inr (.inr (.inr (.inr (.inr (.inr (.inr (.inr (.inr (.inr (.inr (.inr (.inr (.inr (.inr (.inr (.inr (.inl ⟨rfl, rfl⟩)))))))))))))))))))
    · exact (.inl ⟨rfl, rfl⟩)
    · exact (.inl ⟨rfl, rfl⟩)
    · exact (.inl ⟨rfl, rfl⟩)
    · exact (.inl ⟨rfl, rfl⟩)
    · exact (.inl ⟨rfl, rfl⟩)
    · exact (.inl ⟨rfl, rfl⟩)
    · exact (.inl ⟨rfl, rfl⟩)
    · exact (.inl ⟨rfl, rfl⟩)
  · rcases hk with rfl | rfl | rfl | rfl | rfl | rfl | rfl | rfl | rfl | rfl | rfl | rfl | rfl | rfl | rfl | rfl | rfl | rfl | rfl | rfl
    · exact (.inl ⟨rfl, rfl⟩)
    · exact (.inl ⟨rfl, rfl⟩)
    · exact (.inl ⟨rfl, rfl⟩)
    · exact (.inl ⟨rfl, rfl⟩)
    · exact (.inl ⟨rfl, rfl⟩)
    · exact (.inl ⟨rfl, rfl⟩)
    · exact (.inl ⟨rfl, rfl⟩)
    · exact (.inl ⟨rfl, rfl⟩)
    · exact (.inl ⟨rfl, rfl⟩)
    · exact (.inl ⟨rfl, rfl⟩)
    · exact (.inl ⟨rfl, rfl⟩)
    · exact (.inl ⟨rfl, rfl⟩)
    · exact (.inl ⟨rfl, rfl⟩)
    · exact (.inr (.inr (.inr (.inr (.inr (.inr (.inr (.inr (.inr (.inr (.inr (.inr (.inr (.inr (.inr (.inr (.inr (.inr (.inr ⟨rfl, rfl⟩)))))))))))))))))))
    · exact (.inl ⟨rfl, rfl⟩)
    · exact (.inl ⟨rfl, rfl⟩)
    · exact (.inl ⟨rfl, rfl⟩)
    · exact (.inl ⟨rfl, rfl⟩)
    · exact (.inl ⟨rfl, rfl⟩)
    · exact (.inl ⟨rfl, rfl⟩)
  · rcases hk with rfl | rfl | rfl | rfl | rfl | rfl | rfl | rfl | rfl | rfl | rfl | rfl | rfl | rfl | rfl | rfl | rfl | rfl | rfl | rfl
    · exact (.inl ⟨rfl, rfl⟩)
    · exact (.inl ⟨rfl, rfl⟩)
    · exact (.inl ⟨rfl, rfl⟩)
    · exact (.inl ⟨rfl, rfl⟩)
    · exact (.inl ⟨rfl, rfl⟩)
    · exact (.inl ⟨rfl, rfl⟩)
    · exact (.inl ⟨rfl, rfl⟩)
    · exact (.inl ⟨rfl, rfl⟩)
    · exact (.inl ⟨rfl, rfl⟩)
    · exact (.inl ⟨rfl, rfl⟩)
    · exact (.inl ⟨rfl, rfl⟩)
    · exact (.inl ⟨rfl, rfl⟩)
    · exact (.inl ⟨rfl, rfl⟩)
    · exact (.inl ⟨rfl, rfl⟩)
    · exact (.inl ⟨rfl, rfl⟩)
    · exact (.inl ⟨rfl, rfl⟩)
    · exact (.inl ⟨rfl, rfl⟩)
    · exact (.inl ⟨rfl, rfl⟩)
    · exact (.inl ⟨rfl, rfl⟩)
    · exact (.inl ⟨rfl, rfl⟩)
end Go.Proofs.YtnkkakcnlcmikaaDoor
