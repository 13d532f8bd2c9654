/-
  CONTRACTS OF PACKAGE shape: wake; row. Laid in part by program. Conditions: as they stand.
-/
import Derived.Test.YteigglhhnemngaaGreatDoorSr
import Derived.Deep.CutBlock
import Derived.Deep.DeepCutAuto
namespace Go.Proofs.YteigglhhnemngaaGreatDoor
set_option maxRecDepth 100000
open Go.RowKit Go.Deep
set_option linter.unusedVariables false
set_option linter.unusedSimpArgs false
section
variable {w : World} {g : Nat} {T V S : Int} {p : PS} {t s : Nat} {e : Ev}
set_option maxHeartbeats 4000000 in
theorem wake_step (H : StepIn w g T V S p t s e) : Calls Tryz.prog 155 #[.pointer (some ⟨g, 0, none⟩), .pointer (some ⟨g, 69 + t * 71, none⟩), .int .i64 (s : Int), evV e] w (StepPost w g T V S p (wakeP p t s e)) := by
  obtain ⟨hc, ok, ht, hs, hth, hpl, hv⟩ := H
  obtain ⟨kd, th, tx, pl, v, x, y⟩ := e
  have hg := hc.lt
  have U0 : Hid (UpdC w g T V S p (w.alloc (.cells #[.int .u8 kd, .int .i64 th, .int .i64 tx, .int .i64 pl, .int .i64 v, .int .i64 x, .int .u8 y] 50))) := (UpdC.refl hc).alloc _
  clear hth hpl hv hc
  unfold evV
  simp only
  have hl := strL_len T V S p
  go_enter Tryz.func155, Tryz.ntmps155
  go_wp2_with (first
    | (refine wpList_load_mid rfl 154 _ rfl g 5 rfl (strL T V S p) _ U0.out.at'.str Tryz.underlying154 rfl (by rw [hl]; kernel_rfl) ?_)
    | fail)
  have HX := Lib.hid (fun (k : Nat) (hk : k < 32) (w1 : World) => idx_str (T := T) (V := V) (S := S) (p := p) hk w1)
  generalize (strL T V S p).toArray = cs at HX ⊢
  generalize w.alloc (.cells #[.int .u8 kd, .int .i64 th, .int .i64 tx, .int .i64 pl, .int .i64 v, .int .i64 x, .int .u8 y] 50) = W1 at U0 ⊢
  clear hl
  go_loopw [15] (fun iv wr => ∃ k : Nat, k ≤ 32 ∧ iv = .int .i64 k ∧ Hid (∀ j, j < k → (p.rd t j && decide (p.own j = -1) && decide (p.rv t < p.ver j)) = false) ∧ Hid (UpdC w g T V S p wr)) (fun iv _ => 32 - (intOf iv).toNat)
  case atStart => exact ⟨0, by omega, rfl, fun j hj => by omega, U0⟩
  case round =>
    obtain ⟨k, hk, rfl, hno, hU⟩ := hrel
    by_cases hlt : k < 32
    · have hx := HX.out k hlt
      have hii : (k : Int) < 32 := by omega
      have hi0 : (0 : Int) ≤ (k : Int) := by omega
      have crd := ((hU.out.alloc (.cells #[.int .i64 (p.own k), .int .i64 (p.ver k)] 153)).at'.rd ht hlt)
      have crv := ((hU.out.alloc (.cells #[.int .i64 (p.own k), .int .i64 (p.ver k)] 153)).at'.rv ht)
      have HA : Hid (∀ o : Go.Obj, UpdC w g T V S p (wr.alloc o)) := fun o => hU.out.alloc o
      have HN : Hid ((p.rd t k && decide (p.own k = -1) && decide (p.rv t < p.ver k)) = false → ∀ j, j < k + 1 → (p.rd t j && decide (p.own j = -1) && decide (p.rv t < p.ver j)) = false) := fun hq j hj => by
        by_cases h : j < k
        · exact hno.out j h
        · obtain rfl : j = k := by omega
          exact hq
      clear HX
      have hcase : p.rd t k = false ∨ p.rd t k = true := by cases p.rd t k <;> simp
      rcases hcase with h1 | h1
      · have HN2 := Lib.hid (HN.out (by rw [h1]; rfl))
        rw [h1] at crd
        clear h1 HN
        go_wp2_with fail
        go_quiet (fail)
        go_wp2_with fail
        go_roundw
        case rel => exact ⟨k + 1, by omega, by go_num, HN2, (HA.out _).of (drewN_below2 _ _)⟩
        case measure => simp [intOf]; omega
      · rw [h1] at crd
        by_cases h2 : p.own k = -1
        · have e2 : (p.own k == -1) = true := by simp [h2]
          by_cases h3 : p.rv t < p.ver k
          · have e3 : decide (p.rv t < p.ver k) = true := by simpa using h3
            have HP : Hid (wakeP p t s ⟨kd, th, tx, pl, v, x, y⟩ = some (goP p t 0)) := if_pos (by unfold wakeB; rw [List.any_eq_true]; exact ⟨k, List.mem_range.2 hlt, by simp [h1, h2, h3]⟩)
            clear h1 h2 HN
            go_wp2_with fail
            go_quiet (fail)
            go_wp2_with fail
            refine (goes_any ((HA.out _).of (drewN_below2 _ _)).at' ht 0).mono ?_
            rintro e w2 ⟨rfl, hu⟩
            go_wp2_with fail
            go_ret
            exact StepPost.yes HP.out rfl (((HA.out _).of (drewN_below2 _ _)).trans hu)
          · have e3 : decide (p.rv t < p.ver k) = false := by simpa using h3
            have HN2 := Lib.hid (HN.out (by rw [e3]; simp))
            clear h1 h2 HN
            go_wp2_with fail
            go_quiet (fail)
            go_wp2_with fail
            go_roundw
            case rel => exact ⟨k + 1, by omega, by go_num, HN2, (HA.out _).of (drewN_below2 _ _)⟩
            case measure => simp [intOf]; omega
        · have e2 : (p.own k == -1) = false := by simp [h2]
          have HN2 := Lib.hid (HN.out (by simp [h2]))
          clear h1 h2 HN
          go_wp2_with fail
          go_quiet (fail)
          go_wp2_with fail
          go_roundw
          case rel => exact ⟨k + 1, by omega, by go_num, HN2, (HA.out _).of (drewN_below2 _ _)⟩
          case measure => simp [intOf]; omega
    · have hii : ¬ (k : Int) < 32 := by omega
      have HP : Hid (wakeP p t s ⟨kd, th, tx, pl, v, x, y⟩ = none) := if_neg (by unfold wakeB; rw [Bool.not_eq_true, List.any_eq_false]; intro j hj; simpa using hno.out j (by have := List.mem_range.1 hj; omega))
      clear HX
      go_wp2_with fail
      go_ret
      exact StepPost.no HP.out rfl hU.out
end
def fnS (n : Nat) : Value := .func (.func n) #[] #[]
def tabV (wh k : Nat) : Value :=
  match wh, k with
  | 0, 1 => fnS 137
  | 1, 2 => fnS 138
  | 1, 4 => fnS 139
  | 1, 7 => fnS 140
  | 1, 12 => fnS 141
  | 1, 14 => fnS 142
  | 1, 15 => fnS 143
  | 1, 17 => fnS 144
  | 2, 3 => fnS 145
  | 2, 16 => fnS 146
  | 3, 4 => fnS 139
  | 3, 5 => fnS 147
  | 3, 17 => fnS 144
  | 3, 19 => fnS 148
  | 4, 6 => fnS 149
  | 4, 7 => fnS 150
  | 4, 18 => fnS 151
  | 5, 8 => fnS 152
  | 5, 9 => fnS 153
  | 6, 9 => fnS 153
  | 7, 11 => fnS 154
  | 8, 11 => fnS 154
  | 9, 13 => fnS 155
  | _, _ => .nilFunc
theorem tab_cases {wh k : Nat} (hw : wh ≤ 10) (hk : k ≤ 19) : (tabV wh k = .nilFunc ∧ tabS wh k = noP) ∨ (tabV wh k = fnS 137 ∧ tabS wh k = beginPS) ∨ (tabV wh k = fnS 138 ∧ tabS wh k = lookPS) ∨ (tabV wh k = fnS 139 ∧ tabS wh k = lockP) ∨ (tabV wh k = fnS 140 ∧ tabS wh k = restP) ∨ (tabV wh k = fnS 141 ∧ tabS wh k = waitP) ∨ (tabV wh k = fnS 142 ∧ tabS wh k = heldP) ∨ (tabV wh k = fnS 143 ∧ tabS wh k = newerP) ∨ (tabV wh k = fnS 144 ∧ tabS wh k = busyP) ∨ (tabV wh k = fnS 145 ∧ tabS wh k = loadP) ∨ (tabV wh k = fnS 146 ∧ tabS wh k = movedP) ∨ (tabV wh k = fnS 147 ∧ tabS wh k = bumpPS) ∨ (tabV wh k = fnS 148 ∧ tabS wh k = fullP) ∨ (tabV wh k = fnS 149 ∧ tabS wh k = checkP) ∨ (tabV wh k = fnS 150 ∧ tabS wh k = commitPS) ∨ (tabV wh k = fnS 151 ∧ tabS wh k = staleP) ∨ (tabV wh k = fnS 152 ∧ tabS wh k = storeP) ∨ (tabV wh k = fnS 153 ∧ tabS wh k = freeP) ∨ (tabV wh k = fnS 154 ∧ tabS wh k = undoP) ∨ (tabV wh k = fnS 155 ∧ tabS wh k = wakeP) := by
  have hw : wh = 0 ∨ wh = 1 ∨ wh = 2 ∨ wh = 3 ∨ wh = 4 ∨ wh = 5 ∨ wh = 6 ∨ wh = 7 ∨ wh = 8 ∨ wh = 9 ∨ wh = 10 := by omega
  have hk : k = 0 ∨ k = 1 ∨ k = 2 ∨ k = 3 ∨ k = 4 ∨ k = 5 ∨ k = 6 ∨ k = 7 ∨ k = 8 ∨ k = 9 ∨ k = 10 ∨ k = 11 ∨ k = 12 ∨ k = 13 ∨ k = 14 ∨ k = 15 ∨ k = 16 ∨ k = 17 ∨ k = 18 ∨ k = 19 := by omega
  rcases hw with rfl | rfl | rfl | rfl | rfl | rfl | rfl | rfl | rfl | rfl | rfl
  · rcases hk with rfl | rfl | rfl | rfl | rfl | rfl | rfl | rfl | rfl | rfl | rfl | rfl | rfl | rfl | rfl | rfl | rfl | rfl | rfl | rfl
    · exact (.inl ⟨rfl, rfl⟩)
    · exact (.inr (.inl ⟨rfl, rfl⟩))
    · exact (.inl ⟨rfl, rfl⟩)
    · exact (.inl ⟨rfl, rfl⟩)
    · exact (.inl ⟨rfl, rfl⟩)
    · exact (.inl ⟨rfl, rfl⟩)
    · exact (.inl ⟨rfl, rfl⟩)
    · exact (.inl ⟨rfl, rfl⟩)
    · exact (.inl ⟨rfl, rfl⟩)
    · exact (.inl ⟨rfl, rfl⟩)
    · exact (.inl ⟨rfl, rfl⟩)
    · exact (.inl ⟨rfl, rfl⟩)
    · exact (.inl ⟨rfl, rfl⟩)
    · exact (.inl ⟨rfl, rfl⟩)
    · exact (.inl ⟨rfl, rfl⟩)
    · exact (.inl ⟨rfl, rfl⟩)
    · exact (.inl ⟨rfl, rfl⟩)
    · exact (.inl ⟨rfl, rfl⟩)
    · exact (.inl ⟨rfl, rfl⟩)
    · exact (.inl ⟨rfl, rfl⟩)
  · rcases hk with rfl | rfl | rfl | rfl | rfl | rfl | rfl | rfl | rfl | rfl | rfl | rfl | rfl | rfl | rfl | rfl | rfl | rfl | rfl | rfl
    · exact (.inl ⟨rfl, rfl⟩)
    · exact (.inl ⟨rfl, rfl⟩)
    · exact (.inr (.inr (.inl ⟨rfl, rfl⟩)))
    · exact (.inl ⟨rfl, rfl⟩)
    · exact (.inr (.inr (.inr (.inl ⟨rfl, rfl⟩))))
    · exact (.inl ⟨rfl, rfl⟩)
    · exact (.inl ⟨rfl, rfl⟩)
    · exact (.inr (.inr (.inr (.inr (.inl ⟨rfl, rfl⟩)))))
    · exact (.inl ⟨rfl, rfl⟩)
    · exact (.inl ⟨rfl, rfl⟩)
    · exact (.inl ⟨rfl, rfl⟩)
    · exact (.inl ⟨rfl, rfl⟩)
    · exact (.inr (.inr (.inr (.inr (.inr (.inl ⟨rfl, rfl⟩))))))
    · exact (.inl ⟨rfl, rfl⟩)
    · exact (.inr (.inr (.inr (.inr (.inr (.inr (.inl ⟨rfl, rfl⟩)))))))
    · exact (.inr (.inr (.inr (.inr (.inr (.inr (.inr (.inl ⟨rfl, rfl⟩))))))))
    · exact (.inl ⟨rfl, rfl⟩)
    · exact (.inr (.inr (.inr (.inr (.inr (.inr (.inr (.inr (.inl ⟨rfl, rfl⟩)))))))))
    · exact (.inl ⟨rfl, rfl⟩)
    · exact (.inl ⟨rfl, rfl⟩)
  · rcases hk with rfl | rfl | rfl | rfl | rfl | rfl | rfl | rfl | rfl | rfl | rfl | rfl | rfl | rfl | rfl | rfl | rfl | rfl | rfl | rfl
    · exact (.inl ⟨rfl, rfl⟩)
    · exact (.inl ⟨rfl, rfl⟩)
    · exact (.inl ⟨rfl, rfl⟩)
    · exact (.inr (.inr (.inr (.inr (.inr (.inr (.inr (.inr (.inr (.inl ⟨rfl, rfl⟩))))))))))
    · exact (.inl ⟨rfl, rfl⟩)
    · exact (.inl ⟨rfl, rfl⟩)
    · exact (.inl ⟨rfl, rfl⟩)
    · exact (.inl ⟨rfl, rfl⟩)
    · exact (.inl ⟨rfl, rfl⟩)
    · exact (.inl ⟨rfl, rfl⟩)
    · exact (.inl ⟨rfl, rfl⟩)
    · exact (.inl ⟨rfl, rfl⟩)
    · exact (.inl ⟨rfl, rfl⟩)
    · exact (.inl ⟨rfl, rfl⟩)
    · exact (.inl ⟨rfl, rfl⟩)
    · exact (.inl ⟨rfl, rfl⟩)
    · exact (.inr (.inr (.inr (.inr (.inr (.inr (.inr (.inr (.inr (.inr (.inl ⟨rfl, rfl⟩)))))))))))
    · exact (.inl ⟨rfl, rfl⟩)
    · exact (.inl ⟨rfl, rfl⟩)
    · exact (.inl ⟨rfl, rfl⟩)
  · rcases hk with rfl | rfl | rfl | rfl | rfl | rfl | rfl | rfl | rfl | rfl | rfl | rfl | rfl | rfl | rfl | rfl | rfl | rfl | rfl | rfl
    · exact (.inl ⟨rfl, rfl⟩)
    · exact (.inl ⟨rfl, rfl⟩)
    · exact (.inl ⟨rfl, rfl⟩)
    · exact (.inl ⟨rfl, rfl⟩)
    · exact (.inr (.inr (.inr (.inl ⟨rfl, rfl⟩))))
    · exact (.inr (.inr (.inr (.inr (.inr (.inr (.inr (.inr (.inr (.inr (.inr (.inl ⟨rfl, rfl⟩))))))))))))
    · exact (.inl ⟨rfl, rfl⟩)
    · exact (.inl ⟨rfl, rfl⟩)
    · exact (.inl ⟨rfl, rfl⟩)
    · exact (.inl ⟨rfl, rfl⟩)
    · exact (.inl ⟨rfl, rfl⟩)
    · exact (.inl ⟨rfl, rfl⟩)
    · exact (.inl ⟨rfl, rfl⟩)
    · exact (.inl ⟨rfl, rfl⟩)
    · exact (.inl ⟨rfl, rfl⟩)
    · exact (.inl ⟨rfl, rfl⟩)
    · exact (.inl ⟨rfl, rfl⟩)
    · exact (.inr (.inr (.inr (.inr (.inr (.inr (.inr (.inr (.inl ⟨rfl, rfl⟩)))))))))
    · exact (.inl ⟨rfl, rfl⟩)
    · exact (.inr (.inr (.inr (.inr (.inr (.inr (.inr (.inr (.inr (.inr (.inr (.inr (.inl ⟨rfl, rfl⟩)))))))))))))
  · rcases hk with rfl | rfl | rfl | rfl | rfl | rfl | rfl | rfl | rfl | rfl | rfl | rfl | rfl | rfl | rfl | rfl | rfl | rfl | rfl | rfl
    · exact (.inl ⟨rfl, rfl⟩)
    · exact (.inl ⟨rfl, rfl⟩)
    · exact (.inl ⟨rfl, rfl⟩)
    · exact (.inl ⟨rfl, rfl⟩)
    · exact (.inl ⟨rfl, rfl⟩)
    · exact (.inl ⟨rfl, rfl⟩)
    · exact (.inr (.inr (.inr (.inr (.inr (.inr (.inr (.inr (.inr (.inr (.inr (.inr (.inr (.inl ⟨rfl, rfl⟩))))))))))))))
    · exact (.inr (.inr (.inr (.inr (.inr (.inr (.inr (.inr (.inr (.inr (.inr (.inr (.inr (.inr (.inl ⟨rfl, rfl⟩)))))))))))))))
    · exact (.inl ⟨rfl, rfl⟩)
    · exact (.inl ⟨rfl, rfl⟩)
    · exact (.inl ⟨rfl, rfl⟩)
    · exact (.inl ⟨rfl, rfl⟩)
    · exact (.inl ⟨rfl, rfl⟩)
    · exact (.inl ⟨rfl, rfl⟩)
    · exact (.inl ⟨rfl, rfl⟩)
    · exact (.inl ⟨rfl, rfl⟩)
    · exact (.inl ⟨rfl, rfl⟩)
    · exact (.inl ⟨rfl, rfl⟩)
    · exact (.inr (.inr (.inr (.inr (.inr (.inr (.inr (.inr (.inr (.inr (.inr (.inr (.inr (.inr (.inr (.inl ⟨rfl, rfl⟩))))))))))))))))
    · exact (.inl ⟨rfl, rfl⟩)
  · rcases hk with rfl | rfl | rfl | rfl | rfl | rfl | rfl | rfl | rfl | rfl | rfl | rfl | rfl | rfl | rfl | rfl | rfl | rfl | rfl | rfl
    · exact (.inl ⟨rfl, rfl⟩)
    · exact (.inl ⟨rfl, rfl⟩)
    · exact (.inl ⟨rfl, rfl⟩)
    · exact (.inl ⟨rfl, rfl⟩)
    · exact (.inl ⟨rfl, rfl⟩)
    · exact (.inl ⟨rfl, rfl⟩)
    · exact (.inl ⟨rfl, rfl⟩)
    · exact (.inl ⟨rfl, rfl⟩)
    · exact (.inr (.inr (.inr (.inr (.inr (.inr (.inr (.inr (.inr (.inr (.inr (.inr (.inr (.inr (.inr (.inr (.inl ⟨rfl, rfl⟩)))))))))))))))))
    · exact (.inr (.inr (.inr (.inr (.inr (.inr (.inr (.inr (.inr (.inr (.inr (.inr (.inr (.inr (.inr (.inr (.inr (.inl ⟨rfl, rfl⟩))))))))))))))))))
    · exact (.inl ⟨rfl, rfl⟩)
    · exact (.inl ⟨rfl, rfl⟩)
    · exact (.inl ⟨rfl, rfl⟩)
    · exact (.inl ⟨rfl, rfl⟩)
    · exact (.inl ⟨rfl, rfl⟩)
    · exact (.inl ⟨rfl, rfl⟩)
    · exact (.inl ⟨rfl, rfl⟩)
    · exact (.inl ⟨rfl, rfl⟩)
    · exact (.inl ⟨rfl, rfl⟩)
    · exact (.inl ⟨rfl, rfl⟩)
  · rcases hk with rfl | rfl | rfl | rfl | rfl | rfl | rfl | rfl | rfl | rfl | rfl | rfl | rfl | rfl | rfl | rfl | rfl | rfl | rfl | rfl
    · exact (.inl ⟨rfl, rfl⟩)
    · exact (.inl ⟨rfl, rfl⟩)
    · exact (.inl ⟨rfl, rfl⟩)
    · exact (.inl ⟨rfl, rfl⟩)
    · exact (.inl ⟨rfl, rfl⟩)
    · exact (.inl ⟨rfl, rfl⟩)
    · exact (.inl ⟨rfl, rfl⟩)
    · exact (.inl ⟨rfl, rfl⟩)
    · exact (.inl ⟨rfl, rfl⟩)
    · exact (.inr (.inr (.inr (.inr (.inr (.inr (.inr (.inr (.inr (.inr (.inr (.inr (.inr (.inr (.inr (.inr (.inr (.inl ⟨rfl, rfl⟩))))))))))))))))))
    · exact (.inl ⟨rfl, rfl⟩)
    · exact (.inl ⟨rfl, rfl⟩)
    · exact (.inl ⟨rfl, rfl⟩)
    · exact (.inl ⟨rfl, rfl⟩)
    · exact (.inl ⟨rfl, rfl⟩)
    · exact (.inl ⟨rfl, rfl⟩)
    · exact (.inl ⟨rfl, rfl⟩)
    · exact (.inl ⟨rfl, rfl⟩)
    · exact (.inl ⟨rfl, rfl⟩)
    · exact (.inl ⟨rfl, rfl⟩)
  · rcases hk with rfl | rfl | rfl | rfl | rfl | rfl | rfl | rfl | rfl | rfl | rfl | rfl | rfl | rfl | rfl | rfl | rfl | rfl | rfl | rfl
    · exact (.inl ⟨rfl, rfl⟩)
    · exact (.inl ⟨rfl, rfl⟩)
    · exact (.inl ⟨rfl, rfl⟩)
    · exact (.inl ⟨rfl, rfl⟩)
    · exact (.inl ⟨rfl, rfl⟩)
    · exact (.inl ⟨rfl, rfl⟩)
    · exact (.inl ⟨rfl, rfl⟩)
    · exact (.inl ⟨rfl, rfl⟩)
    · exact (.inl ⟨rfl, rfl⟩)
    · exact (.inl ⟨rfl, rfl⟩)
    · exact (.inl ⟨rfl, rfl⟩)
    · exact (.inr (.inr (.inr (.inr (.inr (.inr (.inr (.inr (.inr (.inr (.inr (.inr (.inr (.inr (.inr (.inr (.inr (.inr (.inl ⟨rfl, rfl⟩)))))))))))))))))))
    · exact (.inl ⟨rfl, rfl⟩)
    · exact (.inl ⟨rfl, rfl⟩)
    · exact (.inl ⟨rfl, rfl⟩)
    · exact (.inl ⟨rfl, rfl⟩)
    · exact (.inl ⟨rfl, rfl⟩)
    · exact (.inl ⟨rfl, rfl⟩)
    · exact (.inl ⟨rfl, rfl⟩)
    · exact (.inl ⟨rfl, rfl⟩)
  · rcases hk with rfl | rfl | rfl | rfl | rfl | rfl | rfl | rfl | rfl | rfl | rfl | rfl | rfl | rfl | rfl | rfl | rfl | rfl | rfl | rfl
    · exact (.inl ⟨rfl, rfl⟩)
    · exact (.inl ⟨rfl, rfl⟩)
    · exact (.inl ⟨rfl, rfl⟩)
    · exact (.inl ⟨rfl, rfl⟩)
    · exact (.inl ⟨rfl, rfl⟩)
    · exact (.inl ⟨rfl, rfl⟩)
    · exact (.inl ⟨rfl, rfl⟩)
    · exact (.inl ⟨rfl, rfl⟩)
    · exact (.inl ⟨rfl, rfl⟩)
    · exact (.inl ⟨rfl, rfl⟩)
    · exact (.inl ⟨rfl, rfl⟩)
    · exact (.inr (.inr (.inr (.inr (.inr (.inr (.inr (.inr (.inr (.inr (.inr (.inr (.inr (.inr (.inr (.inr (.inr (.inr (.inl ⟨rfl, rfl⟩)))))))))))))))))))
    · exact (.inl ⟨rfl, rfl⟩)
    · exact (.inl ⟨rfl, rfl⟩)
    · exact (.inl ⟨rfl, rfl⟩)
    · exact (.inl ⟨rfl, rfl⟩)
    · exact (.inl ⟨rfl, rfl⟩)
    · exact (.inl ⟨rfl, rfl⟩)
    · exact (.inl ⟨rfl, rfl⟩)
    · exact (.inl ⟨rfl, rfl⟩)
  · rcases hk with rfl | rfl | rfl | rfl | rfl | rfl | rfl | rfl | rfl | rfl | rfl | rfl | rfl | rfl | rfl | rfl | rfl | rfl | rfl | rfl
    · exact (.inl ⟨rfl, rfl⟩)
    · exact (.inl ⟨rfl, rfl⟩)
    · exact (.inl ⟨rfl, rfl⟩)
    · exact (.inl ⟨rfl, rfl⟩)
    · exact (.inl ⟨rfl, rfl⟩)
    · exact (.inl ⟨rfl, rfl⟩)
    · exact (.inl ⟨rfl, rfl⟩)
    · exact (.inl ⟨rfl, rfl⟩)
    · exact (.inl ⟨rfl, rfl⟩)
    · exact (.inl ⟨rfl, rfl⟩)
    · exact (.inl ⟨rfl, rfl⟩)
    · exact (.inl ⟨rfl, rfl⟩)
    · exact (.inl ⟨rfl, rfl⟩)
    · exact (.inr (.inr (.inr (.inr (.inr (.inr (.inr (.inr (.inr (.inr (.inr (.inr (.inr (.inr (.inr (.inr (.inr (.inr (.inr ⟨rfl, rfl⟩)))))))))))))))))))
    · exact (.inl ⟨rfl, rfl⟩)
    · exact (.inl ⟨rfl, rfl⟩)
    · exact (.inl ⟨rfl, rfl⟩)
    · exact (.inl ⟨rfl, rfl⟩)
    · exact (.inl ⟨rfl, rfl⟩)
    · exact (.inl ⟨rfl, rfl⟩)
  · rcases hk with rfl | rfl | rfl | rfl | rfl | rfl | rfl | rfl | rfl | rfl | rfl | rfl | rfl | rfl | rfl | rfl | rfl | rfl | rfl | rfl
    · exact (.inl ⟨rfl, rfl⟩)
    · exact (.inl ⟨rfl, rfl⟩)
    · exact (.inl ⟨rfl, rfl⟩)
    · exact (.inl ⟨rfl, rfl⟩)
    · exact (.inl ⟨rfl, rfl⟩)
    · exact (.inl ⟨rfl, rfl⟩)
    · exact (.inl ⟨rfl, rfl⟩)
    · exact (.inl ⟨rfl, rfl⟩)
    · exact (.inl ⟨rfl, rfl⟩)
    · exact (.inl ⟨rfl, rfl⟩)
    · exact (.inl ⟨rfl, rfl⟩)
    · exact (.inl ⟨rfl, rfl⟩)
    · exact (.inl ⟨rfl, rfl⟩)
    · exact (.inl ⟨rfl, rfl⟩)
    · exact (.inl ⟨rfl, rfl⟩)
    · exact (.inl ⟨rfl, rfl⟩)
    · exact (.inl ⟨rfl, rfl⟩)
    · exact (.inl ⟨rfl, rfl⟩)
    · exact (.inl ⟨rfl, rfl⟩)
    · exact (.inl ⟨rfl, rfl⟩)
end Go.Proofs.YteigglhhnemngaaGreatDoor
namespace Go.Proofs.YteigglhhnemngaaGreatDoor
set_option maxRecDepth 100000
open Go.RowKit Go.Deep
set_option linter.unusedVariables false
set_option linter.unusedSimpArgs false
def placesC : Array Value := rowV 220 fun i => tabV (i / 20) (i % 20)
theorem zero_places (w : World) : (zeroValue 209).run Tryz.prog w = .ok (.agg (rowV 220 fun _ => .nilFunc)) w := by kernel_rfl
theorem below_setRowS {w w' : World} {B b : Nat} (h : Below B w w') (hb : B ≤ b) (row : Array Value) : Below B w (w'.setRow b row) := by
  refine ⟨h.os, h.tape, h.output, ?_, fun j hj => ?_⟩
  · simpa [World.setRow] using h.size
  · rw [setRow_other _ _ _ _ (by omega)]
    exact h.block j hj
set_option maxHeartbeats 4000000 in
theorem row_10 (wh : Nat) (hw : wh ≤ 10) (th tx pl v x y : Int) (hy : 1 ≤ y ∧ y ≤ 6) (w : World) : Calls Tryz.prog 120 #[.int .i64 (wh : Int), .agg #[.int .u8 10, .int .i64 th, .int .i64 tx, .int .i64 pl, .int .i64 v, .int .i64 x, .int .u8 y]] w fun r w' => r = .returned (tabV wh (13 + y.toNat)) ∧ Below w.heap.size w w' := by
  have hz := zero_places
  obtain ⟨k, hk⟩ : ∃ k : Nat, 13 + y = k := ⟨(13 + y).toNat, by omega⟩
  have hk19 : k ≤ 19 := by omega
  rw [show 13 + y.toNat = k by omega]
  have i0 : IntKind.u8.wrap (13 + y) = (k : Int) := by rw [hk]; simp [IntKind.wrap, IntKind.bits, IntKind.signed]; omega
  clear hk hy
  go_enter Tryz.func120, Tryz.ntmps120
  go_upto_region 5 with (first
    | (refine wpList_builtS rfl 208 (#[(1, .func 137)] : Array (Nat × Operand)) rfl (rowV 20 (tabV 0)) (by kernel_rfl) ?_)
    | (refine wpList_builtS rfl 208 (#[(2, .func 138), (4, .func 139), (7, .func 140), (12, .func 141), (14, .func 142), (15, .func 143), (17, .func 144)] : Array (Nat × Operand)) rfl (rowV 20 (tabV 1)) (by kernel_rfl) ?_)
    | (refine wpList_builtS rfl 208 (#[(3, .func 145), (16, .func 146)] : Array (Nat × Operand)) rfl (rowV 20 (tabV 2)) (by kernel_rfl) ?_)
    | (refine wpList_builtS rfl 208 (#[(4, .func 139), (5, .func 147), (17, .func 144), (19, .func 148)] : Array (Nat × Operand)) rfl (rowV 20 (tabV 3)) (by kernel_rfl) ?_)
    | (refine wpList_builtS rfl 208 (#[(6, .func 149), (7, .func 150), (18, .func 151)] : Array (Nat × Operand)) rfl (rowV 20 (tabV 4)) (by kernel_rfl) ?_)
    | (refine wpList_builtS rfl 208 (#[(8, .func 152), (9, .func 153)] : Array (Nat × Operand)) rfl (rowV 20 (tabV 5)) (by kernel_rfl) ?_)
    | (refine wpList_builtS rfl 208 (#[(9, .func 153)] : Array (Nat × Operand)) rfl (rowV 20 (tabV 6)) (by kernel_rfl) ?_)
    | (refine wpList_builtS rfl 208 (#[(11, .func 154)] : Array (Nat × Operand)) rfl (rowV 20 (tabV 7)) (by kernel_rfl) ?_)
    | (refine wpList_builtS rfl 208 (#[(11, .func 154)] : Array (Nat × Operand)) rfl (rowV 20 (tabV 8)) (by kernel_rfl) ?_)
    | (refine wpList_builtS rfl 208 (#[(13, .func 155)] : Array (Nat × Operand)) rfl (rowV 20 (tabV 9)) (by kernel_rfl) ?_)
    | (refine wpList_builtS rfl 208 (#[] : Array (Nat × Operand)) rfl (rowV 20 (tabV 10)) (by kernel_rfl) ?_)
    | (refine wpList_builtS rfl 209 _ rfl placesC (by kernel_rfl) ?_)
    | (refine wpList_store_row rfl 209 _ _ rfl (w.heap.size + 1) _ rfl rfl 209 _ (heap_alloc2_new w _ _) (by kernel_rfl) (by kernel_rfl) (by kernel_rfl) ?_)
    | fail)
  have hB : Hid (Below w.heap.size w (((w.alloc (.cells #[.int .u8 10, .int .i64 th, .int .i64 tx, .int .i64 pl, .int .i64 v, .int .i64 x, .int .u8 y] 50)).alloc (.cells (rowV 220 fun _ => .nilFunc) 209)).setRow (w.heap.size + 1) placesC)) := below_setRowS (((Below.refl _ _).alloc (Nat.le_refl _) _).alloc (by simp) _) (by omega) _
  have hR := setRow_heap ((w.alloc (.cells #[.int .u8 10, .int .i64 th, .int .i64 tx, .int .i64 pl, .int .i64 v, .int .i64 x, .int .u8 y] 50)).alloc (.cells (rowV 220 fun _ => .nilFunc) 209)) (w.heap.size + 1) _ placesC _ _ (heap_alloc2_new w _ _)
  generalize ((w.alloc (.cells #[.int .u8 10, .int .i64 th, .int .i64 tx, .int .i64 pl, .int .i64 v, .int .i64 x, .int .u8 y] 50)).alloc (.cells (rowV 220 fun _ => .nilFunc) 209)).setRow (w.heap.size + 1) placesC = W2 at hB hR ⊢
  have c1 : W2.cell? ⟨w.heap.size + 1, wh * 20 + k, none⟩ = some (tabV wh k) := by
    rw [cell_of_row W2 _ _ _ _ _ hR]
    unfold placesC
    rw [rowV_get _ _ (by omega), show (wh * 20 + k) / 20 = wh by omega, show (wh * 20 + k) % 20 = k by omega]
  have i1 : (0 : Int) ≤ (wh : Int) := by omega
  have i2 : (wh : Int) < 11 := by omega
  have i3 : (0 : Int) ≤ (k : Int) := by omega
  have i4 : (k : Int) < 20 := by omega
  clear hR hz
  go_wp2_with fail
  go_ret
  exact ⟨rfl, hB.out⟩
set_option maxHeartbeats 4000000 in
theorem row_not (wh : Nat) (hw : wh ≤ 10) (k : Nat) (hk : k ≤ 13) (hk10 : k ≠ 10) (th tx pl v x y : Int) (w : World) : Calls Tryz.prog 120 #[.int .i64 (wh : Int), .agg #[.int .u8 (k : Int), .int .i64 th, .int .i64 tx, .int .i64 pl, .int .i64 v, .int .i64 x, .int .u8 y]] w fun r w' => r = .returned (tabV wh k) ∧ Below w.heap.size w w' := by
  have hz := zero_places
  have e10 : ((k : Int) == 10) = false := beq_eq_false_iff_ne.2 (by omega)
  go_enter Tryz.func120, Tryz.ntmps120
  go_upto_region 5 with (first
    | (refine wpList_builtS rfl 208 (#[(1, .func 137)] : Array (Nat × Operand)) rfl (rowV 20 (tabV 0)) (by kernel_rfl) ?_)
    | (refine wpList_builtS rfl 208 (#[(2, .func 138), (4, .func 139), (7, .func 140), (12, .func 141), (14, .func 142), (15, .func 143), (17, .func 144)] : Array (Nat × Operand)) rfl (rowV 20 (tabV 1)) (by kernel_rfl) ?_)
    | (refine wpList_builtS rfl 208 (#[(3, .func 145), (16, .func 146)] : Array (Nat × Operand)) rfl (rowV 20 (tabV 2)) (by kernel_rfl) ?_)
    | (refine wpList_builtS rfl 208 (#[(4, .func 139), (5, .func 147), (17, .func 144), (19, .func 148)] : Array (Nat × Operand)) rfl (rowV 20 (tabV 3)) (by kernel_rfl) ?_)
    | (refine wpList_builtS rfl 208 (#[(6, .func 149), (7, .func 150), (18, .func 151)] : Array (Nat × Operand)) rfl (rowV 20 (tabV 4)) (by kernel_rfl) ?_)
    | (refine wpList_builtS rfl 208 (#[(8, .func 152), (9, .func 153)] : Array (Nat × Operand)) rfl (rowV 20 (tabV 5)) (by kernel_rfl) ?_)
    | (refine wpList_builtS rfl 208 (#[(9, .func 153)] : Array (Nat × Operand)) rfl (rowV 20 (tabV 6)) (by kernel_rfl) ?_)
    | (refine wpList_builtS rfl 208 (#[(11, .func 154)] : Array (Nat × Operand)) rfl (rowV 20 (tabV 7)) (by kernel_rfl) ?_)
    | (refine wpList_builtS rfl 208 (#[(11, .func 154)] : Array (Nat × Operand)) rfl (rowV 20 (tabV 8)) (by kernel_rfl) ?_)
    | (refine wpList_builtS rfl 208 (#[(13, .func 155)] : Array (Nat × Operand)) rfl (rowV 20 (tabV 9)) (by kernel_rfl) ?_)
    | (refine wpList_builtS rfl 208 (#[] : Array (Nat × Operand)) rfl (rowV 20 (tabV 10)) (by kernel_rfl) ?_)
    | (refine wpList_builtS rfl 209 _ rfl placesC (by kernel_rfl) ?_)
    | (refine wpList_store_row rfl 209 _ _ rfl (w.heap.size + 1) _ rfl rfl 209 _ (heap_alloc2_new w _ _) (by kernel_rfl) (by kernel_rfl) (by kernel_rfl) ?_)
    | fail)
  have hB : Hid (Below w.heap.size w (((w.alloc (.cells #[.int .u8 (k : Int), .int .i64 th, .int .i64 tx, .int .i64 pl, .int .i64 v, .int .i64 x, .int .u8 y] 50)).alloc (.cells (rowV 220 fun _ => .nilFunc) 209)).setRow (w.heap.size + 1) placesC)) := below_setRowS (((Below.refl _ _).alloc (Nat.le_refl _) _).alloc (by simp) _) (by omega) _
  have hR := setRow_heap ((w.alloc (.cells #[.int .u8 (k : Int), .int .i64 th, .int .i64 tx, .int .i64 pl, .int .i64 v, .int .i64 x, .int .u8 y] 50)).alloc (.cells (rowV 220 fun _ => .nilFunc) 209)) (w.heap.size + 1) _ placesC _ _ (heap_alloc2_new w _ _)
  generalize ((w.alloc (.cells #[.int .u8 (k : Int), .int .i64 th, .int .i64 tx, .int .i64 pl, .int .i64 v, .int .i64 x, .int .u8 y] 50)).alloc (.cells (rowV 220 fun _ => .nilFunc) 209)).setRow (w.heap.size + 1) placesC = W2 at hB hR ⊢
  have c1 : W2.cell? ⟨w.heap.size + 1, wh * 20 + k, none⟩ = some (tabV wh k) := by
    rw [cell_of_row W2 _ _ _ _ _ hR]
    unfold placesC
    rw [rowV_get _ _ (by omega), show (wh * 20 + k) / 20 = wh by omega, show (wh * 20 + k) % 20 = k by omega]
  have i1 : (0 : Int) ≤ (wh : Int) := by omega
  have i2 : (wh : Int) < 11 := by omega
  have i3 : (0 : Int) ≤ (k : Int) := by omega
  have i4 : (k : Int) < 20 := by omega
  clear hR hz
  go_wp2_with fail
  go_ret
  exact ⟨rfl, hB.out⟩
theorem rowS_any (wh : Nat) (hw : wh ≤ 10) (e : Ev) (hk : 1 ≤ e.kd ∧ e.kd ≤ 13) (hy : e.kd = 10 → 1 ≤ e.why ∧ e.why ≤ 6) (w : World) : Calls Tryz.prog 120 #[.int .i64 (wh : Int), evV e] w fun r w' => r = .returned (tabV wh (kindX e)) ∧ Below w.heap.size w w' := by
  obtain ⟨kd, th, tx, pl, v, x, y⟩ := e
  simp only at hk hy
  unfold evV kindX
  simp only
  by_cases h : kd = 10
  · subst h
    rw [if_pos rfl]
    exact row_10 wh hw th tx pl v x y (hy rfl) w
  · rw [if_neg h]
    obtain ⟨k, rfl⟩ : ∃ k : Nat, kd = k := ⟨kd.toNat, by omega⟩
    exact row_not wh hw k (by omega) (by omega) th tx pl v x y w
end Go.Proofs.YteigglhhnemngaaGreatDoor
namespace Go.Proofs.YteigglhhnemngaaGreatDoor
set_option maxRecDepth 100000
open Go.RowKit
set_option linter.unusedVariables false
set_option linter.unusedSimpArgs false
section
variable {a : Act} {w : World} {K : Act → World → Prop} {Q : Exit → Act → World → Prop} {o : Oper}
theorem u_extract0 (x : Nat) {u v : Value} (ho : o.op = .extract (.tmp x) 0) (hx : a.tmps[x]?.getD undef = .tuple #[u, v]) (hK : K (a.put o.dst u) w) : Oper.wp Tryz.prog o a w K Q := by
  obtain ⟨dst, op, type, pos, after, guard⟩ := o
  have ho' : op = _ := ho
  subst ho'
  clear ho
  go_simp
  exact hK
theorem u_extract1 (x : Nat) {u v : Value} (ho : o.op = .extract (.tmp x) 1) (hx : a.tmps[x]?.getD undef = .tuple #[u, v]) (hK : K (a.put o.dst v) w) : Oper.wp Tryz.prog o a w K Q := by
  obtain ⟨dst, op, type, pos, after, guard⟩ := o
  have ho' : op = _ := ho
  subst ho'
  clear ho
  go_simp
  exact hK
end
noncomputable def rgCm2_ops : Array Oper := opsW Tryz.f87 2
def rgCm2_D : List (Option Nat) := [some 16, some 17, some 18, some 19, some 20, some 21, some 22, some 15, some 23, some 24, some 6, some 7]
set_option maxRecDepth 100000 in
set_option maxHeartbeats 4000000 in
theorem rgCm2 {id : Nat} {ops : Array Oper} (hops : ops = rgCm2_ops) (T0 : Array Value) (hsz : 25 ≤ T0.size) (W : World) (g b : Nat) (S n : Int) (q : Bool) (kd th tx pl v x y : Int) (HE : ∀ w1, Below W.heap.size W w1 → w1.heap[b]? = some (.cells #[.int .u8 kd, .int .i64 th, .int .i64 tx, .int .i64 pl, .int .i64 v, .int .i64 x, .int .u8 y] 50 (0, 0))) (HS : ∀ w1, Below W.heap.size W w1 → w1.cell? ⟨g, 2, none⟩ = some (.int .i64 S)) (HA : Hid (∀ w1, Below W.heap.size W w1 → Calls Tryz.prog 119 #[.agg #[.int .u8 kd, .int .i64 th, .int .i64 tx, .int .i64 pl, .int .i64 v, .int .i64 x, .int .u8 y], .int .i64 S] w1 fun r w' => r = .returned (.tuple #[.int .i64 n, .bool q]) ∧ Below w1.heap.size w1 w')) (h0 : T0[0]? = some (.pointer (some ⟨g, 0, none⟩))) (h3 : T0[3]? = some (.pointer (some ⟨b, 0, none⟩))) {Q : Exit → Act → World → Prop}
    (hend : ∀ w : World, Below W.heap.size W w → Q .normal ⟨putAll T0 [16, 17, 18, 19, 20, 21, 22, 15, 23, 24, 6, 7] [.agg #[.int .u8 kd, .int .i64 th, .int .i64 tx, .int .i64 pl, .int .i64 v, .int .i64 x, .int .u8 y], .pointer (some ⟨g, 0, none⟩), .pointer (some ⟨g, 0, none⟩), .pointer (some ⟨g, 0, none⟩), .pointer (some ⟨g, 2, none⟩), .int .i64 S, .tuple #[.int .i64 n, .bool q], .tuple #[.int .i64 n, .bool q], .int .i64 n, .bool q, .int .i64 n, .bool q], []⟩ w) : (Code.region id ops true).wp Tryz.prog Q ⟨T0, []⟩ W := by
  subst hops
  have hos : rgCm2_ops.size = 12 := by kernel_rfl
  have hga : (List.range 12).all (fun i => match rgCm2_ops[i]? with | some o => o.guard == ([none, none, none, none, none, none, none, none, none, none, none, none] : List (Option (Nat × Bool))).getD i none | none => false) = true := by kernel_rfl
  have hds : ((pairsS rgCm2_D ([.agg #[.int .u8 kd, .int .i64 th, .int .i64 tx, .int .i64 pl, .int .i64 v, .int .i64 x, .int .u8 y], .pointer (some ⟨g, 0, none⟩), .pointer (some ⟨g, 0, none⟩), .pointer (some ⟨g, 0, none⟩), .pointer (some ⟨g, 2, none⟩), .int .i64 S, .tuple #[.int .i64 n, .bool q], .tuple #[.int .i64 n, .bool q], .int .i64 n, .bool q, .int .i64 n, .bool q] : List Value)).map (·.1)) = [16, 17, 18, 19, 20, 21, 22, 15, 23, 24, 6, 7] := rfl
  refine wp_region_valsG ([.agg #[.int .u8 kd, .int .i64 th, .int .i64 tx, .int .i64 pl, .int .i64 v, .int .i64 x, .int .u8 y], .pointer (some ⟨g, 0, none⟩), .pointer (some ⟨g, 0, none⟩), .pointer (some ⟨g, 0, none⟩), .pointer (some ⟨g, 2, none⟩), .int .i64 S, .tuple #[.int .i64 n, .bool q], .tuple #[.int .i64 n, .bool q], .int .i64 n, .bool q, .int .i64 n, .bool q] : List Value) [true, true, true, true, true, true, true, true, true, true, true, true] rgCm2_D (fun _ w => Below W.heap.size W w) W T0 (by rw [hds]; decide) (fun x hx => ?_) (by kernel_rfl) (by kernel_rfl) (fun i o j want ho hg => ?_) (fun i hi hon => ?_) (fun i hi hon don w hM => ?_) ?_ ?_ ?_
  · rw [hds] at hx
    have hall : (([16, 17, 18, 19, 20, 21, 22, 15, 23, 24, 6, 7] : List Nat).all fun d => decide (d < 25)) = true := by decide
    have := List.all_eq_true.1 hall x hx
    simp only [decide_eq_true_eq] at this
    omega
  · have hi : i < 12 := by rw [← hos]; exact (Array.getElem?_eq_some_iff.1 ho).1
    have h1 := List.all_eq_true.1 hga i (by simpa using hi)
    rw [ho] at h1
    simp only [hg, beq_iff_eq] at h1
    match i, hi with
    | 0, _ => cases h1
    | 1, _ => cases h1
    | 2, _ => cases h1
    | 3, _ => cases h1
    | 4, _ => cases h1
    | 5, _ => cases h1
    | 6, _ => cases h1
    | 7, _ => cases h1
    | 8, _ => cases h1
    | 9, _ => cases h1
    | 10, _ => cases h1
    | 11, _ => cases h1
    | i + 12, h => exact absurd (show i + 12 < 12 from h) (by omega)
  · match i, hi with
    | 0, _ => cases hon
    | 1, _ => cases hon
    | 2, _ => cases hon
    | 3, _ => cases hon
    | 4, _ => cases hon
    | 5, _ => cases hon
    | 6, _ => cases hon
    | 7, _ => cases hon
    | 8, _ => cases hon
    | 9, _ => cases hon
    | 10, _ => cases hon
    | 11, _ => cases hon
    | i + 12, h => exact absurd (show i + 12 < 12 from h) (by omega)
  · match i, hi with
    | 0, _ => cases hon
    | 1, _ => cases hon
    | 2, _ => cases hon
    | 3, _ => cases hon
    | 4, _ => cases hon
    | 5, _ => cases hon
    | 6, _ => cases hon
    | 7, _ => cases hon
    | 8, _ => cases hon
    | 9, _ => cases hon
    | 10, _ => cases hon
    | 11, _ => cases hon
    | i + 12, h => exact absurd (show i + 12 < 12 from h) (by omega)
  · exact (Below.refl _ _).drew
  · intro i oo ho hi hon don a w hT hU hdi hM K hK
    rw [hds] at hT
    have hT0 : ∀ t v, t ∉ ([16, 17, 18, 19, 20, 21, 22, 15, 23, 24, 6, 7] : List Nat) → T0[t]? = some v → a.tmps[t]?.getD undef = v := fun t v ht hv => by rw [hT t ht, hv]; rfl
    match i, hi with
    | 0, _ => exact u_load27 3 (opAtW ho (by kernel_rfl)) (hT0 3 _ (by decide) h3) (⟨HE w hM, rfl⟩) (hK w hM)
    | 1, _ => exact v_moveS 0 (opAtW ho (by kernel_rfl)) (hT0 0 _ (by decide) h0) (hK w hM)
    | 2, _ => exact u_nilS 17 (opAtW ho (by kernel_rfl)) ((hU 1 (by kernel_rfl)).2 17 rfl) (hK w hM)
    | 3, _ => exact u_f66_0 18 (opAtW ho (by kernel_rfl)) ((hU 2 (by kernel_rfl)).2 18 rfl) (hK w hM)
    | 4, _ => exact u_f56_2 19 (opAtW ho (by kernel_rfl)) ((hU 3 (by kernel_rfl)).2 19 rfl) (hK w hM)
    | 5, _ => exact u_loadiS 20 (opAtW ho (by kernel_rfl)) ((hU 4 (by kernel_rfl)).2 20 rfl) (HS w hM) (hK w hM)
    | 6, _ =>
      have x16 : a.tmps[16]?.getD undef = .agg #[.int .u8 kd, .int .i64 th, .int .i64 tx, .int .i64 pl, .int .i64 v, .int .i64 x, .int .u8 y] := ((hU 0 (by kernel_rfl)).2 16 rfl)
      have x21 : a.tmps[21]?.getD undef = .int .i64 S := ((hU 5 (by kernel_rfl)).2 21 rfl)
      obtain ⟨dst, op, type, pos, after, guard⟩ := oo
      have ho' : op = .call { callee := .value (.func 119), args := #[.tmp 16, .tmp 21], argTypes := #[50, 3] } := opAtW ho (by kernel_rfl)
      subst ho'
      clear ho hT hU hT0
      have hfun := Tryz.func119
      go_simp
      refine (HA.out w hM).mono ?_
      rintro r w' ⟨rfl, hb⟩
      exact hK w' (hM.trans (hb.mono hM.size))
    | 7, _ => exact v_moveS 22 (opAtW ho (by kernel_rfl)) ((hU 6 (by kernel_rfl)).2 22 rfl) (hK w hM)
    | 8, _ => exact u_extract0 15 (opAtW ho (by kernel_rfl)) ((hU 7 (by kernel_rfl)).2 15 rfl) (hK w hM)
    | 9, _ => exact u_extract1 15 (opAtW ho (by kernel_rfl)) ((hU 7 (by kernel_rfl)).2 15 rfl) (hK w hM)
    | 10, _ => exact v_assignS 23 (opAtW ho (by kernel_rfl)) ((hU 8 (by kernel_rfl)).2 23 rfl) (hK w hM)
    | 11, _ => exact v_assignS 24 (opAtW ho (by kernel_rfl)) ((hU 9 (by kernel_rfl)).2 24 rfl) (hK w hM)
    | i + 12, h => exact absurd (show i + 12 < 12 from h) (by omega)
  · intro w hM
    exact hend w (hM)
noncomputable def rgCm3_ops : Array Oper := opsW Tryz.f87 3
def rgCm3_D : List (Option Nat) := [some 25, some 26, some 27, some 28, some 29, some 30, some 8]
set_option maxRecDepth 100000 in
set_option maxHeartbeats 4000000 in
theorem rgCm3 {id : Nat} {ops : Array Oper} (hops : ops = rgCm3_ops) (T0 : Array Value) (hsz : 31 ≤ T0.size) (W : World) (g b o : Nat) (wh : Int) (tv : Value) (kd th tx pl v x y : Int) (HE : ∀ w1, Below W.heap.size W w1 → w1.heap[b]? = some (.cells #[.int .u8 kd, .int .i64 th, .int .i64 tx, .int .i64 pl, .int .i64 v, .int .i64 x, .int .u8 y] 50 (0, 0))) (HW : ∀ w1, Below W.heap.size W w1 → w1.cell? ⟨g, o, none⟩ = some (.int .i64 wh)) (HA : Hid (∀ w1, Below W.heap.size W w1 → Calls Tryz.prog 120 #[.int .i64 wh, .agg #[.int .u8 kd, .int .i64 th, .int .i64 tx, .int .i64 pl, .int .i64 v, .int .i64 x, .int .u8 y]] w1 fun r w' => r = .returned tv ∧ Below w1.heap.size w1 w')) (h3 : T0[3]? = some (.pointer (some ⟨b, 0, none⟩))) (h5 : T0[5]? = some (.pointer (some ⟨g, o, none⟩))) {Q : Exit → Act → World → Prop}
    (hend : ∀ w : World, Below W.heap.size W w → Q .normal ⟨putAll T0 [25, 26, 27, 28, 29, 30, 8] [.pointer (some ⟨g, o, none⟩), .pointer (some ⟨g, o, none⟩), .pointer (some ⟨g, o, none⟩), .int .i64 wh, .agg #[.int .u8 kd, .int .i64 th, .int .i64 tx, .int .i64 pl, .int .i64 v, .int .i64 x, .int .u8 y], tv, tv], []⟩ w) : (Code.region id ops true).wp Tryz.prog Q ⟨T0, []⟩ W := by
  subst hops
  have hos : rgCm3_ops.size = 7 := by kernel_rfl
  have hga : (List.range 7).all (fun i => match rgCm3_ops[i]? with | some o => o.guard == ([none, none, none, none, none, none, none] : List (Option (Nat × Bool))).getD i none | none => false) = true := by kernel_rfl
  have hds : ((pairsS rgCm3_D ([.pointer (some ⟨g, o, none⟩), .pointer (some ⟨g, o, none⟩), .pointer (some ⟨g, o, none⟩), .int .i64 wh, .agg #[.int .u8 kd, .int .i64 th, .int .i64 tx, .int .i64 pl, .int .i64 v, .int .i64 x, .int .u8 y], tv, tv] : List Value)).map (·.1)) = [25, 26, 27, 28, 29, 30, 8] := rfl
  refine wp_region_valsG ([.pointer (some ⟨g, o, none⟩), .pointer (some ⟨g, o, none⟩), .pointer (some ⟨g, o, none⟩), .int .i64 wh, .agg #[.int .u8 kd, .int .i64 th, .int .i64 tx, .int .i64 pl, .int .i64 v, .int .i64 x, .int .u8 y], tv, tv] : List Value) [true, true, true, true, true, true, true] rgCm3_D (fun _ w => Below W.heap.size W w) W T0 (by rw [hds]; decide) (fun x hx => ?_) (by kernel_rfl) (by kernel_rfl) (fun i o j want ho hg => ?_) (fun i hi hon => ?_) (fun i hi hon don w hM => ?_) ?_ ?_ ?_
  · rw [hds] at hx
    have hall : (([25, 26, 27, 28, 29, 30, 8] : List Nat).all fun d => decide (d < 31)) = true := by decide
    have := List.all_eq_true.1 hall x hx
    simp only [decide_eq_true_eq] at this
    omega
  · have hi : i < 7 := by rw [← hos]; exact (Array.getElem?_eq_some_iff.1 ho).1
    have h1 := List.all_eq_true.1 hga i (by simpa using hi)
    rw [ho] at h1
    simp only [hg, beq_iff_eq] at h1
    match i, hi with
    | 0, _ => cases h1
    | 1, _ => cases h1
    | 2, _ => cases h1
    | 3, _ => cases h1
    | 4, _ => cases h1
    | 5, _ => cases h1
    | 6, _ => cases h1
    | i + 7, h => exact absurd (show i + 7 < 7 from h) (by omega)
  · match i, hi with
    | 0, _ => cases hon
    | 1, _ => cases hon
    | 2, _ => cases hon
    | 3, _ => cases hon
    | 4, _ => cases hon
    | 5, _ => cases hon
    | 6, _ => cases hon
    | i + 7, h => exact absurd (show i + 7 < 7 from h) (by omega)
  · match i, hi with
    | 0, _ => cases hon
    | 1, _ => cases hon
    | 2, _ => cases hon
    | 3, _ => cases hon
    | 4, _ => cases hon
    | 5, _ => cases hon
    | 6, _ => cases hon
    | i + 7, h => exact absurd (show i + 7 < 7 from h) (by omega)
  · exact (Below.refl _ _).drew
  · intro i oo ho hi hon don a w hT hU hdi hM K hK
    rw [hds] at hT
    have hT0 : ∀ t v, t ∉ ([25, 26, 27, 28, 29, 30, 8] : List Nat) → T0[t]? = some v → a.tmps[t]?.getD undef = v := fun t v ht hv => by rw [hT t ht, hv]; rfl
    match i, hi with
    | 0, _ => exact v_moveS 5 (opAtW ho (by kernel_rfl)) (hT0 5 _ (by decide) h5) (hK w hM)
    | 1, _ => exact u_nilS 25 (opAtW ho (by kernel_rfl)) ((hU 0 (by kernel_rfl)).2 25 rfl) (hK w hM)
    | 2, _ => exact u_f63_0 26 (opAtW ho (by kernel_rfl)) ((hU 1 (by kernel_rfl)).2 26 rfl) (hK w hM)
    | 3, _ => exact u_loadiS 27 (opAtW ho (by kernel_rfl)) ((hU 2 (by kernel_rfl)).2 27 rfl) (HW w hM) (hK w hM)
    | 4, _ => exact u_load27 3 (opAtW ho (by kernel_rfl)) (hT0 3 _ (by decide) h3) (⟨HE w hM, rfl⟩) (hK w hM)
    | 5, _ =>
      have x28 : a.tmps[28]?.getD undef = .int .i64 wh := ((hU 3 (by kernel_rfl)).2 28 rfl)
      have x29 : a.tmps[29]?.getD undef = .agg #[.int .u8 kd, .int .i64 th, .int .i64 tx, .int .i64 pl, .int .i64 v, .int .i64 x, .int .u8 y] := ((hU 4 (by kernel_rfl)).2 29 rfl)
      obtain ⟨dst, op, type, pos, after, guard⟩ := oo
      have ho' : op = .call { callee := .value (.func 120), args := #[.tmp 28, .tmp 29], argTypes := #[3, 50] } := opAtW ho (by kernel_rfl)
      subst ho'
      clear ho hT hU hT0
      have hfun := Tryz.func120
      go_simp
      refine (HA.out w hM).mono ?_
      rintro r w' ⟨rfl, hb⟩
      exact hK w' (hM.trans (hb.mono hM.size))
    | 6, _ => exact v_assignS 30 (opAtW ho (by kernel_rfl)) ((hU 5 (by kernel_rfl)).2 30 rfl) (hK w hM)
    | i + 7, h => exact absurd (show i + 7 < 7 from h) (by omega)
  · intro w hM
    exact hend w (hM)
noncomputable def rgNxA_ops : Array Oper := opsW Tryz.f47 5
def rgNxA_D : List (Option Nat) := [some 15, some 16, some 17, some 18, some 19, some 20, some 21, some 22, some 23, some 24, some 25, some 26, some 27, some 28, some 29, some 30, some 31, some 32, some 33, some 34, some 35, some 36, some 37, some 38, some 14]
set_option maxRecDepth 100000 in
set_option maxHeartbeats 4000000 in
theorem rgNxA {id : Nat} {ops : Array Oper} (hops : ops = rgNxA_ops) (T0 : Array Value) (hsz : 39 ≤ T0.size) (W : World) (g b : Nat) (T V S : Int) (kd th tx pl v x y : Int) (HE : ∀ w1, Below W.heap.size W w1 → w1.heap[b]? = some (.cells #[.int .u8 kd, .int .i64 th, .int .i64 tx, .int .i64 pl, .int .i64 v, .int .i64 x, .int .u8 y] 50 (0, 0))) (HZ : ∀ w1, Below W.heap.size W w1 → w1.cell? ⟨g, 0, none⟩ = some (.int .i64 T) ∧ w1.cell? ⟨g, 1, none⟩ = some (.int .i64 V) ∧ w1.cell? ⟨g, 2, none⟩ = some (.int .i64 S)) (HA : Hid (∀ w1, Below W.heap.size W w1 → Calls Tryz.prog 86 #[.agg #[.int .u8 kd, .int .i64 th, .int .i64 tx, .int .i64 pl, .int .i64 v, .int .i64 x, .int .u8 y], .int .i64 T, .int .i64 V, .int .i64 S] w1 fun r w' => r = .returned (.bool false) ∧ Below w1.heap.size w1 w'))  (h0 : T0[0]? = some (.pointer (some ⟨g, 0, none⟩))) (h3 : T0[3]? = some (.pointer (some ⟨b, 0, none⟩))) {Q : Exit → Act → World → Prop}
    (hend : ∀ w : World, Below W.heap.size W w → Q .normal ⟨putAll T0 [15, 16, 17, 18, 19, 20, 21, 22, 23, 24, 25, 26, 27, 28, 29, 30, 31, 32, 33, 34, 35, 36, 37, 38, 14] [.agg #[.int .u8 kd, .int .i64 th, .int .i64 tx, .int .i64 pl, .int .i64 v, .int .i64 x, .int .u8 y], .pointer (some ⟨g, 0, none⟩), .pointer (some ⟨g, 0, none⟩), .pointer (some ⟨g, 0, none⟩), .pointer (some ⟨g, 0, none⟩), .int .i64 T, .pointer (some ⟨g, 0, none⟩), .pointer (some ⟨g, 0, none⟩), .pointer (some ⟨g, 0, none⟩), .pointer (some ⟨g, 1, none⟩), .int .i64 V, .pointer (some ⟨g, 0, none⟩), .pointer (some ⟨g, 0, none⟩), .pointer (some ⟨g, 0, none⟩), .pointer (some ⟨g, 2, none⟩), .int .i64 S, .bool false, .bool true, .bool true, undef, undef, undef, undef, .bool true, .bool true], []⟩ w) : (Code.region id ops true).wp Tryz.prog Q ⟨T0, []⟩ W := by
  subst hops
  have hos : rgNxA_ops.size = 25 := by kernel_rfl
  have hga : (List.range 25).all (fun i => match rgNxA_ops[i]? with | some o => o.guard == ([none, none, none, none, none, none, none, none, none, none, none, none, none, none, none, none, none, none, none, some (18, false), some (18, false), some (18, false), some (18, false), none, none] : List (Option (Nat × Bool))).getD i none | none => false) = true := by kernel_rfl
  have hds : ((pairsS rgNxA_D ([.agg #[.int .u8 kd, .int .i64 th, .int .i64 tx, .int .i64 pl, .int .i64 v, .int .i64 x, .int .u8 y], .pointer (some ⟨g, 0, none⟩), .pointer (some ⟨g, 0, none⟩), .pointer (some ⟨g, 0, none⟩), .pointer (some ⟨g, 0, none⟩), .int .i64 T, .pointer (some ⟨g, 0, none⟩), .pointer (some ⟨g, 0, none⟩), .pointer (some ⟨g, 0, none⟩), .pointer (some ⟨g, 1, none⟩), .int .i64 V, .pointer (some ⟨g, 0, none⟩), .pointer (some ⟨g, 0, none⟩), .pointer (some ⟨g, 0, none⟩), .pointer (some ⟨g, 2, none⟩), .int .i64 S, .bool false, .bool true, .bool true, undef, undef, undef, undef, .bool true, .bool true] : List Value)).map (·.1)) = [15, 16, 17, 18, 19, 20, 21, 22, 23, 24, 25, 26, 27, 28, 29, 30, 31, 32, 33, 34, 35, 36, 37, 38, 14] := rfl
  refine wp_region_valsG ([.agg #[.int .u8 kd, .int .i64 th, .int .i64 tx, .int .i64 pl, .int .i64 v, .int .i64 x, .int .u8 y], .pointer (some ⟨g, 0, none⟩), .pointer (some ⟨g, 0, none⟩), .pointer (some ⟨g, 0, none⟩), .pointer (some ⟨g, 0, none⟩), .int .i64 T, .pointer (some ⟨g, 0, none⟩), .pointer (some ⟨g, 0, none⟩), .pointer (some ⟨g, 0, none⟩), .pointer (some ⟨g, 1, none⟩), .int .i64 V, .pointer (some ⟨g, 0, none⟩), .pointer (some ⟨g, 0, none⟩), .pointer (some ⟨g, 0, none⟩), .pointer (some ⟨g, 2, none⟩), .int .i64 S, .bool false, .bool true, .bool true, undef, undef, undef, undef, .bool true, .bool true] : List Value) [true, true, true, true, true, true, true, true, true, true, true, true, true, true, true, true, true, true, true, false, false, false, false, true, true] rgNxA_D (fun _ w => Below W.heap.size W w) W T0 (by rw [hds]; decide) (fun x hx => ?_) (by kernel_rfl) (by kernel_rfl) (fun i o j want ho hg => ?_) (fun i hi hon => ?_) (fun i hi hon don w hM => ?_) ?_ ?_ ?_
  · rw [hds] at hx
    have hall : (([15, 16, 17, 18, 19, 20, 21, 22, 23, 24, 25, 26, 27, 28, 29, 30, 31, 32, 33, 34, 35, 36, 37, 38, 14] : List Nat).all fun d => decide (d < 39)) = true := by decide
    have := List.all_eq_true.1 hall x hx
    simp only [decide_eq_true_eq] at this
    omega
  · have hi : i < 25 := by rw [← hos]; exact (Array.getElem?_eq_some_iff.1 ho).1
    have h1 := List.all_eq_true.1 hga i (by simpa using hi)
    rw [ho] at h1
    simp only [hg, beq_iff_eq] at h1
    match i, hi with
    | 0, _ => cases h1
    | 1, _ => cases h1
    | 2, _ => cases h1
    | 3, _ => cases h1
    | 4, _ => cases h1
    | 5, _ => cases h1
    | 6, _ => cases h1
    | 7, _ => cases h1
    | 8, _ => cases h1
    | 9, _ => cases h1
    | 10, _ => cases h1
    | 11, _ => cases h1
    | 12, _ => cases h1
    | 13, _ => cases h1
    | 14, _ => cases h1
    | 15, _ => cases h1
    | 16, _ => cases h1
    | 17, _ => cases h1
    | 18, _ => cases h1
    | 19, _ => obtain ⟨rfl, rfl⟩ := Prod.mk.inj (Option.some.inj h1); rfl
    | 20, _ => obtain ⟨rfl, rfl⟩ := Prod.mk.inj (Option.some.inj h1); rfl
    | 21, _ => obtain ⟨rfl, rfl⟩ := Prod.mk.inj (Option.some.inj h1); rfl
    | 22, _ => obtain ⟨rfl, rfl⟩ := Prod.mk.inj (Option.some.inj h1); rfl
    | 23, _ => cases h1
    | 24, _ => cases h1
    | i + 25, h => exact absurd (show i + 25 < 25 from h) (by omega)
  · match i, hi with
    | 0, _ => cases hon
    | 1, _ => cases hon
    | 2, _ => cases hon
    | 3, _ => cases hon
    | 4, _ => cases hon
    | 5, _ => cases hon
    | 6, _ => cases hon
    | 7, _ => cases hon
    | 8, _ => cases hon
    | 9, _ => cases hon
    | 10, _ => cases hon
    | 11, _ => cases hon
    | 12, _ => cases hon
    | 13, _ => cases hon
    | 14, _ => cases hon
    | 15, _ => cases hon
    | 16, _ => cases hon
    | 17, _ => cases hon
    | 18, _ => cases hon
    | 19, _ => rfl
    | 20, _ => rfl
    | 21, _ => rfl
    | 22, _ => rfl
    | 23, _ => cases hon
    | 24, _ => cases hon
    | i + 25, h => exact absurd (show i + 25 < 25 from h) (by omega)
  · match i, hi with
    | 0, _ => cases hon
    | 1, _ => cases hon
    | 2, _ => cases hon
    | 3, _ => cases hon
    | 4, _ => cases hon
    | 5, _ => cases hon
    | 6, _ => cases hon
    | 7, _ => cases hon
    | 8, _ => cases hon
    | 9, _ => cases hon
    | 10, _ => cases hon
    | 11, _ => cases hon
    | 12, _ => cases hon
    | 13, _ => cases hon
    | 14, _ => cases hon
    | 15, _ => cases hon
    | 16, _ => cases hon
    | 17, _ => cases hon
    | 18, _ => cases hon
    | 19, _ => exact hM
    | 20, _ => exact hM
    | 21, _ => exact hM
    | 22, _ => exact hM
    | 23, _ => cases hon
    | 24, _ => cases hon
    | i + 25, h => exact absurd (show i + 25 < 25 from h) (by omega)
  · exact (Below.refl _ _).drew
  · intro i oo ho hi hon don a w hT hU hdi hM K hK
    rw [hds] at hT
    have hT0 : ∀ t v, t ∉ ([15, 16, 17, 18, 19, 20, 21, 22, 23, 24, 25, 26, 27, 28, 29, 30, 31, 32, 33, 34, 35, 36, 37, 38, 14] : List Nat) → T0[t]? = some v → a.tmps[t]?.getD undef = v := fun t v ht hv => by rw [hT t ht, hv]; rfl
    match i, hi with
    | 0, _ => exact u_load27 3 (opAtW ho (by kernel_rfl)) (hT0 3 _ (by decide) h3) (⟨HE w hM, rfl⟩) (hK w hM)
    | 1, _ => exact v_moveS 0 (opAtW ho (by kernel_rfl)) (hT0 0 _ (by decide) h0) (hK w hM)
    | 2, _ => exact u_nilS 16 (opAtW ho (by kernel_rfl)) ((hU 1 (by kernel_rfl)).2 16 rfl) (hK w hM)
    | 3, _ => exact u_f66_0 17 (opAtW ho (by kernel_rfl)) ((hU 2 (by kernel_rfl)).2 17 rfl) (hK w hM)
    | 4, _ => exact u_f56_0 18 (opAtW ho (by kernel_rfl)) ((hU 3 (by kernel_rfl)).2 18 rfl) (hK w hM)
    | 5, _ => exact u_loadiS 19 (opAtW ho (by kernel_rfl)) ((hU 4 (by kernel_rfl)).2 19 rfl) ((HZ w hM).1) (hK w hM)
    | 6, _ => exact v_moveS 0 (opAtW ho (by kernel_rfl)) (hT0 0 _ (by decide) h0) (hK w hM)
    | 7, _ => exact u_nilS 21 (opAtW ho (by kernel_rfl)) ((hU 6 (by kernel_rfl)).2 21 rfl) (hK w hM)
    | 8, _ => exact u_f66_0 22 (opAtW ho (by kernel_rfl)) ((hU 7 (by kernel_rfl)).2 22 rfl) (hK w hM)
    | 9, _ => exact u_f56_1 23 (opAtW ho (by kernel_rfl)) ((hU 8 (by kernel_rfl)).2 23 rfl) (hK w hM)
    | 10, _ => exact u_loadiS 24 (opAtW ho (by kernel_rfl)) ((hU 9 (by kernel_rfl)).2 24 rfl) ((HZ w hM).2.1) (hK w hM)
    | 11, _ => exact v_moveS 0 (opAtW ho (by kernel_rfl)) (hT0 0 _ (by decide) h0) (hK w hM)
    | 12, _ => exact u_nilS 26 (opAtW ho (by kernel_rfl)) ((hU 11 (by kernel_rfl)).2 26 rfl) (hK w hM)
    | 13, _ => exact u_f66_0 27 (opAtW ho (by kernel_rfl)) ((hU 12 (by kernel_rfl)).2 27 rfl) (hK w hM)
    | 14, _ => exact u_f56_2 28 (opAtW ho (by kernel_rfl)) ((hU 13 (by kernel_rfl)).2 28 rfl) (hK w hM)
    | 15, _ => exact u_loadiS 29 (opAtW ho (by kernel_rfl)) ((hU 14 (by kernel_rfl)).2 29 rfl) ((HZ w hM).2.2) (hK w hM)
    | 16, _ =>
      have x15 : a.tmps[15]?.getD undef = .agg #[.int .u8 kd, .int .i64 th, .int .i64 tx, .int .i64 pl, .int .i64 v, .int .i64 x, .int .u8 y] := ((hU 0 (by kernel_rfl)).2 15 rfl)
      have x20 : a.tmps[20]?.getD undef = .int .i64 T := ((hU 5 (by kernel_rfl)).2 20 rfl)
      have x25 : a.tmps[25]?.getD undef = .int .i64 V := ((hU 10 (by kernel_rfl)).2 25 rfl)
      have x30 : a.tmps[30]?.getD undef = .int .i64 S := ((hU 15 (by kernel_rfl)).2 30 rfl)
      obtain ⟨dst, op, type, pos, after, guard⟩ := oo
      have ho' : op = .call { callee := .value (.func 86), args := #[.tmp 15, .tmp 20, .tmp 25, .tmp 30], argTypes := #[50, 3, 3, 3] } := opAtW ho (by kernel_rfl)
      subst ho'
      clear ho hT hU hT0
      have hfun := Tryz.func86
      go_simp
      refine (HA.out w hM).mono ?_
      rintro r w' ⟨rfl, hb⟩
      exact hK w' (hM.trans (hb.mono hM.size))
    | 17, _ => exact u_notFS 31 (opAtW ho (by kernel_rfl)) ((hU 16 (by kernel_rfl)).2 31 rfl) (hK w hM)
    | 18, _ => exact v_moveS 32 (opAtW ho (by kernel_rfl)) ((hU 17 (by kernel_rfl)).2 32 rfl) (hK w hM)
    | 19, _ => exact absurd hon (by decide)
    | 20, _ => exact absurd hon (by decide)
    | 21, _ => exact absurd hon (by decide)
    | 22, _ => exact absurd hon (by decide)
    | 23, _ => exact v_orT 33 37 (opAtW ho (by kernel_rfl)) ((hU 18 (by kernel_rfl)).2 33 rfl) (hK w hM)
    | 24, _ => exact v_assignS 38 (opAtW ho (by kernel_rfl)) ((hU 23 (by kernel_rfl)).2 38 rfl) (hK w hM)
    | i + 25, h => exact absurd (show i + 25 < 25 from h) (by omega)
  · intro w hM
    exact hend w (hM)
noncomputable def rgNxB_ops : Array Oper := opsW Tryz.f47 5
def rgNxB_D : List (Option Nat) := [some 15, some 16, some 17, some 18, some 19, some 20, some 21, some 22, some 23, some 24, some 25, some 26, some 27, some 28, some 29, some 30, some 31, some 32, some 33, some 34, some 35, some 36, some 37, some 38, some 14]
set_option maxRecDepth 100000 in
set_option maxHeartbeats 4000000 in
theorem rgNxB {id : Nat} {ops : Array Oper} (hops : ops = rgNxB_ops) (T0 : Array Value) (hsz : 39 ≤ T0.size) (W : World) (R : World → Prop) (HRB : ∀ w1 w', R w1 → Below w1.heap.size w1 w' → R w') (g b : Nat) (T V S : Int) (kd th tx pl v x y : Int) (HE : ∀ w1, R w1 ∨ Below W.heap.size W w1 → w1.heap[b]? = some (.cells #[.int .u8 kd, .int .i64 th, .int .i64 tx, .int .i64 pl, .int .i64 v, .int .i64 x, .int .u8 y] 50 (0, 0))) (HZ : ∀ w1, R w1 ∨ Below W.heap.size W w1 → w1.cell? ⟨g, 0, none⟩ = some (.int .i64 T) ∧ w1.cell? ⟨g, 1, none⟩ = some (.int .i64 V) ∧ w1.cell? ⟨g, 2, none⟩ = some (.int .i64 S)) (HA : Hid (∀ w1, R w1 ∨ Below W.heap.size W w1 → Calls Tryz.prog 86 #[.agg #[.int .u8 kd, .int .i64 th, .int .i64 tx, .int .i64 pl, .int .i64 v, .int .i64 x, .int .u8 y], .int .i64 T, .int .i64 V, .int .i64 S] w1 fun r w' => r = .returned (.bool true) ∧ Below w1.heap.size w1 w')) (HG : Hid (∀ w1, Below W.heap.size W w1 → Calls Tryz.prog 87 #[.pointer (some ⟨g, 0, none⟩), .agg #[.int .u8 kd, .int .i64 th, .int .i64 tx, .int .i64 pl, .int .i64 v, .int .i64 x, .int .u8 y]] w1 fun r w' => r = .returned (.bool false) ∧ R w')) (h0 : T0[0]? = some (.pointer (some ⟨g, 0, none⟩))) (h3 : T0[3]? = some (.pointer (some ⟨b, 0, none⟩))) {Q : Exit → Act → World → Prop}
    (hend : ∀ w : World, R w → Q .normal ⟨putAll T0 [15, 16, 17, 18, 19, 20, 21, 22, 23, 24, 25, 26, 27, 28, 29, 30, 31, 32, 33, 34, 35, 36, 37, 38, 14] [.agg #[.int .u8 kd, .int .i64 th, .int .i64 tx, .int .i64 pl, .int .i64 v, .int .i64 x, .int .u8 y], .pointer (some ⟨g, 0, none⟩), .pointer (some ⟨g, 0, none⟩), .pointer (some ⟨g, 0, none⟩), .pointer (some ⟨g, 0, none⟩), .int .i64 T, .pointer (some ⟨g, 0, none⟩), .pointer (some ⟨g, 0, none⟩), .pointer (some ⟨g, 0, none⟩), .pointer (some ⟨g, 1, none⟩), .int .i64 V, .pointer (some ⟨g, 0, none⟩), .pointer (some ⟨g, 0, none⟩), .pointer (some ⟨g, 0, none⟩), .pointer (some ⟨g, 2, none⟩), .int .i64 S, .bool true, .bool false, .bool false, .pointer (some ⟨g, 0, none⟩), .agg #[.int .u8 kd, .int .i64 th, .int .i64 tx, .int .i64 pl, .int .i64 v, .int .i64 x, .int .u8 y], .bool false, .bool true, .bool true, .bool true], []⟩ w) : (Code.region id ops true).wp Tryz.prog Q ⟨T0, []⟩ W := by
  subst hops
  have hos : rgNxB_ops.size = 25 := by kernel_rfl
  have hga : (List.range 25).all (fun i => match rgNxB_ops[i]? with | some o => o.guard == ([none, none, none, none, none, none, none, none, none, none, none, none, none, none, none, none, none, none, none, some (18, false), some (18, false), some (18, false), some (18, false), none, none] : List (Option (Nat × Bool))).getD i none | none => false) = true := by kernel_rfl
  have hds : ((pairsS rgNxB_D ([.agg #[.int .u8 kd, .int .i64 th, .int .i64 tx, .int .i64 pl, .int .i64 v, .int .i64 x, .int .u8 y], .pointer (some ⟨g, 0, none⟩), .pointer (some ⟨g, 0, none⟩), .pointer (some ⟨g, 0, none⟩), .pointer (some ⟨g, 0, none⟩), .int .i64 T, .pointer (some ⟨g, 0, none⟩), .pointer (some ⟨g, 0, none⟩), .pointer (some ⟨g, 0, none⟩), .pointer (some ⟨g, 1, none⟩), .int .i64 V, .pointer (some ⟨g, 0, none⟩), .pointer (some ⟨g, 0, none⟩), .pointer (some ⟨g, 0, none⟩), .pointer (some ⟨g, 2, none⟩), .int .i64 S, .bool true, .bool false, .bool false, .pointer (some ⟨g, 0, none⟩), .agg #[.int .u8 kd, .int .i64 th, .int .i64 tx, .int .i64 pl, .int .i64 v, .int .i64 x, .int .u8 y], .bool false, .bool true, .bool true, .bool true] : List Value)).map (·.1)) = [15, 16, 17, 18, 19, 20, 21, 22, 23, 24, 25, 26, 27, 28, 29, 30, 31, 32, 33, 34, 35, 36, 37, 38, 14] := rfl
  refine wp_region_valsG ([.agg #[.int .u8 kd, .int .i64 th, .int .i64 tx, .int .i64 pl, .int .i64 v, .int .i64 x, .int .u8 y], .pointer (some ⟨g, 0, none⟩), .pointer (some ⟨g, 0, none⟩), .pointer (some ⟨g, 0, none⟩), .pointer (some ⟨g, 0, none⟩), .int .i64 T, .pointer (some ⟨g, 0, none⟩), .pointer (some ⟨g, 0, none⟩), .pointer (some ⟨g, 0, none⟩), .pointer (some ⟨g, 1, none⟩), .int .i64 V, .pointer (some ⟨g, 0, none⟩), .pointer (some ⟨g, 0, none⟩), .pointer (some ⟨g, 0, none⟩), .pointer (some ⟨g, 2, none⟩), .int .i64 S, .bool true, .bool false, .bool false, .pointer (some ⟨g, 0, none⟩), .agg #[.int .u8 kd, .int .i64 th, .int .i64 tx, .int .i64 pl, .int .i64 v, .int .i64 x, .int .u8 y], .bool false, .bool true, .bool true, .bool true] : List Value) [true, true, true, true, true, true, true, true, true, true, true, true, true, true, true, true, true, true, true, true, true, true, true, true, true] rgNxB_D (fun don w => (don 21 = true → R w) ∧ (don 21 = false → Below W.heap.size W w)) W T0 (by rw [hds]; decide) (fun x hx => ?_) (by kernel_rfl) (by kernel_rfl) (fun i o j want ho hg => ?_) (fun i hi hon => ?_) (fun i hi hon don w hM => ?_) ?_ ?_ ?_
  · rw [hds] at hx
    have hall : (([15, 16, 17, 18, 19, 20, 21, 22, 23, 24, 25, 26, 27, 28, 29, 30, 31, 32, 33, 34, 35, 36, 37, 38, 14] : List Nat).all fun d => decide (d < 39)) = true := by decide
    have := List.all_eq_true.1 hall x hx
    simp only [decide_eq_true_eq] at this
    omega
  · have hi : i < 25 := by rw [← hos]; exact (Array.getElem?_eq_some_iff.1 ho).1
    have h1 := List.all_eq_true.1 hga i (by simpa using hi)
    rw [ho] at h1
    simp only [hg, beq_iff_eq] at h1
    match i, hi with
    | 0, _ => cases h1
    | 1, _ => cases h1
    | 2, _ => cases h1
    | 3, _ => cases h1
    | 4, _ => cases h1
    | 5, _ => cases h1
    | 6, _ => cases h1
    | 7, _ => cases h1
    | 8, _ => cases h1
    | 9, _ => cases h1
    | 10, _ => cases h1
    | 11, _ => cases h1
    | 12, _ => cases h1
    | 13, _ => cases h1
    | 14, _ => cases h1
    | 15, _ => cases h1
    | 16, _ => cases h1
    | 17, _ => cases h1
    | 18, _ => cases h1
    | 19, _ => obtain ⟨rfl, rfl⟩ := Prod.mk.inj (Option.some.inj h1); rfl
    | 20, _ => obtain ⟨rfl, rfl⟩ := Prod.mk.inj (Option.some.inj h1); rfl
    | 21, _ => obtain ⟨rfl, rfl⟩ := Prod.mk.inj (Option.some.inj h1); rfl
    | 22, _ => obtain ⟨rfl, rfl⟩ := Prod.mk.inj (Option.some.inj h1); rfl
    | 23, _ => cases h1
    | 24, _ => cases h1
    | i + 25, h => exact absurd (show i + 25 < 25 from h) (by omega)
  · match i, hi with
    | 0, _ => cases hon
    | 1, _ => cases hon
    | 2, _ => cases hon
    | 3, _ => cases hon
    | 4, _ => cases hon
    | 5, _ => cases hon
    | 6, _ => cases hon
    | 7, _ => cases hon
    | 8, _ => cases hon
    | 9, _ => cases hon
    | 10, _ => cases hon
    | 11, _ => cases hon
    | 12, _ => cases hon
    | 13, _ => cases hon
    | 14, _ => cases hon
    | 15, _ => cases hon
    | 16, _ => cases hon
    | 17, _ => cases hon
    | 18, _ => cases hon
    | 19, _ => cases hon
    | 20, _ => cases hon
    | 21, _ => cases hon
    | 22, _ => cases hon
    | 23, _ => cases hon
    | 24, _ => cases hon
    | i + 25, h => exact absurd (show i + 25 < 25 from h) (by omega)
  · match i, hi with
    | 0, _ => cases hon
    | 1, _ => cases hon
    | 2, _ => cases hon
    | 3, _ => cases hon
    | 4, _ => cases hon
    | 5, _ => cases hon
    | 6, _ => cases hon
    | 7, _ => cases hon
    | 8, _ => cases hon
    | 9, _ => cases hon
    | 10, _ => cases hon
    | 11, _ => cases hon
    | 12, _ => cases hon
    | 13, _ => cases hon
    | 14, _ => cases hon
    | 15, _ => cases hon
    | 16, _ => cases hon
    | 17, _ => cases hon
    | 18, _ => cases hon
    | 19, _ => cases hon
    | 20, _ => cases hon
    | 21, _ => cases hon
    | 22, _ => cases hon
    | 23, _ => cases hon
    | 24, _ => cases hon
    | i + 25, h => exact absurd (show i + 25 < 25 from h) (by omega)
  · exact ⟨fun h => (by cases h), fun _ => (Below.refl _ _).drew⟩
  · intro i oo ho hi hon don a w hT hU hdi hM K hK
    rw [hds] at hT
    have hT0 : ∀ t v, t ∉ ([15, 16, 17, 18, 19, 20, 21, 22, 23, 24, 25, 26, 27, 28, 29, 30, 31, 32, 33, 34, 35, 36, 37, 38, 14] : List Nat) → T0[t]? = some v → a.tmps[t]?.getD undef = v := fun t v ht hv => by rw [hT t ht, hv]; rfl
    match i, hi with
    | 0, _ => exact u_load27 3 (opAtW ho (by kernel_rfl)) (hT0 3 _ (by decide) h3) (⟨HE w (orM hM), rfl⟩) (hK w hM)
    | 1, _ => exact v_moveS 0 (opAtW ho (by kernel_rfl)) (hT0 0 _ (by decide) h0) (hK w hM)
    | 2, _ => exact u_nilS 16 (opAtW ho (by kernel_rfl)) ((hU 1 (by kernel_rfl)).2 16 rfl) (hK w hM)
    | 3, _ => exact u_f66_0 17 (opAtW ho (by kernel_rfl)) ((hU 2 (by kernel_rfl)).2 17 rfl) (hK w hM)
    | 4, _ => exact u_f56_0 18 (opAtW ho (by kernel_rfl)) ((hU 3 (by kernel_rfl)).2 18 rfl) (hK w hM)
    | 5, _ => exact u_loadiS 19 (opAtW ho (by kernel_rfl)) ((hU 4 (by kernel_rfl)).2 19 rfl) ((HZ w (orM hM)).1) (hK w hM)
    | 6, _ => exact v_moveS 0 (opAtW ho (by kernel_rfl)) (hT0 0 _ (by decide) h0) (hK w hM)
    | 7, _ => exact u_nilS 21 (opAtW ho (by kernel_rfl)) ((hU 6 (by kernel_rfl)).2 21 rfl) (hK w hM)
    | 8, _ => exact u_f66_0 22 (opAtW ho (by kernel_rfl)) ((hU 7 (by kernel_rfl)).2 22 rfl) (hK w hM)
    | 9, _ => exact u_f56_1 23 (opAtW ho (by kernel_rfl)) ((hU 8 (by kernel_rfl)).2 23 rfl) (hK w hM)
    | 10, _ => exact u_loadiS 24 (opAtW ho (by kernel_rfl)) ((hU 9 (by kernel_rfl)).2 24 rfl) ((HZ w (orM hM)).2.1) (hK w hM)
    | 11, _ => exact v_moveS 0 (opAtW ho (by kernel_rfl)) (hT0 0 _ (by decide) h0) (hK w hM)
    | 12, _ => exact u_nilS 26 (opAtW ho (by kernel_rfl)) ((hU 11 (by kernel_rfl)).2 26 rfl) (hK w hM)
    | 13, _ => exact u_f66_0 27 (opAtW ho (by kernel_rfl)) ((hU 12 (by kernel_rfl)).2 27 rfl) (hK w hM)
    | 14, _ => exact u_f56_2 28 (opAtW ho (by kernel_rfl)) ((hU 13 (by kernel_rfl)).2 28 rfl) (hK w hM)
    | 15, _ => exact u_loadiS 29 (opAtW ho (by kernel_rfl)) ((hU 14 (by kernel_rfl)).2 29 rfl) ((HZ w (orM hM)).2.2) (hK w hM)
    | 16, _ =>
      have x15 : a.tmps[15]?.getD undef = .agg #[.int .u8 kd, .int .i64 th, .int .i64 tx, .int .i64 pl, .int .i64 v, .int .i64 x, .int .u8 y] := ((hU 0 (by kernel_rfl)).2 15 rfl)
      have x20 : a.tmps[20]?.getD undef = .int .i64 T := ((hU 5 (by kernel_rfl)).2 20 rfl)
      have x25 : a.tmps[25]?.getD undef = .int .i64 V := ((hU 10 (by kernel_rfl)).2 25 rfl)
      have x30 : a.tmps[30]?.getD undef = .int .i64 S := ((hU 15 (by kernel_rfl)).2 30 rfl)
      obtain ⟨dst, op, type, pos, after, guard⟩ := oo
      have ho' : op = .call { callee := .value (.func 86), args := #[.tmp 15, .tmp 20, .tmp 25, .tmp 30], argTypes := #[50, 3, 3, 3] } := opAtW ho (by kernel_rfl)
      subst ho'
      clear ho hT hU hT0
      have hfun := Tryz.func86
      go_simp
      refine (HA.out w (orM hM)).mono ?_
      rintro r w' ⟨rfl, hb⟩
      exact hK w' ⟨fun h => HRB _ _ (hM.1 h) hb, fun h => (hM.2 h).trans (hb.mono (hM.2 h).size)⟩
    | 17, _ => exact u_notTS 31 (opAtW ho (by kernel_rfl)) ((hU 16 (by kernel_rfl)).2 31 rfl) (hK w hM)
    | 18, _ => exact v_moveS 32 (opAtW ho (by kernel_rfl)) ((hU 17 (by kernel_rfl)).2 32 rfl) (hK w hM)
    | 19, _ => exact v_moveS 0 (opAtW ho (by kernel_rfl)) (hT0 0 _ (by decide) h0) (hK w hM)
    | 20, _ => exact u_load27 3 (opAtW ho (by kernel_rfl)) (hT0 3 _ (by decide) h3) (⟨HE w (orM hM), rfl⟩) (hK w hM)
    | 21, _ =>
      have x34 : a.tmps[34]?.getD undef = .pointer (some ⟨g, 0, none⟩) := ((hU 19 (by kernel_rfl)).2 34 rfl)
      have x35 : a.tmps[35]?.getD undef = .agg #[.int .u8 kd, .int .i64 th, .int .i64 tx, .int .i64 pl, .int .i64 v, .int .i64 x, .int .u8 y] := ((hU 20 (by kernel_rfl)).2 35 rfl)
      obtain ⟨dst, op, type, pos, after, guard⟩ := oo
      have ho' : op = .call { callee := .value (.func 87), args := #[.tmp 34, .tmp 35], argTypes := #[84, 50] } := opAtW ho (by kernel_rfl)
      subst ho'
      clear ho hT hU hT0
      have hfun := Tryz.func87
      go_simp
      refine (HG.out w (hM.2 hdi)).mono ?_
      rintro r w' ⟨rfl, hR⟩
      exact hK w' ⟨fun _ => hR, fun h => absurd h (by simp)⟩
    | 22, _ => exact u_notFS 36 (opAtW ho (by kernel_rfl)) ((hU 21 (by kernel_rfl)).2 36 rfl) (hK w hM)
    | 23, _ => exact v_orF 33 37 (opAtW ho (by kernel_rfl)) ((hU 18 (by kernel_rfl)).2 33 rfl) ((hU 22 (by kernel_rfl)).2 37 rfl) (hK w hM)
    | 24, _ => exact v_assignS 38 (opAtW ho (by kernel_rfl)) ((hU 23 (by kernel_rfl)).2 38 rfl) (hK w hM)
    | i + 25, h => exact absurd (show i + 25 < 25 from h) (by omega)
  · intro w hM
    exact hend w (hM.1 (by decide))
noncomputable def rgNxC_ops : Array Oper := opsW Tryz.f47 5
def rgNxC_D : List (Option Nat) := [some 15, some 16, some 17, some 18, some 19, some 20, some 21, some 22, some 23, some 24, some 25, some 26, some 27, some 28, some 29, some 30, some 31, some 32, some 33, some 34, some 35, some 36, some 37, some 38, some 14]
set_option maxRecDepth 100000 in
set_option maxHeartbeats 4000000 in
theorem rgNxC {id : Nat} {ops : Array Oper} (hops : ops = rgNxC_ops) (T0 : Array Value) (hsz : 39 ≤ T0.size) (W : World) (R : World → Prop) (HRB : ∀ w1 w', R w1 → Below w1.heap.size w1 w' → R w') (g b : Nat) (T V S : Int) (kd th tx pl v x y : Int) (HE : ∀ w1, R w1 ∨ Below W.heap.size W w1 → w1.heap[b]? = some (.cells #[.int .u8 kd, .int .i64 th, .int .i64 tx, .int .i64 pl, .int .i64 v, .int .i64 x, .int .u8 y] 50 (0, 0))) (HZ : ∀ w1, R w1 ∨ Below W.heap.size W w1 → w1.cell? ⟨g, 0, none⟩ = some (.int .i64 T) ∧ w1.cell? ⟨g, 1, none⟩ = some (.int .i64 V) ∧ w1.cell? ⟨g, 2, none⟩ = some (.int .i64 S)) (HA : Hid (∀ w1, R w1 ∨ Below W.heap.size W w1 → Calls Tryz.prog 86 #[.agg #[.int .u8 kd, .int .i64 th, .int .i64 tx, .int .i64 pl, .int .i64 v, .int .i64 x, .int .u8 y], .int .i64 T, .int .i64 V, .int .i64 S] w1 fun r w' => r = .returned (.bool true) ∧ Below w1.heap.size w1 w')) (HG : Hid (∀ w1, Below W.heap.size W w1 → Calls Tryz.prog 87 #[.pointer (some ⟨g, 0, none⟩), .agg #[.int .u8 kd, .int .i64 th, .int .i64 tx, .int .i64 pl, .int .i64 v, .int .i64 x, .int .u8 y]] w1 fun r w' => r = .returned (.bool true) ∧ R w')) (h0 : T0[0]? = some (.pointer (some ⟨g, 0, none⟩))) (h3 : T0[3]? = some (.pointer (some ⟨b, 0, none⟩))) {Q : Exit → Act → World → Prop}
    (hend : ∀ w : World, R w → Q .normal ⟨putAll T0 [15, 16, 17, 18, 19, 20, 21, 22, 23, 24, 25, 26, 27, 28, 29, 30, 31, 32, 33, 34, 35, 36, 37, 38, 14] [.agg #[.int .u8 kd, .int .i64 th, .int .i64 tx, .int .i64 pl, .int .i64 v, .int .i64 x, .int .u8 y], .pointer (some ⟨g, 0, none⟩), .pointer (some ⟨g, 0, none⟩), .pointer (some ⟨g, 0, none⟩), .pointer (some ⟨g, 0, none⟩), .int .i64 T, .pointer (some ⟨g, 0, none⟩), .pointer (some ⟨g, 0, none⟩), .pointer (some ⟨g, 0, none⟩), .pointer (some ⟨g, 1, none⟩), .int .i64 V, .pointer (some ⟨g, 0, none⟩), .pointer (some ⟨g, 0, none⟩), .pointer (some ⟨g, 0, none⟩), .pointer (some ⟨g, 2, none⟩), .int .i64 S, .bool true, .bool false, .bool false, .pointer (some ⟨g, 0, none⟩), .agg #[.int .u8 kd, .int .i64 th, .int .i64 tx, .int .i64 pl, .int .i64 v, .int .i64 x, .int .u8 y], .bool true, .bool false, .bool false, .bool false], []⟩ w) : (Code.region id ops true).wp Tryz.prog Q ⟨T0, []⟩ W := by
  subst hops
  have hos : rgNxC_ops.size = 25 := by kernel_rfl
  have hga : (List.range 25).all (fun i => match rgNxC_ops[i]? with | some o => o.guard == ([none, none, none, none, none, none, none, none, none, none, none, none, none, none, none, none, none, none, none, some (18, false), some (18, false), some (18, false), some (18, false), none, none] : List (Option (Nat × Bool))).getD i none | none => false) = true := by kernel_rfl
  have hds : ((pairsS rgNxC_D ([.agg #[.int .u8 kd, .int .i64 th, .int .i64 tx, .int .i64 pl, .int .i64 v, .int .i64 x, .int .u8 y], .pointer (some ⟨g, 0, none⟩), .pointer (some ⟨g, 0, none⟩), .pointer (some ⟨g, 0, none⟩), .pointer (some ⟨g, 0, none⟩), .int .i64 T, .pointer (some ⟨g, 0, none⟩), .pointer (some ⟨g, 0, none⟩), .pointer (some ⟨g, 0, none⟩), .pointer (some ⟨g, 1, none⟩), .int .i64 V, .pointer (some ⟨g, 0, none⟩), .pointer (some ⟨g, 0, none⟩), .pointer (some ⟨g, 0, none⟩), .pointer (some ⟨g, 2, none⟩), .int .i64 S, .bool true, .bool false, .bool false, .pointer (some ⟨g, 0, none⟩), .agg #[.int .u8 kd, .int .i64 th, .int .i64 tx, .int .i64 pl, .int .i64 v, .int .i64 x, .int .u8 y], .bool true, .bool false, .bool false, .bool false] : List Value)).map (·.1)) = [15, 16, 17, 18, 19, 20, 21, 22, 23, 24, 25, 26, 27, 28, 29, 30, 31, 32, 33, 34, 35, 36, 37, 38, 14] := rfl
  refine wp_region_valsG ([.agg #[.int .u8 kd, .int .i64 th, .int .i64 tx, .int .i64 pl, .int .i64 v, .int .i64 x, .int .u8 y], .pointer (some ⟨g, 0, none⟩), .pointer (some ⟨g, 0, none⟩), .pointer (some ⟨g, 0, none⟩), .pointer (some ⟨g, 0, none⟩), .int .i64 T, .pointer (some ⟨g, 0, none⟩), .pointer (some ⟨g, 0, none⟩), .pointer (some ⟨g, 0, none⟩), .pointer (some ⟨g, 1, none⟩), .int .i64 V, .pointer (some ⟨g, 0, none⟩), .pointer (some ⟨g, 0, none⟩), .pointer (some ⟨g, 0, none⟩), .pointer (some ⟨g, 2, none⟩), .int .i64 S, .bool true, .bool false, .bool false, .pointer (some ⟨g, 0, none⟩), .agg #[.int .u8 kd, .int .i64 th, .int .i64 tx, .int .i64 pl, .int .i64 v, .int .i64 x, .int .u8 y], .bool true, .bool false, .bool false, .bool false] : List Value) [true, true, true, true, true, true, true, true, true, true, true, true, true, true, true, true, true, true, true, true, true, true, true, true, true] rgNxC_D (fun don w => (don 21 = true → R w) ∧ (don 21 = false → Below W.heap.size W w)) W T0 (by rw [hds]; decide) (fun x hx => ?_) (by kernel_rfl) (by kernel_rfl) (fun i o j want ho hg => ?_) (fun i hi hon => ?_) (fun i hi hon don w hM => ?_) ?_ ?_ ?_
  · rw [hds] at hx
    have hall : (([15, 16, 17, 18, 19, 20, 21, 22, 23, 24, 25, 26, 27, 28, 29, 30, 31, 32, 33, 34, 35, 36, 37, 38, 14] : List Nat).all fun d => decide (d < 39)) = true := by decide
    have := List.all_eq_true.1 hall x hx
    simp only [decide_eq_true_eq] at this
    omega
  · have hi : i < 25 := by rw [← hos]; exact (Array.getElem?_eq_some_iff.1 ho).1
    have h1 := List.all_eq_true.1 hga i (by simpa using hi)
    rw [ho] at h1
    simp only [hg, beq_iff_eq] at h1
    match i, hi with
    | 0, _ => cases h1
    | 1, _ => cases h1
    | 2, _ => cases h1
    | 3, _ => cases h1
    | 4, _ => cases h1
    | 5, _ => cases h1
    | 6, _ => cases h1
    | 7, _ => cases h1
    | 8, _ => cases h1
    | 9, _ => cases h1
    | 10, _ => cases h1
    | 11, _ => cases h1
    | 12, _ => cases h1
    | 13, _ => cases h1
    | 14, _ => cases h1
    | 15, _ => cases h1
    | 16, _ => cases h1
    | 17, _ => cases h1
    | 18, _ => cases h1
    | 19, _ => obtain ⟨rfl, rfl⟩ := Prod.mk.inj (Option.some.inj h1); rfl
    | 20, _ => obtain ⟨rfl, rfl⟩ := Prod.mk.inj (Option.some.inj h1); rfl
    | 21, _ => obtain ⟨rfl, rfl⟩ := Prod.mk.inj (Option.some.inj h1); rfl
    | 22, _ => obtain ⟨rfl, rfl⟩ := Prod.mk.inj (Option.some.inj h1); rfl
    | 23, _ => cases h1
    | 24, _ => cases h1
    | i + 25, h => exact absurd (show i + 25 < 25 from h) (by omega)
  · match i, hi with
    | 0, _ => cases hon
    | 1, _ => cases hon
    | 2, _ => cases hon
    | 3, _ => cases hon
    | 4, _ => cases hon
    | 5, _ => cases hon
    | 6, _ => cases hon
    | 7, _ => cases hon
    | 8, _ => cases hon
    | 9, _ => cases hon
    | 10, _ => cases hon
    | 11, _ => cases hon
    | 12, _ => cases hon
    | 13, _ => cases hon
    | 14, _ => cases hon
    | 15, _ => cases hon
    | 16, _ => cases hon
    | 17, _ => cases hon
    | 18, _ => cases hon
    | 19, _ => cases hon
    | 20, _ => cases hon
    | 21, _ => cases hon
    | 22, _ => cases hon
    | 23, _ => cases hon
    | 24, _ => cases hon
    | i + 25, h => exact absurd (show i + 25 < 25 from h) (by omega)
  · match i, hi with
    | 0, _ => cases hon
    | 1, _ => cases hon
    | 2, _ => cases hon
    | 3, _ => cases hon
    | 4, _ => cases hon
    | 5, _ => cases hon
    | 6, _ => cases hon
    | 7, _ => cases hon
    | 8, _ => cases hon
    | 9, _ => cases hon
    | 10, _ => cases hon
    | 11, _ => cases hon
    | 12, _ => cases hon
    | 13, _ => cases hon
    | 14, _ => cases hon
    | 15, _ => cases hon
    | 16, _ => cases hon
    | 17, _ => cases hon
    | 18, _ => cases hon
    | 19, _ => cases hon
    | 20, _ => cases hon
    | 21, _ => cases hon
    | 22, _ => cases hon
    | 23, _ => cases hon
    | 24, _ => cases hon
    | i + 25, h => exact absurd (show i + 25 < 25 from h) (by omega)
  · exact ⟨fun h => (by cases h), fun _ => (Below.refl _ _).drew⟩
  · intro i oo ho hi hon don a w hT hU hdi hM K hK
    rw [hds] at hT
    have hT0 : ∀ t v, t ∉ ([15, 16, 17, 18, 19, 20, 21, 22, 23, 24, 25, 26, 27, 28, 29, 30, 31, 32, 33, 34, 35, 36, 37, 38, 14] : List Nat) → T0[t]? = some v → a.tmps[t]?.getD undef = v := fun t v ht hv => by rw [hT t ht, hv]; rfl
    match i, hi with
    | 0, _ => exact u_load27 3 (opAtW ho (by kernel_rfl)) (hT0 3 _ (by decide) h3) (⟨HE w (orM hM), rfl⟩) (hK w hM)
    | 1, _ => exact v_moveS 0 (opAtW ho (by kernel_rfl)) (hT0 0 _ (by decide) h0) (hK w hM)
    | 2, _ => exact u_nilS 16 (opAtW ho (by kernel_rfl)) ((hU 1 (by kernel_rfl)).2 16 rfl) (hK w hM)
    | 3, _ => exact u_f66_0 17 (opAtW ho (by kernel_rfl)) ((hU 2 (by kernel_rfl)).2 17 rfl) (hK w hM)
    | 4, _ => exact u_f56_0 18 (opAtW ho (by kernel_rfl)) ((hU 3 (by kernel_rfl)).2 18 rfl) (hK w hM)
    | 5, _ => exact u_loadiS 19 (opAtW ho (by kernel_rfl)) ((hU 4 (by kernel_rfl)).2 19 rfl) ((HZ w (orM hM)).1) (hK w hM)
    | 6, _ => exact v_moveS 0 (opAtW ho (by kernel_rfl)) (hT0 0 _ (by decide) h0) (hK w hM)
    | 7, _ => exact u_nilS 21 (opAtW ho (by kernel_rfl)) ((hU 6 (by kernel_rfl)).2 21 rfl) (hK w hM)
    | 8, _ => exact u_f66_0 22 (opAtW ho (by kernel_rfl)) ((hU 7 (by kernel_rfl)).2 22 rfl) (hK w hM)
    | 9, _ => exact u_f56_1 23 (opAtW ho (by kernel_rfl)) ((hU 8 (by kernel_rfl)).2 23 rfl) (hK w hM)
    | 10, _ => exact u_loadiS 24 (opAtW ho (by kernel_rfl)) ((hU 9 (by kernel_rfl)).2 24 rfl) ((HZ w (orM hM)).2.1) (hK w hM)
    | 11, _ => exact v_moveS 0 (opAtW ho (by kernel_rfl)) (hT0 0 _ (by decide) h0) (hK w hM)
    | 12, _ => exact u_nilS 26 (opAtW ho (by kernel_rfl)) ((hU 11 (by kernel_rfl)).2 26 rfl) (hK w hM)
    | 13, _ => exact u_f66_0 27 (opAtW ho (by kernel_rfl)) ((hU 12 (by kernel_rfl)).2 27 rfl) (hK w hM)
    | 14, _ => exact u_f56_2 28 (opAtW ho (by kernel_rfl)) ((hU 13 (by kernel_rfl)).2 28 rfl) (hK w hM)
    | 15, _ => exact u_loadiS 29 (opAtW ho (by kernel_rfl)) ((hU 14 (by kernel_rfl)).2 29 rfl) ((HZ w (orM hM)).2.2) (hK w hM)
    | 16, _ =>
      have x15 : a.tmps[15]?.getD undef = .agg #[.int .u8 kd, .int .i64 th, .int .i64 tx, .int .i64 pl, .int .i64 v, .int .i64 x, .int .u8 y] := ((hU 0 (by kernel_rfl)).2 15 rfl)
      have x20 : a.tmps[20]?.getD undef = .int .i64 T := ((hU 5 (by kernel_rfl)).2 20 rfl)
      have x25 : a.tmps[25]?.getD undef = .int .i64 V := ((hU 10 (by kernel_rfl)).2 25 rfl)
      have x30 : a.tmps[30]?.getD undef = .int .i64 S := ((hU 15 (by kernel_rfl)).2 30 rfl)
      obtain ⟨dst, op, type, pos, after, guard⟩ := oo
      have ho' : op = .call { callee := .value (.func 86), args := #[.tmp 15, .tmp 20, .tmp 25, .tmp 30], argTypes := #[50, 3, 3, 3] } := opAtW ho (by kernel_rfl)
      subst ho'
      clear ho hT hU hT0
      have hfun := Tryz.func86
      go_simp
      refine (HA.out w (orM hM)).mono ?_
      rintro r w' ⟨rfl, hb⟩
      exact hK w' ⟨fun h => HRB _ _ (hM.1 h) hb, fun h => (hM.2 h).trans (hb.mono (hM.2 h).size)⟩
    | 17, _ => exact u_notTS 31 (opAtW ho (by kernel_rfl)) ((hU 16 (by kernel_rfl)).2 31 rfl) (hK w hM)
    | 18, _ => exact v_moveS 32 (opAtW ho (by kernel_rfl)) ((hU 17 (by kernel_rfl)).2 32 rfl) (hK w hM)
    | 19, _ => exact v_moveS 0 (opAtW ho (by kernel_rfl)) (hT0 0 _ (by decide) h0) (hK w hM)
    | 20, _ => exact u_load27 3 (opAtW ho (by kernel_rfl)) (hT0 3 _ (by decide) h3) (⟨HE w (orM hM), rfl⟩) (hK w hM)
    | 21, _ =>
      have x34 : a.tmps[34]?.getD undef = .pointer (some ⟨g, 0, none⟩) := ((hU 19 (by kernel_rfl)).2 34 rfl)
      have x35 : a.tmps[35]?.getD undef = .agg #[.int .u8 kd, .int .i64 th, .int .i64 tx, .int .i64 pl, .int .i64 v, .int .i64 x, .int .u8 y] := ((hU 20 (by kernel_rfl)).2 35 rfl)
      obtain ⟨dst, op, type, pos, after, guard⟩ := oo
      have ho' : op = .call { callee := .value (.func 87), args := #[.tmp 34, .tmp 35], argTypes := #[84, 50] } := opAtW ho (by kernel_rfl)
      subst ho'
      clear ho hT hU hT0
      have hfun := Tryz.func87
      go_simp
      refine (HG.out w (hM.2 hdi)).mono ?_
      rintro r w' ⟨rfl, hR⟩
      exact hK w' ⟨fun _ => hR, fun h => absurd h (by simp)⟩
    | 22, _ => exact u_notTS 36 (opAtW ho (by kernel_rfl)) ((hU 21 (by kernel_rfl)).2 36 rfl) (hK w hM)
    | 23, _ => exact v_orF 33 37 (opAtW ho (by kernel_rfl)) ((hU 18 (by kernel_rfl)).2 33 rfl) ((hU 22 (by kernel_rfl)).2 37 rfl) (hK w hM)
    | 24, _ => exact v_assignS 38 (opAtW ho (by kernel_rfl)) ((hU 23 (by kernel_rfl)).2 38 rfl) (hK w hM)
    | i + 25, h => exact absurd (show i + 25 < 25 from h) (by omega)
  · intro w hM
    exact hend w (hM.1 (by decide))
end Go.Proofs.YteigglhhnemngaaGreatDoor
