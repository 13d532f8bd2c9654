/-
  WORDS FOR SetupAlike: a setup that lies is the same as itself; one number more in a slice that a call owns; lists of unlike lengths are not the same. Conditions: as they stand.
-/
import Derived.Test.YtpgkhodofhnpnaaDoorZd
import Derived.Test.YtpgkhodofhnpnaaDoorZc
namespace Go.Proofs.YtpgkhodofhnpnaaDoor
set_option maxRecDepth 100000
open Go.RowKit
set_option linter.unusedVariables false
theorem sameSL_refl (f : St → St → Bool) : ∀ l : List St, (∀ x ∈ l, f x x = true) → sameSL f l l = true := by
  intro l
  induction l with
  | nil => intro _; rfl
  | cons x r ih => intro h; rw [sameSL, h x (List.mem_cons_self ..), ih fun y hy => h y (List.mem_cons_of_mem _ hy)]; rfl
theorem sameG_refl {α : Type} (f : α → α → Bool) : ∀ l : List α, (∀ x ∈ l, f x x = true) → sameG f l l = true := by
  intro l
  induction l with
  | nil => intro _; rfl
  | cons x r ih => intro h; rw [sameG, h x (List.mem_cons_self ..), ih fun y hy => h y (List.mem_cons_of_mem _ hy)]; rfl
theorem sameS_refl {w : World} {lo hi : Nat} : ∀ (d : Nat) {r : Raw} {s : St}, SAt w lo hi d r s → sameS d s s = true := by
  intro d
  induction d with
  | zero => intro r s h; exact h.elim
  | succ d ih =>
    intro r s h
    obtain ⟨k, t, a, b, y, e⟩ := s
    obtain ⟨h1, h2, ha, hb, hy, he⟩ := h
    rw [sameS, decide_eq_true (rfl : k = k), decide_eq_true (rfl : t = t), sameF_refl d ha, sameF_refl d hb, sameSL_refl _ y fun s hs => ?_, sameSL_refl _ e fun s hs => ?_]
    · rfl
    · obtain ⟨j, hj, rfl⟩ := List.getElem_of_mem hs
      obtain ⟨p, q, _, _, _, _, h⟩ := he j hj
      exact ih h
    · obtain ⟨j, hj, rfl⟩ := List.getElem_of_mem hs
      obtain ⟨p, q, _, _, _, _, h⟩ := hy j hj
      exact ih h
theorem SuAt.same_refl {w : World} {lo hi d : Nat} {I T : Option Addr} {s : Su} (h : SuAt w lo hi d I T s) : sameU d s s = true := by
  unfold sameU
  rw [decide_eq_true (rfl : s.st = s.st), decide_eq_true (rfl : s.cl = s.cl), decide_eq_true (rfl : s.tr = s.tr), decide_eq_true (rfl : s.init = s.init), show sameA d s.thr s.thr = true from sameG_refl _ _ fun l hl => sameG_refl _ _ fun x hx => sameSL_refl _ _ fun st hst => ?_]
  · rfl
  · obtain ⟨k, hk, rfl⟩ := List.getElem_of_mem hl
    obtain ⟨p, B, c, _, _, _, _, _, h1⟩ := h.thr k hk
    obtain ⟨j, hj, rfl⟩ := List.getElem_of_mem hx
    obtain ⟨p, C, c, _, _, _, _, _, h2⟩ := h1 j hj
    obtain ⟨i, hi, rfl⟩ := List.getElem_of_mem hst
    obtain ⟨p, q, _, _, _, _, h3⟩ := h2 i hi
    exact sameS_refl d h3
theorem int64_infoA : (Tryd.prog.info? 2).map (fun i => (i.zero, i.size, i.bytes)) = some (some (.int .i64 0), 1, 8) := by kernel_rfl
/-- One number more, in a plain region. -/
theorem append_i64 {ops : Array Oper} {rest : List Oper} {o : Oper} {a : Act} {Q : Exit → Act → World → Prop} {wx : World} {base k : Nat} {sv : Value} {xs : List Value} {v : Int}
    (own : wx.ownsRow base 2 1 sv k xs) (hb : base ≤ wx.heap.size) (hk : k ≤ 100000) (hgd : o.guard = none) (s x : Operand) (ho : o.op = .call { callee := .builtin .append, args := #[s, x], argTypes := #[26, 26] }) (hs : a.eval s = sv) (hx : a.eval x = .slice (some ⟨wx.heap.size, 0, none⟩) 1 1)
    (h : ∀ g cap w', w'.ownsRow base 2 1 (.slice (some ⟨g, 0, none⟩) (k + 1) cap) (k + 1) (xs ++ [.int .i64 v]) → (wx.alloc (.cells #[.int .i64 v] 2)).grownBy w' sv.ownBlock → (sv.ownBlock = some g ∨ g = wx.heap.size + 1) → g < w'.heap.size → wpList Tryd.prog ops Q rest (a.put o.dst (.slice (some ⟨g, 0, none⟩) (k + 1) cap)) w') :
    wpList Tryd.prog ops Q (o :: rest) a (wx.alloc (.cells #[.int .i64 v] 2)) := by
  obtain ⟨i0, hi0, hz0, hz1, hz2⟩ := info_parts2 int64_infoA
  exact wpList_append_lies _ hgd s x _ ho base 2 i0 _ 1 8 Tryd.underlying26 hi0 hz0 hz1 hz2 rfl (by omega) sv k xs hs (own.alloc _) ⟨wx.heap.size, 0, none⟩ 1 1 [.int .i64 v] hx rfl (World.news_of_block (cs := #[.int .i64 v]) (t := 2) (fr := (0, 0)) (heap_alloc_new wx _)) (by simp [Value.oneCell']) (by omega) (by unfold maxLen; omega) (by omega) (by simp; omega) (wx.heap.size + 1) (by simp) fun g cap w' a1 a2 a3 a4 => h g cap w' a1 a2 a3 a4
end Go.Proofs.YtpgkhodofhnpnaaDoor
