/-
  CONTRACTS OF slices.Backward's iterator at levels, and of package buffer's levels: all levels, the highest one first; or a beginning of them, if a round says no more. A round must keep what lay below n₀, and all blocks of cells from m on. Conditions: as they stand.
-/
import Derived.Test.YtmjcipojidimgaaLf
namespace Go.Proofs.Ytmjcipojidimgaa
set_option maxRecDepth 100000
open Go.RowKit Go.Shelf
set_option linter.unusedVariables false
attribute [local go_sem] Oper.semAt_some
/-- The levels L lie at A, in a block below hi. -/
def Lies8 {α : Type} (pt : α → Option Nat) (w : World) (hi : Nat) (A : Option Addr) (L : List α) : Prop := ∀ j (h : j < L.length), ∃ p, A = some p ∧ p.block < hi ∧ w.cell? (p.add j) = some (.map (pt L[j]))
theorem ad8_block (a : Addr) (n : Nat) : (a.add n).block = a.block := by unfold Addr.add; split <;> rfl
theorem Lies8.below {α : Type} {pt : α → Option Nat} {w w' : World} {hi B : Nat} {A : Option Addr} {L : List α} (h : Lies8 pt w hi A L) (hb : Below B w w') (hB : hi ≤ B) : Lies8 pt w' hi A L := fun j hj => by
  obtain ⟨p, rfl, m, c⟩ := h j hj
  exact ⟨p, rfl, m, (hb.cell (by rw [ad8_block]; omega)).trans c⟩
def encB {α : Type} (pt : α → Option Nat) (x : Nat × α) : Array Value := #[.int .i64 x.1, .map (pt x.2)]
def encP {α : Type} (pt : α → Option Nat) (x : α) : Array Value := #[.map (pt x)]
set_option maxRecDepth 100000 in
set_option maxHeartbeats 4000000 in
theorem back1_in {α : Type} (pt : α → Option Nat) (F : Fence) (n : Nat) (h44 : F.fn 44) (hro : F.round = none) (hn : 1 ≤ n) (l Bs n₀ m c : Nat) (A : Option Addr) (L : List α) (J Jx : List (Nat × α) → World → Prop) (B : Nat)
    (hY : ∀ pre x W, J pre W → pre.length < L.length → YieldAt F (n - 1) Try.prog l (encB pt x) W fun e W' => (e = .returned (.bool true) ∧ J (pre ++ [x]) W' ∧ Kc n₀ m W W' ∧ KeepsFrom B W W') ∨ (e = .returned (.bool false) ∧ Jx (pre ++ [x]) W' ∧ KeepsFrom B W W'))
    (W : World) (hBs : _root_.Go.Boxed W Bs 53 (.slice A L.length c)) (hm : m ≤ Bs) (hL : Lies8 pt W n₀ A L) (hl : L.length ≤ 1000000) (h0 : J [] W) :
    CallsIn F n Try.prog 44 #[.func (.yield l) #[] #[], .pointer (some ⟨Bs, 0, none⟩)] W fun e W' => (∃ v, e = .returned v) ∧
      ((∃ ys, ys.map Prod.snd = L.reverse ∧ J ys W') ∨ (∃ pre, pre.map Prod.snd <+: L.reverse ∧ Jx pre W')) := by
  have HY := Lib.hid hY
  have HL := Lib.hid hL
  have HB := Lib.hid hBs
  have cB := hBs.cell
  have hl1 : (L.length : Int) - 1 < 9223372036854775808 := by omega
  have H0 : Hid (J [] W) := h0
  have HS : Hid (([] : List (Nat × α)).map Prod.snd = (L.drop L.length).reverse) := by show _ = _; simp
  clear hY hL hBs h0
  refine callsIn_of_wp Try.func44 rfl h44 ?_ hro
  simp only [Try.ntmps44, List.size_toArray, List.length_cons, List.length_nil, Nat.reduceAdd, Nat.reduceSub, Array.replicate_succ, Array.replicate_zero, List.push_toArray, List.append_toArray, List.nil_append, List.cons_append]
  gi_wp2
  gi_loopw [3] (fun i wr => ∃ (k : Nat) (ys : List (Nat × α)), k ≤ L.length ∧ i = .int .i64 ((k : Int) - 1) ∧ Hid (ys.map Prod.snd = (L.drop k).reverse) ∧ Hid (J ys wr) ∧ Hid (Kc n₀ m W wr)) (fun i _ => (intOf i + 1).toNat)
  case atStart => exact ⟨L.length, [], Nat.le_refl _, by go_num, HS, H0, Kc.refl _ _ _⟩
  case round =>
    obtain ⟨k, ys, hk, rfl, hys, hJ1, hkc⟩ := hrel
    cases k with
    | zero =>
      have i1 : ¬ ((0 : Int) ≤ ((0 : Nat) : Int) - 1) := by omega
      gi_wp2
      go_end0
      exact ⟨⟨_, rfl⟩, .inl ⟨ys, by simpa using hys.out, hJ1.out⟩⟩
    | succ k =>
      obtain ⟨p, rfl, mb, cp⟩ := HL.out k hk
      have cp1 : wr.cell? (p.add k) = some (.map (pt L[k])) := (hkc.out.low.cell (by rw [ad8_block]; exact mb)).trans cp
      have cB1 : wr.cell? ⟨Bs, 0, none⟩ = some (.slice (some p) L.length c) := (show _root_.Go.Boxed wr Bs 53 _ from hkc.out.high Bs _ _ _ hm HB.out).cell
      have e1 : (((k + 1 : Nat) : Int) - 1) = (k : Int) := by omega
      rw [e1]
      have hlen := congrArg List.length hys.out
      simp only [List.length_map, List.length_reverse, List.length_drop] at hlen
      have hdrop : L.drop k = L[k] :: L.drop (k + 1) := List.drop_eq_getElem_cons hk
      have hsn : (ys ++ [(k, L[k])]).map Prod.snd = (L.drop k).reverse := by rw [List.map_append, hys.out, hdrop, List.reverse_cons]; rfl
      obtain ⟨fn, tmps, assign, body, hy, hR⟩ := HY.out ys (k, L[k]) wr hJ1.out (by omega)
      dsimp only [encB] at hy
      have HS2 := Lib.hid hsn
      have i2 : (0 : Int) ≤ (k : Int) := by omega
      have i3 : (k : Int) < (L.length : Int) := by omega
      have i4 : (k : Int) ≤ 1000000 := by omega
      obtain ⟨q, hq⟩ : ∃ q, q = L[k] := ⟨_, rfl⟩
      rw [← hq] at cp1 hy hR HS2
      have HL3 : Hid ((L.drop k).reverse <+: L.reverse) := by
        show _ <+: _
        rw [List.reverse_prefix]
        exact List.drop_suffix k L
      clear cp mb e1 hlen hdrop hsn hq hys hJ1
      gi_wp2
      refine hR.mono ?_
      rintro e W3 (⟨rfl, hJ3, hk3, _⟩ | ⟨rfl, hJx3, _⟩)
      · have HJ3 := Lib.hid hJ3
        have HK3 := Lib.hid (hkc.out.trans hk3)
        clear hJ3 hk3 hkc cp1 cB1
        gi_wp2
        go_roundw
        case rel => exact ⟨k, _, by omega, by go_num, HS2, HJ3, HK3⟩
        case measure => first | (simp [intOf]; done) | (simp [intOf]; omega)
      · have HJ3 := Lib.hid hJx3
        clear hJx3
        gi_wp2
        refine bodyPost_ret (results_none rfl _ _ _) rfl ?_
        exact ⟨⟨_, rfl⟩, .inr ⟨_, by rw [HS2.out]; exact HL3.out, HJ3.out⟩⟩
set_option maxHeartbeats 1000000 in
theorem backward_in (F : Fence) (n : Nat) (h : F.fn 40) (hro : F.round = none) (A : Option Addr) (k c : Nat) (w : World) :
    CallsIn F n Try.prog 40 #[.slice A k c] w fun e w' => e = .returned (.func (.func 44) #[] #[.pointer (some ⟨w.heap.size, 0, none⟩)]) ∧ w' = w.alloc (.cells #[.slice A k c] 53) := by
  refine callsIn_of_wp Try.func40 rfl h ?_ hro
  simp only [Try.ntmps40, List.size_toArray, List.length_cons, List.length_nil, Nat.reduceAdd, Nat.reduceSub, Array.replicate_succ, Array.replicate_zero, List.push_toArray, List.append_toArray, List.nil_append, List.cons_append]
  gi_wp2
  go_ret
  exact ⟨rfl, rfl⟩
theorem back_seq {α : Type} (pt : α → Option Nat) (F : Fence) (n : Nat) (h44 : F.fn 44) (hro : F.round = none) (hn : 1 ≤ n) (Bs n₀ m c : Nat) (A : Option Addr) (L : List α) (w : World) (hBs : _root_.Go.Boxed w Bs 53 (.slice A L.length c)) (hm : m ≤ Bs) (hn₀ : n₀ ≤ w.heap.size) (hL : Lies8 pt w n₀ A L) (hl : L.length ≤ 1000000) :
    SeqO F n Try.prog 44 #[.pointer (some ⟨Bs, 0, none⟩)] (encB pt) (Kc n₀ m) (fun ys => ys.map Prod.snd = L.reverse) (fun ys => ys.map Prod.snd <+: L.reverse) L.length w := fun l J Jx W hW _ _ hY h0 =>
  back1_in pt F n h44 hro hn l Bs n₀ m c A L J Jx W.heap.size hY W ((hW.block _ hBs.lt).trans hBs) hm (hL.below (hW.mono hn₀) (Nat.le_refl _)) hl h0
set_option maxHeartbeats 1000000 in
theorem levels_in (F : Fence) (n : Nat) (h : F.fn 33) (hro : F.round = none) (q : Option Addr) (w : World) :
    CallsIn F n Try.prog 33 #[.pointer q] w fun e w' => e = .returned (.func (.func 39) #[] #[.pointer (some ⟨w.heap.size, 0, none⟩)]) ∧ w' = w.alloc (.cells #[.pointer q] 24) := by
  refine callsIn_of_wp Try.func33 rfl h ?_ hro
  simp only [Try.ntmps33, List.size_toArray, List.length_cons, List.length_nil, Nat.reduceAdd, Nat.reduceSub, Array.replicate_succ, Array.replicate_zero, List.push_toArray, List.append_toArray, List.nil_append, List.cons_append]
  gi_wp2
  go_ret
  exact ⟨rfl, rfl⟩
end Go.Proofs.Ytmjcipojidimgaa
