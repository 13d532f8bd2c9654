/-
  CONTRACT OF seesawref10's Add (layer 10 by its words), where it inserts. Conditions: as they stand.
-/
import Derived.Test.YtmjaphcofimbeaaGp
namespace Go.Proofs.Ytmjaphcofimbeaa
set_option maxRecDepth 100000
open Go.RowKit Go.Deep
set_option linter.unusedVariables false
/-- What Add leaves, that inserts. -/
def Ins10 (w : World) (g lo : Nat) (V st : Int) (L : List Int) (e : Ending) (w' : World) : Prop := e = .returned (.int .i64 0) ∧ RefAt w' g lo V st L ∧ (∀ b, b ≠ g → b < w.heap.size → w'.heap[b]? = w.heap[b]?) ∧ w.heap.size ≤ w'.heap.size ∧ (∀ (B : Nat) (w0 : World), B ≤ g → Below B w0 w → Below B w0 w')
theorem ins_of {w W : World} {g lo : Nat} {V st : Int} {L : List Int} {k : Nat} {n : Int} {A A' : Option Addr} {c c' : Nat} (hr : w.heap[g]? = some (.cells #[.int .i64 V, .int .i64 st, .slice A L.length c] 36 (0, 0))) (hlo : lo ≤ w.heap.size) (hL : L.length ≤ 1000) (hk : k ≤ L.length) (hb : Below w.heap.size w W)
    (own : W.ownsRow w.heap.size 3 1 (.slice A' (L.take k ++ n :: L.drop k).length c') (L.take k ++ n :: L.drop k).length (vI (L.take k ++ n :: L.drop k))) (e : L.take k ++ n :: L.drop k = insF L n) : Ins10 w g lo V st (insF L n) (.returned (.int .i64 0)) (W.setCell ⟨g, 2, none⟩ (.slice A' (L.take k ++ n :: L.drop k).length c')) := by
  have hgl : g < w.heap.size := (Array.getElem?_eq_some_iff.1 hr).1
  have hlen : (L.take k ++ n :: L.drop k).length ≤ 1001 := by simp; omega
  rw [e] at own hlen ⊢
  obtain ⟨h1, h2, h3⟩ := own_lt10 own
  obtain ⟨A2, c2, hv, hI⟩ := Ints.of_own (L := insF L n) own rfl (by omega)
  injection hv with e1 _ e3
  subst e1 e3
  have hrW : W.heap[g]? = some (.cells #[.int .i64 V, .int .i64 st, .slice A L.length c] 36 (0, 0)) := (hb.block g hgl).trans hr
  have hs : (W.setCell ⟨g, 2, none⟩ (.slice A' (insF L n).length c')).heap[g]? = some (.cells #[.int .i64 V, .int .i64 st, .slice A' (insF L n).length c'] 36 (0, 0)) := heap_set_same _ _ _ _ _ _ hrW
  refine ⟨rfl, ⟨A', c', hs, ?_, fun p ep => ⟨Nat.le_trans hlo (h1 p ep).1, by have := (h1 p ep).1; omega⟩, h2, h3⟩, fun b hbg hbl => ?_, by have := hb.size; simp; omega, fun B w0 hB hb0 => ?_⟩
  · refine ints_block hI (by simp) fun p ep => ?_
    exact heap_set_other _ _ _ _ _ (by have := (h1 p ep).1; omega)
  · rw [heap_set_other _ _ _ _ _ hbg]
    exact hb.block b hbl
  · exact (hb0.trans (hb.mono (by omega))).setCell (p := ⟨g, 2, none⟩) hB _
set_option maxHeartbeats 4000000 in
theorem radd_ins {w : World} {g lo : Nat} {V st : Int} {L : List Int} (h : RefAt w g lo V st L) (n : Int) (hn : 0 ≤ n ∧ n < st) (hm : n ∉ L) (hlo : lo ≤ w.heap.size) (hL : L.length ≤ 1000) : Calls Try.prog 10 #[.pointer (some ⟨g, 0, none⟩), .int .i64 n] w (Ins10 w g lo V st (insF L n)) := by
  have HH := rhas_any h n
  rw [decide_eq_false hm] at HH
  have HH := Lib.hid HH
  have hgl := h.lt
  obtain ⟨A, c, hr, hI, _, hlc, hcm⟩ := h.ex
  have c1 : w.cell? ⟨g, 1, none⟩ = some (.int .i64 st) := by simp [World.cell?, hr]
  have c2 : w.cell? ⟨g, 2, none⟩ = some (.slice A L.length c) := by simp [World.cell?, hr]
  have cf : w.frozen? ⟨g, 2, none⟩ = false := by simp [World.frozen?, hr]
  have h1 : ¬ n < 0 := by omega
  have h2 : ¬ st ≤ n := by omega
  have HI := Lib.hid hI
  have HR := Lib.hid hr
  clear h hr hI hm hn
  go_enter Try.func10, Try.ntmps10
  go_wp2_with fail
  refine HH.out.mono ?_
  rintro e w' ⟨rfl, rfl⟩
  go_wp2_with fail
  clear HH
  go_loopw [5] (fun i wr => ∃ k : Nat, k ≤ L.length ∧ i = .int .i64 k ∧ w = wr ∧ Hid (∀ x ∈ L.take k, x < n)) (fun i _ => L.length - (intOf i).toNat)
  case atStart => exact ⟨0, by omega, by go_num, rfl, by show ∀ x ∈ _, _; simp⟩
  case round =>
    obtain ⟨k, hk, rfl, rfl, hall⟩ := hrel
    by_cases hlt : k < L.length
    · obtain ⟨p, rfl, m, hc⟩ := HI.out.cell k hlt
      have i1 : (0 : Int) ≤ (k : Int) := by omega
      have i2 : (k : Int) < (L.length : Int) := by omega
      have ht : L.take (k + 1) = L.take k ++ [L[k]] := List.take_succ_eq_append_getElem hlt
      have HX : ¬ L[k] < n → insF L n = L.take k ++ n :: L.drop k := fun hx => insF_at L n k hk hall.out (fun _ => hx)
      obtain ⟨x, hx⟩ : ∃ x, x = L[k] := ⟨_, rfl⟩
      rw [← hx] at hc ht HX
      by_cases hxn : x < n
      · have HN : Hid (∀ x ∈ L.take (k + 1), x < n) := by
          show ∀ x ∈ _, _
          rw [ht]
          intro y hy
          rw [List.mem_append, List.mem_singleton] at hy
          rcases hy with hy | rfl
          · exact hall.out y hy
          · exact hxn
        clear ht hx hall m HX
        go_wp2_with fail
        go_roundw
        case rel => exact ⟨k + 1, by omega, by go_num, trivial, HN⟩
        case measure => simp [intOf]; omega
      · have HE := Lib.hid (HX hxn)
        clear ht hx hall HX
        have m := Lib.hid m
        go_upto_region 8 with fail
        refine regIns (by kernel_rfl) _ (by show 60 ≤ 60; decide) w g lo (some p) c L k n hk rfl rfl rfl hgl c2 cf HI.out hlc hcm hL ?_
        intro u0 u1 u2 u3 u4 u5 u6 u7 u8 u9 u10 u11 u12 u13 u14 u15 u16 u17 A' c' W hb own
        have HF := Lib.hid (ins_of HR.out hlo hL hk hb own HE.out.symm)
        clear own hb
        generalize (L.take k ++ n :: L.drop k).length = m9 at HF ⊢
        simp only [putAll, List.setIfInBounds_toArray, List.set_cons_zero, List.set_cons_succ]
        go_wp2_with fail
        go_ret
        exact HF.out
    · obtain rfl : k = L.length := by omega
      have HE := Lib.hid (insF_at L n L.length (Nat.le_refl _) hall.out (fun h => absurd h (by omega)))
      have i2 : ¬ (L.length : Int) < (L.length : Int) := by omega
      clear hall
      go_upto_region 8 with fail
      refine regIns (by kernel_rfl) _ (by show 60 ≤ 60; decide) w g lo A c L L.length n (Nat.le_refl _) rfl rfl rfl hgl c2 cf HI.out hlc hcm hL ?_
      intro u0 u1 u2 u3 u4 u5 u6 u7 u8 u9 u10 u11 u12 u13 u14 u15 u16 u17 A' c' W hb own
      have HF := Lib.hid (ins_of HR.out hlo hL (Nat.le_refl _) hb own HE.out.symm)
      clear own hb
      generalize (L.take L.length ++ n :: L.drop L.length).length = m9 at HF ⊢
      simp only [putAll, List.setIfInBounds_toArray, List.set_cons_zero, List.set_cons_succ]
      go_wp2_with fail
      go_ret
      exact HF.out
end Go.Proofs.Ytmjaphcofimbeaa
