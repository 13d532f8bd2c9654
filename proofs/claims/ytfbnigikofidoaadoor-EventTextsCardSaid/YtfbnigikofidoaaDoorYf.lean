/-
  CONTRACT OF seesawref12.split: a text's words. Conditions: at most 1000 letters.
-/
import Derived.Test.YtfbnigikofidoaaDoorYd
import Derived.Test.YtfbnigikofidoaaDoorYe
import Derived.Deep.AppendLies
namespace Go.Proofs.YtfbnigikofidoaaDoor
set_option maxRecDepth 100000
open Go.RowKit
set_option linter.unusedVariables false
theorem u_strs : Tryd.prog.underlying 31 = some (.slice 9) := by kernel_rfl
theorem i_str : ∃ i, Tryd.prog.info? 9 = some i ∧ i.zero = some (.string ⟨#[]⟩) ∧ i.size = 1 ∧ i.bytes = 16 := by
  have h : (Tryd.prog.info? 9).map (fun i => (i.zero, i.size, i.bytes)) = some (some (.string ⟨#[]⟩), 1, 16) := by kernel_rfl
  obtain ⟨i, h1, h2⟩ := Option.map_eq_some_iff.1 h
  injection h2 with h2 h3
  injection h3 with h3 h4
  exact ⟨i, h1, h2, h3, h4⟩
/-- One word more. -/
theorem append_str {ops : Array Oper} {rest : List Oper} {o : Oper} {a : Act} {Q : Exit → Act → World → Prop} {w wx : World} {base k : Nat} {sv v : Value} {xs : List Value}
    (own : wx.ownsRow base 9 1 sv k xs) (hb : base ≤ wx.heap.size) (hB : Below base w wx) (hk : k ≤ 100000) (hgd : o.guard = none) (s x : Operand) (ho : o.op = .call { callee := .builtin .append, args := #[s, x], argTypes := #[31, 31] }) (hs : a.eval s = sv) (hx : a.eval x = .slice (some ⟨wx.heap.size, 0, none⟩) 1 1) (hv : v.oneCell' = true)
    (h : ∀ g cap w', w'.ownsRow base 9 1 (.slice (some ⟨g, 0, none⟩) (k + 1) cap) (k + 1) (xs ++ [v]) → Below base w w' → base ≤ g → wpList Tryd.prog ops Q rest (a.put o.dst (.slice (some ⟨g, 0, none⟩) (k + 1) cap)) w') :
    wpList Tryd.prog ops Q (o :: rest) a (wx.alloc (.cells #[v] 9)) := by
  obtain ⟨i0, hi0, hz0, hz1, hz2⟩ := i_str
  refine wpList_append_lies _ hgd s x _ ho base 9 i0 _ 1 16 u_strs hi0 hz0 hz1 hz2 rfl (by omega) sv k xs hs (own.alloc _) ⟨wx.heap.size, 0, none⟩ 1 1 [v] hx rfl (World.news_of_block (cs := #[v]) (t := 9) (fr := (0, 0)) (heap_alloc_new wx _)) (by intro u hu; simp at hu; rw [hu]; exact hv) (by omega) (by unfold maxLen; omega) (by omega) (by simp; omega) (wx.heap.size + 1) (by simp) fun g cap w' a1 a2 a3 a4 => h g cap w' a1 ?_ ?_
  · refine (hB.alloc hb _).grown a2 (by simp; omega) fun q hq => ?_
    exact (own.lt q hq).1
  · rcases a3 with a3 | a3
    · exact (own.lt g a3).1
    · omega
theorem strW_snoc (o : List (List UInt8)) (x : List UInt8) : strW (o ++ [x]) = strW o ++ [.string (bsW x)] := by simp [strW]
theorem own_cells {w : World} {base g k c : Nat} {xs : List Value} (h : w.ownsRow base 9 1 (.slice (some ⟨g, 0, none⟩) k c) k xs) (j : Nat) (u : Value) (hj : xs[j]? = some u) : w.cell? ⟨g, j, none⟩ = some u := by
  have := h.cells (g := g) rfl j u hj
  rwa [show (⟨g, 0, none⟩ : Addr).add j = ⟨g, j, none⟩ by cases j <;> simp [Addr.add]] at this
set_option maxHeartbeats 2000000 in
theorem rsplit_any (s : ByteArray) (hs : s.size ≤ 1000) (w : World) :
    Calls Tryd.prog 20 #[.string s] w fun e w' => ∃ g c, e = .returned (.slice (some ⟨g, 0, none⟩) (splitF s.data.toList).length c) ∧ Below w.heap.size w w' ∧ ((splitF s.data.toList).length ≤ 1001 ∧ w.heap.size ≤ g) ∧ ∀ k x, (splitF s.data.toList)[k]? = some x → w'.cell? ⟨g, k, none⟩ = some (.string (bsW x)) := by
  have hl : s.data.toList.length = s.size := by rw [Array.length_toList]; rfl
  go_enter Tryd.func20, Tryd.ntmps20
  go_wp2_with fail
  go_loopw [3, 4, 5] (fun lv av iv wr => ∃ (i a : Nat) (o : List (List UInt8)), i ≤ s.size ∧ a ≤ i ∧ o.length ≤ i ∧ iv = .int .i64 i ∧ av = .int .i64 a ∧ Hid (SpAt s.data.toList i a o) ∧ Hid (wr.ownsRow w.heap.size 9 1 lv o.length (strW o)) ∧ Hid (Below w.heap.size w wr)) (fun _ _ iv _ => s.size - (intOf iv).toNat)
  case atStart => exact ⟨0, 0, [], by omega, by omega, by simp, rfl, rfl, SpAt.zero _, ⟨rfl, .inl ⟨rfl, rfl⟩⟩, Below.refl _ _⟩
  case round =>
    obtain ⟨i, a, o, hi, ha, hol, rfl, rfl, hsp, hown, hB⟩ := hrel
    by_cases hlt : i < s.size
    · have hc : s.data.toList[i]? = some s[i] := by rw [List.getElem?_eq_getElem (by omega)]; rfl
      have hb0 : (s[i].toNat : Int) < 256 := by have := s[i].toNat_lt; omega
      by_cases h32 : s[i] = 32
      · have e1 : ((s[i].toNat : Int) == 32) = true := by rw [h32]; rfl
        have SPN := Lib.hid (hsp.out.space (by rw [hc, h32]))
        have HV : Hid (s.extract a i = bsW ((s.data.toList.take i).drop a)) := extract_bsW s a i
        clear hc h32
        go_wp2_with (first
          | (refine append_str hown.out hB.out.size hB.out (by omega) rfl (.tmp 16) (.tmp 21) rfl rfl rfl rfl ?_)
          | fail)
        intro g cap w1 own1 b1 hg1
        have B1 := Lib.hid b1
        have O1 : Hid (w1.ownsRow w.heap.size 9 1 (.slice (some ⟨g, 0, none⟩) (o.length + 1) cap) (o ++ [(s.data.toList.take i).drop a]).length (strW (o ++ [(s.data.toList.take i).drop a]))) := by
          rw [HV.out, ← strW_snoc] at own1
          rw [List.length_append]
          exact own1
        clear b1 own1
        go_wp2_with fail
        refine ⟨?_, ?measure⟩
        · exact ⟨i + 1, i + 1, o ++ [(s.data.toList.take i).drop a], by omega, by omega, by simp; omega, by go_num, by go_num, SPN, O1, B1⟩
        case measure => simp [intOf]; omega
      · have e1 : ((s[i].toNat : Int) == 32) = false := by
          have : s[i].toNat ≠ 32 := fun h => h32 (by apply UInt8.toNat_inj.1; rw [h]; rfl)
          simp
          omega
        have SPN := Lib.hid (hsp.out.letter hc h32)
        clear hc h32
        go_wp2_with fail
        refine ⟨?_, ?measure⟩
        · exact ⟨i + 1, a, o, by omega, by omega, by omega, by go_num, rfl, SPN, hown, hB⟩
        case measure => simp [intOf]; omega
    · obtain rfl : i = s.size := by omega
      have SPE : Hid (splitF s.data.toList = o ++ [s.data.toList.drop a]) := by
        have := hsp.out
        rw [← hl] at this
        exact this.over
      have HV : Hid (s.extract a s.size = bsW (s.data.toList.drop a)) := by
        show _ = _
        rw [extract_bsW, show s.data.toList.take s.size = s.data.toList from List.take_of_length_le (by omega)]
      go_wp2_with (first
        | (refine append_str hown.out hB.out.size hB.out (by omega) rfl (.tmp 25) (.tmp 29) rfl rfl rfl rfl ?_)
        | fail)
      intro g cap w1 own1 b1 hg1
      have B1 := Lib.hid b1
      have O1 : Hid (w1.ownsRow w.heap.size 9 1 (.slice (some ⟨g, 0, none⟩) (o.length + 1) cap) (o.length + 1) (strW (splitF s.data.toList))) := by
        rw [HV.out, ← strW_snoc, ← SPE.out] at own1
        exact own1
      have HLE : Hid ((splitF s.data.toList).length = o.length + 1) := by
        show _ = _
        rw [SPE.out]
        simp
      clear b1 own1
      go_wp2_with fail
      go_ret
      refine ⟨g, cap, ?_, B1.out, ⟨by have := HLE.out; omega, hg1⟩, fun k x hx => own_cells O1.out k _ (by rw [strW, List.getElem?_map, hx]; rfl)⟩
      rw [HLE.out]
      rfl
end Go.Proofs.YtfbnigikofidoaaDoor
