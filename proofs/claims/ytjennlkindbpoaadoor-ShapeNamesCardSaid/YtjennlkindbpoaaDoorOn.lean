/-
  CONTRACT OF seesawref13's put: a number into a list that rises. Conditions: at most 100 numbers.
-/
import Derived.Test.YtjennlkindbpoaaDoorOm
import Derived.Deep.CutBlock
import Derived.Deep.DeepCutAuto
namespace Go.Proofs.YtjennlkindbpoaaDoor
set_option maxRecDepth 100000
open Go.RowKit Go.Deep
set_option linter.unusedVariables false
/-- A list of numbers as it lies, with its room. -/
structure SlO (w : World) (A : Option Addr) (L : List Int) (c : Nat) : Prop where
  ints : IntsO w w.heap.size A L
  le : L.length ≤ c
  cm : c ≤ maxLen
  nil : A = none → c = 0
theorem SlO.at' {w w' : World} {A : Option Addr} {L : List Int} {c : Nat} (h : SlO w A L c) (hb : Below w.heap.size w w') : SlO w' A L c := ⟨h.ints.at' hb, h.le, h.cm, h.nil⟩
theorem SlO.own {w : World} {base k c : Nat} {A : Option Addr} {L : List Int} (h : w.ownsRow base 3 1 (.slice A k c) k (vIO L)) (hk : L.length = k) (hk2 : k ≤ 100000) : SlO w A L c := by
  obtain ⟨h1, h2, h3⟩ := IntsO.own h hk hk2
  refine ⟨h1, by omega, ?_, fun hn => ?_⟩
  · rcases h.2 with ⟨e, _⟩ | ⟨g, cap, cur, e, _, _, _, hm, _⟩
    · injection e with _ _ e3
      subst e3
      exact Nat.zero_le _
    · injection e with _ _ e3
      subst e3
      exact hm
  · subst hn
    rcases h.2 with ⟨e, _⟩ | ⟨g, cap, cur, e, _⟩
    · injection e with _ _ e3
    · injection e with e1
      cases e1
theorem append_listE {ops : Array Oper} {rest : List Oper} {o : Oper} {a : Act} {Q : Exit → Act → World → Prop} {W w : World} {base k ln K : Nat} {sA : Option Addr} {scap : Nat} {M : List Int} {hi c : Nat} {A : Option Addr} {L : List Int}
    (own : w.ownsRow base 3 1 (.slice sA k scap) k (vIO M)) (hb : base ≤ w.heap.size) (hB : Below base W w) (hI : IntsO w hi A L) (hln : L.length = ln) (hK : k + ln = K) (hk : K ≤ 100000) (hgd : o.guard = none) (s x : Operand) (ho : o.op = .call { callee := .builtin .append, args := #[s, x], argTypes := #[87, 87] }) (hs : a.eval s = .slice sA k scap) (hx : a.eval x = .slice A ln c)
    (h : ∀ A' c' w', w'.ownsRow base 3 1 (.slice A' K c') K (vIO (M ++ L)) → Below base W w' → wpList Tryd.prog ops Q rest (a.put o.dst (.slice A' K c')) w') :
    wpList Tryd.prog ops Q (o :: rest) a w := by
  subst hln hK
  exact wpList_append_listO own hb hB hI hk hgd s x ho hs hx fun A' c' w' h1 h2 => h A' c' w' (by rw [show vIO (M ++ L) = vIO M ++ vIO L by simp [vIO]]; exact h1) h2
theorem IntsO.one (w : World) (n : Int) : IntsO (w.alloc (.cells #[.int .i64 n] 3)) (w.heap.size + 1) (some ⟨w.heap.size, 0, none⟩) [n] := ⟨by simp, fun j hj => by
  obtain rfl : j = 0 := by simpa using hj
  exact ⟨⟨w.heap.size, 0, none⟩, rfl, by simp, World.cell?_alloc_mark w #[.int .i64 n] 3 (0, 0) 0⟩⟩
/-- What comes of put. -/
theorem own_far {w : World} {base k c : Nat} {A : Option Addr} {xs : List Value} (h : w.ownsRow base 3 1 (.slice A k c) k xs) : ∀ ad, A = some ad → base ≤ ad.block := fun ad e => by
  subst e
  exact (h.lt _ rfl).1
def PutP (w : World) (A : Option Addr) (M : List Int) (r : Ending) (w' : World) : Prop := ∃ A' c', r = .returned (.slice A' M.length c') ∧ Below w.heap.size w w' ∧ SlO w' A' M c' ∧ (A' = A ∨ ∀ ad, A' = some ad → w.heap.size ≤ ad.block)
set_option maxHeartbeats 4000000 in
theorem rput_any (w : World) (A : Option Addr) (L : List Int) (c : Nat) (n : Int) (hl : L.length ≤ 5000) (he : SlO w A L c) :
    Calls Tryd.prog 49 #[.slice A L.length c, .int .i64 n] w (PutP w A (putL L n)) := by
  have HE := Lib.hid he
  have HS := Lib.hid (fun k hk h1 h2 => putL_split L n k hk h1 h2)
  have hc := he.le
  have hcm := he.cm
  obtain ⟨m, hm⟩ : ∃ m, m = L.length := ⟨_, rfl⟩
  have HM := Lib.hid hm
  obtain ⟨P, hP⟩ : ∃ P, P = putL L n := ⟨_, rfl⟩
  rw [← hP] at HS
  rw [← hm] at HS hc hl
  rw [← hm, ← hP]
  have i1 : (m : Int) ≤ 5000 := by omega
  clear he hm hP
  go_enter Tryd.func49, Tryd.ntmps49
  go_upto_block 0 with fail
  go_cut [5] (fun kv wx => ∃ k : Nat, k ≤ m ∧ kv = .int .i64 k ∧ wx = w ∧ Hid (∀ j x, j < k → L[j]? = some x → x < n) ∧ Hid (∀ x, L[k]? = some x → n ≤ x))
  case first =>
    go_wp2_with fail
    go_loopw [5] (fun kv wr => ∃ k : Nat, k ≤ m ∧ kv = .int .i64 k ∧ wr = w ∧ Hid (∀ j x, j < k → L[j]? = some x → x < n)) (fun kv _ => m - (intOf kv).toNat)
    case atStart => exact ⟨0, by omega, rfl, rfl, fun j x h => absurd h (by omega)⟩
    case round =>
      obtain ⟨k, hk, rfl, rfl, hlt⟩ := hrel
      by_cases hkm : k < m
      · obtain ⟨a, rfl, _, hcell⟩ := HE.out.ints.cell k (by rw [← HM.out]; exact hkm)
        have hget : L[k]? = some L[k] := List.getElem?_eq_getElem (by rw [← HM.out]; exact hkm)
        obtain ⟨x, hx⟩ : ∃ x, x = L[k] := ⟨_, rfl⟩
        rw [← hx] at hcell hget
        have i2 : (k : Int) < (m : Int) := by omega
        have HG := Lib.hid hget
        clear hx hget
        by_cases hxn : x < n
        · go_wp2_with fail
          refine ⟨?_, ?measure⟩
          · refine ⟨k + 1, by omega, by go_num, trivial, fun j y hj hy => ?_⟩
            rcases Nat.lt_or_ge j k with h | h
            · exact hlt.out j y h hy
            · obtain rfl : j = k := by omega
              rw [HG.out] at hy
              cases hy
              exact hxn
          case measure => simp [intOf]; omega
        · have hxn2 : n ≤ x := by omega
          go_wp2_with fail
          go_meet
          exact ⟨k, hk, rfl, rfl, hlt, fun y hy => by rw [HG.out] at hy; cases hy; exact hxn2⟩
      · obtain rfl : k = m := by omega
        go_wp2_with fail
        go_meet
        exact ⟨k, hk, rfl, rfl, hlt, fun y hy => by rw [List.getElem?_eq_none (by rw [← HM.out]; exact Nat.le_refl _)] at hy; cases hy⟩
  case rest =>
    obtain ⟨k, hk, rfl, rfl, h1, h2⟩ := hcut
    have HP := Lib.hid (HS.out k hk h1.out h2.out)
    clear h1 h2 HS
    by_cases hin : L[k]? = some n
    · have HP2 : Hid (P = L) := HP.out.trans (if_pos hin)
      have hkm : k < m := by rw [HM.out]; exact (List.getElem?_eq_some_iff.1 hin).1
      obtain ⟨a, rfl, _, hcell⟩ := HE.out.ints.cell k (by rw [← HM.out]; exact hkm)
      rw [List.getElem?_eq_getElem (by rw [← HM.out]; exact hkm)] at hin
      rw [Option.some.inj hin] at hcell
      have i2 : (k : Int) < (m : Int) := by omega
      clear hin HP
      go_wp2_with fail
      go_ret
      exact ⟨some a, c, by rw [HP2.out, HM.out]; rfl, Below.refl _ _, HP2.out ▸ HE.out, .inl rfl⟩
    · have HP2 : Hid (P = L.take k ++ n :: L.drop k) := HP.out.trans (if_neg hin)
      have HLT : Hid ((L.take k).length = k) := by show _ = _; rw [List.length_take, ← HM.out]; omega
      have HLD : Hid ((L.drop k).length = m - k) := by show _ = _; rw [List.length_drop, ← HM.out]
      have HLP : Hid (P.length = k + 1 + (m - k)) := by show _ = _; rw [HP2.out]; simp; rw [← HM.out]; omega
      have hx : ∀ x, L[k]? = some x → (x == n) = false := fun x hx => by
        rw [hx] at hin
        simpa using hin
      have HX := Lib.hid hx
      have own0 : (wc.alloc (.cells #[] 3)).ownsRow wc.heap.size 3 1 (.slice (some ⟨wc.heap.size, 0, none⟩) 0 0) 0 (vIO []) := own_emptyO wc.heap.size (Nat.le_refl _)
      have O0 := Lib.hid own0
      have B0 : Hid (Below wc.heap.size wc (wc.alloc (.cells #[] 3))) := (Below.refl _ _).alloc (Nat.le_refl _) _
      have I0 : Hid (IntsO (wc.alloc (.cells #[] 3)) wc.heap.size A (L.take k)) := ints_loO (HE.out.ints.belowO B0.out (Nat.le_refl _)) k
      clear own0 hx hin HP
      by_cases hkm : k < m
      · obtain ⟨a, rfl, _, hcell⟩ := HE.out.ints.cell k (by rw [← HM.out]; exact hkm)
        have hxn := HX.out L[k] (List.getElem?_eq_getElem (by rw [← HM.out]; exact hkm))
        obtain ⟨x, hxe⟩ : ∃ x, x = L[k] := ⟨_, rfl⟩
        rw [← hxe] at hcell hxn
        have i2 : (k : Int) < (m : Int) := by omega
        clear hxe
        go_wp2_with (first
          | (refine wpList_plain rfl fun _ hK => i_loO 35 36 (some a) m c k hk hc hcm (fun h => by have := HE.out.nil h; omega) rfl rfl rfl (hK _ _ ?_))
          | (refine append_listE O0.out B0.out.size B0.out I0.out HLT.out (Nat.zero_add k) (by omega) rfl (.tmp 34) (.tmp 37) rfl rfl rfl ?_)
          | fail)
        intro A1 c1 w1 own1 b1
        have O1 : Hid ((w1.alloc (.cells #[.int .i64 n] 3)).ownsRow wc.heap.size 3 1 (.slice A1 k c1) k (vIO (L.take k))) := own1.alloc _
        have hb1 : Below wc.heap.size wc (w1.alloc (.cells #[.int .i64 n] 3)) := b1.alloc b1.size _
        have B1 := Lib.hid hb1
        have I1 := Lib.hid (IntsO.one w1 n)
        clear own1 hb1 O0 B0 I0
        go_wp2_with (first
          | (refine append_listE (ln := 1) (K := k + 1) O1.out B1.out.size B1.out I1.out rfl rfl (by omega) rfl (.tmp 38) (.tmp 40) rfl rfl rfl ?_)
          | fail)
        intro A2 c2 w2 own2 b2
        have O2 := Lib.hid own2
        have B2 := Lib.hid b2
        have I2 : Hid (IntsO w2 wc.heap.size (hiPO (some a) c k) (L.drop k)) := ints_hiO (HE.out.ints.belowO b2 (Nat.le_refl _)) k (by rw [← HM.out]; exact hc)
        clear own2 b2 O1 B1 I1
        go_wp2_with (first
          | (refine wpList_plain rfl fun _ hK => i_hiO 43 44 (some a) m c k hk hc hcm (fun h => by have := HE.out.nil h; omega) rfl rfl rfl (hK _ _ ?_))
          | (refine append_listE (ln := m - k) (K := k + 1 + (m - k)) O2.out B2.out.size B2.out I2.out HLD.out rfl (by omega) rfl (.tmp 42) (.tmp 45) rfl rfl rfl ?_)
          | fail)
        intro A3 c3 w3 own3 b3
        have HO3 : Hid (SlO w3 A3 P c3) := by
          first | rw [← HP2.out] at own3 | rw [show List.take k L ++ [n] ++ List.drop k L = P by rw [HP2.out]; simp] at own3
          exact SlO.own own3 HLP.out (by omega)
        have HF3 := Lib.hid (own_far own3)
        have B3 := Lib.hid b3
        clear own3 b3 O2 B2 I2
        go_wp2_with fail
        go_ret
        exact ⟨A3, c3, by rw [HLP.out]; rfl, B3.out, HO3.out, .inr HF3.out⟩
      · obtain rfl : k = m := by omega
        have HLP0 : Hid (P.length = k + 1) := by show _ = _; rw [HLP.out]; omega
        clear HX hkm HLP
        go_wp2_with (first
          | (refine wpList_plain rfl fun _ hK => i_loO 35 36 A k c k hk hc hcm (fun h => by have := HE.out.nil h; omega) rfl rfl rfl (hK _ _ ?_))
          | (refine append_listE O0.out B0.out.size B0.out I0.out HLT.out (Nat.zero_add k) (by omega) rfl (.tmp 34) (.tmp 37) rfl rfl rfl ?_)
          | fail)
        intro A1 c1 w1 own1 b1
        have O1 : Hid ((w1.alloc (.cells #[.int .i64 n] 3)).ownsRow wc.heap.size 3 1 (.slice A1 k c1) k (vIO (L.take k))) := own1.alloc _
        have hb1 : Below wc.heap.size wc (w1.alloc (.cells #[.int .i64 n] 3)) := b1.alloc b1.size _
        have B1 := Lib.hid hb1
        have I1 := Lib.hid (IntsO.one w1 n)
        clear own1 hb1 O0 B0 I0
        go_wp2_with (first
          | (refine append_listE (ln := 1) (K := k + 1) O1.out B1.out.size B1.out I1.out rfl rfl (by omega) rfl (.tmp 38) (.tmp 40) rfl rfl rfl ?_)
          | fail)
        intro A2 c2 w2 own2 b2
        have O2 := Lib.hid own2
        have B2 := Lib.hid b2
        have I2 : Hid (IntsO w2 wc.heap.size (hiPO A c k) (L.drop k)) := ints_hiO (HE.out.ints.belowO b2 (Nat.le_refl _)) k (by rw [← HM.out]; exact hc)
        clear own2 b2 O1 B1 I1
        go_wp2_with (first
          | (refine wpList_plain rfl fun _ hK => i_hiO 43 44 A k c k hk hc hcm (fun h => by have := HE.out.nil h; omega) rfl rfl rfl (hK _ _ ?_))
          | (refine append_listE (ln := k - k) (K := k + 1 + (k - k)) O2.out B2.out.size B2.out I2.out HLD.out rfl (by omega) rfl (.tmp 42) (.tmp 45) rfl rfl rfl ?_)
          | fail)
        intro A3 c3 w3 own3 b3
        have HO3 : Hid (SlO w3 A3 P c3) := by
          first | rw [← HP2.out] at own3 | rw [show List.take k L ++ [n] ++ List.drop k L = P by rw [HP2.out]; simp] at own3
          exact SlO.own own3 HLP0.out (by omega)
        have HF3 := Lib.hid (own_far own3)
        have B3 := Lib.hid b3
        clear own3 b3 O2 B2 I2
        go_wp2_with fail
        go_ret
        exact ⟨A3, c3, by rw [HLP0.out]; rfl, B3.out, HO3.out, .inr HF3.out⟩
end Go.Proofs.YtjennlkindbpoaaDoor
