/-
  PLAIN, FOR seesawref12.Parse: what is read of an event's text is that event. No program here.
-/
import Derived.Test.YtfbnigikofidoaaDoorYi
namespace Go.Proofs.YtfbnigikofidoaaDoor
set_option maxRecDepth 100000
set_option linter.unusedVariables false
open Go.Lib
def buildE (kd th a0 a1 : Int) : Ev :=
  if kd = 1 then ⟨kd, th, a0, 0, a1, 0, 0⟩ else
  if kd = 2 then ⟨kd, th, 0, a0, a1, 0, 0⟩ else
  if kd = 3 ∨ kd = 8 then ⟨kd, th, 0, a0, 0, a1, 0⟩ else
  if kd = 4 ∨ kd = 6 ∨ kd = 9 ∨ kd = 11 then ⟨kd, th, 0, a0, 0, 0, 0⟩ else
  if kd = 5 ∨ kd = 7 then ⟨kd, th, 0, 0, a0, 0, 0⟩ else
  if kd = 10 then ⟨kd, th, 0, a1, 0, 0, a0⟩ else ⟨kd, th, 0, 0, 0, 0, 0⟩
theorem nums_words (e : Ev) : wordsF e = decDigits e.th.toNat :: nmL e.kd.toNat :: (numsF e.kd.toNat (numC e)).map itoa := by
  unfold wordsF partW numsF
  rw [List.map_map]
  rfl
theorem words_is {e : Ev} {L : List UInt8} (h : mayB e 6 32 32 = true) (hs : showF e = L) : splitF L = itoa e.th :: nmL e.kd.toNat :: (numsF e.kd.toNat (numC e)).map itoa := by
  obtain ⟨_, ht, _⟩ := (may_iff _ _ _ _).1 h
  have h1 : splitF L = wordsF e := by
    rw [← hs]
    refine split_words (by simp [wordsF]) fun x hx => ?_
    rw [nums_words] at hx
    rcases List.mem_cons.1 hx with rfl | hx
    · exact dig_word (decDigits_digs _)
    · rcases List.mem_cons.1 hx with rfl | hx
      · exact nmL_word _
      · obtain ⟨n, _, rfl⟩ := List.mem_map.1 hx
        exact itoa_word n
  rw [h1, nums_words]
  unfold itoa
  rw [if_neg (by omega)]
theorem may_kd {e : Ev} (h : mayB e 6 32 32 = true) : 1 ≤ e.kd ∧ e.kd ≤ 13 := by
  obtain ⟨_, _, hm⟩ := (may_iff _ _ _ _).1 h
  unfold MayK at hm
  omega
theorem nums_i64 {e : Ev} (h : mayB e 6 32 32 = true) : ∀ n ∈ numsF e.kd.toNat (numC e), i64R n := by
  intro n hn
  obtain ⟨p, _, rfl⟩ := List.mem_map.1 hn
  exact may_i64 h p.wh
theorem nums_len (k : Nat) (c : Nat → Int) : (numsF k c).length ≤ 2 := by
  unfold numsF
  rw [List.length_map]
  unfold partsK
  split <;> simp
/-- What was read up to now, if the text is an event's. -/
structure RdOk (L : List UInt8) (n : Nat) (th a0 a1 : Int) (ok : Bool) : Prop where
  all : ∀ e, mayB e 6 32 32 = true → showF e = L → ok = true ∧ th = e.th ∧ (∀ y, 0 < n → (numsF e.kd.toNat (numC e))[0]? = some y → a0 = y) ∧ (∀ y, 1 < n → (numsF e.kd.toNat (numC e))[1]? = some y → a1 = y)
theorem RdOk.start {L : List UInt8} {w : List UInt8} {th : Int} {ok : Bool} (hw : (splitF L)[0]? = some w) (h : NumOk w th ok) : RdOk L 0 th 0 0 ok := ⟨fun e he hs => by
  rw [words_is he hs] at hw
  obtain ⟨_, ht, _⟩ := (may_iff _ _ _ _).1 he
  obtain ⟨h1, h2⟩ := h.all e.th (by unfold i64R; omega) (by simpa using hw)
  exact ⟨h2, h1, fun y h => absurd h (by omega), fun y h => absurd h (by omega)⟩⟩
theorem RdOk.next0 {L : List UInt8} {w : List UInt8} {th a0 a1 x : Int} {ok b : Bool} (r : RdOk L 0 th a0 a1 ok) (hw : (splitF L)[2]? = some w) (h : NumOk w x b) : RdOk L 1 th x a1 (ok && b) := ⟨fun e he hs => by
  obtain ⟨r1, r2, r3, r4⟩ := r.all e he hs
  rw [words_is he hs] at hw
  simp only [List.getElem?_cons_succ, List.getElem?_map, Option.map_eq_some_iff] at hw
  obtain ⟨n, hn, hi⟩ := hw
  obtain ⟨h1, h2⟩ := h.all n (nums_i64 he n (List.mem_of_getElem? hn)) hi
  exact ⟨by rw [r1, h2]; rfl, r2, fun y _ hy => by rw [hn] at hy; rw [h1]; exact Option.some.inj hy, fun y h => absurd h (by omega)⟩⟩
theorem RdOk.next1 {L : List UInt8} {w : List UInt8} {th a0 a1 x : Int} {ok b : Bool} (r : RdOk L 1 th a0 a1 ok) (hw : (splitF L)[3]? = some w) (h : NumOk w x b) : RdOk L 2 th a0 x (ok && b) := ⟨fun e he hs => by
  obtain ⟨r1, r2, r3, r4⟩ := r.all e he hs
  rw [words_is he hs] at hw
  simp only [List.getElem?_cons_succ, List.getElem?_map, Option.map_eq_some_iff] at hw
  obtain ⟨n, hn, hi⟩ := hw
  obtain ⟨h1, h2⟩ := h.all n (nums_i64 he n (List.mem_of_getElem? hn)) hi
  exact ⟨by rw [r1, h2]; rfl, r2, fun y _ hy => r3 y (by omega) hy, fun y _ hy => by rw [hn] at hy; rw [h1]; exact Option.some.inj hy⟩⟩
/-- Nothing is read of a text that is no event's. -/
theorem parse_none {L : List UInt8} (h : ∀ e, mayB e 6 32 32 = true → showF e ≠ L) : parseF L = (ev0, 4) := by
  rcases parse_cases L with ⟨e, h1, h2, _⟩ | ⟨_, h2⟩
  · exact absurd h2 (h e h1)
  · exact h2
theorem parse_few {L : List UInt8} (h : (splitF L).length < 2) : parseF L = (ev0, 4) := parse_none fun e he hs => by
  rw [words_is he hs] at h
  simp at h
  omega
theorem parse_name {L w : List UInt8} (hw : (splitF L)[1]? = some w) (h : kindF w = 0) : parseF L = (ev0, 4) := parse_none fun e he hs => by
  rw [words_is he hs] at hw
  have hk := may_kd he
  have h1 : nmL e.kd.toNat = w := by simpa using hw
  rw [← h1, kindF_nm (by omega) (by omega)] at h
  omega
theorem parse_num {L : List UInt8} {n : Nat} {th a0 a1 : Int} {ok : Bool} (r : RdOk L n th a0 a1 ok) (h : ok = false ∨ th < 0 ∨ 5 < th) : parseF L = (ev0, 4) := parse_none fun e he hs => by
  obtain ⟨r1, r2, _⟩ := r.all e he hs
  obtain ⟨_, ht, _⟩ := (may_iff _ _ _ _).1 he
  rcases h with h | h
  · rw [r1] at h; cases h
  · omega
theorem build_is {L w : List UInt8} {n : Nat} {th a0 a1 : Int} {ok : Bool} (r : RdOk L n th a0 a1 ok) (hw : (splitF L)[1]? = some w) (hn : (splitF L).length ≤ n + 2 ∨ 2 ≤ n) {e : Ev} (he : mayB e 6 32 32 = true) (hs : showF e = L) : buildE (kindF w) th a0 a1 = e ∧ (kindF w = 10 → 1 ≤ a0 ∧ a0 ≤ 6) := by
  obtain ⟨r1, r2, r3, r4⟩ := r.all e he hs
  rw [words_is he hs] at hw hn
  have hk := may_kd he
  have h1 : nmL e.kd.toNat = w := by simpa using hw
  have hl := nums_len e.kd.toNat (numC e)
  have hn2 : (numsF e.kd.toNat (numC e)).length ≤ n := by
    simp only [List.length_cons, List.length_map] at hn
    omega
  have r3' : ∀ y, (numsF e.kd.toNat (numC e))[0]? = some y → a0 = y := fun y hy => r3 y (by have := (List.getElem?_eq_some_iff.1 hy).1; omega) hy
  have r4' : ∀ y, (numsF e.kd.toNat (numC e))[1]? = some y → a1 = y := fun y hy => r4 y (by have := (List.getElem?_eq_some_iff.1 hy).1; omega) hy
  rw [← h1, kindF_nm (by omega) (by omega), r2]
  obtain ⟨_, ht, hm⟩ := (may_iff _ _ _ _).1 he
  clear r r1 r2 r3 r4 hw hn h1 hl hn2 he hs
  obtain ⟨kd, th', tx, pl, v, x, why⟩ := e
  simp only at hk hm r3' r4' ⊢
  obtain ⟨k, rfl⟩ : ∃ k : Nat, kd = k := ⟨kd.toNat, by omega⟩
  unfold MayK at hm
  simp only at hm
  have : k = 1 ∨ k = 2 ∨ k = 3 ∨ k = 4 ∨ k = 5 ∨ k = 6 ∨ k = 7 ∨ k = 8 ∨ k = 9 ∨ k = 10 ∨ k = 11 ∨ k = 12 ∨ k = 13 := by omega
  rcases this with rfl | rfl | rfl | rfl | rfl | rfl | rfl | rfl | rfl | rfl | rfl | rfl | rfl <;>
    simp [numsF, partsK, numC] at r3' r4' <;> simp [buildE] <;> omega
theorem parse_end {L w : List UInt8} {n : Nat} {th a0 a1 : Int} {ok : Bool} (r : RdOk L n th a0 a1 ok) (hw : (splitF L)[1]? = some w) (hn : (splitF L).length ≤ n + 2 ∨ 2 ≤ n) :
    (mayB (buildE (kindF w) th a0 a1) 6 32 32 = true ∧ showF (buildE (kindF w) th a0 a1) = L ∧ parseF L = (buildE (kindF w) th a0 a1, 0)) ∨ (¬ (mayB (buildE (kindF w) th a0 a1) 6 32 32 = true ∧ showF (buildE (kindF w) th a0 a1) = L) ∧ parseF L = (ev0, 4)) := by
  by_cases h : mayB (buildE (kindF w) th a0 a1) 6 32 32 = true ∧ showF (buildE (kindF w) th a0 a1) = L
  · refine .inl ⟨h.1, h.2, ?_⟩
    conv => lhs; rw [← h.2]
    exact parse_show h.1
  · refine .inr ⟨h, parse_none fun e he hs => h ?_⟩
    have := (build_is r hw hn he hs).1
    rw [this]
    exact ⟨he, hs⟩
theorem parse_why {L w : List UInt8} {n : Nat} {th a0 a1 : Int} {ok : Bool} (r : RdOk L n th a0 a1 ok) (hw : (splitF L)[1]? = some w) (hn : (splitF L).length ≤ n + 2 ∨ 2 ≤ n) (hk : kindF w = 10) (h : a0 < 0 ∨ 9 < a0) : parseF L = (ev0, 4) := parse_none fun e he hs => by
  have := (build_is r hw hn he hs).2 hk
  omega
theorem build_ok (kd : Nat) (th a0 a1 : Int) (hk : kd ≤ 13) (h0 : 0 ≤ th) (h5 : th ≤ 5) (h1 : i64R a0) (h2 : i64R a1) (h3 : kd = 10 → 0 ≤ a0 ∧ a0 ≤ 9) : EvOk (buildE kd th a0 a1) := by
  unfold i64R at h1 h2
  have : kd = 0 ∨ kd = 1 ∨ kd = 2 ∨ kd = 3 ∨ kd = 4 ∨ kd = 5 ∨ kd = 6 ∨ kd = 7 ∨ kd = 8 ∨ kd = 9 ∨ kd = 10 ∨ kd = 11 ∨ kd = 12 ∨ kd = 13 := by omega
  rcases this with rfl | rfl | rfl | rfl | rfl | rfl | rfl | rfl | rfl | rfl | rfl | rfl | rfl | rfl <;> simp [buildE] <;> constructor <;> simp only <;> omega
end Go.Proofs.YtfbnigikofidoaaDoor
