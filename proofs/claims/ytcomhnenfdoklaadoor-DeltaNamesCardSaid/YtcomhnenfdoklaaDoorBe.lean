/-
  CONTRACTS OF End's PARTS (layer 2): the closure that asks whether there are bytes still, and the one reading function at the empty structure. Conditions: texts of at most 2^24 bytes.
-/
import Derived.Test.YtcomhnenfdoklaaDoorBr
namespace Go.Proofs.YtcomhnenfdoklaaDoor
set_option maxRecDepth 100000
open Go.RowKit
set_option linter.unusedVariables false
theorem cloE_more (s : ByteArray) (hs : s.size ≤ 16777216) (h0 : 0 < s.size) (w : World) :
    Calls Tryd.prog 47 #[.string s] w fun e w' => e = .returned (.tuple #[.agg #[], .int .i64 0, .int .i64 10]) ∧ Below w.heap.size w w' := by
  have h1 : s.toList.isEmpty = false := by
    rw [ByteArray.toList_eq]
    rcases hl : s.data.toList with _ | ⟨b, l⟩
    · have : s.data.toList.length = s.size := by rw [Array.length_toList]; rfl
      rw [hl] at this
      simp at this; omega
    · rfl
  have h2 : (!s.toList.isEmpty) = true := by rw [h1]; rfl
  go_enter Tryd.func47, Tryd.ntmps47
  go_wp2_with fail
  exact bodyPost_ret (v := .tuple #[.agg #[], .int .i64 0, .int .i64 10]) (by simp [results, Tryd.results47, go_sem]) rfl ⟨rfl, by go_grown⟩
theorem cloE_end (w : World) :
    Calls Tryd.prog 47 #[.string ⟨#[]⟩] w fun e w' => e = .returned (.tuple #[.agg #[], .int .i64 0, .int .i64 0]) ∧ Below w.heap.size w w' := by
  go_enter Tryd.func47, Tryd.ntmps47
  go_wp2_with fail
  exact bodyPost_ret (v := .tuple #[.agg #[], .int .i64 0, .int .i64 0]) (by simp [results, Tryd.results47, go_sem]) rfl ⟨rfl, by go_grown⟩

set_option maxRecDepth 100000 in
theorem readE_wrong (g : Nat) (s : ByteArray) (at_ : Nat) (wr : Int) (hw : wr ≠ 0) (f : Value) (w : World) (h : Rd w g s at_ wr) :
    Calls Tryd.prog 46 #[.pointer (some ⟨g, 0, none⟩), f] w fun e w' => e = .returned (.tuple #[.agg #[], .int .i64 wr]) ∧ Below w.heap.size w w' := by
  have hb : (wr != 0) = true := by simpa using hw
  have hb2 : Below w.heap.size w ((w.alloc (.cells #[] 102)).alloc (.cells #[] 102)) := ((Below.refl _ _).alloc (Nat.le_refl _) _).alloc (by simp) _
  have h2 : Rd ((w.alloc (.cells #[] 102)).alloc (.cells #[] 102)) g s at_ wr := ⟨h.1.below hb2 h.1.lt, h.2⟩
  have Hw := Lib.hid (wrong_yes g s at_ wr hw _ h2)
  have Hb2 := Lib.hid hb2
  clear h h2 hb2
  go_enter Tryd.func46, Tryd.ntmps46
  go_wp2_with fail
  refine Hw.out.mono ?_
  rintro e w' ⟨rfl, n, rfl⟩
  go_wp2_with fail
  exact bodyPost_ret (v := .tuple #[.agg #[], .int .i64 wr]) (by simp [results, Tryd.results46, go_sem]) rfl ⟨rfl, Hb2.out.trans ⟨rfl, rfl, rfl, by simp, fun _ _ => rfl⟩⟩
theorem sr_of {w X : World} {g : Nat} {s : ByteArray} {at_ : Nat} (h0 : w.cell? ⟨g, 0, none⟩ = some (.string s)) (h1 : w.cell? ⟨g, 1, none⟩ = some (.int .i64 at_)) (hg : g < w.heap.size) (hb : Below w.heap.size w X) : SR w g s at_ X :=
  ⟨(hb.cell (p := ⟨g, 0, none⟩) hg).trans h0, (hb.cell (p := ⟨g, 1, none⟩) hg).trans h1, hb⟩
theorem bl2 (W : World) (o : Go.Obj) : Below W.heap.size W (W.alloc o).drew := ((Below.refl _ _).alloc (Nat.le_refl _) o).drew
theorem bl3 {W w3 : World} (b3 : Below W.drew.heap.size W.drew w3) : Below W.heap.size W w3 := (bl1 W).trans b3
theorem bl4 {W w3 : World} (b3 : Below W.drew.heap.size W.drew w3) (o : Go.Obj) : Below W.heap.size W (w3.alloc o) := (bl3 b3).alloc b3.size o
theorem bl5 {W w3 : World} {o : Go.Obj} (b3 : Below (W.alloc o).drew.heap.size (W.alloc o).drew w3) : Below W.heap.size W w3 := (bl2 W o).trans (b3.mono (by simp))
set_option maxRecDepth 100000 in
theorem readE_ok (g : Nat) (s : ByteArray) (at_ : Nat) (w : World) (h : Rd w g s at_ 0)
    (ht : ∀ W, Calls Tryd.prog 47 #[.string (s.extract at_ s.size)] W fun e w' => e = .returned (.tuple #[.agg #[], .int .i64 0, .int .i64 0]) ∧ Below W.heap.size W w') :
    Calls Tryd.prog 46 #[.pointer (some ⟨g, 0, none⟩), .func (.func 47) #[] #[]] w fun e w' => e = .returned (.tuple #[.agg #[], .int .i64 0]) ∧ Rd w' g s at_ 0 ∧ Kp g none w w' := by
  have hb2 : Below w.heap.size w ((w.alloc (.cells #[] 102)).alloc (.cells #[] 102)) := ((Below.refl _ _).alloc (Nat.le_refl _) _).alloc (by simp) _
  have h2 : Rd ((w.alloc (.cells #[] 102)).alloc (.cells #[] 102)) g s at_ 0 := ⟨h.1.below hb2 h.1.lt, h.2⟩
  have Hw := Lib.hid (wrong_no g s at_ _ h2)
  have Ht := Lib.hid ht
  clear ht
  obtain ⟨ho, h3, h4⟩ := h2
  have c0 := ho.cell 0
  have c1 := ho.cell 1
  simp only [List.getElem?_toArray, List.getElem?_cons_zero, List.getElem?_cons_succ] at c0 c1
  have hg := ho.lt
  go_enter Tryd.func46, Tryd.ntmps46
  go_wp2_with fail
  refine Hw.out.mono ?_
  rintro e w' ⟨rfl, rfl⟩
  obtain ⟨W, hW⟩ : ∃ W, W = ((w.alloc (.cells #[] 102)).alloc (.cells #[] 102)) := ⟨_, rfl⟩
  rw [← hW] at c0 c1 hg ho ⊢
  have HW := Lib.hid hW
  have HB2 := Lib.hid hb2
  clear hW hb2 Hw
  go_wp2_with fail
  go_region_held3 (fun w' => w'.cell? ⟨g, 0, none⟩ = some (.string s) ∧ w'.cell? ⟨g, 1, none⟩ = some (.int .i64 at_) ∧ Below W.heap.size W w')
    (first | exact sr_of c0 c1 hg (bl3 b3) | exact sr_of c0 c1 hg (bl4 b3 _) | exact sr_of c0 c1 hg (bl5 b3) | exact sr_of c0 c1 hg (bl1 _) | exact sr_of c0 c1 hg (bl2 _ _) | fail)
    (first | (go_at_call 47; refine (Ht.out _).mono ?_; rintro e w3 ⟨rfl, b3⟩) | fail)
  · have b := bl4 b3 (.cells #[] 102)
    have o3 := ho.below b ho.lt
    have d1 : (w3.alloc (.cells #[] 102)).cell? ⟨g, 1, none⟩ = some (.int .i64 at_) := by simpa using o3.cell 1
    have f1 := o3.free 1
    clear o3 c0 c1
    have hi1 : (at_ : Int) ≤ 16777216 := by omega
    go_wp2_with fail
    have R := rd_go (size := 0) (z := (at_ : Int)) ho b (by omega) h3 h4
    exact bodyPost_ret (v := .tuple #[.agg #[], .int .i64 0]) (by simp [results, Tryd.results46, go_sem]) rfl ⟨rfl, R.1, Kp.of_below (HW.out ▸ HB2.out) R.2⟩
  · have b := bl5 b3
    have o3 := ho.below b ho.lt
    have d1 : w3.cell? ⟨g, 1, none⟩ = some (.int .i64 at_) := by simpa using o3.cell 1
    have f1 := o3.free 1
    clear o3 c0 c1
    have hi1 : (at_ : Int) ≤ 16777216 := by omega
    go_wp2_with fail
    have R := rd_go (size := 0) (z := (at_ : Int)) ho b (by omega) h3 h4
    exact bodyPost_ret (v := .tuple #[.agg #[], .int .i64 0]) (by simp [results, Tryd.results46, go_sem]) rfl ⟨rfl, R.1, Kp.of_below (HW.out ▸ HB2.out) R.2⟩
set_option maxRecDepth 100000 in
theorem readE_bad (g : Nat) (s : ByteArray) (at_ : Nat) (w : World) (h : Rd w g s at_ 0) (er : Int) (her : er ≠ 0)
    (ht : ∀ W, Calls Tryd.prog 47 #[.string (s.extract at_ s.size)] W fun e w' => e = .returned (.tuple #[.agg #[], .int .i64 0, .int .i64 er]) ∧ Below W.heap.size W w') :
    Calls Tryd.prog 46 #[.pointer (some ⟨g, 0, none⟩), .func (.func 47) #[] #[]] w fun e w' => e = .returned (.tuple #[.agg #[], .int .i64 er]) ∧ Rd w' g s at_ er ∧ Kp g none w w' := by
  have hb2 : Below w.heap.size w ((w.alloc (.cells #[] 102)).alloc (.cells #[] 102)) := ((Below.refl _ _).alloc (Nat.le_refl _) _).alloc (by simp) _
  have h2 : Rd ((w.alloc (.cells #[] 102)).alloc (.cells #[] 102)) g s at_ 0 := ⟨h.1.below hb2 h.1.lt, h.2⟩
  have hbr : (er != 0) = true := by simpa using her
  have Hw := Lib.hid (wrong_no g s at_ _ h2)
  have Ht := Lib.hid ht
  clear ht
  obtain ⟨ho, h3, h4⟩ := h2
  have c0 := ho.cell 0
  have c1 := ho.cell 1
  simp only [List.getElem?_toArray, List.getElem?_cons_zero, List.getElem?_cons_succ] at c0 c1
  have hg := ho.lt
  go_enter Tryd.func46, Tryd.ntmps46
  go_wp2_with fail
  refine Hw.out.mono ?_
  rintro e w' ⟨rfl, rfl⟩
  obtain ⟨W, hW⟩ : ∃ W, W = ((w.alloc (.cells #[] 102)).alloc (.cells #[] 102)) := ⟨_, rfl⟩
  rw [← hW] at c0 c1 hg ho ⊢
  have HW := Lib.hid hW
  have HB2 := Lib.hid hb2
  clear hW hb2 Hw
  go_wp2_with fail
  go_region_held3 (fun w' => w'.cell? ⟨g, 0, none⟩ = some (.string s) ∧ w'.cell? ⟨g, 1, none⟩ = some (.int .i64 at_) ∧ Below W.heap.size W w')
    (first | exact sr_of c0 c1 hg (bl3 b3) | exact sr_of c0 c1 hg (bl4 b3 _) | exact sr_of c0 c1 hg (bl5 b3) | exact sr_of c0 c1 hg (bl1 _) | exact sr_of c0 c1 hg (bl2 _ _) | fail)
    (first | (go_at_call 47; refine (Ht.out _).mono ?_; rintro e w3 ⟨rfl, b3⟩) | fail)
  · have b := bl4 b3 (.cells #[] 102)
    have o3 := ho.below b ho.lt
    have d2 : (w3.alloc (.cells #[] 102)).cell? ⟨g, 2, none⟩ = some (.int .i64 0) := by simpa using o3.cell 2
    have f2 := o3.free 2
    clear o3 c0 c1
    go_wp2_with fail
    have R := rd_bad er ho b h3 h4
    exact bodyPost_ret (v := .tuple #[.agg #[], .int .i64 er]) (by simp [results, Tryd.results46, go_sem]) rfl ⟨rfl, R.1, Kp.of_below (HW.out ▸ HB2.out) R.2⟩
  · have b := bl5 b3
    have o3 := ho.below b ho.lt
    have d2 : w3.cell? ⟨g, 2, none⟩ = some (.int .i64 0) := by simpa using o3.cell 2
    have f2 := o3.free 2
    clear o3 c0 c1
    go_wp2_with fail
    have R := rd_bad er ho b h3 h4
    exact bodyPost_ret (v := .tuple #[.agg #[], .int .i64 er]) (by simp [results, Tryd.results46, go_sem]) rfl ⟨rfl, R.1, Kp.of_below (HW.out ▸ HB2.out) R.2⟩
end Go.Proofs.YtcomhnenfdoklaaDoor
