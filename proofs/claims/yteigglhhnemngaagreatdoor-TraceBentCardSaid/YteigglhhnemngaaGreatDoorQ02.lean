/-
  SEVERAL TEXTS IN ONE (a claim has sixty files at most): Bw, Br, Bq, Be, Bk, Ba, Bv, Vw: the head of each stands ahead of it. No condition but theirs.
-/
import Derived.Test.YteigglhhnemngaaGreatDoorQ01
import Derived.Deep.QuietTactic
import Derived.BigQuiet
import Derived.Laws.BytesArg
import Derived.Deep.RegionHeld3
import Derived.Deep.RegionWith
import Derived.Deep.Slices
import Derived.Deep.Fields
import Derived.Carry
import Derived.LoopTactic
namespace Go.Proofs.YteigglhhnemngaaGreatDoor
set_option maxRecDepth 100000
open Go.RowKit
set_option linter.unusedVariables false
theorem u8_info : (Tryz.prog.info? 5).map (fun i => (i.zero, i.size, i.bytes)) = some (some (.int .u8 0), 1, 1) := by kernel_rfl
theorem new_writer (most : Int) (h0 : 0 ≤ most) (h1 : most ≤ 16777216) (w : World) :
    Calls Tryz.prog 23 #[.int .i64 most] w fun e w' => e = .returned (.tuple #[.pointer (some ⟨w.heap.size, 0, none⟩), .int .i64 0]) ∧ w' = w.alloc (.cells #[.int .i64 most, .slice none 0 0] 92) := by
  go_enter Tryz.func23, Tryz.ntmps23
  go_wp2
  go_ret2
  exact ⟨rfl, rfl⟩
set_option maxRecDepth 100000 in
theorem raw_no (B g : Nat) (most : Int) (l : List UInt8) (v : Value) (s : ByteArray) (w : World) (h : WrV w B g most l v) (hn : most - (l.length : Int) < s.size) (hs : s.size ≤ 9223372036854775807) :
    Calls Tryz.prog 51 #[.pointer (some ⟨g, 0, none⟩), .string s] w fun e w' => e = .returned (.int .i64 40) ∧ ∃ n, w' = w.drewN n := by
  obtain ⟨A, c, rfl⟩ := h.form
  obtain ⟨ho, _, m0, m1, hl⟩ := h
  have c0 := ho.cell 0
  have c1 := ho.cell 1
  simp at c0 c1
  clear ho
  go_enter Tryz.func51, Tryz.ntmps51
  go_wp2_with fail
  go_quiet (fail)
  go_wp2_with fail
  go_ret
  exact ⟨rfl, _, rfl⟩
theorem drewN_below (w : World) (n : Nat) : Below w.heap.size w (w.drewN n) := ⟨rfl, rfl, rfl, Nat.le_refl _, fun _ _ => rfl⟩
theorem drewN_wr {w : World} {B g : Nat} {most : Int} {l : List UInt8} {v : Value} (h : WrV w B g most l v) (n : Nat) : WrV (w.drewN n) B g most l v := h
theorem own_form {w : World} {base : Nat} {e : TypeId} {size n : Nat} {v : Value} {xs : List Value} (h : w.ownsRow base e size v n xs) : ∃ A m c, v = .slice A m c := by
  rcases h.2 with ⟨rfl, _⟩ | ⟨r, cap, cur, rfl, _⟩
  · exact ⟨none, 0, 0, rfl⟩
  · exact ⟨_, _, _, rfl⟩
theorem raw_stored {B g : Nat} {most : Int} {l : List UInt8} {v v' : Value} {s : ByteArray} {w w1 : World} (h : WrV w B g most l v) (hf : (l.length : Int) + s.size ≤ most)
    (h1 : w1.ownsRow B 5 1 v' (l.length + s.size) (bcells l ++ Lib.strCells s)) (h2 : w.grownBy w1 v.ownBlock) :
    Wr (w1.setCell ⟨g, 1, none⟩ v') B g most (l ++ s.data.toList) ∧ Kp g v.ownBlock w (w1.setCell ⟨g, 1, none⟩ v') := by
  have hne := h.1.unlike_row h.2.1 (by decide)
  have ho : Obj w1 g 92 #[.int .i64 most, v] := h.1.same (h2.block g h.1.lt (fun e => hne e.symm))
  have hne' := ho.unlike_row h1 (by decide)
  rw [bcells_append] at h1
  have e : (l ++ s.data.toList).length = l.length + s.size := by rw [List.length_append, Array.length_toList]; rfl
  refine ⟨⟨v', ho.store 1 v', ?_, h.2.2.1, h.2.2.2.1, by rw [e]; omega⟩, ⟨h2.os, h2.tape, h2.output, by simpa [World.setCell] using h2.size, fun i hi hg hr => ?_⟩⟩
  · rw [e]
    exact ownsRow_setCell_other h1 hne' v'
  · rw [Below.heap_setCell _ _ _ _ hg]
    exact h2.block i hi hr
set_option maxRecDepth 100000 in
theorem raw_yes (B g : Nat) (most : Int) (l : List UInt8) (v : Value) (s : ByteArray) (w : World) (h : WrV w B g most l v) (hB : B ≤ w.heap.size) (hf : (l.length : Int) + s.size ≤ most) :
    Calls Tryz.prog 51 #[.pointer (some ⟨g, 0, none⟩), .string s] w fun e w' => e = .returned (.int .i64 0) ∧ Wr w' B g most (l ++ s.data.toList) ∧ Kp g v.ownBlock w w' := by
  have hst := fun n v' w1 h1 h2 => raw_stored (v' := v') (w1 := w1) (drewN_wr h n) hf h1 h2
  have hown := h.2.1
  have hne := h.1.unlike_row hown (by decide)
  obtain ⟨i0, hi, hz0, hz1, hz2⟩ := info_parts u8_info
  obtain ⟨A, c, rfl⟩ := h.form
  obtain ⟨ho, _, m0, m1, hl⟩ := h
  have c0 := ho.cell 0
  have c1 := ho.cell 1
  simp at c0 c1
  have hcell : ∀ n w1, (w.drewN n).grownBy w1 (Value.slice A l.length c).ownBlock → w1.cell? ⟨g, 1, none⟩ = some (.slice A l.length c) ∧ w1.frozen? ⟨g, 1, none⟩ = false := fun n w1 h2 => by
    have o1 : Obj w1 g 92 #[.int .i64 most, .slice A l.length c] := ho.same (h2.block g ho.lt (fun e => hne e.symm))
    exact ⟨by simpa using o1.cell 1, o1.free 1⟩
  have Hcell := Lib.hid hcell
  have Hst := Lib.hid hst
  clear hst hcell ho hne
  have hs1 : (s.size : Int) ≤ most - (l.length : Int) := by omega
  have b1 : l.length + s.size ≤ 16777216 := by omega
  go_enter Tryz.func51, Tryz.ntmps51
  go_wp2_with fail
  go_quiet (fail)
  go_wp2_with (at_builtin; refine Lib.wpList_append_own_string _ rfl (.tmp 24) (.tmp 25) 43 9 rfl B 5 i0 Tryz.underlying43 Tryz.underlying9 hi hz0 hz1 hz2 (.slice A l.length c) l.length (bcells l) rfl hown s rfl ?c1 ?c2 ?c3 ?c4)
  case c1 => unfold maxLen; omega
  case c2 => omega
  case c3 => exact hB
  case c4 =>
    intro v' w1 h1 h2 h3
    clear h3
    obtain ⟨A', n', c', rfl⟩ := own_form h1
    have hc := (Hcell.out _ _ h2).1
    have hf2 := (Hcell.out _ _ h2).2
    have P := Lib.hid (Hst.out _ _ _ h1 h2)
    clear h1 h2
    go_wp2_with fail
    go_ret
    exact ⟨rfl, P.out.1, Kp.of_below (drewN_below _ _) P.out.2⟩
def bs (l : List UInt8) : ByteArray := ⟨l.toArray⟩
theorem bs_bytes (l : List UInt8) : (bs l).data.toList = l := rfl
theorem bs_size (l : List UInt8) : (bs l).size = l.length := by simp [bs, ByteArray.size]
theorem bs_of (s : ByteArray) : bs s.data.toList = s := rfl
theorem raw_any (B g : Nat) (most : Int) (l : List UInt8) (v : Value) (s : ByteArray) (w : World) (h : WrV w B g most l v) (hB : B ≤ w.heap.size) (hs : s.size ≤ 9223372036854775807) :
    Calls Tryz.prog 51 #[.pointer (some ⟨g, 0, none⟩), .string s] w (RawPost B g most l v s.data.toList w) := by
  have hz : s.data.toList.length = s.size := by rw [Array.length_toList]; rfl
  by_cases hf : (l.length : Int) + s.size ≤ most
  · refine (raw_yes B g most l v s w h hB hf).mono fun e w' ⟨he, h1, h2⟩ => ⟨?_, ?_, h2⟩
    · rw [he, rawE, hz, if_pos hf]
    · rw [rawL, hz, if_pos hf]; exact h1
  · refine (raw_no B g most l v s w h (by omega) hs).mono fun e w' ⟨he, n, hn⟩ => ⟨?_, ?_, ?_⟩
    · rw [he, rawE, hz, if_neg hf]
    · rw [rawL, hz, if_neg hf, hn]
      exact ⟨v, drewN_wr h n⟩
    · rw [hn]
      exact kp_below (drewN_below w n)
theorem num_any (B g : Nat) (most : Int) (l : List UInt8) (v : Value) (n : Nat) (hn : n < 18446744073709551616) (w : World) (h : WrV w B g most l v) (hB : B ≤ w.heap.size) :
    Calls Tryz.prog 24 #[.pointer (some ⟨g, 0, none⟩), .int .u64 n] w (RawPost B g most l v (Vm.put n) w) := by
  have hl := Vm.put_len n
  go_enter Tryz.func24, Tryz.ntmps24
  go_wp2_with fail
  refine (put_any n hn w).mono ?_
  rintro e w1 ⟨rfl, hb⟩
  go_wp2_with fail
  refine (raw_any B g most l v (bs (Vm.put n)) _ (h.below hb (Nat.le_refl _)) (Nat.le_trans hB hb.size) (by rw [bs_size]; omega)).mono ?_
  rintro e w' ⟨rfl, h1, h2⟩
  go_wp2_with fail
  go_ret
  exact ⟨rfl, h1, Kp.of_below hb h2⟩
theorem text_conv {w : World} {B g : Nat} {most : Int} {l : List UInt8} {A : Option Addr} {c : Nat} (h : WrV w B g most l (.slice A l.length c)) :
    (convert 43 9 (.slice A l.length c)).run Tryz.prog w = .ok (.string (bs l)) w := by
  rcases h.2.1.2 with ⟨hv, h0⟩ | ⟨r, cap, cur, hv, _⟩
  · injection hv with ha hl hc
    subst ha
    have : l = [] := List.eq_nil_of_length_eq_zero h0
    subst this
    exact run_convert_bytes_nil (P := Tryz.prog) (w := w) 43 5 u_bytes u_byte _ _ 9 u_string
  · injection hv with ha hl hc
    subst ha
    refine run_convert_bytes_back (P := Tryz.prog) w 43 9 5 _ c l u_bytes u_byte u_string (fun j hj => ?_)
    exact h.2.1.cells (g := r) rfl j _ (by simp [bcells, hj])
theorem text_any (B g : Nat) (most : Int) (l : List UInt8) (v : Value) (w : World) (h : WrV w B g most l v) :
    Calls Tryz.prog 28 #[.pointer (some ⟨g, 0, none⟩)] w fun e w' => e = .returned (.string (bs l)) ∧ w = w' := by
  obtain ⟨A, c, rfl⟩ := h.form
  have c1 := h.1.cell 1
  simp at c1
  have hcv := text_conv h
  clear h
  go_enter Tryz.func28, Tryz.ntmps28
  go_wp2_with fail
  go_ret
  exact ⟨rfl, rfl⟩
end Go.Proofs.YteigglhhnemngaaGreatDoor
namespace Go.Proofs.YteigglhhnemngaaGreatDoor
set_option maxRecDepth 100000
open Go.RowKit
set_option linter.unusedVariables false
def Rd (w : World) (g : Nat) (s : ByteArray) (at_ : Nat) (wr : Int) : Prop := Obj w g 109 #[.string s, .int .i64 at_, .int .i64 wr] ∧ at_ ≤ s.size ∧ s.size ≤ 16777216
theorem new_reader (s : ByteArray) (hs : s.size ≤ 16777216) (w : World) :
    Calls Tryz.prog 29 #[.string s] w fun e w' => e = .returned (.tuple #[.pointer (some ⟨w.heap.size, 0, none⟩), .int .i64 0]) ∧ w' = w.alloc (.cells #[.string s, .int .i64 0, .int .i64 0] 109) := by
  go_enter Tryz.func29, Tryz.ntmps29
  go_wp2
  go_ret2
  exact ⟨rfl, rfl⟩
theorem wrong_no (g : Nat) (s : ByteArray) (at_ : Nat) (w : World) (h : Rd w g s at_ 0) :
    Calls Tryz.prog 32 #[.pointer (some ⟨g, 0, none⟩)] w fun e w' => e = .returned (.tuple #[.int .i64 0, .int .i64 0]) ∧ w = w' := by
  have c2 := h.1.cell 2
  simp at c2
  clear h
  go_enter Tryz.func32, Tryz.ntmps32
  go_wp2
  go_ret2
  exact ⟨rfl, rfl⟩
theorem wrong_yes (g : Nat) (s : ByteArray) (at_ : Nat) (wr : Int) (hw : wr ≠ 0) (w : World) (h : Rd w g s at_ wr) :
    Calls Tryz.prog 32 #[.pointer (some ⟨g, 0, none⟩)] w fun e w' => e = .returned (.tuple #[.int .i64 at_, .int .i64 wr]) ∧ ∃ n, w' = w.drewN n := by
  have c1 := h.1.cell 1
  have c2 := h.1.cell 2
  simp at c1 c2
  have hb : (wr == 0) = false := by simpa using hw
  clear h
  go_enter Tryz.func32, Tryz.ntmps32
  go_wp2_with fail
  go_quiet (fail)
  go_wp2_with fail
  go_ret2
  exact ⟨rfl, _, rfl⟩
theorem at_any (g : Nat) (s : ByteArray) (at_ : Nat) (wr : Int) (w : World) (h : Rd w g s at_ wr) :
    Calls Tryz.prog 100 #[.pointer (some ⟨g, 0, none⟩)] w fun e w' => e = .returned (.int .i64 at_) ∧ w = w' := by
  have c1 := h.1.cell 1
  simp at c1
  clear h
  go_enter Tryz.func100, Tryz.ntmps100
  go_wp2
  go_ret
  exact ⟨rfl, rfl⟩
abbrev SR (w : World) (g : Nat) (s : ByteArray) (at_ : Nat) (w' : World) : Prop :=
  w'.cell? ⟨g, 0, none⟩ = some (.string s) ∧ w'.cell? ⟨g, 1, none⟩ = some (.int .i64 at_) ∧ Below w.heap.size w w'
theorem sr_drew {w w' : World} {g : Nat} {s : ByteArray} {at_ : Nat} (h0 : w'.cell? ⟨g, 0, none⟩ = some (.string s)) (h1 : w'.cell? ⟨g, 1, none⟩ = some (.int .i64 at_)) (hb : Below w.heap.size w w') : SR w g s at_ w'.drew := ⟨h0, h1, hb.drew⟩
theorem sr_call {w w' w3 : World} {g : Nat} {s : ByteArray} {at_ : Nat} (h0 : w'.cell? ⟨g, 0, none⟩ = some (.string s)) (h1 : w'.cell? ⟨g, 1, none⟩ = some (.int .i64 at_)) (hb : Below w.heap.size w w') (hg : g < w.heap.size) (b3 : Below w'.heap.size w' w3) : SR w g s at_ w3 :=
  ⟨(b3.cell (p := ⟨g, 0, none⟩) (Nat.lt_of_lt_of_le hg hb.size)).trans h0, (b3.cell (p := ⟨g, 1, none⟩) (Nat.lt_of_lt_of_le hg hb.size)).trans h1, hb.trans (b3.mono hb.size)⟩
theorem below_of_drew {w w3 : World} (b3 : Below w.drew.heap.size w.drew w3) : Below w.heap.size w w3 := ((Below.refl _ _).drew).trans b3
theorem bl1 (W : World) : Below W.heap.size W W.drew := (Below.refl _ _).drew
theorem rd_go {w w3 : World} {g : Nat} {s : ByteArray} {at_ size : Nat} {z : Int} (ho : Obj w g 109 #[.string s, .int .i64 at_, .int .i64 0]) (b3 : Below w.heap.size w w3) (hz : z = ((at_ + size : Nat) : Int)) (h1 : at_ + size ≤ s.size) (h2 : s.size ≤ 16777216) :
    Rd (w3.setCell ⟨g, 1, none⟩ (.int .i64 z)) g s (at_ + size) 0 ∧ Kp g none w (w3.setCell ⟨g, 1, none⟩ (.int .i64 z)) := by
  subst hz
  have o3 := ho.below b3 ho.lt
  refine ⟨⟨by simpa using o3.store 1 (.int .i64 ((at_ + size : Nat) : Int)), h1, h2⟩, ⟨b3.os, b3.tape, b3.output, by simpa [World.setCell] using b3.size, fun i hi hg _ => ?_⟩⟩
  rw [Below.heap_setCell _ _ _ _ hg]
  exact b3.block i hi
theorem rd_bad {w w3 : World} {g : Nat} {s : ByteArray} {at_ : Nat} {wr : Int} (er : Int) (ho : Obj w g 109 #[.string s, .int .i64 at_, .int .i64 wr]) (b3 : Below w.heap.size w w3) (h1 : at_ ≤ s.size) (h2 : s.size ≤ 16777216) :
    Rd (w3.setCell ⟨g, 2, none⟩ (.int .i64 er)) g s at_ er ∧ Kp g none w (w3.setCell ⟨g, 2, none⟩ (.int .i64 er)) := by
  have o3 := ho.below b3 ho.lt
  refine ⟨⟨by simpa using o3.store 2 (.int .i64 er), h1, h2⟩, ⟨b3.os, b3.tape, b3.output, by simpa [World.setCell] using b3.size, fun i hi hg _ => ?_⟩⟩
  rw [Below.heap_setCell _ _ _ _ hg]
  exact b3.block i hi
end Go.Proofs.YteigglhhnemngaaGreatDoor
namespace Go.Proofs.YteigglhhnemngaaGreatDoor
set_option maxRecDepth 100000
open Go.RowKit
set_option linter.unusedVariables false
set_option maxRecDepth 100000 in
theorem readN_wrong (g : Nat) (s : ByteArray) (at_ : Nat) (wr : Int) (hw : wr ≠ 0) (f : Value) (w : World) (h : Rd w g s at_ wr) :
    Calls Tryz.prog 125 #[.pointer (some ⟨g, 0, none⟩), f] w fun e w' => e = .returned (.tuple #[.int .u64 0, .int .i64 wr]) ∧ ∃ n, w' = w.drewN n := by
  have Hw := Lib.hid (wrong_yes g s at_ wr hw w h)
  have hb : (wr != 0) = true := by simpa using hw
  clear h
  go_enter Tryz.func125, Tryz.ntmps125
  go_wp2_with fail
  refine Hw.out.mono ?_
  rintro e w' ⟨rfl, n, rfl⟩
  go_wp2_with fail
  go_ret2
  exact ⟨rfl, _, rfl⟩
set_option maxRecDepth 100000 in
theorem readN_ok (g : Nat) (s : ByteArray) (at_ : Nat) (cap : Addr) (w : World) (h : Rd w g s at_ 0) (x : Int) (size : Nat) (hz : at_ + size ≤ s.size)
    (ht : ∀ W, Below w.heap.size w W → Calls Tryz.prog 126 #[.string (s.extract at_ s.size), .pointer (some cap)] W fun e w' => e = .returned (.tuple #[.int .u64 x, .int .i64 size, .int .i64 0]) ∧ Below W.heap.size W w') :
    Calls Tryz.prog 125 #[.pointer (some ⟨g, 0, none⟩), .func (.func 126) #[] #[.pointer (some cap)]] w fun e w' => e = .returned (.tuple #[.int .u64 x, .int .i64 0]) ∧ Rd w' g s (at_ + size) 0 ∧ Kp g none w w' := by
  have Hw := Lib.hid (wrong_no g s at_ w h)
  have Ht := Lib.hid (ht w.drew (bl1 w))
  clear ht
  obtain ⟨ho, h1, h2⟩ := h
  have c0 := ho.cell 0
  have c1 := ho.cell 1
  simp at c0 c1
  have hg := ho.lt
  go_enter Tryz.func125, Tryz.ntmps125
  go_wp2_with fail
  refine Hw.out.mono ?_
  rintro e w' ⟨rfl, rfl⟩
  go_wp2_with fail
  go_region_held3 (fun w' => w'.cell? ⟨g, 0, none⟩ = some (.string s) ∧ w'.cell? ⟨g, 1, none⟩ = some (.int .i64 at_) ∧ Below w.heap.size w w')
    (first | exact sr_call (w' := w.drew) c0 c1 (Below.refl _ _).drew hg b3 | exact sr_drew c0 c1 (Below.refl _ _) | fail)
    (first | (go_at_call 126; refine Ht.out.mono ?_; rintro e w3 ⟨rfl, b3⟩) | fail)
  have b := below_of_drew b3
  have o3 := ho.below b ho.lt
  have d1 : w3.cell? ⟨g, 1, none⟩ = some (.int .i64 at_) := by simpa using o3.cell 1
  have f1 := o3.free 1
  clear o3 c0 c1
  have hi1 : (at_ : Int) + (size : Int) ≤ 16777216 := by omega
  go_wp2_with fail
  go_ret2
  have R := rd_go (z := (at_ : Int) + (size : Int)) ho b (by omega) hz h2
  exact ⟨rfl, R.1, R.2⟩
set_option maxRecDepth 100000 in
theorem readN_bad (g : Nat) (s : ByteArray) (at_ : Nat) (cap : Addr) (w : World) (h : Rd w g s at_ 0) (x : Int) (size er : Int) (her : er ≠ 0)
    (ht : ∀ W, Below w.heap.size w W → Calls Tryz.prog 126 #[.string (s.extract at_ s.size), .pointer (some cap)] W fun e w' => e = .returned (.tuple #[.int .u64 x, .int .i64 size, .int .i64 er]) ∧ Below W.heap.size W w') :
    Calls Tryz.prog 125 #[.pointer (some ⟨g, 0, none⟩), .func (.func 126) #[] #[.pointer (some cap)]] w fun e w' => e = .returned (.tuple #[.int .u64 0, .int .i64 er]) ∧ Rd w' g s at_ er ∧ Kp g none w w' := by
  have Hw := Lib.hid (wrong_no g s at_ w h)
  have Ht := Lib.hid (ht w.drew (bl1 w))
  clear ht
  obtain ⟨ho, h1, h2⟩ := h
  have c0 := ho.cell 0
  have c1 := ho.cell 1
  simp at c0 c1
  have hg := ho.lt
  have hb : (er != 0) = true := by simpa using her
  go_enter Tryz.func125, Tryz.ntmps125
  go_wp2_with fail
  refine Hw.out.mono ?_
  rintro e w' ⟨rfl, rfl⟩
  go_wp2_with fail
  go_region_held3 (fun w' => w'.cell? ⟨g, 0, none⟩ = some (.string s) ∧ w'.cell? ⟨g, 1, none⟩ = some (.int .i64 at_) ∧ Below w.heap.size w w')
    (first | exact sr_call (w' := w.drew) c0 c1 (Below.refl _ _).drew hg b3 | exact sr_drew c0 c1 (Below.refl _ _) | fail)
    (first | (go_at_call 126; refine Ht.out.mono ?_; rintro e w3 ⟨rfl, b3⟩) | fail)
  have b := below_of_drew b3
  have o3 := ho.below b ho.lt
  have d2 : w3.cell? ⟨g, 2, none⟩ = some (.int .i64 0) := by simpa using o3.cell 2
  have f2 := o3.free 2
  clear o3 c0 c1
  go_wp2_with fail
  go_ret2
  have R := rd_bad er ho b h1 h2
  exact ⟨rfl, R.1, R.2⟩
end Go.Proofs.YteigglhhnemngaaGreatDoor
namespace Go.Proofs.YteigglhhnemngaaGreatDoor
set_option maxRecDepth 100000
open Go.RowKit
set_option linter.unusedVariables false
theorem cloE_more (s : ByteArray) (hs : s.size ≤ 16777216) (h0 : 0 < s.size) (w : World) :
    Calls Tryz.prog 61 #[.string s] w fun e w' => e = .returned (.tuple #[.agg #[], .int .i64 0, .int .i64 10]) ∧ Below w.heap.size w w' := by
  have h1 : s.toList.isEmpty = false := by
    rw [ByteArray.toList_eq]
    rcases hl : s.data.toList with _ | ⟨b, l⟩
    · have : s.data.toList.length = s.size := by rw [Array.length_toList]; rfl
      rw [hl] at this
      simp at this; omega
    · rfl
  have h2 : (!s.toList.isEmpty) = true := by rw [h1]; rfl
  go_enter Tryz.func61, Tryz.ntmps61
  go_wp2_with fail
  exact bodyPost_ret (v := .tuple #[.agg #[], .int .i64 0, .int .i64 10]) (by simp [results, Tryz.results61, go_sem]) rfl ⟨rfl, by go_grown⟩
theorem cloE_end (w : World) :
    Calls Tryz.prog 61 #[.string ⟨#[]⟩] w fun e w' => e = .returned (.tuple #[.agg #[], .int .i64 0, .int .i64 0]) ∧ Below w.heap.size w w' := by
  go_enter Tryz.func61, Tryz.ntmps61
  go_wp2_with fail
  exact bodyPost_ret (v := .tuple #[.agg #[], .int .i64 0, .int .i64 0]) (by simp [results, Tryz.results61, go_sem]) rfl ⟨rfl, by go_grown⟩
set_option maxRecDepth 100000 in
theorem readE_wrong (g : Nat) (s : ByteArray) (at_ : Nat) (wr : Int) (hw : wr ≠ 0) (f : Value) (w : World) (h : Rd w g s at_ wr) :
    Calls Tryz.prog 60 #[.pointer (some ⟨g, 0, none⟩), f] w fun e w' => e = .returned (.tuple #[.agg #[], .int .i64 wr]) ∧ Below w.heap.size w w' := by
  have hb : (wr != 0) = true := by simpa using hw
  have hb2 : Below w.heap.size w ((w.alloc (.cells #[] 115)).alloc (.cells #[] 115)) := ((Below.refl _ _).alloc (Nat.le_refl _) _).alloc (by simp) _
  have h2 : Rd ((w.alloc (.cells #[] 115)).alloc (.cells #[] 115)) g s at_ wr := ⟨h.1.below hb2 h.1.lt, h.2⟩
  have Hw := Lib.hid (wrong_yes g s at_ wr hw _ h2)
  have Hb2 := Lib.hid hb2
  clear h h2 hb2
  go_enter Tryz.func60, Tryz.ntmps60
  go_wp2_with fail
  refine Hw.out.mono ?_
  rintro e w' ⟨rfl, n, rfl⟩
  go_wp2_with fail
  exact bodyPost_ret (v := .tuple #[.agg #[], .int .i64 wr]) (by simp [results, Tryz.results60, go_sem]) rfl ⟨rfl, Hb2.out.trans ⟨rfl, rfl, rfl, by simp, fun _ _ => rfl⟩⟩
theorem sr_of {w X : World} {g : Nat} {s : ByteArray} {at_ : Nat} (h0 : w.cell? ⟨g, 0, none⟩ = some (.string s)) (h1 : w.cell? ⟨g, 1, none⟩ = some (.int .i64 at_)) (hg : g < w.heap.size) (hb : Below w.heap.size w X) : SR w g s at_ X :=
  ⟨(hb.cell (p := ⟨g, 0, none⟩) hg).trans h0, (hb.cell (p := ⟨g, 1, none⟩) hg).trans h1, hb⟩
theorem bl2 (W : World) (o : Go.Obj) : Below W.heap.size W (W.alloc o).drew := ((Below.refl _ _).alloc (Nat.le_refl _) o).drew
theorem bl3 {W w3 : World} (b3 : Below W.drew.heap.size W.drew w3) : Below W.heap.size W w3 := (bl1 W).trans b3
theorem bl4 {W w3 : World} (b3 : Below W.drew.heap.size W.drew w3) (o : Go.Obj) : Below W.heap.size W (w3.alloc o) := (bl3 b3).alloc b3.size o
theorem bl5 {W w3 : World} {o : Go.Obj} (b3 : Below (W.alloc o).drew.heap.size (W.alloc o).drew w3) : Below W.heap.size W w3 := (bl2 W o).trans (b3.mono (by simp))
set_option maxRecDepth 100000 in
theorem readE_ok (g : Nat) (s : ByteArray) (at_ : Nat) (w : World) (h : Rd w g s at_ 0)
    (ht : ∀ W, Calls Tryz.prog 61 #[.string (s.extract at_ s.size)] W fun e w' => e = .returned (.tuple #[.agg #[], .int .i64 0, .int .i64 0]) ∧ Below W.heap.size W w') :
    Calls Tryz.prog 60 #[.pointer (some ⟨g, 0, none⟩), .func (.func 61) #[] #[]] w fun e w' => e = .returned (.tuple #[.agg #[], .int .i64 0]) ∧ Rd w' g s at_ 0 ∧ Kp g none w w' := by
  have hb2 : Below w.heap.size w ((w.alloc (.cells #[] 115)).alloc (.cells #[] 115)) := ((Below.refl _ _).alloc (Nat.le_refl _) _).alloc (by simp) _
  have h2 : Rd ((w.alloc (.cells #[] 115)).alloc (.cells #[] 115)) g s at_ 0 := ⟨h.1.below hb2 h.1.lt, h.2⟩
  have Hw := Lib.hid (wrong_no g s at_ _ h2)
  have Ht := Lib.hid ht
  clear ht
  obtain ⟨ho, h3, h4⟩ := h2
  have c0 := ho.cell 0
  have c1 := ho.cell 1
  simp only [List.getElem?_toArray, List.getElem?_cons_zero, List.getElem?_cons_succ] at c0 c1
  have hg := ho.lt
  go_enter Tryz.func60, Tryz.ntmps60
  go_wp2_with fail
  refine Hw.out.mono ?_
  rintro e w' ⟨rfl, rfl⟩
  obtain ⟨W, hW⟩ : ∃ W, W = ((w.alloc (.cells #[] 115)).alloc (.cells #[] 115)) := ⟨_, rfl⟩
  rw [← hW] at c0 c1 hg ho ⊢
  have HW := Lib.hid hW
  have HB2 := Lib.hid hb2
  clear hW hb2 Hw
  go_wp2_with fail
  go_region_held3 (fun w' => w'.cell? ⟨g, 0, none⟩ = some (.string s) ∧ w'.cell? ⟨g, 1, none⟩ = some (.int .i64 at_) ∧ Below W.heap.size W w')
    (first | exact sr_of c0 c1 hg (bl3 b3) | exact sr_of c0 c1 hg (bl4 b3 _) | exact sr_of c0 c1 hg (bl5 b3) | exact sr_of c0 c1 hg (bl1 _) | exact sr_of c0 c1 hg (bl2 _ _) | fail)
    (first | (go_at_call 61; refine (Ht.out _).mono ?_; rintro e w3 ⟨rfl, b3⟩) | fail)
  · have b := bl4 b3 (.cells #[] 115)
    have o3 := ho.below b ho.lt
    have d1 : (w3.alloc (.cells #[] 115)).cell? ⟨g, 1, none⟩ = some (.int .i64 at_) := by simpa using o3.cell 1
    have f1 := o3.free 1
    clear o3 c0 c1
    have hi1 : (at_ : Int) ≤ 16777216 := by omega
    go_wp2_with fail
    have R := rd_go (size := 0) (z := (at_ : Int)) ho b (by omega) h3 h4
    exact bodyPost_ret (v := .tuple #[.agg #[], .int .i64 0]) (by simp [results, Tryz.results60, go_sem]) rfl ⟨rfl, R.1, Kp.of_below (HW.out ▸ HB2.out) R.2⟩
  · have b := bl5 b3
    have o3 := ho.below b ho.lt
    have d1 : w3.cell? ⟨g, 1, none⟩ = some (.int .i64 at_) := by simpa using o3.cell 1
    have f1 := o3.free 1
    clear o3 c0 c1
    have hi1 : (at_ : Int) ≤ 16777216 := by omega
    go_wp2_with fail
    have R := rd_go (size := 0) (z := (at_ : Int)) ho b (by omega) h3 h4
    exact bodyPost_ret (v := .tuple #[.agg #[], .int .i64 0]) (by simp [results, Tryz.results60, go_sem]) rfl ⟨rfl, R.1, Kp.of_below (HW.out ▸ HB2.out) R.2⟩
set_option maxRecDepth 100000 in
theorem readE_bad (g : Nat) (s : ByteArray) (at_ : Nat) (w : World) (h : Rd w g s at_ 0) (er : Int) (her : er ≠ 0)
    (ht : ∀ W, Calls Tryz.prog 61 #[.string (s.extract at_ s.size)] W fun e w' => e = .returned (.tuple #[.agg #[], .int .i64 0, .int .i64 er]) ∧ Below W.heap.size W w') :
    Calls Tryz.prog 60 #[.pointer (some ⟨g, 0, none⟩), .func (.func 61) #[] #[]] w fun e w' => e = .returned (.tuple #[.agg #[], .int .i64 er]) ∧ Rd w' g s at_ er ∧ Kp g none w w' := by
  have hb2 : Below w.heap.size w ((w.alloc (.cells #[] 115)).alloc (.cells #[] 115)) := ((Below.refl _ _).alloc (Nat.le_refl _) _).alloc (by simp) _
  have h2 : Rd ((w.alloc (.cells #[] 115)).alloc (.cells #[] 115)) g s at_ 0 := ⟨h.1.below hb2 h.1.lt, h.2⟩
  have hbr : (er != 0) = true := by simpa using her
  have Hw := Lib.hid (wrong_no g s at_ _ h2)
  have Ht := Lib.hid ht
  clear ht
  obtain ⟨ho, h3, h4⟩ := h2
  have c0 := ho.cell 0
  have c1 := ho.cell 1
  simp only [List.getElem?_toArray, List.getElem?_cons_zero, List.getElem?_cons_succ] at c0 c1
  have hg := ho.lt
  go_enter Tryz.func60, Tryz.ntmps60
  go_wp2_with fail
  refine Hw.out.mono ?_
  rintro e w' ⟨rfl, rfl⟩
  obtain ⟨W, hW⟩ : ∃ W, W = ((w.alloc (.cells #[] 115)).alloc (.cells #[] 115)) := ⟨_, rfl⟩
  rw [← hW] at c0 c1 hg ho ⊢
  have HW := Lib.hid hW
  have HB2 := Lib.hid hb2
  clear hW hb2 Hw
  go_wp2_with fail
  go_region_held3 (fun w' => w'.cell? ⟨g, 0, none⟩ = some (.string s) ∧ w'.cell? ⟨g, 1, none⟩ = some (.int .i64 at_) ∧ Below W.heap.size W w')
    (first | exact sr_of c0 c1 hg (bl3 b3) | exact sr_of c0 c1 hg (bl4 b3 _) | exact sr_of c0 c1 hg (bl5 b3) | exact sr_of c0 c1 hg (bl1 _) | exact sr_of c0 c1 hg (bl2 _ _) | fail)
    (first | (go_at_call 61; refine (Ht.out _).mono ?_; rintro e w3 ⟨rfl, b3⟩) | fail)
  · have b := bl4 b3 (.cells #[] 115)
    have o3 := ho.below b ho.lt
    have d2 : (w3.alloc (.cells #[] 115)).cell? ⟨g, 2, none⟩ = some (.int .i64 0) := by simpa using o3.cell 2
    have f2 := o3.free 2
    clear o3 c0 c1
    go_wp2_with fail
    have R := rd_bad er ho b h3 h4
    exact bodyPost_ret (v := .tuple #[.agg #[], .int .i64 er]) (by simp [results, Tryz.results60, go_sem]) rfl ⟨rfl, R.1, Kp.of_below (HW.out ▸ HB2.out) R.2⟩
  · have b := bl5 b3
    have o3 := ho.below b ho.lt
    have d2 : w3.cell? ⟨g, 2, none⟩ = some (.int .i64 0) := by simpa using o3.cell 2
    have f2 := o3.free 2
    clear o3 c0 c1
    go_wp2_with fail
    have R := rd_bad er ho b h3 h4
    exact bodyPost_ret (v := .tuple #[.agg #[], .int .i64 er]) (by simp [results, Tryz.results60, go_sem]) rfl ⟨rfl, R.1, Kp.of_below (HW.out ▸ HB2.out) R.2⟩
end Go.Proofs.YteigglhhnemngaaGreatDoor
namespace Go.Proofs.YteigglhhnemngaaGreatDoor
set_option maxRecDepth 100000
open Go.RowKit
set_option linter.unusedVariables false
def tNum (most : Int) (l : List UInt8) : Int × Nat × Int := if (Vm.get l).2.2 = 0 then (if most < (Vm.get l).1 then (0, 0, 20) else ((Vm.get l).1, (Vm.get l).2.1, 0)) else (0, 0, (Vm.get l).2.2)
def tEnd (l : List UInt8) : Int × Nat × Int := if l = [] then (0, 0, 0) else (0, 0, 10)
def rd {α : Type} (z : α) (at_ : Nat) (wr : Int) (t : α × Nat × Int) : α × Int × Nat × Int :=
  if wr = 0 then (if t.2.2 = 0 then (t.1, 0, at_ + t.2.1, 0) else (z, t.2.2, at_, t.2.2)) else (z, wr, at_, wr)
theorem rd_w {α : Type} {z : α} {at_ : Nat} {wr : Int} {t : α × Nat × Int} (h : wr ≠ 0) : rd z at_ wr t = (z, wr, at_, wr) := by unfold rd; rw [if_neg h]
theorem rd_e {α : Type} {z : α} {at_ : Nat} {t : α × Nat × Int} (h : t.2.2 ≠ 0) : rd z at_ 0 t = (z, t.2.2, at_, t.2.2) := by unfold rd; rw [if_pos rfl, if_neg h]
theorem rd_k {α : Type} {z : α} {at_ : Nat} {t : α × Nat × Int} (h : t.2.2 = 0) : rd z at_ 0 t = (t.1, 0, at_ + t.2.1, 0) := by unfold rd; rw [if_pos rfl, if_pos h]
def rNum (most : Int) (s : ByteArray) (at_ : Nat) (wr : Int) : Int × Int × Nat × Int := rd 0 at_ wr (tNum most (s.data.toList.drop at_))
def rEnd (s : ByteArray) (at_ : Nat) (wr : Int) : Int × Int × Nat × Int := rd 0 at_ wr (tEnd (s.data.toList.drop at_))
theorem ext_drop (s : ByteArray) (a : Nat) : (s.extract a s.size).data.toList = s.data.toList.drop a := by
  rw [ByteArray.data_extract, Array.toList_extract]
  have : s.data.toList.length = s.size := by rw [Array.length_toList]; rfl
  rw [List.extract_eq_take_drop, List.take_of_length_le (by rw [List.length_drop]; omega)]
theorem ext_size (s : ByteArray) (a : Nat) : (s.extract a s.size).size = s.size - a := by simp
theorem drop_len (s : ByteArray) (a : Nat) : (s.data.toList.drop a).length = s.size - a := by
  rw [List.length_drop, Array.length_toList]; rfl
theorem get_ok {l : List UInt8} {n size : Nat} (h : Vm.get l = (n, size, 0)) : 1 ≤ size ∧ size ≤ l.length ∧ n < 18446744073709551616 ∧ Vm.put n = l.take size := by
  rcases Vm.get_shape l 0 0 (by omega) with (e | e | e) | ⟨m, z, e, s1, s2, s3, s4, s5, s6⟩
  · rw [Vm.get] at h; rw [h] at e; cases e
  · rw [Vm.get] at h; rw [h] at e; cases e
  · rw [Vm.get] at h; rw [h] at e; cases e
  · rw [Vm.get] at h
    rw [h] at e
    simp at e
    obtain ⟨rfl, rfl⟩ := e
    exact ⟨s1, s2, by simpa using s5, s6 10 (by omega)⟩
theorem get_is (s : ByteArray) (n size e : Nat) (hs : s.size ≤ 9223372036854775807) (h : Vm.get s.data.toList = (n, size, e)) (w : World) :
    Calls Tryz.prog 48 #[.string s] w fun r w' => r = .returned (.tuple #[.int .u64 n, .int .i64 size, .int .i64 e]) ∧ w = w' := by
  have := get_any s hs w
  unfold bytes at this
  rw [h] at this
  exact this
theorem cloN_ok (most : Int) (c : Addr) (s : ByteArray) (hs : s.size ≤ 16777216) (n size : Nat) (hg : Vm.get s.data.toList = (n, size, 0)) (hm : (n : Int) ≤ most) (w : World) (hc : w.cell? c = some (.int .u64 most)) :
    Calls Tryz.prog 126 #[.string s, .pointer (some c)] w fun e w' => e = .returned (.tuple #[.int .u64 n, .int .i64 size, .int .i64 0]) ∧ w = w' := by
  have Hg := Lib.hid (get_is s n size 0 (by omega) hg w)
  clear hg
  go_enter Tryz.func126, Tryz.ntmps126
  go_wp2_with fail
  refine Hg.out.mono ?_
  rintro e w' ⟨rfl, rfl⟩
  go_wp2_with fail
  go_ret3
  exact ⟨rfl, rfl⟩
theorem cloN_range (most : Int) (c : Addr) (s : ByteArray) (hs : s.size ≤ 16777216) (n size : Nat) (hg : Vm.get s.data.toList = (n, size, 0)) (hm : most < (n : Int)) (w : World) (hc : w.cell? c = some (.int .u64 most)) :
    Calls Tryz.prog 126 #[.string s, .pointer (some c)] w fun e w' => e = .returned (.tuple #[.int .u64 n, .int .i64 size, .int .i64 20]) ∧ w = w' := by
  have Hg := Lib.hid (get_is s n size 0 (by omega) hg w)
  clear hg
  go_enter Tryz.func126, Tryz.ntmps126
  go_wp2_with fail
  refine Hg.out.mono ?_
  rintro e w' ⟨rfl, rfl⟩
  go_wp2_with fail
  go_ret3
  exact ⟨rfl, rfl⟩
theorem cloN_bad (most : Int) (c : Addr) (s : ByteArray) (hs : s.size ≤ 16777216) (n size er : Nat) (hg : Vm.get s.data.toList = (n, size, er)) (her : er ≠ 0) (w : World) (hc : w.cell? c = some (.int .u64 most)) :
    Calls Tryz.prog 126 #[.string s, .pointer (some c)] w fun e w' => e = .returned (.tuple #[.int .u64 n, .int .i64 size, .int .i64 er]) ∧ w = w' := by
  have Hg := Lib.hid (get_is s n size er (by omega) hg w)
  have hb : ((er : Int) == 0) = false := by simp; omega
  clear hg
  go_enter Tryz.func126, Tryz.ntmps126
  go_wp2_with fail
  refine Hg.out.mono ?_
  rintro e w' ⟨rfl, rfl⟩
  go_wp2_with fail
  go_ret3
  exact ⟨rfl, rfl⟩
def RdPost (v : Value) (er : Int) (g : Nat) (s : ByteArray) (a : Nat) (wr : Int) (w : World) (e : Ending) (w' : World) : Prop :=
  e = .returned (.tuple #[v, .int .i64 er]) ∧ Rd w' g s a wr ∧ Kp g none w w'
theorem rd_drew {w : World} {g : Nat} {s : ByteArray} {at_ : Nat} {wr : Int} (h : Rd w g s at_ wr) (n : Nat) : Rd (w.drewN n) g s at_ wr := h
theorem readN_any (most : Int) (c : Addr) (g : Nat) (s : ByteArray) (at_ : Nat) (wr : Int) (w : World) (h : Rd w g s at_ wr) (hc : w.cell? c = some (.int .u64 most)) (hcb : c.block < w.heap.size) :
    Calls Tryz.prog 125 #[.pointer (some ⟨g, 0, none⟩), .func (.func 126) #[] #[.pointer (some c)]] w
      (RdPost (.int .u64 (rNum most s at_ wr).1) (rNum most s at_ wr).2.1 g s (rNum most s at_ wr).2.2.1 (rNum most s at_ wr).2.2.2 w) := by
  unfold rNum
  by_cases hw : wr = 0
  · subst hw
    have hsz := drop_len s at_
    have hzz : (s.extract at_ s.size).size ≤ 16777216 := by rw [ext_size]; have := h.2.2; omega
    have hcW : ∀ W, Below w.heap.size w W → W.cell? c = some (.int .u64 most) := fun W hb => (hb.cell hcb).trans hc
    rcases hg : Vm.get (s.data.toList.drop at_) with ⟨n, size, er⟩
    have hg' : Vm.get (s.extract at_ s.size).data.toList = (n, size, er) := by rw [ext_drop]; exact hg
    by_cases he : er = 0
    · subst he
      have hk := get_ok hg
      by_cases hm : most < (n : Int)
      · have e : tNum most (s.data.toList.drop at_) = (0, 0, 20) := by unfold tNum; rw [hg]; simp [hm]
        rw [e, rd_e (by decide)]
        exact readN_bad g s at_ c w h n size 20 (by decide) fun W hb => (cloN_range most c _ hzz n size hg' hm W (hcW W hb)).mono fun e w' ⟨he, hq⟩ => ⟨he, hq ▸ Below.refl _ _⟩
      · have e : tNum most (s.data.toList.drop at_) = ((n : Int), size, 0) := by unfold tNum; rw [hg]; simp [hm]
        rw [e, rd_k rfl]
        exact readN_ok g s at_ c w h n size (by omega) fun W hb => (cloN_ok most c _ hzz n size hg' (by omega) W (hcW W hb)).mono fun e w' ⟨he, hq⟩ => ⟨he, hq ▸ Below.refl _ _⟩
    · have e : tNum most (s.data.toList.drop at_) = (0, 0, (er : Int)) := by unfold tNum; rw [hg]; simp [he]
      have he' : (er : Int) ≠ 0 := by omega
      rw [e, rd_e (by exact he')]
      exact readN_bad g s at_ c w h n size er he' fun W hb => (cloN_bad most c _ hzz n size er hg' he W (hcW W hb)).mono fun e w' ⟨he, hq⟩ => ⟨he, hq ▸ Below.refl _ _⟩
  · rw [rd_w hw]
    exact (readN_wrong g s at_ wr hw _ w h).mono fun e w' ⟨he, n, hn⟩ => ⟨he, hn ▸ rd_drew h n, hn ▸ kp_below (drewN_below w n)⟩
theorem readE_any (g : Nat) (s : ByteArray) (at_ : Nat) (wr : Int) (w : World) (h : Rd w g s at_ wr) :
    Calls Tryz.prog 60 #[.pointer (some ⟨g, 0, none⟩), .func (.func 61) #[] #[]] w
      (RdPost (.agg #[]) (rEnd s at_ wr).2.1 g s (rEnd s at_ wr).2.2.1 (rEnd s at_ wr).2.2.2 w) := by
  unfold rEnd
  by_cases hw : wr = 0
  · subst hw
    have hsz := drop_len s at_
    have hez := ext_size s at_
    by_cases hl : s.data.toList.drop at_ = []
    · have e : tEnd (s.data.toList.drop at_) = (0, 0, 0) := by unfold tEnd; rw [if_pos hl]
      rw [e, rd_k rfl]
      have hx : s.extract at_ s.size = ⟨#[]⟩ := by
        apply ByteArray.ext
        apply Array.toList_inj.1
        rw [ext_drop, hl]
      exact readE_ok g s at_ w h fun W => by rw [hx]; exact cloE_end W
    · have e : tEnd (s.data.toList.drop at_) = (0, 0, 10) := by unfold tEnd; rw [if_neg hl]
      rw [e, rd_e (by decide)]
      have hp : 0 < (s.data.toList.drop at_).length := List.length_pos_iff.2 hl
      exact readE_bad g s at_ w h 10 (by decide) fun W => cloE_more _ (by have := h.2.2; omega) (by omega) W
  · rw [rd_w hw]
    exact (readE_wrong g s at_ wr hw _ w h).mono fun e w' ⟨he, hb⟩ => ⟨he, ⟨h.1.below hb h.1.lt, h.2⟩, kp_below hb⟩
theorem boxed (w : World) (v : Value) (t : TypeId) : Below w.heap.size w (w.alloc (.cells #[v] t)) ∧ (w.alloc (.cells #[v] t)).cell? ⟨w.heap.size, 0, none⟩ = some v ∧ w.heap.size < (w.alloc (.cells #[v] t)).heap.size :=
  ⟨(Below.refl _ _).alloc (Nat.le_refl _) _, cell_new w #[v] t 0, by simp⟩
theorem rNum_any (most : Int) (g : Nat) (s : ByteArray) (at_ : Nat) (wr : Int) (w : World) (h : Rd w g s at_ wr) :
    Calls Tryz.prog 101 #[.pointer (some ⟨g, 0, none⟩), .int .u64 most] w (RdPost (.int .u64 (rNum most s at_ wr).1) (rNum most s at_ wr).2.1 g s (rNum most s at_ wr).2.2.1 (rNum most s at_ wr).2.2.2 w) := by
  obtain ⟨b1, b2, b3⟩ := boxed w (.int .u64 most) 56
  have H := Lib.hid (readN_any most ⟨w.heap.size, 0, none⟩ g s at_ wr _ ⟨h.1.below b1 h.1.lt, h.2⟩ b2 b3)
  have B1 := Lib.hid b1
  clear h b1 b2 b3
  go_enter Tryz.func101, Tryz.ntmps101
  go_wp2_with fail
  refine H.out.mono ?_
  rintro e w' ⟨rfl, h1, h2⟩
  go_wp2_with fail
  go_ret2
  exact ⟨rfl, h1, Kp.of_below B1.out h2⟩
def EndPost (er : Int) (g : Nat) (s : ByteArray) (a : Nat) (wr : Int) (w : World) (e : Ending) (w' : World) : Prop :=
  e = .returned (.int .i64 er) ∧ Rd w' g s a wr ∧ Kp g none w w'
theorem rd_more {w w' : World} {g : Nat} {s : ByteArray} {a : Nat} {wr : Int} (h : Rd w g s a wr) (hb : Below w.heap.size w w') : Rd w' g s a wr := ⟨h.1.below hb h.1.lt, h.2⟩
theorem rEnd_any (g : Nat) (s : ByteArray) (at_ : Nat) (wr : Int) (w : World) (h : Rd w g s at_ wr) :
    Calls Tryz.prog 31 #[.pointer (some ⟨g, 0, none⟩)] w (EndPost (rEnd s at_ wr).2.1 g s (rEnd s at_ wr).2.2.1 (rEnd s at_ wr).2.2.2 w) := by
  have H := Lib.hid (readE_any g s at_ wr w h)
  clear h
  go_enter Tryz.func31, Tryz.ntmps31
  go_wp2_with fail
  refine H.out.mono ?_
  rintro e w' ⟨rfl, h1, h2⟩
  go_wp2_with fail
  go_ret
  have hb : Below w'.heap.size w' (w'.alloc (.cells #[] 115)) := (Below.refl _ _).alloc (Nat.le_refl _) _
  exact ⟨rfl, rd_more h1 hb, h2.then_below hb⟩
def rFail (place er : Int) (at_ : Nat) (wr : Int) : Int × Nat × Int :=
  if wr = 0 then (if place < 0 ∨ (at_ : Int) < place ∨ er = 0 then (1, at_, 0) else (er, place.toNat, er)) else (wr, at_, wr)
theorem rFail_any (place er : Int) (g : Nat) (s : ByteArray) (at_ : Nat) (wr : Int) (w : World) (h : Rd w g s at_ wr) :
    Calls Tryz.prog 102 #[.pointer (some ⟨g, 0, none⟩), .int .i64 place, .int .i64 er] w (EndPost (rFail place er at_ wr).1 g s (rFail place er at_ wr).2.1 (rFail place er at_ wr).2.2 w) := by
  unfold rFail
  by_cases hw : wr = 0
  · subst hw
    rw [if_pos rfl]
    have Hw := Lib.hid (wrong_no g s at_ w h)
    have c1 := h.1.cell 1
    have c2 := h.1.cell 2
    simp at c1 c2
    have f1 := h.1.free 1
    have f2 := h.1.free 2
    have H := Lib.hid h
    clear h
    by_cases hp : place < 0 ∨ (at_ : Int) < place ∨ er = 0
    · rw [if_pos hp]
      have hpost : EndPost 1 g s at_ 0 w (.returned (.int .i64 1)) w := ⟨rfl, H.out, kp_below (Below.refl _ _)⟩
      have HP := Lib.hid hpost
      clear hpost
      rcases hp with hp | hp | hp
      · go_enter Tryz.func102, Tryz.ntmps102
        go_wp2_with fail
        refine Hw.out.mono ?_
        rintro e w' ⟨rfl, rfl⟩
        go_wp2_with fail
        go_ret
        exact HP.out
      · by_cases h0 : place < 0
        · omega
        · have h0' : 0 ≤ place := by omega
          go_enter Tryz.func102, Tryz.ntmps102
          go_wp2_with fail
          refine Hw.out.mono ?_
          rintro e w' ⟨rfl, rfl⟩
          go_wp2_with fail
          go_ret
          exact HP.out
      · subst hp
        by_cases h0 : place < 0
        · go_enter Tryz.func102, Tryz.ntmps102
          go_wp2_with fail
          refine Hw.out.mono ?_
          rintro e w' ⟨rfl, rfl⟩
          go_wp2_with fail
          go_ret
          exact HP.out
        · by_cases h1 : (at_ : Int) < place
          · go_enter Tryz.func102, Tryz.ntmps102
            go_wp2_with fail
            refine Hw.out.mono ?_
            rintro e w' ⟨rfl, rfl⟩
            go_wp2_with fail
            go_ret
            exact HP.out
          · go_enter Tryz.func102, Tryz.ntmps102
            go_wp2_with fail
            refine Hw.out.mono ?_
            rintro e w' ⟨rfl, rfl⟩
            go_wp2_with fail
            go_ret
            exact HP.out
    · rw [if_neg hp]
      have h0 : 0 ≤ place := by omega
      have h1 : place ≤ (at_ : Int) := by omega
      have h2 : (er == 0) = false := by simp; omega
      obtain ⟨k, rfl⟩ := Int.eq_ofNat_of_zero_le h0
      rw [Int.toNat_natCast]
      clear hp
      go_enter Tryz.func102, Tryz.ntmps102
      go_wp2_with fail
      refine Hw.out.mono ?_
      rintro e w' ⟨rfl, rfl⟩
      go_wp2_with fail
      go_ret
      obtain ⟨ho, h3, h4⟩ := H.out
      refine ⟨rfl, ⟨by simpa using (ho.store 1 (.int .i64 (k : Int))).store 2 (.int .i64 er), by omega, h4⟩, ⟨rfl, rfl, rfl, by simp [World.setCell], fun i hi hg _ => ?_⟩⟩
      rw [Below.heap_setCell _ _ _ _ hg, Below.heap_setCell _ _ _ _ hg]
  · rw [if_neg hw]
    have Hw := Lib.hid (wrong_yes g s at_ wr hw w h)
    have H := Lib.hid h
    have hb : (wr != 0) = true := by simpa using hw
    clear h hw
    go_enter Tryz.func102, Tryz.ntmps102
    go_wp2_with fail
    refine Hw.out.mono ?_
    rintro e w' ⟨rfl, n, rfl⟩
    go_wp2_with fail
    go_ret
    exact ⟨rfl, rd_drew H.out n, kp_below (drewN_below w n)⟩
end Go.Proofs.YteigglhhnemngaaGreatDoor
namespace Go.Proofs.YteigglhhnemngaaGreatDoor
set_option maxRecDepth 100000
open Go.ChangeShapes Go.WideShapes Go.RowKit Go.Deep
set_option linter.unusedVariables false
structure StepV where
  kind : Nat
  n : Nat
  x : Int
  s : ByteArray
  k : Int
instance : Inhabited StepV := ⟨⟨0, 0, 0, ⟨#[]⟩, 0⟩⟩
structure StepV.Ok (st : StepV) : Prop where
  kind : st.kind < 256
  n : st.n < 18446744073709551616
  x0 : -9223372036854775808 ≤ st.x
  x1 : st.x < 9223372036854775808
  s : st.s.size ≤ 9223372036854775807
  k0 : -9223372036854775808 ≤ st.k
  k1 : st.k < 9223372036854775808
def nth (L : List StepV) (i : Nat) : StepV := L.getD i default
structure StepAt (w : World) (p : Addr) (st : StepV) : Prop where
  c0 : w.cell? p = some (.int .u8 st.kind)
  c1 : w.cell? ⟨p.block, p.off + 1, none⟩ = some (.int .u64 st.n)
  c2 : w.cell? ⟨p.block, p.off + 2, none⟩ = some (.int .i64 st.x)
  c3 : w.cell? ⟨p.block, p.off + 3, none⟩ = some (.string st.s)
  c4 : w.cell? ⟨p.block, p.off + 4, none⟩ = some (.int .i64 st.k)
  ok : st.Ok
def Steps (w : World) (B : Nat) (A : Option Addr) (L : List StepV) : Prop := ∀ i, i < L.length → ∃ a, A = some a ∧ a.block < B ∧ StepAt w (a.add (i * 5)) (nth L i)
theorem add_block (a : Addr) (n : Nat) : (a.add n).block = a.block := by unfold Addr.add; split <;> rfl
theorem StepAt.below {w w' : World} {B : Nat} {p : Addr} {st : StepV} (h : StepAt w p st) (hb : Below B w w') (hp : p.block < B) : StepAt w' p st :=
  ⟨(hb.cell hp).trans h.c0, (hb.cell (p := ⟨p.block, _, none⟩) hp).trans h.c1, (hb.cell (p := ⟨p.block, _, none⟩) hp).trans h.c2, (hb.cell (p := ⟨p.block, _, none⟩) hp).trans h.c3, (hb.cell (p := ⟨p.block, _, none⟩) hp).trans h.c4, h.ok⟩
theorem Steps.below {w w' : World} {B : Nat} {A : Option Addr} {L : List StepV} (h : Steps w B A L) (hb : Below B w w') : Steps w' B A L := fun i hi => by
  obtain ⟨a, e, ha, hs⟩ := h i hi
  exact ⟨a, e, ha, hs.below hb (by rw [add_block]; exact ha)⟩
section
variable {H : Type} {enc : TypeId × Value → H} {w : World} {base : Nat} {spare : Nat → Bool} {held : Bool}
end
end Go.Proofs.YteigglhhnemngaaGreatDoor
namespace Go.Proofs.YteigglhhnemngaaGreatDoor
set_option maxRecDepth 100000
open Go.RowKit
set_option linter.unusedVariables false
def WPost (B g : Nat) (most : Int) (l : List UInt8) (er : Int) (w : World) (e : Ending) (w' : World) : Prop :=
  e = .returned (.int .i64 er) ∧ Wr w' B g most l ∧ Fr B g w w'
theorem wpost_of {B g : Nat} {most : Int} {l s : List UInt8} {v : Value} {w w' : World} {e : Ending} (hv : WrV w B g most l v) (h : RawPost B g most l v s w e w') : WPost B g most (rawL most l s) (rawE most l s) w e w' :=
  ⟨h.1, h.2.1, h.2.2.fr fun r hr => (hv.row_lt r hr).1⟩
theorem num_w (B g : Nat) (most : Int) (l : List UInt8) (n : Nat) (hn : n < 18446744073709551616) (w : World) (h : Wr w B g most l) (hB : B ≤ w.heap.size) (l' : List UInt8) (er : Int) (h1 : rawL most l (Vm.put n) = l') (h2 : rawE most l (Vm.put n) = er) :
    Calls Tryz.prog 24 #[.pointer (some ⟨g, 0, none⟩), .int .u64 n] w (WPost B g most l' er w) := by
  obtain ⟨v, hv⟩ := h
  subst h1; subst h2
  exact (num_any B g most l v n hn w hv hB).mono fun e w' hp => wpost_of hv hp
theorem text_w (B g : Nat) (most : Int) (l : List UInt8) (w : World) (h : Wr w B g most l) (s : ByteArray) (hs : bs l = s) :
    Calls Tryz.prog 28 #[.pointer (some ⟨g, 0, none⟩)] w fun e w' => e = .returned (.string s) ∧ w = w' := by
  obtain ⟨v, hv⟩ := h
  subst hs
  exact text_any B g most l v w hv
theorem wr_new (most : Int) (h0 : 0 ≤ most) (h1 : most ≤ 16777216) (w : World) : Wr (w.alloc (.cells #[.int .i64 most, .slice none 0 0] 92)) (w.heap.size + 1) w.heap.size most [] :=
  ⟨_, Obj.made _ _ _, World.ownsRow_nil _ _ _ _, h0, h1, by simpa using h0⟩
theorem rd_new (s : ByteArray) (hs : s.size ≤ 16777216) (w : World) : Rd (w.alloc (.cells #[.string s, .int .i64 0, .int .i64 0] 109)) w.heap.size s 0 0 :=
  ⟨Obj.made _ _ _, Nat.zero_le _, hs⟩
end Go.Proofs.YteigglhhnemngaaGreatDoor
namespace Go.Proofs.YteigglhhnemngaaGreatDoor
set_option maxRecDepth 100000
open Go.RowKit
set_option linter.unusedVariables false
def putS (n : Nat) : ByteArray := ⟨(Vm.put n).toArray⟩
theorem putS_size (n : Nat) : (putS n).size = (Vm.put n).length := by simp [putS, ByteArray.size]
theorem put_s (n : Nat) (hn : n < 18446744073709551616) (w : World) :
    Calls Tryz.prog 52 #[.int .u64 n] w fun e w' => e = .returned (.string (putS n)) ∧ Below w.heap.size w w' := put_any n hn w
end Go.Proofs.YteigglhhnemngaaGreatDoor
