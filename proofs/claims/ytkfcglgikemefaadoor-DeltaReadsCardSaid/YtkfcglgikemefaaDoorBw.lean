/-
  CONTRACTS OF A WRITER (layer 2): NewWriter, Raw, Byte, Num, Int, Len, Text: what each answers, what it has then, and that all else in memory is as it was. Conditions: a writer whose slice lies from block B on; integers within their kinds.
-/
import Derived.Test.YtkfcglgikemefaaDoorBm
import Derived.Deep.QuietTactic
import Derived.BigQuiet
import Derived.Laws.BytesArg
namespace Go.Proofs.YtkfcglgikemefaaDoor
set_option maxRecDepth 100000
open Go.RowKit
set_option linter.unusedVariables false

theorem u8_info : (Tryd.prog.info? 5).map (fun i => (i.zero, i.size, i.bytes)) = some (some (.int .u8 0), 1, 1) := by kernel_rfl

theorem new_writer (most : Int) (h0 : 0 ≤ most) (h1 : most ≤ 16777216) (w : World) :
    Calls Tryd.prog 11 #[.int .i64 most] w fun e w' => e = .returned (.tuple #[.pointer (some ⟨w.heap.size, 0, none⟩), .int .i64 0]) ∧ w' = w.alloc (.cells #[.int .i64 most, .slice none 0 0] 85) := by
  go_enter Tryd.func11, Tryd.ntmps11
  go_wp2
  go_ret2
  exact ⟨rfl, rfl⟩
theorem new_writer_bad (most : Int) (h0 : most < 0 ∨ 16777216 < most) (w : World) :
    Calls Tryd.prog 11 #[.int .i64 most] w fun e w' => e = .returned (.tuple #[.pointer none, .int .i64 1]) ∧ w = w' := by
  rcases h0 with h0 | h0
  all_goals
    go_enter Tryd.func11, Tryd.ntmps11
    go_wp2
    go_ret2
    exact ⟨rfl, rfl⟩

set_option maxRecDepth 100000 in
theorem raw_no (B g : Nat) (most : Int) (l : List UInt8) (v : Value) (s : ByteArray) (w : World) (h : WrV w B g most l v) (hn : most - (l.length : Int) < s.size) (hs : s.size ≤ 9223372036854775807) :
    Calls Tryd.prog 34 #[.pointer (some ⟨g, 0, none⟩), .string s] w fun e w' => e = .returned (.int .i64 40) ∧ ∃ n, w' = w.drewN n := by
  obtain ⟨A, c, rfl⟩ := h.form
  obtain ⟨ho, _, m0, m1, hl⟩ := h
  have c0 := ho.cell 0
  have c1 := ho.cell 1
  simp at c0 c1
  clear ho
  go_enter Tryd.func34, Tryd.ntmps34
  go_wp2_with fail
  go_quiet (fail)
  go_wp2_with fail
  go_ret
  exact ⟨rfl, _, rfl⟩

theorem drewN_below (w : World) (n : Nat) : Below w.heap.size w (w.drewN n) := ⟨rfl, rfl, rfl, Nat.le_refl _, fun _ _ => rfl⟩
theorem drewN_wr {w : World} {B g : Nat} {most : Int} {l : List UInt8} {v : Value} (h : WrV w B g most l v) (n : Nat) : WrV (w.drewN n) B g most l v := h

theorem own_form {w : World} {base : Nat} {e : TypeId} {size n : Nat} {v : Value} {xs : List Value} (h : w.ownsRow base e size v n xs) : ∃ A m c, v = .slice A m c := by
  rcases h.2 with ⟨rfl, _⟩ | ⟨r, cap, cur, rfl, _⟩
  · exact ⟨none, 0, 0, rfl⟩
  · exact ⟨_, _, _, rfl⟩
theorem raw_stored {B g : Nat} {most : Int} {l : List UInt8} {v v' : Value} {s : ByteArray} {w w1 : World} (h : WrV w B g most l v) (hf : (l.length : Int) + s.size ≤ most)
    (h1 : w1.ownsRow B 5 1 v' (l.length + s.size) (bcells l ++ Lib.strCells s)) (h2 : w.grownBy w1 v.ownBlock) :
    Wr (w1.setCell ⟨g, 1, none⟩ v') B g most (l ++ s.data.toList) ∧ Kp g v.ownBlock w (w1.setCell ⟨g, 1, none⟩ v') := by
  have hne := h.1.unlike_row h.2.1 (by decide)
  have ho : Obj w1 g 85 #[.int .i64 most, v] := h.1.same (h2.block g h.1.lt (fun e => hne e.symm))
  have hne' := ho.unlike_row h1 (by decide)
  rw [bcells_append] at h1
  have e : (l ++ s.data.toList).length = l.length + s.size := by rw [List.length_append, Array.length_toList]; rfl
  refine ⟨⟨v', ho.store 1 v', ?_, h.2.2.1, h.2.2.2.1, by rw [e]; omega⟩, ⟨h2.os, h2.tape, h2.output, by simpa [World.setCell] using h2.size, fun i hi hg hr => ?_⟩⟩
  · rw [e]
    exact ownsRow_setCell_other h1 hne' v'
  · rw [Below.heap_setCell _ _ _ _ hg]
    exact h2.block i hi hr

set_option maxRecDepth 100000 in
theorem raw_yes (B g : Nat) (most : Int) (l : List UInt8) (v : Value) (s : ByteArray) (w : World) (h : WrV w B g most l v) (hB : B ≤ w.heap.size) (hf : (l.length : Int) + s.size ≤ most) :
    Calls Tryd.prog 34 #[.pointer (some ⟨g, 0, none⟩), .string s] w fun e w' => e = .returned (.int .i64 0) ∧ Wr w' B g most (l ++ s.data.toList) ∧ Kp g v.ownBlock w w' := by
  have hst := fun n v' w1 h1 h2 => raw_stored (v' := v') (w1 := w1) (drewN_wr h n) hf h1 h2
  have hown := h.2.1
  have hne := h.1.unlike_row hown (by decide)
  obtain ⟨i0, hi, hz0, hz1, hz2⟩ := info_parts u8_info
  obtain ⟨A, c, rfl⟩ := h.form
  obtain ⟨ho, _, m0, m1, hl⟩ := h
  have c0 := ho.cell 0
  have c1 := ho.cell 1
  simp at c0 c1
  have hcell : ∀ n w1, (w.drewN n).grownBy w1 (Value.slice A l.length c).ownBlock → w1.cell? ⟨g, 1, none⟩ = some (.slice A l.length c) ∧ w1.frozen? ⟨g, 1, none⟩ = false := fun n w1 h2 => by
    have o1 : Obj w1 g 85 #[.int .i64 most, .slice A l.length c] := ho.same (h2.block g ho.lt (fun e => hne e.symm))
    exact ⟨by simpa using o1.cell 1, o1.free 1⟩
  have Hcell := Lib.hid hcell
  have Hst := Lib.hid hst
  clear hst hcell ho hne
  have hs1 : (s.size : Int) ≤ most - (l.length : Int) := by omega
  have b1 : l.length + s.size ≤ 16777216 := by omega
  go_enter Tryd.func34, Tryd.ntmps34
  go_wp2_with fail
  go_quiet (fail)
  go_wp2_with (at_builtin; refine Lib.wpList_append_own_string _ rfl (.tmp 24) (.tmp 25) 83 9 rfl B 5 i0 Tryd.underlying83 Tryd.underlying9 hi hz0 hz1 hz2 (.slice A l.length c) l.length (bcells l) rfl hown s rfl ?c1 ?c2 ?c3 ?c4)
  case c1 => unfold maxLen; omega
  case c2 => omega
  case c3 => exact hB
  case c4 =>
    intro v' w1 h1 h2 h3
    clear h3
    obtain ⟨A', n', c', rfl⟩ := own_form h1
    have hc := (Hcell.out _ _ h2).1
    have hf2 := (Hcell.out _ _ h2).2
    have P := Lib.hid (Hst.out _ _ _ h1 h2)
    clear h1 h2
    go_wp2_with fail
    go_ret
    exact ⟨rfl, P.out.1, Kp.of_below (drewN_below _ _) P.out.2⟩

/-- A text out of bytes. -/
def bs (l : List UInt8) : ByteArray := ⟨l.toArray⟩
theorem bs_bytes (l : List UInt8) : (bs l).data.toList = l := rfl
theorem bs_size (l : List UInt8) : (bs l).size = l.length := by simp [bs, ByteArray.size]
theorem bs_of (s : ByteArray) : bs s.data.toList = s := rfl

theorem raw_any (B g : Nat) (most : Int) (l : List UInt8) (v : Value) (s : ByteArray) (w : World) (h : WrV w B g most l v) (hB : B ≤ w.heap.size) (hs : s.size ≤ 9223372036854775807) :
    Calls Tryd.prog 34 #[.pointer (some ⟨g, 0, none⟩), .string s] w (RawPost B g most l v s.data.toList w) := by
  have hz : s.data.toList.length = s.size := by rw [Array.length_toList]; rfl
  by_cases hf : (l.length : Int) + s.size ≤ most
  · refine (raw_yes B g most l v s w h hB hf).mono fun e w' ⟨he, h1, h2⟩ => ⟨?_, ?_, h2⟩
    · rw [he, rawE, hz, if_pos hf]
    · rw [rawL, hz, if_pos hf]; exact h1
  · refine (raw_no B g most l v s w h (by omega) hs).mono fun e w' ⟨he, n, hn⟩ => ⟨?_, ?_, ?_⟩
    · rw [he, rawE, hz, if_neg hf]
    · rw [rawL, hz, if_neg hf, hn]
      exact ⟨v, drewN_wr h n⟩
    · rw [hn]
      exact kp_below (drewN_below w n)

theorem text_conv {w : World} {B g : Nat} {most : Int} {l : List UInt8} {A : Option Addr} {c : Nat} (h : WrV w B g most l (.slice A l.length c)) :
    (convert 83 9 (.slice A l.length c)).run Tryd.prog w = .ok (.string (bs l)) w := by
  rcases h.2.1.2 with ⟨hv, h0⟩ | ⟨r, cap, cur, hv, _⟩
  · injection hv with ha hl hc
    subst ha
    have : l = [] := List.eq_nil_of_length_eq_zero h0
    subst this
    exact run_convert_bytes_nil (P := Tryd.prog) (w := w) 83 5 u_bytes u_byte _ _ 9 u_string
  · injection hv with ha hl hc
    subst ha
    refine run_convert_bytes_back (P := Tryd.prog) w 83 9 5 _ c l u_bytes u_byte u_string (fun j hj => ?_)
    exact h.2.1.cells (g := r) rfl j _ (by simp [bcells, hj])
theorem text_any (B g : Nat) (most : Int) (l : List UInt8) (v : Value) (w : World) (h : WrV w B g most l v) :
    Calls Tryd.prog 17 #[.pointer (some ⟨g, 0, none⟩)] w fun e w' => e = .returned (.string (bs l)) ∧ w = w' := by
  obtain ⟨A, c, rfl⟩ := h.form
  have c1 := h.1.cell 1
  simp at c1
  have hcv := text_conv h
  clear h
  go_enter Tryd.func17, Tryd.ntmps17
  go_wp2_with fail
  go_ret
  exact ⟨rfl, rfl⟩
end Go.Proofs.YtkfcglgikemefaaDoor
