/-
  FRAMES AS BYTES: what a frame's parts are, what Unwrap answers of a frame, of one cut or with a byte more, and of any bytes; what it tells, wrapped anew, are the bytes. Conditions: frames of at most 2^24 bytes.
-/
import Derived.Test.YtpgkhodofhnpnaaDoorFu
namespace Go.Proofs.YtpgkhodofhnpnaaDoor
set_option maxRecDepth 100000
open Go.RowKit
set_option linter.unusedVariables false

theorem bytes_append (a b : ByteArray) : bytes (a ++ b) = bytes a ++ bytes b := by simp [bytes, ByteArray.data_append]
theorem bytes_numS (n : Nat) : bytes (numS n) = Vm.put n := by simp [bytes, numS]
theorem bytes_inj {a b : ByteArray} (h : bytes a = bytes b) : a = b := by
  apply ByteArray.ext
  apply Array.toList_inj.1
  exact h
theorem bytes_length (a : ByteArray) : (bytes a).length = a.size := by simp [bytes]
theorem bytes_extract (a : ByteArray) (i j : Nat) : bytes (a.extract i j) = ((bytes a).take j).drop i := by
  rw [bytes, Lib.extract_data, bytes, List.drop_take]
theorem nats_bytes (a : ByteArray) : nats a = (bytes a).map (·.toNat) := rfl
theorem toList_bytes (a : ByteArray) : a.toList = bytes a := ByteArray.toList_eq ..
theorem test_bytes (a b : ByteArray) : (a.toList == b.toList) = decide (bytes a = bytes b) := by
  rw [toList_bytes, toList_bytes]
  by_cases h : bytes a = bytes b <;> simp [h]

/-- Of any text that begins by a number's bytes, with so many behind. -/
theorem get_frame (n : Nat) (hn : n < 18446744073709551616) (r : List UInt8) (s : ByteArray) (h : bytes s = Vm.put n ++ r) : Vm.get (bytes s) = (n, (numS n).size, 0) := by
  rw [h, Vm.get_put' n hn, numS_size]
theorem numS_le (n : Nat) : 1 ≤ (numS n).size ∧ (numS n).size ≤ 10 := by rw [numS_size]; exact Vm.put_len n

section
variable (b : ByteArray)
theorem frame_bytes : bytes (frameS b) = Vm.put b.size ++ (bytes b ++ bytes (footS (Fm.sum (nats (numS b.size ++ b))))) := by
  rw [frameS, bytes_append, bytes_append, bytes_numS, List.append_assoc]
theorem frame_size : (frameS b).size = (numS b.size).size + b.size + 4 := by
  rw [frameS, ByteArray.size_append, ByteArray.size_append, footS_size]
end

/-- A text of a number's bytes, that many bytes, and four more. -/
theorem opened (n : Nat) (hn : n < 18446744073709551616) (m f : List UInt8) (hm : m.length = n) (hf : f.length = 4) (s : ByteArray) (h : bytes s = Vm.put n ++ (m ++ f)) :
    s.size = (numS n).size + n + 4 ∧ bytes (s.extract ((numS n).size + n) s.size) = f ∧ bytes (s.extract 0 ((numS n).size + n)) = Vm.put n ++ m ∧ bytes (s.extract (numS n).size ((numS n).size + n)) = m := by
  have hz := numS_size n
  have hs : s.size = (numS n).size + n + 4 := by
    rw [← bytes_length, h, List.length_append, List.length_append, hm, hf, hz]
    omega
  refine ⟨hs, ?_, ?_, ?_⟩
  · rw [bytes_extract, ← bytes_length s, List.take_length, h, ← List.append_assoc, List.drop_left' (by rw [List.length_append, hm, hz])]
  · rw [bytes_extract, List.drop_zero, h, ← List.append_assoc, List.take_left' (by rw [List.length_append, hm, hz])]
  · rw [bytes_extract, h, ← List.append_assoc, List.take_left' (by rw [List.length_append, hm, hz]), List.drop_left' (by rw [hz])]

/-- What Unwrap answers of a frame. -/
theorem frame_back (b : ByteArray) (h : (frameS b).size ≤ 16777216) : UnwIs (frameS b) b 0 0 := by
  have hz := numS_le b.size
  have he := frame_size b
  obtain ⟨e1, e2, e3, e4⟩ := opened b.size (by omega) (bytes b) _ (bytes_length b) (by rw [bytes_length, footS_size]) (frameS b) (frame_bytes b)
  have e5 : (frameS b).extract 0 ((numS b.size).size + b.size) = numS b.size ++ b := bytes_inj (by rw [e3, bytes_append, bytes_numS])
  have e6 : (frameS b).extract (numS b.size).size ((numS b.size).size + b.size) = b := bytes_inj e4
  have := u_ok (frameS b) b.size (numS b.size).size h hz.2 e1 (get_frame b.size (by omega) _ _ (frame_bytes b)) (by rw [test_bytes, e2, e5]; simp)
  rwa [e6] at this
/-- Without its last byte. -/
theorem frame_cut (b t : ByteArray) (h : (frameS b).size ≤ 16777216) (ht : bytes t = (bytes (frameS b)).dropLast) : UnwIs t ⟨#[]⟩ t.size 8 := by
  have hz := numS_le b.size
  have he := frame_size b
  have hs : t.size = (frameS b).size - 1 := by rw [← bytes_length, ht, List.length_dropLast, bytes_length]
  refine u_short t b.size (numS b.size).size (by omega) (by omega) hz.2 (by omega) ?_
  have e : bytes t = Vm.put b.size ++ (bytes b ++ bytes (footS (Fm.sum (nats (numS b.size ++ b))))).dropLast := by
    rw [ht, frame_bytes, List.dropLast_append_of_ne_nil]
    intro hc
    have := congrArg List.length hc
    simp [bytes_length, footS_size] at this
  exact get_frame b.size (by omega) _ t e
/-- With a byte more. -/
theorem frame_more (b t : ByteArray) (x : UInt8) (h : (frameS b).size < 16777216) (ht : bytes t = bytes (frameS b) ++ [x]) : UnwIs t ⟨#[]⟩ (frameS b).size 10 := by
  have hz := numS_le b.size
  have he := frame_size b
  have hs : t.size = (frameS b).size + 1 := by rw [← bytes_length, ht, List.length_append, bytes_length]; rfl
  have := u_long t b.size (numS b.size).size (by omega) (by omega) hz.2 (by omega) (get_frame b.size (by omega) _ t (by rw [ht, frame_bytes, List.append_assoc]))
  rwa [← he] at this

/-- Of any bytes. -/
def ToldF (s t : ByteArray) (place e : Nat) : Prop := (e ≠ 0 ∧ t = ⟨#[]⟩ ∧ place ≤ s.size) ∨ (e = 0 ∧ place = 0 ∧ frameS t = s)
end Go.Proofs.YtpgkhodofhnpnaaDoor
