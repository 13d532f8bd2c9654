/-
  WHAT Unwrap ANSWERS OF ANY BYTES: package frame's and the document's answers are the same; refused at a place within them, or at their end; what it tells, wrapped anew, are the bytes. Condition: texts of at most 2^24 bytes.
-/
import Derived.Test.YtianpbgnfdkpmaaFs
import Derived.Test.YtianpbgnfdkpmaaFx
namespace Go.Proofs.Ytianpbgnfdkpmaa
open Go.RowKit
set_option linter.unusedVariables false

theorem get_cases (s : ByteArray) : (∃ e, e ≠ 0 ∧ Vm.get (bytes s) = (0, 0, e)) ∨ ∃ n size, Vm.get (bytes s) = (n, size, 0) ∧ size ≤ 10 ∧ size ≤ s.size ∧ n < 18446744073709551616 ∧ Vm.put n = (bytes s).take size := by
  rcases Vm.get_shape (bytes s) 0 0 (by omega) with (e | e | e) | ⟨n, size, e, s1, s2, s3, s4, s5, s6⟩
  · exact .inl ⟨8, by decide, e⟩
  · exact .inl ⟨20, by decide, e⟩
  · exact .inl ⟨11, by decide, e⟩
  · refine .inr ⟨n, size, by rw [Vm.get, e]; simp, by omega, by rw [← bytes_length]; exact s2, by simpa using s5, s6 10 (by omega)⟩

theorem frame_of (s : ByteArray) (n size : Nat) (hn : n < 18446744073709551616) (hl : s.size = size + n + 4) (hp : Vm.put n = (bytes s).take size)
    (hf : bytes (s.extract (size + n) s.size) = bytes (footS (Fm.sum (nats (s.extract 0 (size + n)))))) : frameS (s.extract size (size + n)) = s := by
  have hz : (s.extract size (size + n)).size = n := by rw [ByteArray.size_extract]; omega
  have h1 : numS n ++ s.extract size (size + n) = s.extract 0 (size + n) := by
    apply bytes_inj
    rw [bytes_append, bytes_numS, hp, bytes_extract, bytes_extract, List.drop_zero]
    have : (bytes s).take size = ((bytes s).take (size + n)).take size := by rw [List.take_take, Nat.min_eq_left (by omega)]
    rw [this, List.take_append_drop]
  apply bytes_inj
  rw [frameS, hz, h1, bytes_append, ← hf, bytes_extract, bytes_extract, List.drop_zero, ← bytes_length s, List.take_length, List.take_append_drop]

theorem told_any (s : ByteArray) (h : s.size ≤ 16777216) : ∃ t place e, UnwIs s t place e ∧ RUnwIs s t place e ∧ Told s t place e := by
  rcases get_cases s with ⟨e, he, hg⟩ | ⟨n, size, hg, hz, hs, hn, hp⟩
  · exact ⟨_, _, _, u_bad s e he h hg, r_bad s e he h hg, .inl ⟨he, rfl, by omega⟩⟩
  · by_cases h1 : 16777216 < n
    · exact ⟨_, _, _, u_range s n size h h1 hg, r_range s n size h h1 hg, .inl ⟨by decide, rfl, by omega⟩⟩
    · by_cases h2 : s.size < size + n + 4
      · exact ⟨_, _, _, u_short s n size h (by omega) hz h2 hg, r_short s n size h (by omega) hz h2 hg, .inl ⟨by decide, rfl, by omega⟩⟩
      · by_cases h3 : size + n + 4 < s.size
        · exact ⟨_, _, _, u_long s n size h (by omega) hz h3 hg, r_long s n size h (by omega) hz h3 hg, .inl ⟨by decide, rfl, by omega⟩⟩
        · by_cases h4 : bytes (s.extract (size + n) s.size) = bytes (footS (Fm.sum (nats (s.extract 0 (size + n)))))
          · exact ⟨_, _, _, u_ok s n size h hz (by omega) hg (by rw [test_bytes, decide_eq_true h4]), r_ok s n size h hz (by omega) hg (by rw [test_bytes, decide_eq_true h4]), .inr ⟨rfl, rfl, frame_of s n size hn (by omega) hp h4⟩⟩
          · exact ⟨_, _, _, u_sum s n size h hz (by omega) hg (by rw [test_bytes, decide_eq_false h4]), r_sum s n size h hz (by omega) hg (by rw [test_bytes, decide_eq_false h4]), .inl ⟨by decide, rfl, by omega⟩⟩
end Go.Proofs.Ytianpbgnfdkpmaa
