/-
  CONTRACT OF strings.Clone: the same bytes, in new memory; what was there stays. Condition: texts of at most 2^48 bytes. (Off the library's contract of internal/stringslite.Clone.)
-/
import Derived.Shelf.LaysM
import Derived.Shelf.Strconv.Clone
import Derived.Test.YtianpbgnfdkpmaaVr
namespace Go.Proofs.Ytianpbgnfdkpmaa
open Go.RowKit Go.Shelf
def cloneRen : Ren := ⟨fun | 316 => 27 | n => n, fun | 0 => 0 | 3 => 3 | 4 => 4 | 5 => 5 | 9 => 9 | 37 => 27 | 127 => 51 | n => n, fun n => n⟩
theorem cloneLays : LaysM.n316 Try.prog cloneRen := by
  constructor
  · constructor
    all_goals first | kernel_rfl | exact fun _ => by kernel_rfl
  all_goals first | kernel_rfl | exact fun _ => by kernel_rfl
theorem lite_clone (s : ByteArray) (w : World) (hs : s.size ≤ 281474976710656) :
    Calls Try.prog 27 #[.string s] w fun e w' => e = .returned (.string s) ∧ Below w.heap.size w w' := Any.stringslite_Clone cloneLays s w hs
theorem clone_any (s : ByteArray) (w : World) (hs : s.size ≤ 281474976710656) :
    Calls Try.prog 24 #[.string s] w fun e w' => e = .returned (.string s) ∧ Below w.heap.size w w' := by
  go_enter Try.func24, Try.ntmps24
  go_wp2_with fail
  refine (lite_clone s _ hs).mono ?_
  rintro e w' ⟨rfl, hb⟩
  go_wp2_with fail
  go_ret
  exact ⟨rfl, hb⟩
end Go.Proofs.Ytianpbgnfdkpmaa
