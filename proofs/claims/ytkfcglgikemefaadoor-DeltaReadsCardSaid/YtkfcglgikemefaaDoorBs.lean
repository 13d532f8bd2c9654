/-
  CONTRACT OF strings.Clone: the same bytes, in new memory; what was there stays. Condition: texts of at most 2^48 bytes. (Off the library's contract of internal/stringslite.Clone.)
-/
import Derived.Shelf.LaysM
import Derived.Shelf.Strconv.Clone
import Derived.Test.YtkfcglgikemefaaDoorVr
namespace Go.Proofs.YtkfcglgikemefaaDoor
set_option maxRecDepth 100000
open Go.RowKit Go.Shelf
end Go.Proofs.YtkfcglgikemefaaDoor
