/-
  Proved here: CacheTrue's body says true. No condition.
-/
import Derived.Test.YtpmdgockiblkaaaWTa
import Derived.Test.YtpmdgockiblkaaaWTb
import Derived.Test.YtpmdgockiblkaaaWTc
namespace Go.Proofs.Ytpmdgockiblkaaa
open Go.RowKit

theorem true_any (w : World) (v : Value) (size : Int) (l : List Ac) (hs : (Lit.int .i64 size).wf = true) (hl : Lst (fun b => b < w.heap.size) 13 RAc w v l) : Calls Try.prog 5 #[.int .i64 size, v] w fun e w' => e = .returned (.bool true) ∧ Below w.heap.size w w' := by
  by_cases h1 : size ≤ 0
  · exact true_a w v size l hs hl h1
  · by_cases h2 : 1024 < size
    · exact true_c w v size l hs hl h2
    · exact true_b w v size l hs hl (by omega) (by omega)
end Go.Proofs.Ytpmdgockiblkaaa
