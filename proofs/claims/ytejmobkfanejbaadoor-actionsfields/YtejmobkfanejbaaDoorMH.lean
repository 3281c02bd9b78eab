/-
  Plain: which headers a match hits. No program is spoken of.
-/
import Derived.Test.YtejmobkfanejbaaDoorM2
namespace Go.Proofs.YtejmobkfanejbaaDoor
open Go.RowKit

def miss (m h : Nat → Int) (k : Nat) : Bool := bits .and .u64 (h k) (m (11 + k)) != m k
def hit (m h : Nat → Int) : Bool := mOk m && allU (fun k => !miss m h k) 11
end Go.Proofs.YtejmobkfanejbaaDoor
