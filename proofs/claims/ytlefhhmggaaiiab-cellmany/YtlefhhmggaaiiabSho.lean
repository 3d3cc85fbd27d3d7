/-
  The contract of a law's helper that takes the first bytes, over the translated program.
-/
import Derived.Test.YtlefhhmggaaiiabRows
import Derived.Test.YtlefhhmggaaiiabBas
namespace Go.Proofs.Ytlefhhmggaaiiab
open Go.RowKit

end Go.Proofs.Ytlefhhmggaaiiab
