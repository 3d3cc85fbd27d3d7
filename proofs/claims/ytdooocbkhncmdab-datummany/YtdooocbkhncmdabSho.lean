/-
  The contract of a law's helper that takes the first bytes, over the translated program.
-/
import Derived.Test.YtdooocbkhncmdabRows
import Derived.Test.YtdooocbkhncmdabBas
namespace Go.Proofs.Ytdooocbkhncmdab
open Go.RowKit

end Go.Proofs.Ytdooocbkhncmdab
