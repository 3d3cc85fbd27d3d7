/-
  What the program's table says of a byte.
-/
import Derived.Test.YtiaicpdbobgkoaaDoorRows
namespace Go.Proofs.YtiaicpdbobgkoaaDoor

theorem Tryd.info5 : (Tryd.prog.info? 5).map (fun i => (i.zero, i.size, i.bytes)) = some (some (.int .u8 0), 1, 1) := by kernel_rfl
end Go.Proofs.YtiaicpdbobgkoaaDoor
