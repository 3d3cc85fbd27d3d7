/-
  What the rows of the laws of package crc list: the table of four bits, as it lies in memory; a world that holds it.
-/
import Derived.Test.YtiaicpdbobgkoaaDoorCrcW
import Derived.Deep.DeepHandedRow
import Derived.Lib.LaidTab
import Derived.ProofKit
namespace Go.Proofs.YtiaicpdbobgkoaaDoor
open Go.ChangeShapes Go.WideShapes Go.ChangeAt Go.RowKit

theorem gTab : Tryd.prog.globalNamed "engross/crc.half" = some 0 := by kernel_rfl
theorem gTabType : (Tryd.prog.globals[0]?).map (·.type) = some 94 := by kernel_rfl
theorem cellsTab : Tryd.prog.cellsOf 94 = 16 := by kernel_rfl
theorem cellsTabE : Tryd.prog.cellsOf 76 = 1 := by kernel_rfl

theorem tab_laid {W : World} (h : laidMetH Tryd.prog [("engross/crc.half", Rows.laid_engross_crc_half)] W) : Tab W := by
  have ht : Lib.TabIs Tryd.prog W "engross/crc.half" .u32 Cr.tab :=
    Lib.tabIs_of_head (rest := []) gTab gTabType Tryd.underlying94 Tryd.underlying76 cellsTabE cellsTab h
  exact fun k hk => ht.cell gTab k hk

/-- A world for the witness: the settled one, the table holding what its initialiser lays. -/
noncomputable def laidWorld (os : Os) : World :=
  { World.holding Tryd.prog os ⟨#[], #[], []⟩ with heap := (World.holding Tryd.prog os ⟨#[], #[], []⟩).heap.modify 0 fun
      | .cells _ t frozen => .cells (Cr.tab.map (Value.int .u32)).toArray t frozen
      | o => o }
end Go.Proofs.YtiaicpdbobgkoaaDoor
