/-
  '[]byte(s)' of a text: what it makes, and that nothing old turns.
-/
import Derived.Test.YtiaicpdbobgkoaaDoorRows
import Derived.Test.YtiaicpdbobgkoaaDoorBas
import Derived.Lib.ConvBytes
namespace Go.Proofs.YtiaicpdbobgkoaaDoor
open Go.RowKit

theorem conv_sl (w : World) (s : ByteArray) (h : s.size ≤ 9223372036854775807) : Sl (Lib.bytesWorld w 5 s) (.slice (some ⟨w.heap.size, 0, none⟩) s.size (grownCap w s.size 0 5)) (sb s) := by
  refine ⟨_, _, by rw [sb_len], by rw [sb_len]; exact grownCap_ge _ _ _ _, grownCap_le_maxLen _ _ _ _ (by unfold maxLen; omega), sb_bd s, fun i hi => ⟨w.heap.size, 0, rfl, ?_⟩⟩
  rw [sb_len] at hi
  rw [Nat.zero_add, Lib.bytesWorld_cell w _ s i hi, getD_at (by rw [sb_len]; exact hi)]
  have hd : i < s.data.size := hi
  simp [sb, List.getD, Array.getElem?_eq_getElem hd]
theorem conv_below (w : World) (s : ByteArray) : Below w.heap.size w (Lib.bytesWorld w 5 s) := by
  refine ⟨?_, ?_, ?_, by rw [Lib.bytesWorld_size]; omega, fun k hk => Lib.bytesWorld_at_old w _ s k hk⟩
  all_goals
    unfold Lib.bytesWorld World.freeze
    split <;> rfl

theorem str_size (zs : List Int) : (strOfNums zs).size = zs.length := by simp [strOfNums, ByteArray.size]

/-- Of a text that is told by its bytes. -/
theorem conv_text (w : World) (zs : List Int) (hz : ∀ z ∈ zs, 0 ≤ z ∧ z ≤ 255) (hl : zs.length ≤ 1000000) : Sl (Lib.bytesWorld w 5 (strOfNums zs)) (.slice (some ⟨w.heap.size, 0, none⟩) (strOfNums zs).size (grownCap w (strOfNums zs).size 0 5)) zs := by
  have := conv_sl w (strOfNums zs) (by rw [str_size]; omega)
  rw [sb_nums zs hz] at this
  exact this
end Go.Proofs.YtiaicpdbobgkoaaDoor
