/-
  Contracts of sheet.Must; what every law of package sheet begins with.
-/
import Derived.Test.YtiggannhanfolaaShtF
import Derived.Lib.SlBytesConst
namespace Go.Proofs.Ytiggannhanfolaa
set_option maxRecDepth 100000
set_option linter.unusedVariables false
open Go.RowKit
set_option linter.unusedVariables false

/-- A new book's cells. -/
def bkz (bad : Int) : List Value := List.replicate 96 (.slice none 0 0) ++ [.int .i64 bad]
theorem bkz_len (bad : Int) : (bkz bad).length = 97 := by rw [bkz, List.length_append, List.length_replicate]; rfl
theorem bkz_at (bad : Int) {i : Nat} (h : i < 96) : (bkz bad).getD i undef = .slice none 0 0 := by
  rw [bkz]
  generalize hN : (96 : Nat) = N at *
  simp [List.getD, List.getElem?_append_left, h]
theorem bkz_bad (bad : Int) : (bkz bad).getD 96 undef = .int .i64 bad := rfl
theorem run_buildB (W : World) : (Instr.build 28 #[]).run Try.prog W = .ok (.agg (bkz 0).toArray) W := by kernel_rfl
theorem run_buildBad (bad : Int) (W : World) : (Instr.build 28 #[(1, .int .i64 bad)]).run Try.prog W = .ok (.agg (bkz bad).toArray) W := by kernel_rfl

theorem Book.new (w : World) (bad : Int) : Book (w.alloc (.cells (bkz bad).toArray 28)) w.heap.size bad (fun _ => none) (bkz bad) :=
  ⟨Tb.new _ _ _, bkz_len bad, bkz_bad bad, fun i hi => .inl ⟨rfl, bkz_at bad hi⟩⟩

theorem below_alloc (w : World) (o : Obj) : Below w.heap.size w (w.alloc o) := (Below.refl _ _).alloc (Nat.le_refl _) _

/-- '&Book{}'. -/
theorem wpList_build0T {w : World} {ops : Array Oper} {rest : List Oper} {o : Oper} {a : Act} {Q : Exit → Act → World → Prop} (ty : TypeId) (vs : List Value) (hg : o.guard = none) (hop : o.op = Op.build ty #[])
    (hr : (Instr.build ty #[]).run Try.prog w = .ok (.agg vs.toArray) w)
    (hK : wpList Try.prog ops Q rest (a.put o.dst (.agg vs.toArray)) w) : wpList Try.prog ops Q (o :: rest) a w := by
  refine wpList_plain hg fun K' hK' => ?_
  have he : (execOp a.eval o).run Try.prog w = .ok (.value (.agg vs.toArray)) w := by
    simp only [execOp, hop, Sem.run_bind, List.map_toArray, List.map_nil, hr, Result.andThen_ok]
    rfl
  unfold Oper.wp
  rw [he]
  exact hK' _ _ hK

theorem cell_blkF {w : World} {b k : Nat} {c : Array Value} {t : TypeId} {v : Value} {fr : Nat × Nat} (h : w.heap[b]? = some (.cells c t fr)) (hk : c[k]? = some v) : w.cell? ⟨b, k, none⟩ = some v := by simp [World.cell?, h, hk]

/-- Bytes that are written out. -/
theorem lit_sl (w : World) (t : TypeId) (fr : Nat × Nat) {zs : List Int} (hz : ∀ z ∈ zs, 0 ≤ z ∧ z ≤ 255) (hl : zs.length ≤ 1000) : Sl (w.alloc (.cells (bv zs).toArray t fr)) (.slice (some ⟨w.heap.size, 0, none⟩) zs.length zs.length) zs := by
  refine ⟨_, zs.length, rfl, Nat.le_refl _, by unfold maxLen; omega, hz, fun i hi => ⟨_, _, rfl, ?_⟩⟩
  exact cell_blkF (heap_alloc_new w _) (by simp [bv, List.getD, List.getElem?_eq_getElem hi])

/-- The first byte of a row of bytes. -/
theorem own_first {w : World} {base : Nat} {v : Value} {zs : List Int} (h : w.ownsRow base 5 1 v 256 (bv zs)) : ∃ b c, v = .slice (some ⟨b, 0, none⟩) 256 c ∧ base ≤ b ∧ 256 ≤ c ∧ c ≤ 9223372036854775807 ∧ ∀ i, i < 256 → w.cell? ⟨b, i, none⟩ = some (.int .u8 (zs.getD i 0)) := by
  have hl := h.1
  rw [bv_len] at hl
  rcases h.2 with ⟨-, h0⟩ | ⟨g, cap, cur, rfl, hb, hh, h1, h2, h3, h4⟩
  · omega
  · refine ⟨g, cap, rfl, hb, h1, by unfold maxLen at h2; omega, fun i hi => ?_⟩
    have := h.cellAt i (by omega)
    rw [this]
    simp [bv, List.getD, List.getElem?_eq_getElem (show i < zs.length by omega)]
end Go.Proofs.Ytiggannhanfolaa
