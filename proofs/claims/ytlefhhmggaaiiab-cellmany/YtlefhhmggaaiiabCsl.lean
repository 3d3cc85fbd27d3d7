/-
  Laws of the walk at 'b[l:]' and 'b[:h]' of bytes: one way, whatever the slice.
-/
import Derived.Test.YtlefhhmggaaiiabBas
import Derived.Test.YtlefhhmggaaiiabInf
import Derived.Test.YtlefhhmggaaiiabRows
namespace Go.Proofs.Ytlefhhmggaaiiab
open Go.RowKit

theorem elem_u8 : Try.prog.underlying 24 = some (.slice (Try.prog.elem 24)) := by kernel_rfl
theorem size_u8 (W : World) : (sizeOf (Try.prog.elem 24)).run Try.prog W = .ok 1 W := by
  have : (Try.prog.info? (Try.prog.elem 24)).map (·.size) = some 1 := by kernel_rfl
  cases hq : Try.prog.info? (Try.prog.elem 24) with
  | none => simp [hq] at this
  | some i =>
    simp [hq] at this
    simp [sizeOf, typeInfo, hq, this]

theorem Sl.cut_l {w : World} {v : Value} {zs : List Int} (h : Sl w v zs) {l : Int} (h0 : 0 ≤ l) (h1 : l ≤ zs.length) :
    ∃ V, (∀ W, (Instr.sliceAt 24 v (some (.int .i64 l)) none none).run Try.prog W = .ok V W) ∧ Sl w V (zs.drop l.toNat) := by
  obtain ⟨a, n, cap, rfl, hn, hc, Hn, HS⟩ := h.opens
  have hl := Hn.out
  refine ⟨_, fun W => ?_, HS.out.rest (l := l.toNat) (by omega) (if cap = l.toNat then a else a.map (·.add l.toNat)) rfl⟩
  rw [run_sliceAt_slice (h := elem_u8), run_slice_l (ht := elem_u8) (h0 := h0) (h1 := by omega), size_u8]
  simp [Result.andThen, sliced]

theorem Sl.cut_h {w : World} {v : Value} {zs : List Int} (h : Sl w v zs) {l : Int} (h0 : 0 ≤ l) (h1 : l ≤ zs.length) :
    ∃ V, (∀ W, (Instr.sliceAt 24 v none (some (.int .i64 l)) none).run Try.prog W = .ok V W) ∧ Sl w V (zs.take l.toNat) := by
  obtain ⟨a, n, cap, rfl, hn, hc, Hn, HS⟩ := h.opens
  have hl := Hn.out
  have hp := HS.out.part (l := 0) (m := l.toNat) (by omega) (by omega) (if cap = 0 then a else a.map (·.add (0 * 1))) rfl
  simp only [List.drop_zero, Nat.sub_zero] at hp
  refine ⟨_, fun W => ?_, hp⟩
  rw [run_sliceAt_slice (h := elem_u8), run_slice_h (ht := elem_u8) (h0 := h0) (h2 := by omega), size_u8]
  simp [Result.andThen, sliced]

/-- 'b[l:]'. -/
theorem wpList_cut {w : World} {ops : Array Oper} {rest : List Oper} {o : Oper} {a : Act} {Q : Exit → Act → World → Prop} (hg : o.guard = none) (x y : Operand) (hop : o.op = Op.slice 24 x (some y) none none)
    (v : Value) (zs : List Int) (l : Int) (hx : a.eval x = v) (hy : a.eval y = .int .i64 l) (h : Sl w v zs) (h0 : 0 ≤ l) (h1 : l ≤ zs.length)
    (hK : ∀ V, Sl w V (zs.drop l.toNat) → wpList Try.prog ops Q rest (a.put o.dst V) w) : wpList Try.prog ops Q (o :: rest) a w := by
  obtain ⟨V, hr, hV⟩ := h.cut_l h0 h1
  refine wpList_plain hg fun K' hK' => ?_
  unfold Oper.wp
  simp [execOp, hop, hx, hy, hr, Result.andThen]
  exact hK' _ _ (hK V hV)
end Go.Proofs.Ytlefhhmggaaiiab
