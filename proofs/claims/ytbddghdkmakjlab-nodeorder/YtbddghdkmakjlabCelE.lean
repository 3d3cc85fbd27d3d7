/-
  Contracts of cell.Eq and cell.May, and of the document's, over the translated program.
-/
import Derived.Test.YtbddghdkmakjlabGd
namespace Go.Proofs.Ytbddghdkmakjlab
set_option maxRecDepth 100000
set_option linter.unusedVariables false
open Go.RowKit

theorem ceq_n {a b : Ce} (h : (a.N.toList == b.N.toList) = false) : Ce.eq a b = false := by
  rw [str_same] at h
  simp at h
  simp [Ce.eq, h]
theorem ceq_t {a b : Ce} (h : (a.T == b.T) = false) : Ce.eq a b = false := by
  simp at h
  simp [Ce.eq, h]
theorem ceq_v {a b : Ce} (h : a.V.eq b.V = false) : Ce.eq a b = false := by simp [Ce.eq, h]
theorem ceq_w {a b : Ce} (hn : (a.N.toList == b.N.toList) = true) (ht : (a.T == b.T) = true) (hv : a.V.eq b.V = true) : Ce.eq a b = a.W.eq b.W := by
  rw [str_same] at hn
  simp at hn ht
  simp [Ce.eq, hn, ht, hv]

set_option maxHeartbeats 2000000 in
theorem refEq_cell (a b : Ce) (w : World) (ha : a.Ok) (hb : b.Ok) :
    Calls Try.prog 24 #[.agg (cv a), .agg (cv b)] w fun e w' => e = .returned (.bool (Ce.eq a b)) ∧ Below w.heap.size w w' := by
  cases hn : (a.N.toList == b.N.toList)
  · have HE := hide (ceq_n hn)
    go_enter Try.func24, Try.ntmps24
    go_wp2_with (first
      | (refine wpList_box 34 (.tmp 0) (cv a) rfl rfl rfl ?_; intro W1 hB1 hX1)
      | (refine wpList_box 34 (.tmp 1) (cv b) rfl rfl rfl ?_; intro W2 hB2 hX2; replace hX1 := hX1.later hB2; obtain ⟨c0, c1, c2, c3, c4, c5, c6, c7⟩ := hX1.cells; obtain ⟨d0, d1, d2, d3, d4, d5, d6, d7⟩ := hX2.cells))
    go_ret
    exact ⟨ret_bool (by rw [HE.out]), hB1.trans (hB2.mono hB1.size)⟩
  · cases ht : (a.T == b.T)
    · have HE := hide (ceq_t (a := a) (b := b) ht)
      go_enter Try.func24, Try.ntmps24
      go_wp2_with (first
        | (refine wpList_box 34 (.tmp 0) (cv a) rfl rfl rfl ?_; intro W1 hB1 hX1)
        | (refine wpList_box 34 (.tmp 1) (cv b) rfl rfl rfl ?_; intro W2 hB2 hX2; replace hX1 := hX1.later hB2; obtain ⟨c0, c1, c2, c3, c4, c5, c6, c7⟩ := hX1.cells; obtain ⟨d0, d1, d2, d3, d4, d5, d6, d7⟩ := hX2.cells))
      go_ret
      exact ⟨ret_bool (by rw [HE.out]), hB1.trans (hB2.mono hB1.size)⟩
    · cases hv : a.V.eq b.V
      · have HE := hide (ceq_v (a := a) (b := b) hv)
        have HV := hide hv
        clear hv
        go_enter Try.func24, Try.ntmps24
        go_wp2_with (first
          | (refine wpList_box 34 (.tmp 0) (cv a) rfl rfl rfl ?_; intro W1 hB1 hX1)
          | (refine wpList_box 34 (.tmp 1) (cv b) rfl rfl rfl ?_; intro W2 hB2 hX2; replace hX1 := hX1.later hB2; obtain ⟨c0, c1, c2, c3, c4, c5, c6, c7⟩ := hX1.cells; obtain ⟨d0, d1, d2, d3, d4, d5, d6, d7⟩ := hX2.cells))
        refine (refEq_any a.V.K a.V.X a.V.S b.V.K b.V.X b.V.S _ ha.v.x hb.v.x).mono ?_
        rintro e W3 ⟨rfl, hB3⟩
        rw [show Dt.eq a.V.K a.V.X a.V.S b.V.K b.V.X b.V.S = false from HV.out]
        replace hX1 := hX1.later hB3
        replace hX2 := hX2.later hB3
        clear c0 c1 c2 c3 c4 c5 c6 c7 d0 d1 d2 d3 d4 d5 d6 d7
        go_wp2_with fail
        go_ret
        exact ⟨ret_bool (by rw [HE.out]), (hB1.trans (hB2.mono hB1.size)).trans (hB3.mono (Nat.le_trans hB1.size hB2.size))⟩
      · have HE := hide (ceq_w (a := a) (b := b) hn ht hv)
        have HV := hide hv
        clear hv
        go_enter Try.func24, Try.ntmps24
        go_wp2_with (first
          | (refine wpList_box 34 (.tmp 0) (cv a) rfl rfl rfl ?_; intro W1 hB1 hX1)
          | (refine wpList_box 34 (.tmp 1) (cv b) rfl rfl rfl ?_; intro W2 hB2 hX2; replace hX1 := hX1.later hB2; obtain ⟨c0, c1, c2, c3, c4, c5, c6, c7⟩ := hX1.cells; obtain ⟨d0, d1, d2, d3, d4, d5, d6, d7⟩ := hX2.cells))
        refine (refEq_any a.V.K a.V.X a.V.S b.V.K b.V.X b.V.S _ ha.v.x hb.v.x).mono ?_
        rintro e W3 ⟨rfl, hB3⟩
        rw [show Dt.eq a.V.K a.V.X a.V.S b.V.K b.V.X b.V.S = true from HV.out]
        replace hX1 := hX1.later hB3
        replace hX2 := hX2.later hB3
        clear c0 c1 c2 c3 c4 c5 c6 c7 d0 d1 d2 d3 d4 d5 d6 d7
        obtain ⟨c0, c1, c2, c3, c4, c5, c6, c7⟩ := hX1.cells
        obtain ⟨d0, d1, d2, d3, d4, d5, d6, d7⟩ := hX2.cells
        go_wp2_with fail
        refine (refEq_any a.W.K a.W.X a.W.S b.W.K b.W.X b.W.S _ ha.w.x hb.w.x).mono ?_
        rintro e W4 ⟨rfl, hB4⟩
        clear c0 c1 c2 c3 c4 c5 c6 c7 d0 d1 d2 d3 d4 d5 d6 d7 hX1 hX2
        go_wp2_with fail
        go_ret
        exact ⟨ret_bool (by rw [HE.out]; rfl), ((hB1.trans (hB2.mono hB1.size)).trans (hB3.mono (Nat.le_trans hB1.size hB2.size))).trans (hB4.mono (Nat.le_trans (Nat.le_trans hB1.size hB2.size) hB3.size))⟩

end Go.Proofs.Ytbddghdkmakjlab
