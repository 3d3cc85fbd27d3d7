/-
  Contracts of cell.Commit, cell.Undo, cell.Eq, cell.May, and of the document's, over the translated program.
-/
import Derived.Test.YtlefhhmggaaiiabCelW
namespace Go.Proofs.Ytlefhhmggaaiiab
open Go.RowKit

theorem settle_zero {n : ByteArray} {v : Va} (h : v.K = 0) : Ce.settle n v = Ce.zero := by simp [Ce.settle, h]
theorem settle_some {n : ByteArray} {v : Va} (h : ¬ v.K = 0) : Ce.settle n v = ⟨n, v, 0, Va.zero⟩ := by simp [Ce.settle, h]

set_option maxHeartbeats 1000000 in
theorem settled_any (n : ByteArray) (v : Va) (w : World) :
    Calls Try.prog 28 #[.string n, .agg (va v)] w fun e w' => e = .returned (.tuple #[.agg (cv (Ce.settle n v)), .bool (!decide (v.K = 0))]) ∧ Below w.heap.size w w' := by
  by_cases h : v.K = 0
  · have HA := hide (show decide (v.K = 0) = true by simpa using h)
    have HS := hide (settle_zero (n := n) h)
    clear h
    go_enter Try.func28, Try.ntmps28
    go_wp2_with (first
      | (refine wpList_box 27 (.tmp 1) (va v) rfl rfl rfl ?_; intro W1 hB1 hX1)
      | (refine wpList_new 33 _ rfl rfl tyC ?_; intro W2 hB2 hX2; replace hX1 := hX1.later hB2)
      | (refine wpList_get 27 _ (.tmp 3) _ (va v) rfl rfl rfl hX1 tyV rfl ?_))
    refine (isNone_any v _).mono ?_
    rintro e W3 ⟨rfl, hB3⟩
    rw [HA.out]
    replace hX2 := hX2.later hB3
    go_wp2_with (refine wpList_put 33 _ (.tmp 4) (.tmp 8) _ (cv Ce.zero) _ rfl rfl rfl rfl hX2 tyC rfl rfl (cv_one _) ?_; intro W4 hb4 hs4 hX4)
    refine bodyPost_ret (v := .tuple #[.agg (cv Ce.zero), .bool false]) (results2_bx Try.results28 _ _ _ _ _ rfl rfl hX4 tyC rfl) rfl ⟨by rw [HS.out, HA.out]; rfl, ?_⟩
    have s1 := hB1.size
    have s2 := hB2.size
    have s3 := hB3.size
    exact Below.but ((hB1.trans (hB2.mono s1)).trans (hB3.mono (by omega))) (by omega) hb4 (fun k e => by omega)
  · have HA := hide (show decide (v.K = 0) = false by simpa using h)
    have HS := hide (settle_some (n := n) h)
    clear h
    go_enter Try.func28, Try.ntmps28
    go_wp2_with (first
      | (refine wpList_box 27 (.tmp 1) (va v) rfl rfl rfl ?_; intro W1 hB1 hX1)
      | (refine wpList_new 33 _ rfl rfl tyC ?_; intro W2 hB2 hX2; replace hX1 := hX1.later hB2)
      | (refine wpList_get 27 _ (.tmp 3) _ (va v) rfl rfl rfl hX1 tyV rfl ?_))
    refine (isNone_any v _).mono ?_
    rintro e W3 ⟨rfl, hB3⟩
    rw [HA.out]
    replace hX1 := hX1.later hB3
    replace hX2 := hX2.later hB3
    obtain ⟨v0, v1, v2⟩ := hX1.vals
    go_wp2_with (refine wpList_put 33 _ (.tmp 4) (.tmp 11) _ (cv ⟨n, v, 0, Va.zero⟩) _ rfl rfl rfl rfl hX2 tyC rfl rfl (cv_one _) ?_; intro W4 hb4 hs4 hX4)
    refine bodyPost_ret (v := .tuple #[.agg (cv ⟨n, v, 0, Va.zero⟩), .bool true]) (results2_bx Try.results28 _ _ _ _ _ rfl rfl hX4 tyC rfl) rfl ⟨by rw [HS.out, HA.out]; rfl, ?_⟩
    have s1 := hB1.size
    have s2 := hB2.size
    have s3 := hB3.size
    exact Below.but ((hB1.trans (hB2.mono s1)).trans (hB3.mono (by omega))) (by omega) hb4 (fun k e => by omega)

theorem commit_none {c : Ce} (h : ¬ 0 < c.T) : Ce.commit c = c ∧ Ce.left c = true := by simp [Ce.commit, Ce.left, h]
theorem commit_some {c : Ce} (h : 0 < c.T) : Ce.commit c = Ce.settle c.N c.W ∧ Ce.left c = !decide (c.W.K = 0) := by simp [Ce.commit, Ce.left, h]

set_option maxHeartbeats 1000000 in
theorem commit_cell (c : Ce) (w : World) :
    Calls Try.prog 13 #[.agg (cv c)] w fun e w' => e = .returned (.tuple #[.agg (cv (Ce.commit c)), .bool (Ce.left c)]) ∧ Below w.heap.size w w' := by
  by_cases h : 0 < c.T
  · have HA := hide (show decide (0 < c.T) = true by simpa using h)
    have HS := hide (commit_some h)
    clear h
    go_enter Try.func13, Try.ntmps13
    go_wp2_with (first
      | (refine wpList_box 33 (.tmp 0) (cv c) rfl rfl rfl ?_; intro W1 hB1 hX1)
      | (refine wpList_new 33 _ rfl rfl tyC ?_; intro W2 hB2 hX2; replace hX1 := hX1.later hB2)
      | (refine wpList_get 33 _ (.tmp 1) _ (cv c) rfl rfl rfl hX1 tyC rfl ?_))
    refine (hasTxn_any c _).mono ?_
    rintro e W3 ⟨rfl, hB3⟩
    rw [HA.out]
    replace hX1 := hX1.later hB3
    replace hX2 := hX2.later hB3
    obtain ⟨c0, c1, c2, c3, c4, c5, c6, c7⟩ := hX1.cells
    go_wp2_with fail
    refine (settled_any c.N c.W _).mono ?_
    rintro e W4 ⟨rfl, hB4⟩
    replace hX2 := hX2.later hB4
    clear c0 c1 c2 c3 c4 c5 c6 c7
    go_wp2_with (refine wpList_put 33 _ (.tmp 2) (.tmp 13) _ (cv (Ce.settle c.N c.W)) _ rfl rfl rfl rfl hX2 tyC rfl rfl (cv_one _) ?_; intro W5 hb5 hs5 hX5)
    refine bodyPost_ret (v := .tuple #[.agg (cv (Ce.settle c.N c.W)), .bool (!decide (c.W.K = 0))]) (results2_bx Try.results13 _ _ _ _ _ rfl rfl hX5 tyC rfl) rfl ⟨by rw [HS.out.1, HS.out.2], ?_⟩
    have s1 := hB1.size
    have s2 := hB2.size
    have s3 := hB3.size
    have s4 := hB4.size
    exact Below.but (((hB1.trans (hB2.mono s1)).trans (hB3.mono (by omega))).trans (hB4.mono (by omega))) (by omega) hb5 (fun k e => by omega)
  · have HA := hide (show decide (0 < c.T) = false by simpa using h)
    have HS := hide (commit_none h)
    clear h
    go_enter Try.func13, Try.ntmps13
    go_wp2_with (first
      | (refine wpList_box 33 (.tmp 0) (cv c) rfl rfl rfl ?_; intro W1 hB1 hX1)
      | (refine wpList_new 33 _ rfl rfl tyC ?_; intro W2 hB2 hX2; replace hX1 := hX1.later hB2)
      | (refine wpList_get 33 _ (.tmp 1) _ (cv c) rfl rfl rfl hX1 tyC rfl ?_))
    refine (hasTxn_any c _).mono ?_
    rintro e W3 ⟨rfl, hB3⟩
    rw [HA.out]
    replace hX1 := hX1.later hB3
    replace hX2 := hX2.later hB3
    go_wp2_with (first
      | (refine wpList_get 33 _ (.tmp 1) _ (cv c) rfl rfl rfl hX1 tyC rfl ?_)
      | (refine wpList_put 33 _ (.tmp 2) (.tmp 7) _ (cv c) _ rfl rfl rfl rfl hX2 tyC rfl rfl (cv_one _) ?_; intro W5 hb5 hs5 hX5))
    refine bodyPost_ret (v := .tuple #[.agg (cv c), .bool true]) (results2_bx Try.results13 _ _ _ _ _ rfl rfl hX5 tyC rfl) rfl ⟨by rw [HS.out.1, HS.out.2], ?_⟩
    have s1 := hB1.size
    have s2 := hB2.size
    have s3 := hB3.size
    exact Below.but ((hB1.trans (hB2.mono s1)).trans (hB3.mono (by omega))) (by omega) hb5 (fun k e => by omega)

set_option maxHeartbeats 1000000 in
theorem undo_cell (c : Ce) (w : World) :
    Calls Try.prog 14 #[.agg (cv c)] w fun e w' => e = .returned (.tuple #[.agg (cv (Ce.undo c)), .bool (!decide (c.V.K = 0))]) ∧ Below w.heap.size w w' := by
  go_enter Try.func14, Try.ntmps14
  go_wp2_with (first
    | (refine wpList_box 33 (.tmp 0) (cv c) rfl rfl rfl ?_; intro W1 hB1 hX1)
    | (refine wpList_new 33 _ rfl rfl tyC ?_; intro W2 hB2 hX2; replace hX1 := hX1.later hB2; obtain ⟨c0, c1, c2, c3, c4, c5, c6, c7⟩ := hX1.cells))
  refine (settled_any c.N c.V _).mono ?_
  rintro e W4 ⟨rfl, hB4⟩
  replace hX2 := hX2.later hB4
  clear c0 c1 c2 c3 c4 c5 c6 c7
  go_wp2_with (refine wpList_put 33 _ (.tmp 2) (.tmp 9) _ (cv (Ce.settle c.N c.V)) _ rfl rfl rfl rfl hX2 tyC rfl rfl (cv_one _) ?_; intro W5 hb5 hs5 hX5)
  refine bodyPost_ret (v := .tuple #[.agg (cv (Ce.settle c.N c.V)), .bool (!decide (c.V.K = 0))]) (results2_bx Try.results14 _ _ _ _ _ rfl rfl hX5 tyC rfl) rfl ⟨rfl, ?_⟩
  have s1 := hB1.size
  have s2 := hB2.size
  have s4 := hB4.size
  exact Below.but ((hB1.trans (hB2.mono s1)).trans (hB4.mono (by omega))) (by omega) hb5 (fun k e => by omega)

end Go.Proofs.Ytlefhhmggaaiiab
