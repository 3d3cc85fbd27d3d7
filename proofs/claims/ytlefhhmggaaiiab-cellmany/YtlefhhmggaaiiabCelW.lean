/-
  Contracts of package cell's small functions, and of the document's, over the translated program.
-/
import Derived.Test.YtlefhhmggaaiiabCelM
import Derived.Test.YtlefhhmggaaiiabKma
namespace Go.Proofs.Ytlefhhmggaaiiab
open Go.RowKit

set_option maxHeartbeats 400000 in
theorem hasTxn_any (c : Ce) (w : World) :
    Calls Try.prog 25 #[.agg (cv c)] w fun e w' => e = .returned (.bool (decide (0 < c.T))) ∧ Below w.heap.size w w' := by
  go_enter Try.func25, Try.ntmps25
  go_wp2_with (refine wpList_box 33 (.tmp 0) (cv c) rfl rfl rfl ?_; intro W1 hB1 hX1; have c4 := hX1.c4)
  go_ret
  exact ⟨rfl, hB1⟩

set_option maxHeartbeats 400000 in
theorem isNone_any (v : Va) (w : World) :
    Calls Try.prog 31 #[.agg (va v)] w fun e w' => e = .returned (.bool (decide (v.K = 0))) ∧ Below w.heap.size w w' := by
  go_enter Try.func31, Try.ntmps31
  go_wp2_with (refine wpList_box 27 (.tmp 0) (va v) rfl rfl rfl ?_; intro W1 hB1 hX1; have c0 := hX1.v0)
  go_ret
  exact ⟨rfl, hB1⟩

set_option maxHeartbeats 400000 in
theorem of_cell (c : Ce) (w : World) :
    Calls Try.prog 8 #[.agg (cv c)] w fun e w' => e = .returned (.agg (cv c)) ∧ Below w.heap.size w w' := by
  go_enter Try.func8, Try.ntmps8
  go_wp2_with (first
    | (refine wpList_box 29 (.tmp 0) (cv c) rfl rfl rfl ?_; intro W1 hB1 hX1)
    | (refine wpList_new 33 _ rfl rfl tyC ?_; intro W2 hB2 hX2; replace hX1 := hX1.later hB2; obtain ⟨c0, c1, c2, c3, c4, c5, c6, c7⟩ := hX1.cells)
    | (refine wpList_put 33 _ (.tmp 2) (.tmp 11) _ (cv c) _ rfl rfl rfl rfl hX2 tyC rfl rfl (cv_one c) ?_; intro W3 hb3 hs3 hX3))
  refine bodyPost_ret (v := .agg (cv c)) (results_bx Try.results8 _ _ _ _ rfl hX3 tyC rfl) rfl ⟨rfl, ?_⟩
  exact Below.but (hB1.trans (hB2.mono hB1.size)) (by have := hB1.size; have := hB2.size; omega) hb3 (fun k e => by have := hB1.size; omega)

set_option maxHeartbeats 400000 in
theorem back_cell (c : Ce) (w : World) :
    Calls Try.prog 11 #[.agg (cv c)] w fun e w' => e = .returned (.agg (cv c)) ∧ Below w.heap.size w w' := by
  go_enter Try.func11, Try.ntmps11
  go_wp2_with (first
    | (refine wpList_box 33 (.tmp 0) (cv c) rfl rfl rfl ?_; intro W1 hB1 hX1)
    | (refine wpList_new 29 _ rfl rfl tyR ?_; intro W2 hB2 hX2; replace hX1 := hX1.later hB2; obtain ⟨c0, c1, c2, c3, c4, c5, c6, c7⟩ := hX1.cells)
    | (refine wpList_put 29 _ (.tmp 2) (.tmp 11) _ (cv c) _ rfl rfl rfl rfl hX2 tyR rfl rfl (cv_one c) ?_; intro W3 hb3 hs3 hX3))
  refine bodyPost_ret (v := .agg (cv c)) (results_bx Try.results11 _ _ _ _ rfl hX3 tyR rfl) rfl ⟨rfl, ?_⟩
  exact Below.but (hB1.trans (hB2.mono hB1.size)) (by have := hB1.size; have := hB2.size; omega) hb3 (fun k e => by have := hB1.size; omega)

set_option maxHeartbeats 400000 in
theorem write_cell (c : Ce) (t : Int) (v : Va) (w : World) :
    Calls Try.prog 12 #[.agg (cv c), .int .i64 t, .agg (va v)] w fun e w' => e = .returned (.agg (cv (Ce.wr c t v))) ∧ Below w.heap.size w w' := by
  go_enter Try.func12, Try.ntmps12
  go_wp2_with (first
    | (refine wpList_box 33 (.tmp 0) (cv c) rfl rfl rfl ?_; intro W1 hB1 hX1)
    | (refine wpList_box 27 (.tmp 2) (va v) rfl rfl rfl ?_; intro W2 hB2 hX2; replace hX1 := hX1.later hB2)
    | (refine wpList_new 33 _ rfl rfl tyC ?_; intro W3 hB3 hX3; replace hX1 := hX1.later hB3; replace hX2 := hX2.later hB3; obtain ⟨c0, c1, c2, c3, c4, c5, c6, c7⟩ := hX1.cells; obtain ⟨v0, v1, v2⟩ := hX2.vals)
    | (refine wpList_put 33 _ (.tmp 6) (.tmp 13) _ (cv (Ce.wr c t v)) _ rfl rfl rfl rfl hX3 tyC rfl rfl (cv_one _) ?_; intro W4 hb4 hs4 hX4))
  refine bodyPost_ret (v := .agg (cv (Ce.wr c t v))) (results_bx Try.results12 _ _ _ _ rfl hX4 tyC rfl) rfl ⟨rfl, ?_⟩
  have s1 := hB1.size
  have s2 := hB2.size
  have s3 := hB3.size
  exact Below.but ((hB1.trans (hB2.mono s1)).trans (hB3.mono (by omega))) (by omega) hb4 (fun k e => by omega)

theorem see_new {c : Ce} {t : Int} (h : 0 < c.T) (ht : t = c.T) : Ce.see c t = c.W := by unfold Ce.see; rw [if_pos ⟨by omega, ht.symm⟩]
theorem see_old {c : Ce} {t : Int} (h : ¬ (0 < c.T ∧ t = c.T)) : Ce.see c t = c.V := by unfold Ce.see; rw [if_neg (by omega)]

set_option maxHeartbeats 1000000 in
theorem see_cell (c : Ce) (t : Int) (w : World) :
    Calls Try.prog 16 #[.agg (cv c), .int .i64 t] w fun e w' => e = .returned (.agg (va (Ce.see c t))) ∧ Below w.heap.size w w' := by
  by_cases h1 : 0 < c.T
  · have HA := hide (show decide (0 < c.T) = true by simpa using h1)
    by_cases h2 : t = c.T
    · have HS := hide (see_new h1 h2)
      have h2' : (t == c.T) = true := by simpa using h2
      clear h1 h2
      go_enter Try.func16, Try.ntmps16
      go_wp2_with (first
        | (refine wpList_box 33 (.tmp 0) (cv c) rfl rfl rfl ?_; intro W1 hB1 hX1)
        | (refine wpList_new 27 _ rfl rfl tyV ?_; intro W2 hB2 hX2; replace hX1 := hX1.later hB2)
        | (refine wpList_get 33 _ (.tmp 2) _ (cv c) rfl rfl rfl hX1 tyC rfl ?_))
      refine (hasTxn_any c _).mono ?_
      rintro e W3 ⟨rfl, hB3⟩
      rw [HA.out]
      replace hX1 := hX1.later hB3
      replace hX2 := hX2.later hB3
      obtain ⟨c0, c1, c2, c3, c4, c5, c6, c7⟩ := hX1.cells
      go_wp2_with (refine wpList_put 27 _ (.tmp 4) (.tmp 14) _ (va c.W) _ rfl rfl rfl rfl hX2 tyV rfl rfl (va_one _) ?_; intro W4 hb4 hs4 hX4)
      refine bodyPost_ret (v := .agg (va c.W)) (results_bx Try.results16 _ _ _ _ rfl hX4 tyV rfl) rfl ⟨by rw [HS.out], ?_⟩
      have s1 := hB1.size
      have s2 := hB2.size
      have s3 := hB3.size
      exact Below.but ((hB1.trans (hB2.mono s1)).trans (hB3.mono (by omega))) (by omega) hb4 (fun k e => by omega)
    · have HS := hide (see_old (c := c) (t := t) (by omega))
      have h2' : (t == c.T) = false := by simpa using h2
      clear h1 h2
      go_enter Try.func16, Try.ntmps16
      go_wp2_with (first
        | (refine wpList_box 33 (.tmp 0) (cv c) rfl rfl rfl ?_; intro W1 hB1 hX1)
        | (refine wpList_new 27 _ rfl rfl tyV ?_; intro W2 hB2 hX2; replace hX1 := hX1.later hB2)
        | (refine wpList_get 33 _ (.tmp 2) _ (cv c) rfl rfl rfl hX1 tyC rfl ?_))
      refine (hasTxn_any c _).mono ?_
      rintro e W3 ⟨rfl, hB3⟩
      rw [HA.out]
      replace hX1 := hX1.later hB3
      replace hX2 := hX2.later hB3
      obtain ⟨c0, c1, c2, c3, c4, c5, c6, c7⟩ := hX1.cells
      go_wp2_with (refine wpList_put 27 _ (.tmp 4) (.tmp 16) _ (va c.V) _ rfl rfl rfl rfl hX2 tyV rfl rfl (va_one _) ?_; intro W4 hb4 hs4 hX4)
      refine bodyPost_ret (v := .agg (va c.V)) (results_bx Try.results16 _ _ _ _ rfl hX4 tyV rfl) rfl ⟨by rw [HS.out], ?_⟩
      have s1 := hB1.size
      have s2 := hB2.size
      have s3 := hB3.size
      exact Below.but ((hB1.trans (hB2.mono s1)).trans (hB3.mono (by omega))) (by omega) hb4 (fun k e => by omega)
  · have HA := hide (show decide (0 < c.T) = false by simpa using h1)
    have HS := hide (see_old (c := c) (t := t) (by omega))
    clear h1
    go_enter Try.func16, Try.ntmps16
    go_wp2_with (first
      | (refine wpList_box 33 (.tmp 0) (cv c) rfl rfl rfl ?_; intro W1 hB1 hX1)
      | (refine wpList_new 27 _ rfl rfl tyV ?_; intro W2 hB2 hX2; replace hX1 := hX1.later hB2)
      | (refine wpList_get 33 _ (.tmp 2) _ (cv c) rfl rfl rfl hX1 tyC rfl ?_))
    refine (hasTxn_any c _).mono ?_
    rintro e W3 ⟨rfl, hB3⟩
    rw [HA.out]
    replace hX1 := hX1.later hB3
    replace hX2 := hX2.later hB3
    obtain ⟨c0, c1, c2, c3, c4, c5, c6, c7⟩ := hX1.cells
    go_wp2_with (refine wpList_put 27 _ (.tmp 4) (.tmp 16) _ (va c.V) _ rfl rfl rfl rfl hX2 tyV rfl rfl (va_one _) ?_; intro W4 hb4 hs4 hX4)
    refine bodyPost_ret (v := .agg (va c.V)) (results_bx Try.results16 _ _ _ _ rfl hX4 tyV rfl) rfl ⟨by rw [HS.out], ?_⟩
    have s1 := hB1.size
    have s2 := hB2.size
    have s3 := hB3.size
    exact Below.but ((hB1.trans (hB2.mono s1)).trans (hB3.mono (by omega))) (by omega) hb4 (fun k e => by omega)

end Go.Proofs.Ytlefhhmggaaiiab
