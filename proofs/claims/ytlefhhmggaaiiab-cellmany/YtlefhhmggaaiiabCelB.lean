/-
  The helpers of the laws of package cell: Val, Cut; 'begun' returns true and writes nothing that was there.
-/
import Derived.Test.YtlefhhmggaaiiabCelW
import Derived.Test.YtlefhhmggaaiiabOrd
namespace Go.Proofs.Ytlefhhmggaaiiab
open Go.RowKit

theorem cut25_any (s : ByteArray) (w : World) (h : s.size ≤ maxLen) :
    Calls Try.prog 18 #[.string s, .int .i64 25] w fun e w' => ∃ s', e = .returned (.string s') ∧ s'.size ≤ 25 ∧ s'.size ≤ s.size ∧ w' = w := cut_any s 25 w h
theorem cut20_any (s : ByteArray) (w : World) (h : s.size ≤ maxLen) :
    Calls Try.prog 18 #[.string s, .int .i64 20] w fun e w' => ∃ s', e = .returned (.string s') ∧ s'.size ≤ 20 ∧ s'.size ≤ s.size ∧ w' = w := cut_any s 20 w h

set_option maxHeartbeats 1000000 in
theorem val_cell (v : Va) (w : World) (h : v.S.size ≤ maxLen) :
    Calls Try.prog 19 #[.agg (va v)] w fun e w' => ∃ s', e = .returned (.agg (va ⟨v.K, v.X, s'⟩)) ∧ s'.size ≤ 25 ∧ Below w.heap.size w w' := by
  go_enter Try.func19, Try.ntmps19
  go_wp2_with (first
    | (refine wpList_box 27 (.tmp 0) (va v) rfl rfl rfl ?_; intro W1 hB hX)
    | (refine wpList_new 27 _ rfl rfl tyV ?_; intro W2 hB2 hY; have l01 := hB.size; have n01 := Nat.ne_of_lt hX.lt; replace hX := hX.later hB2; replace hB := hB.trans (hB2.mono hB.size); clear hB2; obtain ⟨v0, v1, v2⟩ := hX.vals))
  refine (cut25_any v.S _ h).mono ?_
  rintro e W3 ⟨s', rfl, hs1, -, rfl⟩
  go_wp2_with (first
    | (refine wpList_put1 9 (.tmp 6) (.tmp 5) _ 2 (.string s') _ rfl rfl rfl rfl hX (show 2 < 3 by omega) (by kernel_rfl) rfl (fun a W => run_store Try.prog W a _ _ rfl) ?_; intro W4 hb4 hs4 hX4; replace hY := hY.but hb4 (fun e => n01 e.symm); have hB4 := Below.but hB hB.size hb4 (fun k e => by omega); clear hB hX hb4 hs4 v0 v1 v2; have hB := hB4; have hX : Bx W4 _ (va ⟨v.K, v.X, s'⟩) := hX4; clear hX4 hB4)
    | (refine wpList_get 27 _ (.tmp 1) _ (va ⟨v.K, v.X, s'⟩) rfl rfl rfl hX tyV rfl ?_)
    | (refine wpList_put 27 _ (.tmp 2) (.tmp 7) _ (va ⟨v.K, v.X, s'⟩) _ rfl rfl rfl rfl hY tyV rfl rfl (va_one _) ?_; intro W5 hb5 hs5 hY5))
  refine bodyPost_ret (v := .agg (va ⟨v.K, v.X, s'⟩)) (results_bx Try.results19 _ _ _ _ rfl hY5 tyV rfl) rfl ⟨s', rfl, hs1, ?_⟩
  exact Below.but hB hB.size hb5 (fun k e => by omega)

set_option maxRecDepth 100000 in
set_option maxHeartbeats 4000000 in
theorem cut_cell (c : Ce) (w : World) (hc : c.Ok) :
    Calls Try.prog 5 #[.agg (cv c)] w fun e w' => ∃ d : Ce, e = .returned (.agg (cv d)) ∧ d.Ok ∧ d.N.size ≤ 20 ∧ d.V.S.size ≤ 25 ∧ d.W.S.size ≤ 25 ∧ Below w.heap.size w w' := by
  have HC := hide hc
  clear hc
  go_enter Try.func5, Try.ntmps5
  go_wp2_with (first
    | (refine wpList_box 29 (.tmp 0) (cv c) rfl rfl rfl ?_; intro W1 hB hX)
    | (refine wpList_new 29 _ rfl rfl tyR ?_; intro W2 hB2 hY; have l01 := hB.size; have n01 := Nat.ne_of_lt hX.lt; replace hX := hX.later hB2; replace hB := hB.trans (hB2.mono hB.size); clear hB2))
  have HA : Hid (∀ w', Below W2.heap.size W2 w' → _) := fun w' hb => (hX.later hb).cells
  refine wp_region_noPanic ?_
  refine wp_region_P 10 (fun W => Below W2.heap.size W2 W) (by kernel_rfl) (Below.refl _ _).drew (fun hHeld => ?_)
  refine wpAnyP_takeU (i := 0) (v := ?_) rfl (by kernel_rfl) (by kernel_rfl) (by kernel_rfl) (by decide) (fun _ _ _ h => h) (Or.inl ⟨by kernel_rfl, ?_⟩) hHeld ?_
  rotate_left
  · intro W hW; clear hW; go_simp; first | done | with_reducible rfl | rfl
  try simp only [Act.put]
  refine wpAnyP_take (i := 1) (v := .string c.N) rfl (by kernel_rfl) (by kernel_rfl) (by kernel_rfl) (by kernel_rfl) (by kernel_rfl) (by decide) (fun _ _ _ h => h) (Or.inl ⟨by kernel_rfl, ?_⟩) hHeld ?_
  · intro W hW; obtain ⟨c0, c1, c2, c3, c4, c5, c6, c7⟩ := HA.out W hW; go_simp; first | done | with_reducible rfl | rfl
  try simp only [Act.put]
  refine wpAnyP_takeU (i := 3) (v := ?_) rfl (by kernel_rfl) (by kernel_rfl) (by kernel_rfl) (by decide) (fun _ _ _ h => h) (Or.inl ⟨by kernel_rfl, ?_⟩) hHeld ?_
  rotate_left
  · intro W hW; clear hW; go_simp; first | done | with_reducible rfl | rfl
  try simp only [Act.put]
  refine wpAnyP_take (i := 4) (v := .agg (va c.V)) rfl (by kernel_rfl) (by kernel_rfl) (by kernel_rfl) (by kernel_rfl) (by kernel_rfl) (by decide) (fun _ _ _ h => h) (Or.inl ⟨by kernel_rfl, ?_⟩) hHeld ?_
  · intro W hW; obtain ⟨c0, c1, c2, c3, c4, c5, c6, c7⟩ := HA.out W hW; go_simp; first | done | with_reducible rfl | rfl
  try simp only [Act.put]
  refine wpAnyP_takeU (i := 6) (v := ?_) rfl (by kernel_rfl) (by kernel_rfl) (by kernel_rfl) (by decide) (fun _ _ _ h => h) (Or.inl ⟨by kernel_rfl, ?_⟩) hHeld ?_
  rotate_left
  · intro W hW; clear hW; go_simp; first | done | with_reducible rfl | rfl
  try simp only [Act.put]
  refine wpAnyP_take (i := 7) (v := .agg (va c.W)) rfl (by kernel_rfl) (by kernel_rfl) (by kernel_rfl) (by kernel_rfl) (by kernel_rfl) (by decide) (fun _ _ _ h => h) (Or.inl ⟨by kernel_rfl, ?_⟩) hHeld ?_
  · intro W hW; obtain ⟨c0, c1, c2, c3, c4, c5, c6, c7⟩ := HA.out W hW; go_simp; first | done | with_reducible rfl | rfl
  try simp only [Act.put]
  refine wpAnyP_ready (rs := [2]) (by kernel_rfl) (by simp) ?_
  refine AllReadyP.cons (o := _) rfl (fun K hK => ?_) AllReadyP.nil
  rw [if_pos (by kernel_rfl)]
  go_simp
  refine (cut20_any c.N _ HC.out.n).mono ?_
  rintro e x2 ⟨s0, rfl, hs0, -, rfl⟩
  dsimp only
  refine hK.out _ _ hHeld ?_
  clear hK K
  try simp only [Act.put]
  refine wpAnyP_takeU (i := 9) (v := ?_) rfl (by kernel_rfl) (by kernel_rfl) (by kernel_rfl) (by decide) (fun _ _ _ h => h) (Or.inl ⟨by kernel_rfl, ?_⟩) hHeld ?_
  rotate_left
  · intro W hW; clear hW; go_simp; first | done | with_reducible rfl | rfl
  try simp only [Act.put]
  refine wpAnyP_ready (rs := [5]) (by kernel_rfl) (by simp) ?_
  refine AllReadyP.cons (o := _) rfl (fun K hK => ?_) AllReadyP.nil
  rw [if_pos (by kernel_rfl)]
  go_simp
  refine (val_cell c.V _ HC.out.v.s).mono ?_
  rintro e x3 ⟨s1, rfl, hs1, hb3⟩
  dsimp only
  have hHeld3 := hHeld.trans (hb3.mono hHeld.size)
  refine hK.out _ _ hHeld3 ?_
  clear hK K hb3
  try simp only [Act.put]
  refine wpAnyP_ready (rs := [8]) (by kernel_rfl) (by simp) ?_
  refine AllReadyP.cons (o := _) rfl (fun K hK => ?_) AllReadyP.nil
  rw [if_pos (by kernel_rfl)]
  go_simp
  refine (val_cell c.W _ HC.out.w.s).mono ?_
  rintro e x4 ⟨s2, rfl, hs2, hb4⟩
  dsimp only
  have hHeld4 := hHeld3.trans (hb4.mono hHeld3.size)
  refine hK.out _ _ hHeld4 ?_
  clear hK K hb4
  try simp only [Act.put]
  replace hX := hX.later hHeld4
  replace hY := hY.later hHeld4
  replace hB := hB.trans (hHeld4.mono hB.size)
  clear hHeld3 hHeld4 hHeld HA
  refine wpAnyP_ready (rs := [10]) (by kernel_rfl) (by simp) ?_
  refine AllReadyP.late (o := _) rfl (by kernel_rfl) (fun K hK => ?_)
  rw [if_pos (by kernel_rfl)]
  refine wp_put1 9 (.tmp 12) (.tmp 5) _ 0 (.string s0) _ rfl rfl rfl hX (show 0 < 8 by omega) (by kernel_rfl) rfl (fun a W => run_store Try.prog W a _ _ rfl) ?_
  intro W5 hb5 hz5 hX5
  refine hK.out _ _ ?_
  clear hK K
  try simp only [Act.put, List.getElem_toArray, List.getElem_cons_zero, List.getElem_cons_succ]
  replace hY := hY.but hb5 (fun e => n01 e.symm)
  replace hB := Below.but hB hB.size hb5 (fun k e => by omega)
  clear hX hb5 hz5
  have hX : Bx W5 _ (cv ⟨s0, c.V, c.T, c.W⟩) := hX5
  clear hX5
  refine wpAnyP_ready (rs := [11]) (by kernel_rfl) (by simp) ?_
  refine AllReadyP.late (o := _) rfl (by kernel_rfl) (fun K hK => ?_)
  rw [if_pos (by kernel_rfl)]
  go_simp
  refine hK.out _ _ ?_
  clear hK K
  try simp only [Act.put]
  refine wpAnyP_ready (rs := [12]) (by kernel_rfl) (by simp) ?_
  refine AllReadyP.late (o := _) rfl (by kernel_rfl) (fun K hK => ?_)
  rw [if_pos (by kernel_rfl)]
  refine wp_putV (.tmp 13) (.tmp 8) _ 1 ⟨c.V.K, c.V.X, s1⟩ _ rfl rfl rfl hX (show 1 + 3 ≤ 8 by omega) ?_
  intro W6 hb6 hz6 hX6
  refine hK.out _ _ ?_
  clear hK K
  try simp only [Act.put, List.getElem_toArray, List.getElem_cons_zero, List.getElem_cons_succ]
  replace hY := hY.but hb6 (fun e => n01 e.symm)
  replace hB := Below.but hB hB.size hb6 (fun k e => by omega)
  clear hX hb6 hz6
  have hX : Bx W6 _ (cv ⟨s0, ⟨c.V.K, c.V.X, s1⟩, c.T, c.W⟩) := hX6
  clear hX6
  refine wpAnyP_ready (rs := [13]) (by kernel_rfl) (by simp) ?_
  refine AllReadyP.late (o := _) rfl (by kernel_rfl) (fun K hK => ?_)
  rw [if_pos (by kernel_rfl)]
  go_simp
  refine hK.out _ _ ?_
  clear hK K
  try simp only [Act.put]
  refine wpAnyP_ready (rs := [14]) (by kernel_rfl) (by simp) ?_
  refine AllReadyP.late (o := _) rfl (by kernel_rfl) (fun K hK => ?_)
  rw [if_pos (by kernel_rfl)]
  refine wp_putV (.tmp 14) (.tmp 11) _ 5 ⟨c.W.K, c.W.X, s2⟩ _ rfl rfl rfl hX (show 5 + 3 ≤ 8 by omega) ?_
  intro W7 hb7 hz7 hX7
  refine hK.out _ _ ?_
  clear hK K
  try simp only [Act.put, List.getElem_toArray, List.getElem_cons_zero, List.getElem_cons_succ]
  replace hY := hY.but hb7 (fun e => n01 e.symm)
  replace hB := Below.but hB hB.size hb7 (fun k e => by omega)
  clear hX hb7 hz7
  have hX : Bx W7 _ (cv ⟨s0, ⟨c.V.K, c.V.X, s1⟩, c.T, ⟨c.W.K, c.W.X, s2⟩⟩) := hX7
  clear hX7
  refine wpAnyP_done (by kernel_rfl) ?_ _
  refine NoPanic.normal ?_
  go_simp
  go_wp2_with (first
    | (refine wpList_get 29 _ (.tmp 1) _ (cv ⟨s0, ⟨c.V.K, c.V.X, s1⟩, c.T, ⟨c.W.K, c.W.X, s2⟩⟩) rfl rfl rfl hX tyR rfl ?_)
    | (refine wpList_put 29 _ (.tmp 2) (.tmp 15) _ (cv ⟨s0, ⟨c.V.K, c.V.X, s1⟩, c.T, ⟨c.W.K, c.W.X, s2⟩⟩) _ rfl rfl rfl rfl hY tyR rfl rfl (cv_one _) ?_; intro W8 hb8 hz8 hY8))
  refine bodyPost_ret (v := .agg (cv ⟨s0, ⟨c.V.K, c.V.X, s1⟩, c.T, ⟨c.W.K, c.W.X, s2⟩⟩)) (results_bx Try.results5 _ _ _ _ rfl hY8 tyR rfl) rfl ⟨_, rfl, ?_, hs0, hs1, hs2, ?_⟩
  · have hc := HC.out
    have m0 : ∀ n, n ≤ 25 → n ≤ maxLen := fun n h => by unfold maxLen; omega
    exact ⟨m0 _ (by simp only; omega), ⟨hc.v.k0, hc.v.k1, hc.v.x, m0 _ hs1⟩, hc.t0, hc.t1, ⟨hc.w.k0, hc.w.k1, hc.w.x, m0 _ hs2⟩⟩
  · exact Below.but hB hB.size hb8 (fun k e => by omega)
end Go.Proofs.Ytlefhhmggaaiiab
