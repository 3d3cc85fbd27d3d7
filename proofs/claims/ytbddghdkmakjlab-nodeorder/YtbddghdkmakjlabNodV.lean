/-
  The contract of the document's EqNode over the translated program.
-/
import Derived.Test.YtbddghdkmakjlabNodZ
import Derived.Test.YtbddghdkmakjlabCelE
namespace Go.Proofs.Ytbddghdkmakjlab
set_option maxRecDepth 100000
set_option linter.unusedVariables false
open Go.RowKit

theorem ld_bo {w : World} {p : Addr} {v : Value} (h : w.cell? p = some v) : (Instr.loadAt 4 (.pointer (some p))).run Try.prog w = .ok v w := by simp [Instr.loadAt, Instr.sureAddr, go_sem, loadVar, h]

section
variable {L L' : Bool} {C D : List Ce} {K M : List ByteArray} {I J : List Int}
theorem eqn_1 (h : (L != L') = true) : No.eqn ⟨L, C, K, I⟩ ⟨L', D, M, J⟩ = false := by
  have : ¬ L = L' := by simpa using h
  simp [No.eqn, this]
theorem eqn_2 (h : ((C.length : Int) != (D.length : Int)) = true) : No.eqn ⟨L, C, K, I⟩ ⟨L', D, M, J⟩ = false := by
  have : ¬ C.length = D.length := by simp at h; omega
  simp [No.eqn, this]
theorem eqn_3 (h : ((K.length : Int) != (M.length : Int)) = true) : No.eqn ⟨L, C, K, I⟩ ⟨L', D, M, J⟩ = false := by
  have : ¬ K.length = M.length := by simp at h; omega
  simp [No.eqn, this]
theorem eqn_4 (h : ((I.length : Int) != (J.length : Int)) = true) : No.eqn ⟨L, C, K, I⟩ ⟨L', D, M, J⟩ = false := by
  have : ¬ I.length = J.length := by simp at h; omega
  simp [No.eqn, this]
/-- The lists are as long as one another. -/
abbrev Alike (L L' : Bool) (C D : List Ce) (K M : List ByteArray) (I J : List Int) : Prop := D.length = C.length ∧ M.length = K.length ∧ J.length = I.length ∧ L' = L
theorem eqn_5 (l0 : L' = L) (l1 : D.length = C.length) (l2 : M.length = K.length) (l3 : J.length = I.length) : Alike L L' C D K M I J := ⟨l1, l2, l3, l0⟩
theorem eqn_c (h : Alike L L' C D K M I J) {k : Nat} (hk : k < C.length) (e : (C.getD k Ce.zero).eq (D.getD k Ce.zero) = false) : No.eqn ⟨L, C, K, I⟩ ⟨L', D, M, J⟩ = false := by
  have : (List.range C.length).all (fun i => (C.getD i Ce.zero).eq (D.getD i Ce.zero)) = false := all_no hk e
  unfold No.eqn
  simp only
  rw [this]
  simp
theorem eqn_k (h : Alike L L' C D K M I J) {k : Nat} (hk : k < K.length) (e : ¬ K.getD k No.bz = M.getD k No.bz) : No.eqn ⟨L, C, K, I⟩ ⟨L', D, M, J⟩ = false := by
  have : (List.range K.length).all (fun i => decide (K.getD i No.bz = M.getD i No.bz)) = false := all_no hk (decide_eq_false e)
  unfold No.eqn
  simp only
  rw [this]
  simp
theorem eqn_i (h : Alike L L' C D K M I J) {k : Nat} (hk : k < I.length) (e : ¬ I.getD k 0 = J.getD k 0) : No.eqn ⟨L, C, K, I⟩ ⟨L', D, M, J⟩ = false := by
  have : (List.range I.length).all (fun i => decide (I.getD i 0 = J.getD i 0)) = false := all_no hk (decide_eq_false e)
  unfold No.eqn
  simp only
  rw [this]
  simp
theorem eqn_yes (h : Alike L L' C D K M I J) (hc : ∀ i, i < C.length → (C.getD i Ce.zero).eq (D.getD i Ce.zero) = true) (hk : ∀ i, i < K.length → K.getD i No.bz = M.getD i No.bz) (hi : ∀ i, i < I.length → I.getD i 0 = J.getD i 0) : No.eqn ⟨L, C, K, I⟩ ⟨L', D, M, J⟩ = true := by
  have h1 : (List.range C.length).all (fun i => (C.getD i Ce.zero).eq (D.getD i Ce.zero)) = true := all_yes hc
  have h2 : (List.range K.length).all (fun i => decide (K.getD i No.bz = M.getD i No.bz)) = true := all_yes (fun i h => decide_eq_true (hk i h))
  have h3 : (List.range I.length).all (fun i => decide (I.getD i 0 = J.getD i 0)) = true := all_yes (fun i h => decide_eq_true (hi i h))
  obtain ⟨l1, l2, l3, rfl⟩ := h
  unfold No.eqn
  simp only
  rw [h1, h2, h3, l1, l2, l3]
  simp
end

set_option maxRecDepth 100000 in
set_option maxHeartbeats 16000000 in
theorem refEqNode_any (vc vk vi vc' vk' vi' : Value) (n m : No) (w : World) (h : Nb w vc vk vi n) (g : Nb w vc' vk' vi' m) :
    Calls Try.prog 11 #[.agg (nv n.L vc vk vi), .agg (nv m.L vc' vk' vi')] w fun e w' => e = .returned (.bool (n.eqn m)) ∧ Below w.heap.size w w' := by
  obtain ⟨L, C, K, I⟩ := n
  obtain ⟨L', D, M, J⟩ := m
  obtain ⟨hc, hk, hi⟩ := h
  obtain ⟨hc', hk', hi'⟩ := g
  simp only at hc hk hi hc' hk' hi'
  obtain ⟨p0, n0, c0, rfl, ha0, hb0, HN0, HC⟩ := hc.opens
  obtain ⟨p1, n1, c1, rfl, ha1, hb1, HN1, HK⟩ := hk.opens
  obtain ⟨p2, n2, c2, rfl, ha2, hb2, HN2, HI⟩ := hi.opens
  obtain ⟨p3, n3, c3, rfl, ha3, hb3, HN3, HD⟩ := hc'.opens
  obtain ⟨p4, n4, c4, rfl, ha4, hb4, HN4, HM'⟩ := hk'.opens
  obtain ⟨p5, n5, c5, rfl, ha5, hb5, HN5, HJ⟩ := hi'.opens
  have e0 := HN0.out
  have e1 := HN1.out
  have e2 := HN2.out
  have e3 := HN3.out
  have e4 := HN4.out
  have e5 := HN5.out
  subst e0 e1 e2 e3 e4 e5
  clear hc hk hi HN0 HN1 HN2 hc' hk' hi' HN3 HN4 HN5
  cases h1 : (L != L')
  case true =>
    have HR : Hid (No.eqn ⟨L, C, K, I⟩ ⟨L', D, M, J⟩ = false) := hide (eqn_1 h1)
    go_enter Try.func11, Try.ntmps11
    go_upto_region 1 with (first
      | (refine wpList_box 26 (.tmp 0) (nv L _ _ _) rfl rfl rfl ?_; intro W1 hB hX)
      | (refine wpList_box 26 (.tmp 1) (nv L' _ _ _) rfl rfl rfl ?_; intro W2 hB2 hY; have lxy := Nat.ne_of_lt hX.lt; replace hX := hX.later hB2; replace hB := hB.trans (hB2.mono hB.size); clear hB2))
    generalize W1.heap.size = w1 at *
    obtain ⟨g0, g1, g2, g3⟩ := hX.nodes
    obtain ⟨d0, d1, d2, d3⟩ := hY.nodes
    refine kl_start 95 (by kernel_rfl) ?_
    refine kl_take 0 (some 8) (.pointer (some ⟨w.heap.size, 0, none⟩)) (by kernel_rfl) (by kernel_rfl) (by kernel_rfl) (by kernel_rfl) ?_
    refine kl_load 1 (some 9) (.bool L) 4 (.tmp 8) (by kernel_rfl) (by kernel_rfl) (by kernel_rfl) (by kernel_rfl) (by kernel_rfl) (ld_bo g0) ?_
    refine kl_take 2 (some 10) (.pointer (some ⟨w1, 0, none⟩)) (by kernel_rfl) (by kernel_rfl) (by kernel_rfl) (by kernel_rfl) ?_
    refine kl_load 3 (some 11) (.bool L') 4 (.tmp 10) (by kernel_rfl) (by kernel_rfl) (by kernel_rfl) (by kernel_rfl) (by kernel_rfl) (ld_bo d0) ?_
    refine kl_test 4 (some 12) true (by kernel_rfl) (by kernel_rfl) (by kernel_rfl) (show (L != L') = true from h1) (by kernel_rfl) ?_
    refine kl_take 5 (some 13) (.bool true) (by kernel_rfl) (by kernel_rfl) (by kernel_rfl) (by kernel_rfl) ?_
    refine kl_skip 6 (some 14) (by kernel_rfl) (by kernel_rfl) (by kernel_rfl) ?_
    refine kl_skip 7 (some 15) (by kernel_rfl) (by kernel_rfl) (by kernel_rfl) ?_
    refine kl_skip 8 (some 16) (by kernel_rfl) (by kernel_rfl) (by kernel_rfl) ?_
    refine kl_skip 9 (some 17) (by kernel_rfl) (by kernel_rfl) (by kernel_rfl) ?_
    refine kl_skip 10 (some 18) (by kernel_rfl) (by kernel_rfl) (by kernel_rfl) ?_
    refine kl_skip 11 (some 19) (by kernel_rfl) (by kernel_rfl) (by kernel_rfl) ?_
    refine kl_skip 12 (some 20) (by kernel_rfl) (by kernel_rfl) (by kernel_rfl) ?_
    refine kl_take 13 (some 21) (.bool true) (by kernel_rfl) (by kernel_rfl) (by kernel_rfl) (by kernel_rfl) ?_
    refine kl_take 14 (some 22) (.bool true) (by kernel_rfl) (by kernel_rfl) (by kernel_rfl) (by kernel_rfl) ?_
    refine kl_skip 15 (some 23) (by kernel_rfl) (by kernel_rfl) (by kernel_rfl) ?_
    refine kl_skip 16 (some 24) (by kernel_rfl) (by kernel_rfl) (by kernel_rfl) ?_
    refine kl_skip 17 (some 25) (by kernel_rfl) (by kernel_rfl) (by kernel_rfl) ?_
    refine kl_skip 18 (some 26) (by kernel_rfl) (by kernel_rfl) (by kernel_rfl) ?_
    refine kl_skip 19 (some 27) (by kernel_rfl) (by kernel_rfl) (by kernel_rfl) ?_
    refine kl_skip 20 (some 28) (by kernel_rfl) (by kernel_rfl) (by kernel_rfl) ?_
    refine kl_skip 21 (some 29) (by kernel_rfl) (by kernel_rfl) (by kernel_rfl) ?_
    refine kl_take 22 (some 30) (.bool true) (by kernel_rfl) (by kernel_rfl) (by kernel_rfl) (by kernel_rfl) ?_
    refine kl_take 23 (some 31) (.bool true) (by kernel_rfl) (by kernel_rfl) (by kernel_rfl) (by kernel_rfl) ?_
    refine kl_skip 24 (some 32) (by kernel_rfl) (by kernel_rfl) (by kernel_rfl) ?_
    refine kl_skip 25 (some 33) (by kernel_rfl) (by kernel_rfl) (by kernel_rfl) ?_
    refine kl_skip 26 (some 34) (by kernel_rfl) (by kernel_rfl) (by kernel_rfl) ?_
    refine kl_skip 27 (some 35) (by kernel_rfl) (by kernel_rfl) (by kernel_rfl) ?_
    refine kl_skip 28 (some 36) (by kernel_rfl) (by kernel_rfl) (by kernel_rfl) ?_
    refine kl_skip 29 (some 37) (by kernel_rfl) (by kernel_rfl) (by kernel_rfl) ?_
    refine kl_skip 30 (some 38) (by kernel_rfl) (by kernel_rfl) (by kernel_rfl) ?_
    refine kl_take 31 (some 39) (.bool true) (by kernel_rfl) (by kernel_rfl) (by kernel_rfl) (by kernel_rfl) ?_
    refine kl_done (by kernel_rfl) (fun y8 => #[y8 0, y8 1, .pointer (some ⟨w.heap.size, 0, none⟩), .pointer (some ⟨w1, 0, none⟩), .bool false, y8 5, y8 6, y8 7, y8 8, y8 9, y8 10, y8 11, y8 12, y8 13, y8 14, y8 15, y8 16, y8 17, y8 18, y8 19, y8 20, y8 21, y8 22, y8 23, y8 24, y8 25, y8 26, y8 27, y8 28, y8 29, y8 30, y8 31, y8 32, y8 33, y8 34, y8 35, y8 36, y8 37, y8 38, .bool true, y8 40, y8 41, y8 42, y8 43, y8 44, y8 45, y8 46, y8 47, y8 48, y8 49, y8 50, y8 51, y8 52, y8 53, y8 54, y8 55, y8 56, y8 57, y8 58, y8 59, y8 60, y8 61, y8 62, y8 63, y8 64, y8 65, y8 66, y8 67, y8 68, y8 69, y8 70, y8 71, y8 72, y8 73, y8 74, y8 75, y8 76, y8 77, y8 78, y8 79, y8 80, y8 81, y8 82, y8 83, y8 84, y8 85, y8 86, y8 87, y8 88, y8 89, y8 90, y8 91, y8 92, y8 93, y8 94]) (by kernel_rfl) ?_
    intro y8
    go_simp
    go_wp2_with fail
    go_ret
    exact ⟨by rw [HR.out]; rfl, hB⟩
  cases h2 : ((C.length : Int) != (D.length : Int))
  case true =>
    have HR : Hid (No.eqn ⟨L, C, K, I⟩ ⟨L', D, M, J⟩ = false) := hide (eqn_2 h2)
    go_enter Try.func11, Try.ntmps11
    go_upto_region 1 with (first
      | (refine wpList_box 26 (.tmp 0) (nv L _ _ _) rfl rfl rfl ?_; intro W1 hB hX)
      | (refine wpList_box 26 (.tmp 1) (nv L' _ _ _) rfl rfl rfl ?_; intro W2 hB2 hY; have lxy := Nat.ne_of_lt hX.lt; replace hX := hX.later hB2; replace hB := hB.trans (hB2.mono hB.size); clear hB2))
    generalize W1.heap.size = w1 at *
    obtain ⟨g0, g1, g2, g3⟩ := hX.nodes
    obtain ⟨d0, d1, d2, d3⟩ := hY.nodes
    refine kl_start 95 (by kernel_rfl) ?_
    refine kl_take 0 (some 8) (.pointer (some ⟨w.heap.size, 0, none⟩)) (by kernel_rfl) (by kernel_rfl) (by kernel_rfl) (by kernel_rfl) ?_
    refine kl_load 1 (some 9) (.bool L) 4 (.tmp 8) (by kernel_rfl) (by kernel_rfl) (by kernel_rfl) (by kernel_rfl) (by kernel_rfl) (ld_bo g0) ?_
    refine kl_take 2 (some 10) (.pointer (some ⟨w1, 0, none⟩)) (by kernel_rfl) (by kernel_rfl) (by kernel_rfl) (by kernel_rfl) ?_
    refine kl_load 3 (some 11) (.bool L') 4 (.tmp 10) (by kernel_rfl) (by kernel_rfl) (by kernel_rfl) (by kernel_rfl) (by kernel_rfl) (ld_bo d0) ?_
    refine kl_test 4 (some 12) false (by kernel_rfl) (by kernel_rfl) (by kernel_rfl) (show (L != L') = false from h1) (by kernel_rfl) ?_
    refine kl_take 5 (some 13) (.bool false) (by kernel_rfl) (by kernel_rfl) (by kernel_rfl) (by kernel_rfl) ?_
    refine kl_take 6 (some 14) (.pointer (some ⟨w.heap.size, 1, none⟩)) (by kernel_rfl) (by kernel_rfl) (by kernel_rfl) (by kernel_rfl) ?_
    refine kl_load 7 (some 15) (.slice p0 C.length c0) 22 (.tmp 14) (by kernel_rfl) (by kernel_rfl) (by kernel_rfl) (by kernel_rfl) (by kernel_rfl) (ld_csM g1) ?_
    refine kl_take 8 (some 16) (.int .i64 (C.length : Int)) (by kernel_rfl) (by kernel_rfl) (by kernel_rfl) (by kernel_rfl) ?_
    refine kl_take 9 (some 17) (.pointer (some ⟨w1, 1, none⟩)) (by kernel_rfl) (by kernel_rfl) (by kernel_rfl) (by kernel_rfl) ?_
    refine kl_load 10 (some 18) (.slice p3 D.length c3) 22 (.tmp 17) (by kernel_rfl) (by kernel_rfl) (by kernel_rfl) (by kernel_rfl) (by kernel_rfl) (ld_csM d1) ?_
    refine kl_take 11 (some 19) (.int .i64 (D.length : Int)) (by kernel_rfl) (by kernel_rfl) (by kernel_rfl) (by kernel_rfl) ?_
    refine kl_test 12 (some 20) true (by kernel_rfl) (by kernel_rfl) (by kernel_rfl) (show ((C.length : Int) != (D.length : Int)) = true from h2) (by kernel_rfl) ?_
    refine kl_take 13 (some 21) (.bool true) (by kernel_rfl) (by kernel_rfl) (by kernel_rfl) (by kernel_rfl) ?_
    refine kl_take 14 (some 22) (.bool true) (by kernel_rfl) (by kernel_rfl) (by kernel_rfl) (by kernel_rfl) ?_
    refine kl_skip 15 (some 23) (by kernel_rfl) (by kernel_rfl) (by kernel_rfl) ?_
    refine kl_skip 16 (some 24) (by kernel_rfl) (by kernel_rfl) (by kernel_rfl) ?_
    refine kl_skip 17 (some 25) (by kernel_rfl) (by kernel_rfl) (by kernel_rfl) ?_
    refine kl_skip 18 (some 26) (by kernel_rfl) (by kernel_rfl) (by kernel_rfl) ?_
    refine kl_skip 19 (some 27) (by kernel_rfl) (by kernel_rfl) (by kernel_rfl) ?_
    refine kl_skip 20 (some 28) (by kernel_rfl) (by kernel_rfl) (by kernel_rfl) ?_
    refine kl_skip 21 (some 29) (by kernel_rfl) (by kernel_rfl) (by kernel_rfl) ?_
    refine kl_take 22 (some 30) (.bool true) (by kernel_rfl) (by kernel_rfl) (by kernel_rfl) (by kernel_rfl) ?_
    refine kl_take 23 (some 31) (.bool true) (by kernel_rfl) (by kernel_rfl) (by kernel_rfl) (by kernel_rfl) ?_
    refine kl_skip 24 (some 32) (by kernel_rfl) (by kernel_rfl) (by kernel_rfl) ?_
    refine kl_skip 25 (some 33) (by kernel_rfl) (by kernel_rfl) (by kernel_rfl) ?_
    refine kl_skip 26 (some 34) (by kernel_rfl) (by kernel_rfl) (by kernel_rfl) ?_
    refine kl_skip 27 (some 35) (by kernel_rfl) (by kernel_rfl) (by kernel_rfl) ?_
    refine kl_skip 28 (some 36) (by kernel_rfl) (by kernel_rfl) (by kernel_rfl) ?_
    refine kl_skip 29 (some 37) (by kernel_rfl) (by kernel_rfl) (by kernel_rfl) ?_
    refine kl_skip 30 (some 38) (by kernel_rfl) (by kernel_rfl) (by kernel_rfl) ?_
    refine kl_take 31 (some 39) (.bool true) (by kernel_rfl) (by kernel_rfl) (by kernel_rfl) (by kernel_rfl) ?_
    refine kl_done (by kernel_rfl) (fun y8 => #[y8 0, y8 1, .pointer (some ⟨w.heap.size, 0, none⟩), .pointer (some ⟨w1, 0, none⟩), .bool false, y8 5, y8 6, y8 7, y8 8, y8 9, y8 10, y8 11, y8 12, y8 13, y8 14, y8 15, y8 16, y8 17, y8 18, y8 19, y8 20, y8 21, y8 22, y8 23, y8 24, y8 25, y8 26, y8 27, y8 28, y8 29, y8 30, y8 31, y8 32, y8 33, y8 34, y8 35, y8 36, y8 37, y8 38, .bool true, y8 40, y8 41, y8 42, y8 43, y8 44, y8 45, y8 46, y8 47, y8 48, y8 49, y8 50, y8 51, y8 52, y8 53, y8 54, y8 55, y8 56, y8 57, y8 58, y8 59, y8 60, y8 61, y8 62, y8 63, y8 64, y8 65, y8 66, y8 67, y8 68, y8 69, y8 70, y8 71, y8 72, y8 73, y8 74, y8 75, y8 76, y8 77, y8 78, y8 79, y8 80, y8 81, y8 82, y8 83, y8 84, y8 85, y8 86, y8 87, y8 88, y8 89, y8 90, y8 91, y8 92, y8 93, y8 94]) (by kernel_rfl) ?_
    intro y8
    go_simp
    go_wp2_with fail
    go_ret
    exact ⟨by rw [HR.out]; rfl, hB⟩
  cases h3 : ((K.length : Int) != (M.length : Int))
  case true =>
    have HR : Hid (No.eqn ⟨L, C, K, I⟩ ⟨L', D, M, J⟩ = false) := hide (eqn_3 h3)
    go_enter Try.func11, Try.ntmps11
    go_upto_region 1 with (first
      | (refine wpList_box 26 (.tmp 0) (nv L _ _ _) rfl rfl rfl ?_; intro W1 hB hX)
      | (refine wpList_box 26 (.tmp 1) (nv L' _ _ _) rfl rfl rfl ?_; intro W2 hB2 hY; have lxy := Nat.ne_of_lt hX.lt; replace hX := hX.later hB2; replace hB := hB.trans (hB2.mono hB.size); clear hB2))
    generalize W1.heap.size = w1 at *
    obtain ⟨g0, g1, g2, g3⟩ := hX.nodes
    obtain ⟨d0, d1, d2, d3⟩ := hY.nodes
    refine kl_start 95 (by kernel_rfl) ?_
    refine kl_take 0 (some 8) (.pointer (some ⟨w.heap.size, 0, none⟩)) (by kernel_rfl) (by kernel_rfl) (by kernel_rfl) (by kernel_rfl) ?_
    refine kl_load 1 (some 9) (.bool L) 4 (.tmp 8) (by kernel_rfl) (by kernel_rfl) (by kernel_rfl) (by kernel_rfl) (by kernel_rfl) (ld_bo g0) ?_
    refine kl_take 2 (some 10) (.pointer (some ⟨w1, 0, none⟩)) (by kernel_rfl) (by kernel_rfl) (by kernel_rfl) (by kernel_rfl) ?_
    refine kl_load 3 (some 11) (.bool L') 4 (.tmp 10) (by kernel_rfl) (by kernel_rfl) (by kernel_rfl) (by kernel_rfl) (by kernel_rfl) (ld_bo d0) ?_
    refine kl_test 4 (some 12) false (by kernel_rfl) (by kernel_rfl) (by kernel_rfl) (show (L != L') = false from h1) (by kernel_rfl) ?_
    refine kl_take 5 (some 13) (.bool false) (by kernel_rfl) (by kernel_rfl) (by kernel_rfl) (by kernel_rfl) ?_
    refine kl_take 6 (some 14) (.pointer (some ⟨w.heap.size, 1, none⟩)) (by kernel_rfl) (by kernel_rfl) (by kernel_rfl) (by kernel_rfl) ?_
    refine kl_load 7 (some 15) (.slice p0 C.length c0) 22 (.tmp 14) (by kernel_rfl) (by kernel_rfl) (by kernel_rfl) (by kernel_rfl) (by kernel_rfl) (ld_csM g1) ?_
    refine kl_take 8 (some 16) (.int .i64 (C.length : Int)) (by kernel_rfl) (by kernel_rfl) (by kernel_rfl) (by kernel_rfl) ?_
    refine kl_take 9 (some 17) (.pointer (some ⟨w1, 1, none⟩)) (by kernel_rfl) (by kernel_rfl) (by kernel_rfl) (by kernel_rfl) ?_
    refine kl_load 10 (some 18) (.slice p3 D.length c3) 22 (.tmp 17) (by kernel_rfl) (by kernel_rfl) (by kernel_rfl) (by kernel_rfl) (by kernel_rfl) (ld_csM d1) ?_
    refine kl_take 11 (some 19) (.int .i64 (D.length : Int)) (by kernel_rfl) (by kernel_rfl) (by kernel_rfl) (by kernel_rfl) ?_
    refine kl_test 12 (some 20) false (by kernel_rfl) (by kernel_rfl) (by kernel_rfl) (show ((C.length : Int) != (D.length : Int)) = false from h2) (by kernel_rfl) ?_
    refine kl_take 13 (some 21) (.bool false) (by kernel_rfl) (by kernel_rfl) (by kernel_rfl) (by kernel_rfl) ?_
    refine kl_take 14 (some 22) (.bool false) (by kernel_rfl) (by kernel_rfl) (by kernel_rfl) (by kernel_rfl) ?_
    refine kl_take 15 (some 23) (.pointer (some ⟨w.heap.size, 2, none⟩)) (by kernel_rfl) (by kernel_rfl) (by kernel_rfl) (by kernel_rfl) ?_
    refine kl_load 16 (some 24) (.slice p1 K.length c1) 23 (.tmp 23) (by kernel_rfl) (by kernel_rfl) (by kernel_rfl) (by kernel_rfl) (by kernel_rfl) (ld_ts g2) ?_
    refine kl_take 17 (some 25) (.int .i64 (K.length : Int)) (by kernel_rfl) (by kernel_rfl) (by kernel_rfl) (by kernel_rfl) ?_
    refine kl_take 18 (some 26) (.pointer (some ⟨w1, 2, none⟩)) (by kernel_rfl) (by kernel_rfl) (by kernel_rfl) (by kernel_rfl) ?_
    refine kl_load 19 (some 27) (.slice p4 M.length c4) 23 (.tmp 26) (by kernel_rfl) (by kernel_rfl) (by kernel_rfl) (by kernel_rfl) (by kernel_rfl) (ld_ts d2) ?_
    refine kl_take 20 (some 28) (.int .i64 (M.length : Int)) (by kernel_rfl) (by kernel_rfl) (by kernel_rfl) (by kernel_rfl) ?_
    refine kl_test 21 (some 29) true (by kernel_rfl) (by kernel_rfl) (by kernel_rfl) (show ((K.length : Int) != (M.length : Int)) = true from h3) (by kernel_rfl) ?_
    refine kl_take 22 (some 30) (.bool true) (by kernel_rfl) (by kernel_rfl) (by kernel_rfl) (by kernel_rfl) ?_
    refine kl_take 23 (some 31) (.bool true) (by kernel_rfl) (by kernel_rfl) (by kernel_rfl) (by kernel_rfl) ?_
    refine kl_skip 24 (some 32) (by kernel_rfl) (by kernel_rfl) (by kernel_rfl) ?_
    refine kl_skip 25 (some 33) (by kernel_rfl) (by kernel_rfl) (by kernel_rfl) ?_
    refine kl_skip 26 (some 34) (by kernel_rfl) (by kernel_rfl) (by kernel_rfl) ?_
    refine kl_skip 27 (some 35) (by kernel_rfl) (by kernel_rfl) (by kernel_rfl) ?_
    refine kl_skip 28 (some 36) (by kernel_rfl) (by kernel_rfl) (by kernel_rfl) ?_
    refine kl_skip 29 (some 37) (by kernel_rfl) (by kernel_rfl) (by kernel_rfl) ?_
    refine kl_skip 30 (some 38) (by kernel_rfl) (by kernel_rfl) (by kernel_rfl) ?_
    refine kl_take 31 (some 39) (.bool true) (by kernel_rfl) (by kernel_rfl) (by kernel_rfl) (by kernel_rfl) ?_
    refine kl_done (by kernel_rfl) (fun y8 => #[y8 0, y8 1, .pointer (some ⟨w.heap.size, 0, none⟩), .pointer (some ⟨w1, 0, none⟩), .bool false, y8 5, y8 6, y8 7, y8 8, y8 9, y8 10, y8 11, y8 12, y8 13, y8 14, y8 15, y8 16, y8 17, y8 18, y8 19, y8 20, y8 21, y8 22, y8 23, y8 24, y8 25, y8 26, y8 27, y8 28, y8 29, y8 30, y8 31, y8 32, y8 33, y8 34, y8 35, y8 36, y8 37, y8 38, .bool true, y8 40, y8 41, y8 42, y8 43, y8 44, y8 45, y8 46, y8 47, y8 48, y8 49, y8 50, y8 51, y8 52, y8 53, y8 54, y8 55, y8 56, y8 57, y8 58, y8 59, y8 60, y8 61, y8 62, y8 63, y8 64, y8 65, y8 66, y8 67, y8 68, y8 69, y8 70, y8 71, y8 72, y8 73, y8 74, y8 75, y8 76, y8 77, y8 78, y8 79, y8 80, y8 81, y8 82, y8 83, y8 84, y8 85, y8 86, y8 87, y8 88, y8 89, y8 90, y8 91, y8 92, y8 93, y8 94]) (by kernel_rfl) ?_
    intro y8
    go_simp
    go_wp2_with fail
    go_ret
    exact ⟨by rw [HR.out]; rfl, hB⟩
  cases h4 : ((I.length : Int) != (J.length : Int))
  case true =>
    have HR : Hid (No.eqn ⟨L, C, K, I⟩ ⟨L', D, M, J⟩ = false) := hide (eqn_4 h4)
    go_enter Try.func11, Try.ntmps11
    go_upto_region 1 with (first
      | (refine wpList_box 26 (.tmp 0) (nv L _ _ _) rfl rfl rfl ?_; intro W1 hB hX)
      | (refine wpList_box 26 (.tmp 1) (nv L' _ _ _) rfl rfl rfl ?_; intro W2 hB2 hY; have lxy := Nat.ne_of_lt hX.lt; replace hX := hX.later hB2; replace hB := hB.trans (hB2.mono hB.size); clear hB2))
    generalize W1.heap.size = w1 at *
    obtain ⟨g0, g1, g2, g3⟩ := hX.nodes
    obtain ⟨d0, d1, d2, d3⟩ := hY.nodes
    refine kl_start 95 (by kernel_rfl) ?_
    refine kl_take 0 (some 8) (.pointer (some ⟨w.heap.size, 0, none⟩)) (by kernel_rfl) (by kernel_rfl) (by kernel_rfl) (by kernel_rfl) ?_
    refine kl_load 1 (some 9) (.bool L) 4 (.tmp 8) (by kernel_rfl) (by kernel_rfl) (by kernel_rfl) (by kernel_rfl) (by kernel_rfl) (ld_bo g0) ?_
    refine kl_take 2 (some 10) (.pointer (some ⟨w1, 0, none⟩)) (by kernel_rfl) (by kernel_rfl) (by kernel_rfl) (by kernel_rfl) ?_
    refine kl_load 3 (some 11) (.bool L') 4 (.tmp 10) (by kernel_rfl) (by kernel_rfl) (by kernel_rfl) (by kernel_rfl) (by kernel_rfl) (ld_bo d0) ?_
    refine kl_test 4 (some 12) false (by kernel_rfl) (by kernel_rfl) (by kernel_rfl) (show (L != L') = false from h1) (by kernel_rfl) ?_
    refine kl_take 5 (some 13) (.bool false) (by kernel_rfl) (by kernel_rfl) (by kernel_rfl) (by kernel_rfl) ?_
    refine kl_take 6 (some 14) (.pointer (some ⟨w.heap.size, 1, none⟩)) (by kernel_rfl) (by kernel_rfl) (by kernel_rfl) (by kernel_rfl) ?_
    refine kl_load 7 (some 15) (.slice p0 C.length c0) 22 (.tmp 14) (by kernel_rfl) (by kernel_rfl) (by kernel_rfl) (by kernel_rfl) (by kernel_rfl) (ld_csM g1) ?_
    refine kl_take 8 (some 16) (.int .i64 (C.length : Int)) (by kernel_rfl) (by kernel_rfl) (by kernel_rfl) (by kernel_rfl) ?_
    refine kl_take 9 (some 17) (.pointer (some ⟨w1, 1, none⟩)) (by kernel_rfl) (by kernel_rfl) (by kernel_rfl) (by kernel_rfl) ?_
    refine kl_load 10 (some 18) (.slice p3 D.length c3) 22 (.tmp 17) (by kernel_rfl) (by kernel_rfl) (by kernel_rfl) (by kernel_rfl) (by kernel_rfl) (ld_csM d1) ?_
    refine kl_take 11 (some 19) (.int .i64 (D.length : Int)) (by kernel_rfl) (by kernel_rfl) (by kernel_rfl) (by kernel_rfl) ?_
    refine kl_test 12 (some 20) false (by kernel_rfl) (by kernel_rfl) (by kernel_rfl) (show ((C.length : Int) != (D.length : Int)) = false from h2) (by kernel_rfl) ?_
    refine kl_take 13 (some 21) (.bool false) (by kernel_rfl) (by kernel_rfl) (by kernel_rfl) (by kernel_rfl) ?_
    refine kl_take 14 (some 22) (.bool false) (by kernel_rfl) (by kernel_rfl) (by kernel_rfl) (by kernel_rfl) ?_
    refine kl_take 15 (some 23) (.pointer (some ⟨w.heap.size, 2, none⟩)) (by kernel_rfl) (by kernel_rfl) (by kernel_rfl) (by kernel_rfl) ?_
    refine kl_load 16 (some 24) (.slice p1 K.length c1) 23 (.tmp 23) (by kernel_rfl) (by kernel_rfl) (by kernel_rfl) (by kernel_rfl) (by kernel_rfl) (ld_ts g2) ?_
    refine kl_take 17 (some 25) (.int .i64 (K.length : Int)) (by kernel_rfl) (by kernel_rfl) (by kernel_rfl) (by kernel_rfl) ?_
    refine kl_take 18 (some 26) (.pointer (some ⟨w1, 2, none⟩)) (by kernel_rfl) (by kernel_rfl) (by kernel_rfl) (by kernel_rfl) ?_
    refine kl_load 19 (some 27) (.slice p4 M.length c4) 23 (.tmp 26) (by kernel_rfl) (by kernel_rfl) (by kernel_rfl) (by kernel_rfl) (by kernel_rfl) (ld_ts d2) ?_
    refine kl_take 20 (some 28) (.int .i64 (M.length : Int)) (by kernel_rfl) (by kernel_rfl) (by kernel_rfl) (by kernel_rfl) ?_
    refine kl_test 21 (some 29) false (by kernel_rfl) (by kernel_rfl) (by kernel_rfl) (show ((K.length : Int) != (M.length : Int)) = false from h3) (by kernel_rfl) ?_
    refine kl_take 22 (some 30) (.bool false) (by kernel_rfl) (by kernel_rfl) (by kernel_rfl) (by kernel_rfl) ?_
    refine kl_take 23 (some 31) (.bool false) (by kernel_rfl) (by kernel_rfl) (by kernel_rfl) (by kernel_rfl) ?_
    refine kl_take 24 (some 32) (.pointer (some ⟨w.heap.size, 3, none⟩)) (by kernel_rfl) (by kernel_rfl) (by kernel_rfl) (by kernel_rfl) ?_
    refine kl_load 25 (some 33) (.slice p2 I.length c2) 24 (.tmp 32) (by kernel_rfl) (by kernel_rfl) (by kernel_rfl) (by kernel_rfl) (by kernel_rfl) (ld_is g3) ?_
    refine kl_take 26 (some 34) (.int .i64 (I.length : Int)) (by kernel_rfl) (by kernel_rfl) (by kernel_rfl) (by kernel_rfl) ?_
    refine kl_take 27 (some 35) (.pointer (some ⟨w1, 3, none⟩)) (by kernel_rfl) (by kernel_rfl) (by kernel_rfl) (by kernel_rfl) ?_
    refine kl_load 28 (some 36) (.slice p5 J.length c5) 24 (.tmp 35) (by kernel_rfl) (by kernel_rfl) (by kernel_rfl) (by kernel_rfl) (by kernel_rfl) (ld_is d3) ?_
    refine kl_take 29 (some 37) (.int .i64 (J.length : Int)) (by kernel_rfl) (by kernel_rfl) (by kernel_rfl) (by kernel_rfl) ?_
    refine kl_test 30 (some 38) true (by kernel_rfl) (by kernel_rfl) (by kernel_rfl) (show ((I.length : Int) != (J.length : Int)) = true from h4) (by kernel_rfl) ?_
    refine kl_take 31 (some 39) (.bool true) (by kernel_rfl) (by kernel_rfl) (by kernel_rfl) (by kernel_rfl) ?_
    refine kl_done (by kernel_rfl) (fun y8 => #[y8 0, y8 1, .pointer (some ⟨w.heap.size, 0, none⟩), .pointer (some ⟨w1, 0, none⟩), .bool false, y8 5, y8 6, y8 7, y8 8, y8 9, y8 10, y8 11, y8 12, y8 13, y8 14, y8 15, y8 16, y8 17, y8 18, y8 19, y8 20, y8 21, y8 22, y8 23, y8 24, y8 25, y8 26, y8 27, y8 28, y8 29, y8 30, y8 31, y8 32, y8 33, y8 34, y8 35, y8 36, y8 37, y8 38, .bool true, y8 40, y8 41, y8 42, y8 43, y8 44, y8 45, y8 46, y8 47, y8 48, y8 49, y8 50, y8 51, y8 52, y8 53, y8 54, y8 55, y8 56, y8 57, y8 58, y8 59, y8 60, y8 61, y8 62, y8 63, y8 64, y8 65, y8 66, y8 67, y8 68, y8 69, y8 70, y8 71, y8 72, y8 73, y8 74, y8 75, y8 76, y8 77, y8 78, y8 79, y8 80, y8 81, y8 82, y8 83, y8 84, y8 85, y8 86, y8 87, y8 88, y8 89, y8 90, y8 91, y8 92, y8 93, y8 94]) (by kernel_rfl) ?_
    intro y8
    go_simp
    go_wp2_with fail
    go_ret
    exact ⟨by rw [HR.out]; rfl, hB⟩
  have l0 : L' = L := by revert h1; cases L <;> cases L' <;> simp
  have l1 : D.length = C.length := by simp at h2; omega
  have l2 : M.length = K.length := by simp at h3; omega
  have l3 : J.length = I.length := by simp at h4; omega
  have HE := hide (eqn_5 (C := C) (K := K) (I := I) (D := D) (M := M) (J := J) l0 l1 l2 l3)
  go_enter Try.func11, Try.ntmps11
  go_upto_region 1 with (first
    | (refine wpList_box 26 (.tmp 0) (nv L _ _ _) rfl rfl rfl ?_; intro W1 hB hX)
    | (refine wpList_box 26 (.tmp 1) (nv L' _ _ _) rfl rfl rfl ?_; intro W2 hB2 hY; have lxy := Nat.ne_of_lt hX.lt; replace hX := hX.later hB2; replace hB := hB.trans (hB2.mono hB.size); clear hB2))
  generalize W1.heap.size = w1 at *
  obtain ⟨g0, g1, g2, g3⟩ := hX.nodes
  obtain ⟨d0, d1, d2, d3⟩ := hY.nodes
  refine kl_start 95 (by kernel_rfl) ?_
  refine kl_take 0 (some 8) (.pointer (some ⟨w.heap.size, 0, none⟩)) (by kernel_rfl) (by kernel_rfl) (by kernel_rfl) (by kernel_rfl) ?_
  refine kl_load 1 (some 9) (.bool L) 4 (.tmp 8) (by kernel_rfl) (by kernel_rfl) (by kernel_rfl) (by kernel_rfl) (by kernel_rfl) (ld_bo g0) ?_
  refine kl_take 2 (some 10) (.pointer (some ⟨w1, 0, none⟩)) (by kernel_rfl) (by kernel_rfl) (by kernel_rfl) (by kernel_rfl) ?_
  refine kl_load 3 (some 11) (.bool L') 4 (.tmp 10) (by kernel_rfl) (by kernel_rfl) (by kernel_rfl) (by kernel_rfl) (by kernel_rfl) (ld_bo d0) ?_
  refine kl_test 4 (some 12) false (by kernel_rfl) (by kernel_rfl) (by kernel_rfl) (show (L != L') = false from h1) (by kernel_rfl) ?_
  refine kl_take 5 (some 13) (.bool false) (by kernel_rfl) (by kernel_rfl) (by kernel_rfl) (by kernel_rfl) ?_
  refine kl_take 6 (some 14) (.pointer (some ⟨w.heap.size, 1, none⟩)) (by kernel_rfl) (by kernel_rfl) (by kernel_rfl) (by kernel_rfl) ?_
  refine kl_load 7 (some 15) (.slice p0 C.length c0) 22 (.tmp 14) (by kernel_rfl) (by kernel_rfl) (by kernel_rfl) (by kernel_rfl) (by kernel_rfl) (ld_csM g1) ?_
  refine kl_take 8 (some 16) (.int .i64 (C.length : Int)) (by kernel_rfl) (by kernel_rfl) (by kernel_rfl) (by kernel_rfl) ?_
  refine kl_take 9 (some 17) (.pointer (some ⟨w1, 1, none⟩)) (by kernel_rfl) (by kernel_rfl) (by kernel_rfl) (by kernel_rfl) ?_
  refine kl_load 10 (some 18) (.slice p3 D.length c3) 22 (.tmp 17) (by kernel_rfl) (by kernel_rfl) (by kernel_rfl) (by kernel_rfl) (by kernel_rfl) (ld_csM d1) ?_
  refine kl_take 11 (some 19) (.int .i64 (D.length : Int)) (by kernel_rfl) (by kernel_rfl) (by kernel_rfl) (by kernel_rfl) ?_
  refine kl_test 12 (some 20) false (by kernel_rfl) (by kernel_rfl) (by kernel_rfl) (show ((C.length : Int) != (D.length : Int)) = false from h2) (by kernel_rfl) ?_
  refine kl_take 13 (some 21) (.bool false) (by kernel_rfl) (by kernel_rfl) (by kernel_rfl) (by kernel_rfl) ?_
  refine kl_take 14 (some 22) (.bool false) (by kernel_rfl) (by kernel_rfl) (by kernel_rfl) (by kernel_rfl) ?_
  refine kl_take 15 (some 23) (.pointer (some ⟨w.heap.size, 2, none⟩)) (by kernel_rfl) (by kernel_rfl) (by kernel_rfl) (by kernel_rfl) ?_
  refine kl_load 16 (some 24) (.slice p1 K.length c1) 23 (.tmp 23) (by kernel_rfl) (by kernel_rfl) (by kernel_rfl) (by kernel_rfl) (by kernel_rfl) (ld_ts g2) ?_
  refine kl_take 17 (some 25) (.int .i64 (K.length : Int)) (by kernel_rfl) (by kernel_rfl) (by kernel_rfl) (by kernel_rfl) ?_
  refine kl_take 18 (some 26) (.pointer (some ⟨w1, 2, none⟩)) (by kernel_rfl) (by kernel_rfl) (by kernel_rfl) (by kernel_rfl) ?_
  refine kl_load 19 (some 27) (.slice p4 M.length c4) 23 (.tmp 26) (by kernel_rfl) (by kernel_rfl) (by kernel_rfl) (by kernel_rfl) (by kernel_rfl) (ld_ts d2) ?_
  refine kl_take 20 (some 28) (.int .i64 (M.length : Int)) (by kernel_rfl) (by kernel_rfl) (by kernel_rfl) (by kernel_rfl) ?_
  refine kl_test 21 (some 29) false (by kernel_rfl) (by kernel_rfl) (by kernel_rfl) (show ((K.length : Int) != (M.length : Int)) = false from h3) (by kernel_rfl) ?_
  refine kl_take 22 (some 30) (.bool false) (by kernel_rfl) (by kernel_rfl) (by kernel_rfl) (by kernel_rfl) ?_
  refine kl_take 23 (some 31) (.bool false) (by kernel_rfl) (by kernel_rfl) (by kernel_rfl) (by kernel_rfl) ?_
  refine kl_take 24 (some 32) (.pointer (some ⟨w.heap.size, 3, none⟩)) (by kernel_rfl) (by kernel_rfl) (by kernel_rfl) (by kernel_rfl) ?_
  refine kl_load 25 (some 33) (.slice p2 I.length c2) 24 (.tmp 32) (by kernel_rfl) (by kernel_rfl) (by kernel_rfl) (by kernel_rfl) (by kernel_rfl) (ld_is g3) ?_
  refine kl_take 26 (some 34) (.int .i64 (I.length : Int)) (by kernel_rfl) (by kernel_rfl) (by kernel_rfl) (by kernel_rfl) ?_
  refine kl_take 27 (some 35) (.pointer (some ⟨w1, 3, none⟩)) (by kernel_rfl) (by kernel_rfl) (by kernel_rfl) (by kernel_rfl) ?_
  refine kl_load 28 (some 36) (.slice p5 J.length c5) 24 (.tmp 35) (by kernel_rfl) (by kernel_rfl) (by kernel_rfl) (by kernel_rfl) (by kernel_rfl) (ld_is d3) ?_
  refine kl_take 29 (some 37) (.int .i64 (J.length : Int)) (by kernel_rfl) (by kernel_rfl) (by kernel_rfl) (by kernel_rfl) ?_
  refine kl_test 30 (some 38) false (by kernel_rfl) (by kernel_rfl) (by kernel_rfl) (show ((I.length : Int) != (J.length : Int)) = false from h4) (by kernel_rfl) ?_
  refine kl_take 31 (some 39) (.bool false) (by kernel_rfl) (by kernel_rfl) (by kernel_rfl) (by kernel_rfl) ?_
  refine kl_done (by kernel_rfl) (fun y8 => #[y8 0, y8 1, .pointer (some ⟨w.heap.size, 0, none⟩), .pointer (some ⟨w1, 0, none⟩), .bool false, y8 5, y8 6, y8 7, y8 8, y8 9, y8 10, y8 11, y8 12, y8 13, y8 14, y8 15, y8 16, y8 17, y8 18, y8 19, y8 20, y8 21, y8 22, y8 23, y8 24, y8 25, y8 26, y8 27, y8 28, y8 29, y8 30, y8 31, y8 32, y8 33, y8 34, y8 35, y8 36, y8 37, y8 38, .bool false, y8 40, y8 41, y8 42, y8 43, y8 44, y8 45, y8 46, y8 47, y8 48, y8 49, y8 50, y8 51, y8 52, y8 53, y8 54, y8 55, y8 56, y8 57, y8 58, y8 59, y8 60, y8 61, y8 62, y8 63, y8 64, y8 65, y8 66, y8 67, y8 68, y8 69, y8 70, y8 71, y8 72, y8 73, y8 74, y8 75, y8 76, y8 77, y8 78, y8 79, y8 80, y8 81, y8 82, y8 83, y8 84, y8 85, y8 86, y8 87, y8 88, y8 89, y8 90, y8 91, y8 92, y8 93, y8 94]) (by kernel_rfl) ?_
  intro y8
  go_simp
  go_wp2_with fail
  rw [l1] at HD hY
  rw [l2] at HM' hY
  rw [l3] at HJ hY
  have HX1 := hide hX
  have HY1 := hide hY
  have HB1 := hide hB
  clear hX hY hB g0 g1 g2 g3 d0 d1 d2 d3 h1 h2 h3 h4 l1 l2 l3 l0
  go_loopw [5] (fun i wr => ∃ k : Nat, k ≤ C.length ∧ i = .int .i64 k ∧ Hid (∀ i, i < k → (C.getD i Ce.zero).eq (D.getD i Ce.zero) = true) ∧ Hid (Bx wr w.heap.size (nv L (.slice p0 C.length c0) (.slice p1 K.length c1) (.slice p2 I.length c2))) ∧ Hid (Bx wr w1 (nv L' (.slice p3 C.length c3) (.slice p4 K.length c4) (.slice p5 I.length c5))) ∧ Hid (Below w.heap.size w wr)) (fun i _ => C.length - (intOf i).toNat)
  case atStart => exact ⟨0, by omega, rfl, (fun i hi => by omega), HX1, HY1, HB1⟩
  case round =>
    obtain ⟨k, hk0, rfl, HY, HX, HYb, HBel⟩ := hrel
    clear HX1 HY1 HB1
    have hX := HX.out
    have hY := HYb.out
    have hB := HBel.out
    obtain ⟨g0, g1, g2, g3⟩ := hX.nodes
    obtain ⟨d0, d1, d2, d3⟩ := hY.nodes
    by_cases hk : k < C.length
    · obtain ⟨b, off, rfl, r0, hqo⟩ := Cs.at_ HC.out hk
      have hk2 : k < D.length := by rw [HE.out.1]; exact hk
      obtain ⟨b2, off2, e2, r2, hqo2⟩ := Cs.at_ HD.out hk2
      subst e2
      have HQ := hide hqo
      have HQ2 := hide hqo2
      have HYN := hide (eqn_c HE.out hk)
      generalize hq : C.getD k Ce.zero = q at *
      generalize hq2 : D.getD k Ce.zero = q2 at *
      have HG : Hid (∀ W, Below w.heap.size w W → W.rangeAt b (off + k * 8) (cv q).toList) := hide (fun W hW => rangeAt_later r0 hW (rangeAt_lt r0))
      have HG2 : Hid (∀ W, Below w.heap.size w W → W.rangeAt b2 (off2 + k * 8) (cv q2).toList) := hide (fun W hW => rangeAt_later r2 hW (rangeAt_lt r2))
      clear r0 r2 hqo hqo2 hk2
      cases hm : q.eq q2
      · have HM := hide hm
        have HBad := hide (HYN.out hm)
        clear hm hq hq2
        go_wp2_with fail
        clear g0 g1 g2 g3 d0 d1 d2 d3 HX HYb HBel
        refine wp_region_noPanic ?_
        refine wp_region_held_drew (S := fun W => Below wr.heap.size wr W) (by kernel_rfl) ?_ (fun hHeld => ?_)
        · exact (Below.refl _ _).drew
        refine wpAnyH_take (i := 0) (v := ?_) rfl (by kernel_rfl) (by kernel_rfl) (by kernel_rfl) (fun _ _ _ h => h) (Or.inl ⟨by kernel_rfl, ?_⟩) hHeld ?_
        rotate_left
        · intro W hW; go_simp; first | done | with_reducible rfl | rfl
        try simp only [Act.put, List.getElem_toArray, List.getElem_cons_zero, List.setIfInBounds_toArray, List.set_cons_succ, List.set_cons_zero]
        refine wpAnyH_take (i := 1) (v := .slice (some ⟨b, off, none⟩) C.length c0) rfl (by kernel_rfl) (by kernel_rfl) (by kernel_rfl) (fun _ _ _ h => h) (Or.inl ⟨by kernel_rfl, ?_⟩) hHeld ?_
        · intro W hW; have e0 := (hX.later hW).nodes.2.1; clear hW; go_simp; first | done | with_reducible rfl | rfl
        try simp only [Act.put, List.getElem_toArray, List.getElem_cons_zero, List.getElem_cons_succ, List.setIfInBounds_toArray, List.set_cons_succ, List.set_cons_zero]
        refine wpAnyH_take (i := 2) (v := ?_) rfl (by kernel_rfl) (by kernel_rfl) (by kernel_rfl) (fun _ _ _ h => h) (Or.inl ⟨by kernel_rfl, ?_⟩) hHeld ?_
        rotate_left
        · intro W hW; go_simp; first | done | with_reducible rfl | rfl
        try simp only [Act.put, List.getElem_toArray, List.getElem_cons_zero, List.getElem_cons_succ, List.setIfInBounds_toArray, List.set_cons_succ, List.set_cons_zero]
        refine wpAnyH_take (i := 3) (v := .pointer (some ⟨b, off + k * 8, none⟩)) rfl (by kernel_rfl) (by kernel_rfl) (by kernel_rfl) (fun _ _ _ h => h) (Or.inl ⟨by kernel_rfl, ?_⟩) hHeld ?_
        · intro W hW; go_simp; first | done | with_reducible rfl | rfl
        try simp only [Act.put, List.getElem_toArray, List.getElem_cons_zero, List.getElem_cons_succ, List.setIfInBounds_toArray, List.set_cons_succ, List.set_cons_zero]
        refine wpAnyH_take (i := 4) (v := .agg (cv q)) rfl (by kernel_rfl) (by kernel_rfl) (by kernel_rfl) (fun _ _ _ h => h) (yields_mid (by kernel_rfl) _ rfl _ _ rfl (fun W hW => HG.out W (hB.trans (Below.mono hW hB.size)))) hHeld ?_
        try simp only [Act.put, List.getElem_toArray, List.getElem_cons_zero, List.getElem_cons_succ, List.setIfInBounds_toArray, List.set_cons_succ, List.set_cons_zero]
        refine wpAnyH_take (i := 5) (v := ?_) rfl (by kernel_rfl) (by kernel_rfl) (by kernel_rfl) (fun _ _ _ h => h) (Or.inl ⟨by kernel_rfl, ?_⟩) hHeld ?_
        rotate_left
        · intro W hW; go_simp; first | done | with_reducible rfl | rfl
        try simp only [Act.put, List.getElem_toArray, List.getElem_cons_zero, List.getElem_cons_succ, List.setIfInBounds_toArray, List.set_cons_succ, List.set_cons_zero]
        refine wpAnyH_take (i := 6) (v := .slice (some ⟨b2, off2, none⟩) C.length c3) rfl (by kernel_rfl) (by kernel_rfl) (by kernel_rfl) (fun _ _ _ h => h) (Or.inl ⟨by kernel_rfl, ?_⟩) hHeld ?_
        · intro W hW; have e0 := (hY.later hW).nodes.2.1; clear hW; go_simp; first | done | with_reducible rfl | rfl
        try simp only [Act.put, List.getElem_toArray, List.getElem_cons_zero, List.getElem_cons_succ, List.setIfInBounds_toArray, List.set_cons_succ, List.set_cons_zero]
        refine wpAnyH_take (i := 7) (v := ?_) rfl (by kernel_rfl) (by kernel_rfl) (by kernel_rfl) (fun _ _ _ h => h) (Or.inl ⟨by kernel_rfl, ?_⟩) hHeld ?_
        rotate_left
        · intro W hW; go_simp; first | done | with_reducible rfl | rfl
        try simp only [Act.put, List.getElem_toArray, List.getElem_cons_zero, List.getElem_cons_succ, List.setIfInBounds_toArray, List.set_cons_succ, List.set_cons_zero]
        refine wpAnyH_take (i := 8) (v := .pointer (some ⟨b2, off2 + k * 8, none⟩)) rfl (by kernel_rfl) (by kernel_rfl) (by kernel_rfl) (fun _ _ _ h => h) (Or.inl ⟨by kernel_rfl, ?_⟩) hHeld ?_
        · intro W hW; go_simp; first | done | with_reducible rfl | rfl
        try simp only [Act.put, List.getElem_toArray, List.getElem_cons_zero, List.getElem_cons_succ, List.setIfInBounds_toArray, List.set_cons_succ, List.set_cons_zero]
        refine wpAnyH_take (i := 9) (v := .agg (cv q2)) rfl (by kernel_rfl) (by kernel_rfl) (by kernel_rfl) (fun _ _ _ h => h) (yields_mid (by kernel_rfl) _ rfl _ _ rfl (fun W hW => HG2.out W (hB.trans (Below.mono hW hB.size)))) hHeld ?_
        try simp only [Act.put, List.getElem_toArray, List.getElem_cons_zero, List.getElem_cons_succ, List.setIfInBounds_toArray, List.set_cons_succ, List.set_cons_zero]
        refine wpAnyH_callB (i := 10) rfl (by kernel_rfl) (by kernel_rfl) (by kernel_rfl) (refEq_cell q q2 _ HQ.out HQ2.out) hHeld ?_
        intro xc hb4 hHeld
        rw [HM.out]
        try simp only [Act.put, List.getElem_toArray, List.getElem_cons_zero, List.getElem_cons_succ, List.setIfInBounds_toArray, List.set_cons_succ, List.set_cons_zero]
        replace hX := hX.later hHeld
        replace hY := hY.later hHeld
        replace hB := hB.trans (hHeld.mono hB.size)
        clear hHeld hb4
        have hHeld : Below xc.heap.size xc xc := Below.refl _ _
        refine wpAnyH_take (i := 11) (v := ?_) rfl (by kernel_rfl) (by kernel_rfl) (by kernel_rfl) (fun _ _ _ h => h) (Or.inl ⟨by kernel_rfl, ?_⟩) hHeld ?_
        rotate_left
        · intro W hW; go_simp; first | done | with_reducible rfl | rfl
        try simp only [Act.put, List.getElem_toArray, List.getElem_cons_zero, List.getElem_cons_succ, List.setIfInBounds_toArray, List.set_cons_succ, List.set_cons_zero]
        refine wpAnyH_done (by kernel_rfl) ?_ _
        refine NoPanic.normal ?_
        go_simp
        go_wp2_with fail
        go_ret
        exact ⟨by rw [HBad.out]; rfl, hB⟩
      · have HM := hide hm
        have HY2 : Hid (∀ i, i < k + 1 → (C.getD i Ce.zero).eq (D.getD i Ce.zero) = true) := hide (fun i hi => by
          rcases Nat.lt_or_ge i k with h | h
          · exact HY.out i h
          · obtain rfl : i = k := by omega
            rw [hq, hq2]; exact hm)
        clear hm hq hq2
        go_wp2_with fail
        clear g0 g1 g2 g3 d0 d1 d2 d3 HX HYb HBel
        refine wp_region_noPanic ?_
        refine wp_region_held_drew (S := fun W => Below wr.heap.size wr W) (by kernel_rfl) ?_ (fun hHeld => ?_)
        · exact (Below.refl _ _).drew
        refine wpAnyH_take (i := 0) (v := ?_) rfl (by kernel_rfl) (by kernel_rfl) (by kernel_rfl) (fun _ _ _ h => h) (Or.inl ⟨by kernel_rfl, ?_⟩) hHeld ?_
        rotate_left
        · intro W hW; go_simp; first | done | with_reducible rfl | rfl
        try simp only [Act.put, List.getElem_toArray, List.getElem_cons_zero, List.setIfInBounds_toArray, List.set_cons_succ, List.set_cons_zero]
        refine wpAnyH_take (i := 1) (v := .slice (some ⟨b, off, none⟩) C.length c0) rfl (by kernel_rfl) (by kernel_rfl) (by kernel_rfl) (fun _ _ _ h => h) (Or.inl ⟨by kernel_rfl, ?_⟩) hHeld ?_
        · intro W hW; have e0 := (hX.later hW).nodes.2.1; clear hW; go_simp; first | done | with_reducible rfl | rfl
        try simp only [Act.put, List.getElem_toArray, List.getElem_cons_zero, List.getElem_cons_succ, List.setIfInBounds_toArray, List.set_cons_succ, List.set_cons_zero]
        refine wpAnyH_take (i := 2) (v := ?_) rfl (by kernel_rfl) (by kernel_rfl) (by kernel_rfl) (fun _ _ _ h => h) (Or.inl ⟨by kernel_rfl, ?_⟩) hHeld ?_
        rotate_left
        · intro W hW; go_simp; first | done | with_reducible rfl | rfl
        try simp only [Act.put, List.getElem_toArray, List.getElem_cons_zero, List.getElem_cons_succ, List.setIfInBounds_toArray, List.set_cons_succ, List.set_cons_zero]
        refine wpAnyH_take (i := 3) (v := .pointer (some ⟨b, off + k * 8, none⟩)) rfl (by kernel_rfl) (by kernel_rfl) (by kernel_rfl) (fun _ _ _ h => h) (Or.inl ⟨by kernel_rfl, ?_⟩) hHeld ?_
        · intro W hW; go_simp; first | done | with_reducible rfl | rfl
        try simp only [Act.put, List.getElem_toArray, List.getElem_cons_zero, List.getElem_cons_succ, List.setIfInBounds_toArray, List.set_cons_succ, List.set_cons_zero]
        refine wpAnyH_take (i := 4) (v := .agg (cv q)) rfl (by kernel_rfl) (by kernel_rfl) (by kernel_rfl) (fun _ _ _ h => h) (yields_mid (by kernel_rfl) _ rfl _ _ rfl (fun W hW => HG.out W (hB.trans (Below.mono hW hB.size)))) hHeld ?_
        try simp only [Act.put, List.getElem_toArray, List.getElem_cons_zero, List.getElem_cons_succ, List.setIfInBounds_toArray, List.set_cons_succ, List.set_cons_zero]
        refine wpAnyH_take (i := 5) (v := ?_) rfl (by kernel_rfl) (by kernel_rfl) (by kernel_rfl) (fun _ _ _ h => h) (Or.inl ⟨by kernel_rfl, ?_⟩) hHeld ?_
        rotate_left
        · intro W hW; go_simp; first | done | with_reducible rfl | rfl
        try simp only [Act.put, List.getElem_toArray, List.getElem_cons_zero, List.getElem_cons_succ, List.setIfInBounds_toArray, List.set_cons_succ, List.set_cons_zero]
        refine wpAnyH_take (i := 6) (v := .slice (some ⟨b2, off2, none⟩) C.length c3) rfl (by kernel_rfl) (by kernel_rfl) (by kernel_rfl) (fun _ _ _ h => h) (Or.inl ⟨by kernel_rfl, ?_⟩) hHeld ?_
        · intro W hW; have e0 := (hY.later hW).nodes.2.1; clear hW; go_simp; first | done | with_reducible rfl | rfl
        try simp only [Act.put, List.getElem_toArray, List.getElem_cons_zero, List.getElem_cons_succ, List.setIfInBounds_toArray, List.set_cons_succ, List.set_cons_zero]
        refine wpAnyH_take (i := 7) (v := ?_) rfl (by kernel_rfl) (by kernel_rfl) (by kernel_rfl) (fun _ _ _ h => h) (Or.inl ⟨by kernel_rfl, ?_⟩) hHeld ?_
        rotate_left
        · intro W hW; go_simp; first | done | with_reducible rfl | rfl
        try simp only [Act.put, List.getElem_toArray, List.getElem_cons_zero, List.getElem_cons_succ, List.setIfInBounds_toArray, List.set_cons_succ, List.set_cons_zero]
        refine wpAnyH_take (i := 8) (v := .pointer (some ⟨b2, off2 + k * 8, none⟩)) rfl (by kernel_rfl) (by kernel_rfl) (by kernel_rfl) (fun _ _ _ h => h) (Or.inl ⟨by kernel_rfl, ?_⟩) hHeld ?_
        · intro W hW; go_simp; first | done | with_reducible rfl | rfl
        try simp only [Act.put, List.getElem_toArray, List.getElem_cons_zero, List.getElem_cons_succ, List.setIfInBounds_toArray, List.set_cons_succ, List.set_cons_zero]
        refine wpAnyH_take (i := 9) (v := .agg (cv q2)) rfl (by kernel_rfl) (by kernel_rfl) (by kernel_rfl) (fun _ _ _ h => h) (yields_mid (by kernel_rfl) _ rfl _ _ rfl (fun W hW => HG2.out W (hB.trans (Below.mono hW hB.size)))) hHeld ?_
        try simp only [Act.put, List.getElem_toArray, List.getElem_cons_zero, List.getElem_cons_succ, List.setIfInBounds_toArray, List.set_cons_succ, List.set_cons_zero]
        refine wpAnyH_callB (i := 10) rfl (by kernel_rfl) (by kernel_rfl) (by kernel_rfl) (refEq_cell q q2 _ HQ.out HQ2.out) hHeld ?_
        intro xc hb4 hHeld
        rw [HM.out]
        try simp only [Act.put, List.getElem_toArray, List.getElem_cons_zero, List.getElem_cons_succ, List.setIfInBounds_toArray, List.set_cons_succ, List.set_cons_zero]
        replace hX := hX.later hHeld
        replace hY := hY.later hHeld
        replace hB := hB.trans (hHeld.mono hB.size)
        clear hHeld hb4
        have hHeld : Below xc.heap.size xc xc := Below.refl _ _
        refine wpAnyH_take (i := 11) (v := ?_) rfl (by kernel_rfl) (by kernel_rfl) (by kernel_rfl) (fun _ _ _ h => h) (Or.inl ⟨by kernel_rfl, ?_⟩) hHeld ?_
        rotate_left
        · intro W hW; go_simp; first | done | with_reducible rfl | rfl
        try simp only [Act.put, List.getElem_toArray, List.getElem_cons_zero, List.getElem_cons_succ, List.setIfInBounds_toArray, List.set_cons_succ, List.set_cons_zero]
        refine wpAnyH_done (by kernel_rfl) ?_ _
        refine NoPanic.normal ?_
        go_simp
        go_wp2_with fail
        go_roundw
        case rel => exact ⟨_, hk, by go_num, HY2, hide hX, hide hY, hide hB⟩
        case measure => simp [intOf]; omega
    · obtain rfl : k = C.length := by omega
      have HYC := HY
      clear HY hk hk0
      go_wp2_with fail
      have HX0 := hide hX
      have HY0 := hide hY
      have HB0 := hide hB
      clear hX hY hB HX HYb HBel g0 g1 g2 g3 d0 d1 d2 d3
      go_loopw [6] (fun i wr => ∃ k : Nat, k ≤ K.length ∧ i = .int .i64 k ∧ Hid (∀ i, i < k → K.getD i No.bz = M.getD i No.bz) ∧ Hid (Bx wr w.heap.size (nv L (.slice p0 C.length c0) (.slice p1 K.length c1) (.slice p2 I.length c2))) ∧ Hid (Bx wr w1 (nv L' (.slice p3 C.length c3) (.slice p4 K.length c4) (.slice p5 I.length c5))) ∧ Hid (Below w.heap.size w wr)) (fun i _ => K.length - (intOf i).toNat)
      case atStart => exact ⟨0, by omega, rfl, (fun i hi => by omega), HX0, HY0, HB0⟩
      case round =>
        obtain ⟨k, hk0, rfl, HYK, HX, HYb, HBel⟩ := hrel
        clear HX0 HY0 HB0
        have hX := HX.out
        have hY := HYb.out
        have hB := HBel.out
        obtain ⟨g0, g1, g2, g3⟩ := hX.nodes
        obtain ⟨d0, d1, d2, d3⟩ := hY.nodes
        by_cases hk : k < K.length
        · obtain ⟨b, off, rfl, r0, -⟩ := Ts.at_ HK.out hk
          have hk2 : k < M.length := by rw [HE.out.2.1]; exact hk
          obtain ⟨b2, off2, e2, r2, -⟩ := Ts.at_ HM'.out hk2
          subst e2
          have HYN := hide (eqn_k HE.out hk)
          generalize hq : K.getD k No.bz = q at *
          generalize hq2 : M.getD k No.bz = q2 at *
          have HG : Hid (∀ W, Below w.heap.size w W → W.cell? ⟨b, off + k, none⟩ = some (.string q)) := hide (fun W hW => (hW.cell (p := ⟨b, off + k, none⟩) (cell_lt r0)).trans r0)
          have HG2 : Hid (∀ W, Below w.heap.size w W → W.cell? ⟨b2, off2 + k, none⟩ = some (.string q2)) := hide (fun W hW => (hW.cell (p := ⟨b2, off2 + k, none⟩) (cell_lt r2)).trans r2)
          clear r0 r2 hk2
          cases hm : (q.toList == q2.toList)
          · have HBad := hide (HYN.out (by rw [str_same] at hm; simpa using hm))
            have hnp : ¬ q.toList = q2.toList := by simpa using hm
            clear hq hq2 hm
            go_wp2_with fail
            clear g0 g1 g2 g3 d0 d1 d2 d3 HX HYb HBel
            refine wp_region_noPanic ?_
            refine wp_region_held_drew (S := fun W => Below wr.heap.size wr W) (by kernel_rfl) ?_ (fun hHeld => ?_)
            · exact (Below.refl _ _).drew
            refine wpAnyH_take (i := 0) (v := ?_) rfl (by kernel_rfl) (by kernel_rfl) (by kernel_rfl) (fun _ _ _ h => h) (Or.inl ⟨by kernel_rfl, ?_⟩) hHeld ?_
            rotate_left
            · intro W hW; go_simp; first | done | with_reducible rfl | rfl
            try simp only [Act.put, List.getElem_toArray, List.getElem_cons_zero, List.setIfInBounds_toArray, List.set_cons_succ, List.set_cons_zero]
            refine wpAnyH_take (i := 1) (v := .slice (some ⟨b, off, none⟩) K.length c1) rfl (by kernel_rfl) (by kernel_rfl) (by kernel_rfl) (fun _ _ _ h => h) (Or.inl ⟨by kernel_rfl, ?_⟩) hHeld ?_
            · intro W hW; have e0 := (hX.later hW).nodes.2.2.1; clear hW; go_simp; first | done | with_reducible rfl | rfl
            try simp only [Act.put, List.getElem_toArray, List.getElem_cons_zero, List.getElem_cons_succ, List.setIfInBounds_toArray, List.set_cons_succ, List.set_cons_zero]
            refine wpAnyH_take (i := 2) (v := ?_) rfl (by kernel_rfl) (by kernel_rfl) (by kernel_rfl) (fun _ _ _ h => h) (Or.inl ⟨by kernel_rfl, ?_⟩) hHeld ?_
            rotate_left
            · intro W hW; go_simp; first | done | with_reducible rfl | rfl
            try simp only [Act.put, List.getElem_toArray, List.getElem_cons_zero, List.getElem_cons_succ, List.setIfInBounds_toArray, List.set_cons_succ, List.set_cons_zero]
            refine wpAnyH_take (i := 3) (v := .pointer (some ⟨b, off + k, none⟩)) rfl (by kernel_rfl) (by kernel_rfl) (by kernel_rfl) (fun _ _ _ h => h) (Or.inl ⟨by kernel_rfl, ?_⟩) hHeld ?_
            · intro W hW; go_simp; first | done | with_reducible rfl | rfl
            try simp only [Act.put, List.getElem_toArray, List.getElem_cons_zero, List.getElem_cons_succ, List.setIfInBounds_toArray, List.set_cons_succ, List.set_cons_zero]
            refine wpAnyH_take (i := 4) (v := .string q) rfl (by kernel_rfl) (by kernel_rfl) (by kernel_rfl) (fun _ _ _ h => h) (Or.inl ⟨by kernel_rfl, ?_⟩) hHeld ?_
            · intro W hW; have e0 := HG.out W (hB.trans (Below.mono hW hB.size)); clear hW; go_simp; first | done | with_reducible rfl | rfl
            try simp only [Act.put, List.getElem_toArray, List.getElem_cons_zero, List.getElem_cons_succ, List.setIfInBounds_toArray, List.set_cons_succ, List.set_cons_zero]
            refine wpAnyH_take (i := 5) (v := ?_) rfl (by kernel_rfl) (by kernel_rfl) (by kernel_rfl) (fun _ _ _ h => h) (Or.inl ⟨by kernel_rfl, ?_⟩) hHeld ?_
            rotate_left
            · intro W hW; go_simp; first | done | with_reducible rfl | rfl
            try simp only [Act.put, List.getElem_toArray, List.getElem_cons_zero, List.getElem_cons_succ, List.setIfInBounds_toArray, List.set_cons_succ, List.set_cons_zero]
            refine wpAnyH_take (i := 6) (v := .slice (some ⟨b2, off2, none⟩) K.length c4) rfl (by kernel_rfl) (by kernel_rfl) (by kernel_rfl) (fun _ _ _ h => h) (Or.inl ⟨by kernel_rfl, ?_⟩) hHeld ?_
            · intro W hW; have e0 := (hY.later hW).nodes.2.2.1; clear hW; go_simp; first | done | with_reducible rfl | rfl
            try simp only [Act.put, List.getElem_toArray, List.getElem_cons_zero, List.getElem_cons_succ, List.setIfInBounds_toArray, List.set_cons_succ, List.set_cons_zero]
            refine wpAnyH_take (i := 7) (v := ?_) rfl (by kernel_rfl) (by kernel_rfl) (by kernel_rfl) (fun _ _ _ h => h) (Or.inl ⟨by kernel_rfl, ?_⟩) hHeld ?_
            rotate_left
            · intro W hW; go_simp; first | done | with_reducible rfl | rfl
            try simp only [Act.put, List.getElem_toArray, List.getElem_cons_zero, List.getElem_cons_succ, List.setIfInBounds_toArray, List.set_cons_succ, List.set_cons_zero]
            refine wpAnyH_take (i := 8) (v := .pointer (some ⟨b2, off2 + k, none⟩)) rfl (by kernel_rfl) (by kernel_rfl) (by kernel_rfl) (fun _ _ _ h => h) (Or.inl ⟨by kernel_rfl, ?_⟩) hHeld ?_
            · intro W hW; go_simp; first | done | with_reducible rfl | rfl
            try simp only [Act.put, List.getElem_toArray, List.getElem_cons_zero, List.getElem_cons_succ, List.setIfInBounds_toArray, List.set_cons_succ, List.set_cons_zero]
            refine wpAnyH_take (i := 9) (v := .string q2) rfl (by kernel_rfl) (by kernel_rfl) (by kernel_rfl) (fun _ _ _ h => h) (Or.inl ⟨by kernel_rfl, ?_⟩) hHeld ?_
            · intro W hW; have e0 := HG2.out W (hB.trans (Below.mono hW hB.size)); clear hW; go_simp; first | done | with_reducible rfl | rfl
            try simp only [Act.put, List.getElem_toArray, List.getElem_cons_zero, List.getElem_cons_succ, List.setIfInBounds_toArray, List.set_cons_succ, List.set_cons_zero]
            refine wpAnyH_take (i := 10) (v := .bool true) rfl (by kernel_rfl) (by kernel_rfl) (by kernel_rfl) (fun _ _ _ h => h) (Or.inl ⟨by kernel_rfl, ?_⟩) hHeld ?_
            · intro W hW; clear hW; go_simp; first | done | exact hnp
            try simp only [Act.put, List.getElem_toArray, List.getElem_cons_zero, List.getElem_cons_succ, List.setIfInBounds_toArray, List.set_cons_succ, List.set_cons_zero]
            refine wpAnyH_done (by kernel_rfl) ?_ _
            refine NoPanic.normal ?_
            go_simp
            replace hX := hX.later hHeld
            replace hY := hY.later hHeld
            replace hB := hB.trans (hHeld.mono hB.size)
            clear hHeld
            go_wp2_with fail
            go_ret
            exact ⟨by rw [HBad.out]; rfl, hB⟩
          · have HY2 : Hid (∀ i, i < k + 1 → K.getD i No.bz = M.getD i No.bz) := hide (fun i hi => by
              rcases Nat.lt_or_ge i k with h | h
              · exact HYK.out i h
              · obtain rfl : i = k := by omega
                rw [hq, hq2]
                rw [str_same] at hm; simpa using hm)
            have hnp : q.toList = q2.toList := by simpa using hm
            clear hq hq2 hm
            go_wp2_with fail
            clear g0 g1 g2 g3 d0 d1 d2 d3 HX HYb HBel
            refine wp_region_noPanic ?_
            refine wp_region_held_drew (S := fun W => Below wr.heap.size wr W) (by kernel_rfl) ?_ (fun hHeld => ?_)
            · exact (Below.refl _ _).drew
            refine wpAnyH_take (i := 0) (v := ?_) rfl (by kernel_rfl) (by kernel_rfl) (by kernel_rfl) (fun _ _ _ h => h) (Or.inl ⟨by kernel_rfl, ?_⟩) hHeld ?_
            rotate_left
            · intro W hW; go_simp; first | done | with_reducible rfl | rfl
            try simp only [Act.put, List.getElem_toArray, List.getElem_cons_zero, List.setIfInBounds_toArray, List.set_cons_succ, List.set_cons_zero]
            refine wpAnyH_take (i := 1) (v := .slice (some ⟨b, off, none⟩) K.length c1) rfl (by kernel_rfl) (by kernel_rfl) (by kernel_rfl) (fun _ _ _ h => h) (Or.inl ⟨by kernel_rfl, ?_⟩) hHeld ?_
            · intro W hW; have e0 := (hX.later hW).nodes.2.2.1; clear hW; go_simp; first | done | with_reducible rfl | rfl
            try simp only [Act.put, List.getElem_toArray, List.getElem_cons_zero, List.getElem_cons_succ, List.setIfInBounds_toArray, List.set_cons_succ, List.set_cons_zero]
            refine wpAnyH_take (i := 2) (v := ?_) rfl (by kernel_rfl) (by kernel_rfl) (by kernel_rfl) (fun _ _ _ h => h) (Or.inl ⟨by kernel_rfl, ?_⟩) hHeld ?_
            rotate_left
            · intro W hW; go_simp; first | done | with_reducible rfl | rfl
            try simp only [Act.put, List.getElem_toArray, List.getElem_cons_zero, List.getElem_cons_succ, List.setIfInBounds_toArray, List.set_cons_succ, List.set_cons_zero]
            refine wpAnyH_take (i := 3) (v := .pointer (some ⟨b, off + k, none⟩)) rfl (by kernel_rfl) (by kernel_rfl) (by kernel_rfl) (fun _ _ _ h => h) (Or.inl ⟨by kernel_rfl, ?_⟩) hHeld ?_
            · intro W hW; go_simp; first | done | with_reducible rfl | rfl
            try simp only [Act.put, List.getElem_toArray, List.getElem_cons_zero, List.getElem_cons_succ, List.setIfInBounds_toArray, List.set_cons_succ, List.set_cons_zero]
            refine wpAnyH_take (i := 4) (v := .string q) rfl (by kernel_rfl) (by kernel_rfl) (by kernel_rfl) (fun _ _ _ h => h) (Or.inl ⟨by kernel_rfl, ?_⟩) hHeld ?_
            · intro W hW; have e0 := HG.out W (hB.trans (Below.mono hW hB.size)); clear hW; go_simp; first | done | with_reducible rfl | rfl
            try simp only [Act.put, List.getElem_toArray, List.getElem_cons_zero, List.getElem_cons_succ, List.setIfInBounds_toArray, List.set_cons_succ, List.set_cons_zero]
            refine wpAnyH_take (i := 5) (v := ?_) rfl (by kernel_rfl) (by kernel_rfl) (by kernel_rfl) (fun _ _ _ h => h) (Or.inl ⟨by kernel_rfl, ?_⟩) hHeld ?_
            rotate_left
            · intro W hW; go_simp; first | done | with_reducible rfl | rfl
            try simp only [Act.put, List.getElem_toArray, List.getElem_cons_zero, List.getElem_cons_succ, List.setIfInBounds_toArray, List.set_cons_succ, List.set_cons_zero]
            refine wpAnyH_take (i := 6) (v := .slice (some ⟨b2, off2, none⟩) K.length c4) rfl (by kernel_rfl) (by kernel_rfl) (by kernel_rfl) (fun _ _ _ h => h) (Or.inl ⟨by kernel_rfl, ?_⟩) hHeld ?_
            · intro W hW; have e0 := (hY.later hW).nodes.2.2.1; clear hW; go_simp; first | done | with_reducible rfl | rfl
            try simp only [Act.put, List.getElem_toArray, List.getElem_cons_zero, List.getElem_cons_succ, List.setIfInBounds_toArray, List.set_cons_succ, List.set_cons_zero]
            refine wpAnyH_take (i := 7) (v := ?_) rfl (by kernel_rfl) (by kernel_rfl) (by kernel_rfl) (fun _ _ _ h => h) (Or.inl ⟨by kernel_rfl, ?_⟩) hHeld ?_
            rotate_left
            · intro W hW; go_simp; first | done | with_reducible rfl | rfl
            try simp only [Act.put, List.getElem_toArray, List.getElem_cons_zero, List.getElem_cons_succ, List.setIfInBounds_toArray, List.set_cons_succ, List.set_cons_zero]
            refine wpAnyH_take (i := 8) (v := .pointer (some ⟨b2, off2 + k, none⟩)) rfl (by kernel_rfl) (by kernel_rfl) (by kernel_rfl) (fun _ _ _ h => h) (Or.inl ⟨by kernel_rfl, ?_⟩) hHeld ?_
            · intro W hW; go_simp; first | done | with_reducible rfl | rfl
            try simp only [Act.put, List.getElem_toArray, List.getElem_cons_zero, List.getElem_cons_succ, List.setIfInBounds_toArray, List.set_cons_succ, List.set_cons_zero]
            refine wpAnyH_take (i := 9) (v := .string q2) rfl (by kernel_rfl) (by kernel_rfl) (by kernel_rfl) (fun _ _ _ h => h) (Or.inl ⟨by kernel_rfl, ?_⟩) hHeld ?_
            · intro W hW; have e0 := HG2.out W (hB.trans (Below.mono hW hB.size)); clear hW; go_simp; first | done | with_reducible rfl | rfl
            try simp only [Act.put, List.getElem_toArray, List.getElem_cons_zero, List.getElem_cons_succ, List.setIfInBounds_toArray, List.set_cons_succ, List.set_cons_zero]
            refine wpAnyH_take (i := 10) (v := .bool false) rfl (by kernel_rfl) (by kernel_rfl) (by kernel_rfl) (fun _ _ _ h => h) (Or.inl ⟨by kernel_rfl, ?_⟩) hHeld ?_
            · intro W hW; clear hW; go_simp; first | done | exact hnp
            try simp only [Act.put, List.getElem_toArray, List.getElem_cons_zero, List.getElem_cons_succ, List.setIfInBounds_toArray, List.set_cons_succ, List.set_cons_zero]
            refine wpAnyH_done (by kernel_rfl) ?_ _
            refine NoPanic.normal ?_
            go_simp
            replace hX := hX.later hHeld
            replace hY := hY.later hHeld
            replace hB := hB.trans (hHeld.mono hB.size)
            clear hHeld
            go_wp2_with fail
            go_roundw
            case rel => exact ⟨_, hk, by go_num, HY2, hide hX, hide hY, hide hB⟩
            case measure => simp [intOf]; omega
        · obtain rfl : k = K.length := by omega
          go_wp2_with fail
          have HYK2 := HYK
          clear hk hk0 HYK
          have HX0 := hide hX
          have HY0 := hide hY
          have HB0 := hide hB
          clear hX hY hB HX HYb HBel g0 g1 g2 g3 d0 d1 d2 d3
          go_loopw [7] (fun i wr => ∃ k : Nat, k ≤ I.length ∧ i = .int .i64 k ∧ Hid (∀ i, i < k → I.getD i 0 = J.getD i 0) ∧ Hid (Bx wr w.heap.size (nv L (.slice p0 C.length c0) (.slice p1 K.length c1) (.slice p2 I.length c2))) ∧ Hid (Bx wr w1 (nv L' (.slice p3 C.length c3) (.slice p4 K.length c4) (.slice p5 I.length c5))) ∧ Hid (Below w.heap.size w wr)) (fun i _ => I.length - (intOf i).toNat)
          case atStart => exact ⟨0, by omega, rfl, (fun i hi => by omega), HX0, HY0, HB0⟩
          case round =>
            obtain ⟨k, hk0, rfl, HYI, HX, HYb, HBel⟩ := hrel
            clear HX0 HY0 HB0
            have hX := HX.out
            have hY := HYb.out
            have hB := HBel.out
            obtain ⟨g0, g1, g2, g3⟩ := hX.nodes
            obtain ⟨d0, d1, d2, d3⟩ := hY.nodes
            by_cases hk : k < I.length
            · obtain ⟨b, off, rfl, r0, -⟩ := Is.at_ HI.out hk
              have hk2 : k < J.length := by rw [HE.out.2.2.1]; exact hk
              obtain ⟨b2, off2, e2, r2, -⟩ := Is.at_ HJ.out hk2
              subst e2
              have HYN := hide (eqn_i HE.out hk)
              generalize hq : I.getD k 0 = q at *
              generalize hq2 : J.getD k 0 = q2 at *
              have HG : Hid (∀ W, Below w.heap.size w W → W.cell? ⟨b, off + k, none⟩ = some (.int .i64 q)) := hide (fun W hW => (hW.cell (p := ⟨b, off + k, none⟩) (cell_lt r0)).trans r0)
              have HG2 : Hid (∀ W, Below w.heap.size w W → W.cell? ⟨b2, off2 + k, none⟩ = some (.int .i64 q2)) := hide (fun W hW => (hW.cell (p := ⟨b2, off2 + k, none⟩) (cell_lt r2)).trans r2)
              clear r0 r2 hk2
              cases hm : (q == q2)
              · have HBad := hide (HYN.out (by simpa using hm))
                have hnp : ¬ q = q2 := by simpa using hm
                clear hq hq2 hm
                go_wp2_with fail
                clear g0 g1 g2 g3 d0 d1 d2 d3 HX HYb HBel
                refine wp_region_noPanic ?_
                refine wp_region_held_drew (S := fun W => Below wr.heap.size wr W) (by kernel_rfl) ?_ (fun hHeld => ?_)
                · exact (Below.refl _ _).drew
                refine wpAnyH_take (i := 0) (v := ?_) rfl (by kernel_rfl) (by kernel_rfl) (by kernel_rfl) (fun _ _ _ h => h) (Or.inl ⟨by kernel_rfl, ?_⟩) hHeld ?_
                rotate_left
                · intro W hW; go_simp; first | done | with_reducible rfl | rfl
                try simp only [Act.put, List.getElem_toArray, List.getElem_cons_zero, List.setIfInBounds_toArray, List.set_cons_succ, List.set_cons_zero]
                refine wpAnyH_take (i := 1) (v := .slice (some ⟨b, off, none⟩) I.length c2) rfl (by kernel_rfl) (by kernel_rfl) (by kernel_rfl) (fun _ _ _ h => h) (Or.inl ⟨by kernel_rfl, ?_⟩) hHeld ?_
                · intro W hW; have e0 := (hX.later hW).nodes.2.2.2; clear hW; go_simp; first | done | with_reducible rfl | rfl
                try simp only [Act.put, List.getElem_toArray, List.getElem_cons_zero, List.getElem_cons_succ, List.setIfInBounds_toArray, List.set_cons_succ, List.set_cons_zero]
                refine wpAnyH_take (i := 2) (v := ?_) rfl (by kernel_rfl) (by kernel_rfl) (by kernel_rfl) (fun _ _ _ h => h) (Or.inl ⟨by kernel_rfl, ?_⟩) hHeld ?_
                rotate_left
                · intro W hW; go_simp; first | done | with_reducible rfl | rfl
                try simp only [Act.put, List.getElem_toArray, List.getElem_cons_zero, List.getElem_cons_succ, List.setIfInBounds_toArray, List.set_cons_succ, List.set_cons_zero]
                refine wpAnyH_take (i := 3) (v := .pointer (some ⟨b, off + k, none⟩)) rfl (by kernel_rfl) (by kernel_rfl) (by kernel_rfl) (fun _ _ _ h => h) (Or.inl ⟨by kernel_rfl, ?_⟩) hHeld ?_
                · intro W hW; go_simp; first | done | with_reducible rfl | rfl
                try simp only [Act.put, List.getElem_toArray, List.getElem_cons_zero, List.getElem_cons_succ, List.setIfInBounds_toArray, List.set_cons_succ, List.set_cons_zero]
                refine wpAnyH_take (i := 4) (v := .int .i64 q) rfl (by kernel_rfl) (by kernel_rfl) (by kernel_rfl) (fun _ _ _ h => h) (Or.inl ⟨by kernel_rfl, ?_⟩) hHeld ?_
                · intro W hW; have e0 := HG.out W (hB.trans (Below.mono hW hB.size)); clear hW; go_simp; first | done | with_reducible rfl | rfl
                try simp only [Act.put, List.getElem_toArray, List.getElem_cons_zero, List.getElem_cons_succ, List.setIfInBounds_toArray, List.set_cons_succ, List.set_cons_zero]
                refine wpAnyH_take (i := 5) (v := ?_) rfl (by kernel_rfl) (by kernel_rfl) (by kernel_rfl) (fun _ _ _ h => h) (Or.inl ⟨by kernel_rfl, ?_⟩) hHeld ?_
                rotate_left
                · intro W hW; go_simp; first | done | with_reducible rfl | rfl
                try simp only [Act.put, List.getElem_toArray, List.getElem_cons_zero, List.getElem_cons_succ, List.setIfInBounds_toArray, List.set_cons_succ, List.set_cons_zero]
                refine wpAnyH_take (i := 6) (v := .slice (some ⟨b2, off2, none⟩) I.length c5) rfl (by kernel_rfl) (by kernel_rfl) (by kernel_rfl) (fun _ _ _ h => h) (Or.inl ⟨by kernel_rfl, ?_⟩) hHeld ?_
                · intro W hW; have e0 := (hY.later hW).nodes.2.2.2; clear hW; go_simp; first | done | with_reducible rfl | rfl
                try simp only [Act.put, List.getElem_toArray, List.getElem_cons_zero, List.getElem_cons_succ, List.setIfInBounds_toArray, List.set_cons_succ, List.set_cons_zero]
                refine wpAnyH_take (i := 7) (v := ?_) rfl (by kernel_rfl) (by kernel_rfl) (by kernel_rfl) (fun _ _ _ h => h) (Or.inl ⟨by kernel_rfl, ?_⟩) hHeld ?_
                rotate_left
                · intro W hW; go_simp; first | done | with_reducible rfl | rfl
                try simp only [Act.put, List.getElem_toArray, List.getElem_cons_zero, List.getElem_cons_succ, List.setIfInBounds_toArray, List.set_cons_succ, List.set_cons_zero]
                refine wpAnyH_take (i := 8) (v := .pointer (some ⟨b2, off2 + k, none⟩)) rfl (by kernel_rfl) (by kernel_rfl) (by kernel_rfl) (fun _ _ _ h => h) (Or.inl ⟨by kernel_rfl, ?_⟩) hHeld ?_
                · intro W hW; go_simp; first | done | with_reducible rfl | rfl
                try simp only [Act.put, List.getElem_toArray, List.getElem_cons_zero, List.getElem_cons_succ, List.setIfInBounds_toArray, List.set_cons_succ, List.set_cons_zero]
                refine wpAnyH_take (i := 9) (v := .int .i64 q2) rfl (by kernel_rfl) (by kernel_rfl) (by kernel_rfl) (fun _ _ _ h => h) (Or.inl ⟨by kernel_rfl, ?_⟩) hHeld ?_
                · intro W hW; have e0 := HG2.out W (hB.trans (Below.mono hW hB.size)); clear hW; go_simp; first | done | with_reducible rfl | rfl
                try simp only [Act.put, List.getElem_toArray, List.getElem_cons_zero, List.getElem_cons_succ, List.setIfInBounds_toArray, List.set_cons_succ, List.set_cons_zero]
                refine wpAnyH_take (i := 10) (v := .bool true) rfl (by kernel_rfl) (by kernel_rfl) (by kernel_rfl) (fun _ _ _ h => h) (Or.inl ⟨by kernel_rfl, ?_⟩) hHeld ?_
                · intro W hW; clear hW; go_simp; first | done | exact hnp
                try simp only [Act.put, List.getElem_toArray, List.getElem_cons_zero, List.getElem_cons_succ, List.setIfInBounds_toArray, List.set_cons_succ, List.set_cons_zero]
                refine wpAnyH_done (by kernel_rfl) ?_ _
                refine NoPanic.normal ?_
                go_simp
                replace hX := hX.later hHeld
                replace hY := hY.later hHeld
                replace hB := hB.trans (hHeld.mono hB.size)
                clear hHeld
                go_wp2_with fail
                go_ret
                exact ⟨by rw [HBad.out]; rfl, hB⟩
              · have HY2 : Hid (∀ i, i < k + 1 → I.getD i 0 = J.getD i 0) := hide (fun i hi => by
                  rcases Nat.lt_or_ge i k with h | h
                  · exact HYI.out i h
                  · obtain rfl : i = k := by omega
                    rw [hq, hq2]
                    simpa using hm)
                have hnp : q = q2 := by simpa using hm
                clear hq hq2 hm
                go_wp2_with fail
                clear g0 g1 g2 g3 d0 d1 d2 d3 HX HYb HBel
                refine wp_region_noPanic ?_
                refine wp_region_held_drew (S := fun W => Below wr.heap.size wr W) (by kernel_rfl) ?_ (fun hHeld => ?_)
                · exact (Below.refl _ _).drew
                refine wpAnyH_take (i := 0) (v := ?_) rfl (by kernel_rfl) (by kernel_rfl) (by kernel_rfl) (fun _ _ _ h => h) (Or.inl ⟨by kernel_rfl, ?_⟩) hHeld ?_
                rotate_left
                · intro W hW; go_simp; first | done | with_reducible rfl | rfl
                try simp only [Act.put, List.getElem_toArray, List.getElem_cons_zero, List.setIfInBounds_toArray, List.set_cons_succ, List.set_cons_zero]
                refine wpAnyH_take (i := 1) (v := .slice (some ⟨b, off, none⟩) I.length c2) rfl (by kernel_rfl) (by kernel_rfl) (by kernel_rfl) (fun _ _ _ h => h) (Or.inl ⟨by kernel_rfl, ?_⟩) hHeld ?_
                · intro W hW; have e0 := (hX.later hW).nodes.2.2.2; clear hW; go_simp; first | done | with_reducible rfl | rfl
                try simp only [Act.put, List.getElem_toArray, List.getElem_cons_zero, List.getElem_cons_succ, List.setIfInBounds_toArray, List.set_cons_succ, List.set_cons_zero]
                refine wpAnyH_take (i := 2) (v := ?_) rfl (by kernel_rfl) (by kernel_rfl) (by kernel_rfl) (fun _ _ _ h => h) (Or.inl ⟨by kernel_rfl, ?_⟩) hHeld ?_
                rotate_left
                · intro W hW; go_simp; first | done | with_reducible rfl | rfl
                try simp only [Act.put, List.getElem_toArray, List.getElem_cons_zero, List.getElem_cons_succ, List.setIfInBounds_toArray, List.set_cons_succ, List.set_cons_zero]
                refine wpAnyH_take (i := 3) (v := .pointer (some ⟨b, off + k, none⟩)) rfl (by kernel_rfl) (by kernel_rfl) (by kernel_rfl) (fun _ _ _ h => h) (Or.inl ⟨by kernel_rfl, ?_⟩) hHeld ?_
                · intro W hW; go_simp; first | done | with_reducible rfl | rfl
                try simp only [Act.put, List.getElem_toArray, List.getElem_cons_zero, List.getElem_cons_succ, List.setIfInBounds_toArray, List.set_cons_succ, List.set_cons_zero]
                refine wpAnyH_take (i := 4) (v := .int .i64 q) rfl (by kernel_rfl) (by kernel_rfl) (by kernel_rfl) (fun _ _ _ h => h) (Or.inl ⟨by kernel_rfl, ?_⟩) hHeld ?_
                · intro W hW; have e0 := HG.out W (hB.trans (Below.mono hW hB.size)); clear hW; go_simp; first | done | with_reducible rfl | rfl
                try simp only [Act.put, List.getElem_toArray, List.getElem_cons_zero, List.getElem_cons_succ, List.setIfInBounds_toArray, List.set_cons_succ, List.set_cons_zero]
                refine wpAnyH_take (i := 5) (v := ?_) rfl (by kernel_rfl) (by kernel_rfl) (by kernel_rfl) (fun _ _ _ h => h) (Or.inl ⟨by kernel_rfl, ?_⟩) hHeld ?_
                rotate_left
                · intro W hW; go_simp; first | done | with_reducible rfl | rfl
                try simp only [Act.put, List.getElem_toArray, List.getElem_cons_zero, List.getElem_cons_succ, List.setIfInBounds_toArray, List.set_cons_succ, List.set_cons_zero]
                refine wpAnyH_take (i := 6) (v := .slice (some ⟨b2, off2, none⟩) I.length c5) rfl (by kernel_rfl) (by kernel_rfl) (by kernel_rfl) (fun _ _ _ h => h) (Or.inl ⟨by kernel_rfl, ?_⟩) hHeld ?_
                · intro W hW; have e0 := (hY.later hW).nodes.2.2.2; clear hW; go_simp; first | done | with_reducible rfl | rfl
                try simp only [Act.put, List.getElem_toArray, List.getElem_cons_zero, List.getElem_cons_succ, List.setIfInBounds_toArray, List.set_cons_succ, List.set_cons_zero]
                refine wpAnyH_take (i := 7) (v := ?_) rfl (by kernel_rfl) (by kernel_rfl) (by kernel_rfl) (fun _ _ _ h => h) (Or.inl ⟨by kernel_rfl, ?_⟩) hHeld ?_
                rotate_left
                · intro W hW; go_simp; first | done | with_reducible rfl | rfl
                try simp only [Act.put, List.getElem_toArray, List.getElem_cons_zero, List.getElem_cons_succ, List.setIfInBounds_toArray, List.set_cons_succ, List.set_cons_zero]
                refine wpAnyH_take (i := 8) (v := .pointer (some ⟨b2, off2 + k, none⟩)) rfl (by kernel_rfl) (by kernel_rfl) (by kernel_rfl) (fun _ _ _ h => h) (Or.inl ⟨by kernel_rfl, ?_⟩) hHeld ?_
                · intro W hW; go_simp; first | done | with_reducible rfl | rfl
                try simp only [Act.put, List.getElem_toArray, List.getElem_cons_zero, List.getElem_cons_succ, List.setIfInBounds_toArray, List.set_cons_succ, List.set_cons_zero]
                refine wpAnyH_take (i := 9) (v := .int .i64 q2) rfl (by kernel_rfl) (by kernel_rfl) (by kernel_rfl) (fun _ _ _ h => h) (Or.inl ⟨by kernel_rfl, ?_⟩) hHeld ?_
                · intro W hW; have e0 := HG2.out W (hB.trans (Below.mono hW hB.size)); clear hW; go_simp; first | done | with_reducible rfl | rfl
                try simp only [Act.put, List.getElem_toArray, List.getElem_cons_zero, List.getElem_cons_succ, List.setIfInBounds_toArray, List.set_cons_succ, List.set_cons_zero]
                refine wpAnyH_take (i := 10) (v := .bool false) rfl (by kernel_rfl) (by kernel_rfl) (by kernel_rfl) (fun _ _ _ h => h) (Or.inl ⟨by kernel_rfl, ?_⟩) hHeld ?_
                · intro W hW; clear hW; go_simp; first | done | exact hnp
                try simp only [Act.put, List.getElem_toArray, List.getElem_cons_zero, List.getElem_cons_succ, List.setIfInBounds_toArray, List.set_cons_succ, List.set_cons_zero]
                refine wpAnyH_done (by kernel_rfl) ?_ _
                refine NoPanic.normal ?_
                go_simp
                replace hX := hX.later hHeld
                replace hY := hY.later hHeld
                replace hB := hB.trans (hHeld.mono hB.size)
                clear hHeld
                go_wp2_with fail
                go_roundw
                case rel => exact ⟨_, hk, by go_num, HY2, hide hX, hide hY, hide hB⟩
                case measure => simp [intOf]; omega
            · obtain rfl : k = I.length := by omega
              go_wp2_with fail
              go_ret
              exact ⟨by rw [eqn_yes HE.out HYC.out HYK2.out HYI.out]; rfl, hB⟩
end Go.Proofs.Ytbddghdkmakjlab
