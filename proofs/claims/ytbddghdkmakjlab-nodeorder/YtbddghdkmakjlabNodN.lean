/-
  The contract of node.May over the translated program.
-/
import Derived.Test.YtbddghdkmakjlabGh
namespace Go.Proofs.Ytbddghdkmakjlab
set_option maxRecDepth 100000
set_option linter.unusedVariables false
open Go.RowKit

theorem len_eq {k : Nat} {b : Bool} (h : ((k : Int) == 0) = b) : decide (k = 0) = b := by rw [← h, Bool.eq_iff_iff]; simp
theorem len_pre {k i : Nat} {b : Bool} (h : ((k : Int) == (i : Int) - 1) = b) : decide (k + 1 = i) = b := by
  rw [← h, Bool.eq_iff_iff]
  simp
  omega
theorem may_l {C : List Ce} {K : List ByteArray} {I : List Int} {a b c : Bool} (h1 : ((K.length : Int) == 0) = a) (h2 : ((I.length : Int) == 0) = b) (h3 : No.mayC C = c) : No.may ⟨true, C, K, I⟩ = (a && (b && c)) := by
  simp only [No.may, if_true, len_eq h1, len_eq h2, h3]
theorem may_f {C : List Ce} {K : List ByteArray} {I : List Int} {a b c d : Bool} (h1 : ((C.length : Int) == 0) = a) (h2 : No.mayI I = b) (h3 : ((K.length : Int) == (I.length : Int) - 1) = c) (h4 : No.mayK K = d) : No.may ⟨false, C, K, I⟩ = (a && (b && (c && d))) := by
  simp only [No.may, Bool.false_eq_true, if_false, len_eq h1, h2, len_pre h3, h4]

set_option maxHeartbeats 8000000 in
theorem nmay_any (vc vk vi : Value) (n : No) (w : World) (h : Nb w vc vk vi n) :
    Calls Try.prog 10 #[.agg (nv n.L vc vk vi)] w fun e w' => e = .returned (.bool n.may) ∧ Below w.heap.size w w' := by
  obtain ⟨L, C, K, I⟩ := n
  obtain ⟨hc, hk, hi⟩ := h
  simp only at hc hk hi
  obtain ⟨p0, n0, c0, rfl, ha0, hb0, HN0, HC⟩ := hc.opens
  obtain ⟨p1, n1, c1, rfl, ha1, hb1, HN1, HK⟩ := hk.opens
  obtain ⟨p2, n2, c2, rfl, ha2, hb2, HN2, HI⟩ := hi.opens
  have e0 := HN0.out
  have e1 := HN1.out
  have e2 := HN2.out
  subst e0 e1 e2
  clear hc hk hi HN0 HN1 HN2
  have hw : IntKind.i64.wrap ((I.length : Int) - 1) = (I.length : Int) - 1 := by rw [IntKind.wrap_i64]; omega
  cases L
  · cases h1 : ((C.length : Int) == 0)
    · have HR := hide (may_f h1 (c := _) rfl (K := K) (I := I) rfl rfl)
      go_enter Try.func10, Try.ntmps10
      go_wp2_with (refine wpList_box 41 (.tmp 0) (nv false _ _ _) rfl rfl rfl ?_; intro W1 hB hX; obtain ⟨g0, g1, g2, g3⟩ := hX.nodes)
      go_ret
      exact ⟨by rw [HR.out]; rfl, hB⟩
    · cases h2 : No.mayI I
      · have HR := hide (may_f h1 h2 (K := K) rfl rfl)
        have H2 := hide h2
        go_enter Try.func10, Try.ntmps10
        go_wp2_with (refine wpList_box 41 (.tmp 0) (nv false _ _ _) rfl rfl rfl ?_; intro W1 hB hX; obtain ⟨g0, g1, g2, g3⟩ := hX.nodes)
        refine (mayKids_any _ I _ (HI.out.later hB)).mono ?_
        rintro e x ⟨rfl, rfl⟩
        rw [H2.out]
        go_wp2_with fail
        go_ret
        exact ⟨by rw [HR.out]; rfl, hB⟩
      · have H2 := hide h2
        cases h3 : ((K.length : Int) == (I.length : Int) - 1)
        · have HR := hide (may_f h1 h2 h3 rfl)
          go_enter Try.func10, Try.ntmps10
          go_wp2_with (refine wpList_box 41 (.tmp 0) (nv false _ _ _) rfl rfl rfl ?_; intro W1 hB hX; obtain ⟨g0, g1, g2, g3⟩ := hX.nodes)
          refine (mayKids_any _ I _ (HI.out.later hB)).mono ?_
          rintro e x ⟨rfl, rfl⟩
          rw [H2.out]
          go_wp2_with fail
          go_ret
          exact ⟨by rw [HR.out]; rfl, hB⟩
        · have HR := hide (may_f h1 h2 h3 rfl)
          go_enter Try.func10, Try.ntmps10
          go_wp2_with (refine wpList_box 41 (.tmp 0) (nv false _ _ _) rfl rfl rfl ?_; intro W1 hB hX; obtain ⟨g0, g1, g2, g3⟩ := hX.nodes)
          refine (mayKids_any _ I _ (HI.out.later hB)).mono ?_
          rintro e x ⟨rfl, rfl⟩
          rw [H2.out]
          go_wp2_with fail
          refine (mayKeys_any _ K _ (HK.out.later hB)).mono ?_
          rintro e x ⟨rfl, rfl⟩
          go_wp2_with fail
          go_ret
          exact ⟨by rw [HR.out]; rfl, hB⟩
  · cases h1 : ((K.length : Int) == 0)
    · have HR := hide (may_l (C := C) h1 (I := I) rfl rfl)
      go_enter Try.func10, Try.ntmps10
      go_wp2_with (refine wpList_box 41 (.tmp 0) (nv true _ _ _) rfl rfl rfl ?_; intro W1 hB hX; obtain ⟨g0, g1, g2, g3⟩ := hX.nodes)
      go_ret
      exact ⟨by rw [HR.out]; rfl, hB⟩
    · cases h2 : ((I.length : Int) == 0)
      · have HR := hide (may_l (C := C) h1 h2 rfl)
        go_enter Try.func10, Try.ntmps10
        go_wp2_with (refine wpList_box 41 (.tmp 0) (nv true _ _ _) rfl rfl rfl ?_; intro W1 hB hX; obtain ⟨g0, g1, g2, g3⟩ := hX.nodes)
        go_ret
        exact ⟨by rw [HR.out]; rfl, hB⟩
      · have HR := hide (may_l (C := C) h1 h2 rfl)
        go_enter Try.func10, Try.ntmps10
        go_wp2_with (refine wpList_box 41 (.tmp 0) (nv true _ _ _) rfl rfl rfl ?_; intro W1 hB hX; obtain ⟨g0, g1, g2, g3⟩ := hX.nodes)
        refine (mayCells_any _ C _ (HC.out.later hB)).mono ?_
        rintro e x ⟨rfl, hb⟩
        replace hB := hB.trans (hb.mono hB.size)
        clear hb
        go_wp2_with fail
        go_ret
        exact ⟨by rw [HR.out]; rfl, hB⟩
end Go.Proofs.Ytbddghdkmakjlab
