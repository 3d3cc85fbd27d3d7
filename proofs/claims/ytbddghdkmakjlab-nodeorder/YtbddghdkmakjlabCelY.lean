/-
  Contracts of cell.May and of the document's May over the translated program.
-/
import Derived.Test.YtbddghdkmakjlabGd
namespace Go.Proofs.Ytbddghdkmakjlab
set_option maxRecDepth 100000
set_option linter.unusedVariables false
open Go.RowKit

theorem cmay_k {c : Ce} (h : Ce.km c.N = false) : Ce.may c = false := by simp [Ce.may, h]
theorem cmay_v {c : Ce} (h : c.V.may = false) : Ce.may c = false := by simp [Ce.may, h]
theorem cmay_w {c : Ce} (h : c.W.may = false) : Ce.may c = false := by simp [Ce.may, h]
theorem cmay_t {c : Ce} (h1 : Ce.km c.N = true) (h2 : c.V.may = true) (h3 : c.W.may = true) : Ce.may c = Ce.tm c := by simp [Ce.may, h1, h2, h3]
theorem cmay_0w {c : Ce} (h : Ce.may c = Ce.tm c) (ht : c.T = 0) (hw : decide (c.W.K = 0) = false) : Ce.may c = false := by rw [h, Ce.tm, if_pos ht, hw]; rfl
theorem cmay_0v {c : Ce} (h : Ce.may c = Ce.tm c) (ht : c.T = 0) (hw : decide (c.W.K = 0) = true) : Ce.may c = !decide (c.V.K = 0) := by rw [h, Ce.tm, if_pos ht, hw]; simp
theorem cmay_n {c : Ce} (h : Ce.may c = Ce.tm c) (ht : ¬ c.T = 0) : Ce.may c = (decide (0 < c.T) && decide (c.T ≤ 1099511627776)) := by rw [h, Ce.tm, if_neg ht]

set_option maxHeartbeats 4000000 in
theorem may_cell (c : Ce) (w : World) (hc : c.Ok) :
    Calls Try.prog 31 #[.agg (cv c)] w fun e w' => e = .returned (.bool (Ce.may c)) ∧ Below w.heap.size w w' := by
  have hk0 := hc.n
  have hk1 := hc.v.s
  have hk2 := hc.w.s
  have hk3 := hc.v.x
  have hk4 := hc.w.x
  have ht0 := hc.t0
  have ht1 := hc.t1
  have Hk1 := hide hk1
  have Hk2 := hide hk2
  clear hk1 hk2 hc
  unfold maxLen at hk0
  cases hk : Ce.km c.N
  · have HK := hide hk
    have HE := hide (cmay_k hk)
    clear hk
    go_enter Try.func31, Try.ntmps31
    go_wp2_with (refine wpList_box 46 (.tmp 0) (cv c) rfl rfl rfl ?_; intro W1 hB1 hX1; obtain ⟨c0, c1, c2, c3, c4, c5, c6, c7⟩ := hX1.cells)
    refine (kmay_any c.N _ hk0).mono ?_
    rintro e W2 ⟨rfl, rfl⟩
    rw [show (decide (1 ≤ (c.N.size : Int)) && decide ((c.N.size : Int) ≤ 16)) = _ from HK.out]
    have hB := hB1
    clear hB1
    go_wp2_with fail
    go_ret
    exact ⟨ret_bool (by rw [HE.out]; first | done | rfl | (simp; done) | (simp; omega)), hB⟩
  cases hv : c.V.may
  · have HK := hide hk
    have HV := hide hv
    have HE := hide (cmay_v hv)
    clear hk hv
    go_enter Try.func31, Try.ntmps31
    go_wp2_with (refine wpList_box 46 (.tmp 0) (cv c) rfl rfl rfl ?_; intro W1 hB1 hX1; obtain ⟨c0, c1, c2, c3, c4, c5, c6, c7⟩ := hX1.cells)
    refine (kmay_any c.N _ hk0).mono ?_
    rintro e W2 ⟨rfl, rfl⟩
    rw [show (decide (1 ≤ (c.N.size : Int)) && decide ((c.N.size : Int) ≤ 16)) = _ from HK.out]
    have hB := hB1
    clear hB1
    go_wp2_with fail
    refine (may_any c.V.K c.V.X c.V.S _ Hk1.out).mono ?_
    rintro e W3 ⟨rfl, hB3⟩
    rw [show Dt.may c.V.K c.V.X c.V.S = _ from HV.out]
    replace hX1 := hX1.later hB3
    replace hB := hB.trans (hB3.mono hB.size)
    clear c0 c1 c2 c3 c4 c5 c6 c7 hB3
    obtain ⟨c0, c1, c2, c3, c4, c5, c6, c7⟩ := hX1.cells
    go_wp2_with fail
    go_ret
    exact ⟨ret_bool (by rw [HE.out]; first | done | rfl | (simp; done) | (simp; omega)), hB⟩
  cases hw : c.W.may
  · have HK := hide hk
    have HV := hide hv
    have HW := hide hw
    have HE := hide (cmay_w hw)
    clear hk hv hw
    go_enter Try.func31, Try.ntmps31
    go_wp2_with (refine wpList_box 46 (.tmp 0) (cv c) rfl rfl rfl ?_; intro W1 hB1 hX1; obtain ⟨c0, c1, c2, c3, c4, c5, c6, c7⟩ := hX1.cells)
    refine (kmay_any c.N _ hk0).mono ?_
    rintro e W2 ⟨rfl, rfl⟩
    rw [show (decide (1 ≤ (c.N.size : Int)) && decide ((c.N.size : Int) ≤ 16)) = _ from HK.out]
    have hB := hB1
    clear hB1
    go_wp2_with fail
    refine (may_any c.V.K c.V.X c.V.S _ Hk1.out).mono ?_
    rintro e W3 ⟨rfl, hB3⟩
    rw [show Dt.may c.V.K c.V.X c.V.S = _ from HV.out]
    replace hX1 := hX1.later hB3
    replace hB := hB.trans (hB3.mono hB.size)
    clear c0 c1 c2 c3 c4 c5 c6 c7 hB3
    obtain ⟨c0, c1, c2, c3, c4, c5, c6, c7⟩ := hX1.cells
    go_wp2_with fail
    refine (may_any c.W.K c.W.X c.W.S _ Hk2.out).mono ?_
    rintro e W3 ⟨rfl, hB3⟩
    rw [show Dt.may c.W.K c.W.X c.W.S = _ from HW.out]
    replace hX1 := hX1.later hB3
    replace hB := hB.trans (hB3.mono hB.size)
    clear c0 c1 c2 c3 c4 c5 c6 c7 hB3
    obtain ⟨c0, c1, c2, c3, c4, c5, c6, c7⟩ := hX1.cells
    go_wp2_with fail
    go_ret
    exact ⟨ret_bool (by rw [HE.out]; first | done | rfl | (simp; done) | (simp; omega)), hB⟩
  have HT := hide (cmay_t hk hv hw)
  have HK := hide hk
  have HV := hide hv
  have HW := hide hw
  clear hk hv hw
  by_cases hz : c.T = 0
  · have hz' : (c.T == 0) = true := by simpa using hz
    have hzl : ¬ c.T < 0 := by omega
    have hzg : ¬ 1099511627776 < c.T := by omega
    have hzp : ¬ 0 < c.T := by omega
    cases hn : decide (c.W.K = 0)
    · have HE := hide (cmay_0w HT.out hz hn)
      have HN := hide hn
      have hn' : (c.W.K == 0) = false := by rw [← hn]; rfl
      clear hn hz
      go_enter Try.func31, Try.ntmps31
      go_wp2_with (refine wpList_box 46 (.tmp 0) (cv c) rfl rfl rfl ?_; intro W1 hB1 hX1; obtain ⟨c0, c1, c2, c3, c4, c5, c6, c7⟩ := hX1.cells)
      refine (kmay_any c.N _ hk0).mono ?_
      rintro e W2 ⟨rfl, rfl⟩
      rw [show (decide (1 ≤ (c.N.size : Int)) && decide ((c.N.size : Int) ≤ 16)) = _ from HK.out]
      have hB := hB1
      clear hB1
      go_wp2_with fail
      refine (may_any c.V.K c.V.X c.V.S _ Hk1.out).mono ?_
      rintro e W3 ⟨rfl, hB3⟩
      rw [show Dt.may c.V.K c.V.X c.V.S = _ from HV.out]
      replace hX1 := hX1.later hB3
      replace hB := hB.trans (hB3.mono hB.size)
      clear c0 c1 c2 c3 c4 c5 c6 c7 hB3
      obtain ⟨c0, c1, c2, c3, c4, c5, c6, c7⟩ := hX1.cells
      go_wp2_with fail
      refine (may_any c.W.K c.W.X c.W.S _ Hk2.out).mono ?_
      rintro e W3 ⟨rfl, hB3⟩
      rw [show Dt.may c.W.K c.W.X c.W.S = _ from HW.out]
      replace hX1 := hX1.later hB3
      replace hB := hB.trans (hB3.mono hB.size)
      clear c0 c1 c2 c3 c4 c5 c6 c7 hB3
      obtain ⟨c0, c1, c2, c3, c4, c5, c6, c7⟩ := hX1.cells
      go_wp2_with fail
      refine (isNone_any c.W _).mono ?_
      rintro e W3 ⟨rfl, hB3⟩
      rw [HN.out]
      replace hX1 := hX1.later hB3
      replace hB := hB.trans (hB3.mono hB.size)
      clear c0 c1 c2 c3 c4 c5 c6 c7 hB3
      obtain ⟨c0, c1, c2, c3, c4, c5, c6, c7⟩ := hX1.cells
      go_wp2_with fail
      go_ret
      exact ⟨ret_bool (by rw [HE.out]; first | done | rfl | (simp; done) | (simp; omega)), hB⟩
    · have HE := hide (cmay_0v HT.out hz hn)
      have HN := hide hn
      have hn' : (c.W.K == 0) = true := by rw [← hn]; rfl
      clear hn hz
      cases hm : decide (c.V.K = 0)
      all_goals
        have HM := hide hm
        have hm' : (c.V.K == 0) = _ := hm
        have hm2 : (c.V.K != 0) = _ := congrArg (!·) hm
        clear hm
        go_enter Try.func31, Try.ntmps31
        go_wp2_with (refine wpList_box 46 (.tmp 0) (cv c) rfl rfl rfl ?_; intro W1 hB1 hX1; obtain ⟨c0, c1, c2, c3, c4, c5, c6, c7⟩ := hX1.cells)
        refine (kmay_any c.N _ hk0).mono ?_
        rintro e W2 ⟨rfl, rfl⟩
        rw [show (decide (1 ≤ (c.N.size : Int)) && decide ((c.N.size : Int) ≤ 16)) = _ from HK.out]
        have hB := hB1
        clear hB1
        go_wp2_with fail
        refine (may_any c.V.K c.V.X c.V.S _ Hk1.out).mono ?_
        rintro e W3 ⟨rfl, hB3⟩
        rw [show Dt.may c.V.K c.V.X c.V.S = _ from HV.out]
        replace hX1 := hX1.later hB3
        replace hB := hB.trans (hB3.mono hB.size)
        clear c0 c1 c2 c3 c4 c5 c6 c7 hB3
        obtain ⟨c0, c1, c2, c3, c4, c5, c6, c7⟩ := hX1.cells
        go_wp2_with fail
        refine (may_any c.W.K c.W.X c.W.S _ Hk2.out).mono ?_
        rintro e W3 ⟨rfl, hB3⟩
        rw [show Dt.may c.W.K c.W.X c.W.S = _ from HW.out]
        replace hX1 := hX1.later hB3
        replace hB := hB.trans (hB3.mono hB.size)
        clear c0 c1 c2 c3 c4 c5 c6 c7 hB3
        obtain ⟨c0, c1, c2, c3, c4, c5, c6, c7⟩ := hX1.cells
        go_wp2_with fail
        refine (isNone_any c.W _).mono ?_
        rintro e W3 ⟨rfl, hB3⟩
        rw [HN.out]
        replace hX1 := hX1.later hB3
        replace hB := hB.trans (hB3.mono hB.size)
        clear c0 c1 c2 c3 c4 c5 c6 c7 hB3
        obtain ⟨c0, c1, c2, c3, c4, c5, c6, c7⟩ := hX1.cells
        go_wp2_with fail
        refine (isNone_any c.V _).mono ?_
        rintro e W3 ⟨rfl, hB3⟩
        rw [HM.out]
        replace hX1 := hX1.later hB3
        replace hB := hB.trans (hB3.mono hB.size)
        clear c0 c1 c2 c3 c4 c5 c6 c7 hB3
        obtain ⟨c0, c1, c2, c3, c4, c5, c6, c7⟩ := hX1.cells
        go_wp2_with fail
        go_ret
        exact ⟨ret_bool (by rw [HE.out, HM.out]; first | done | rfl | (simp; done) | (simp; omega)), hB⟩
  have hz' : (c.T == 0) = false := by simpa using hz
  have HE := hide (cmay_n HT.out hz)
  by_cases hl : c.T < 0
  · have hzp : ¬ 0 < c.T := by omega
    have HF := hide (show (decide (0 < c.T) && decide (c.T ≤ 1099511627776)) = false by simp; omega)
    go_enter Try.func31, Try.ntmps31
    go_wp2_with (refine wpList_box 46 (.tmp 0) (cv c) rfl rfl rfl ?_; intro W1 hB1 hX1; obtain ⟨c0, c1, c2, c3, c4, c5, c6, c7⟩ := hX1.cells)
    refine (kmay_any c.N _ hk0).mono ?_
    rintro e W2 ⟨rfl, rfl⟩
    rw [show (decide (1 ≤ (c.N.size : Int)) && decide ((c.N.size : Int) ≤ 16)) = _ from HK.out]
    have hB := hB1
    clear hB1
    go_wp2_with fail
    refine (may_any c.V.K c.V.X c.V.S _ Hk1.out).mono ?_
    rintro e W3 ⟨rfl, hB3⟩
    rw [show Dt.may c.V.K c.V.X c.V.S = _ from HV.out]
    replace hX1 := hX1.later hB3
    replace hB := hB.trans (hB3.mono hB.size)
    clear c0 c1 c2 c3 c4 c5 c6 c7 hB3
    obtain ⟨c0, c1, c2, c3, c4, c5, c6, c7⟩ := hX1.cells
    go_wp2_with fail
    refine (may_any c.W.K c.W.X c.W.S _ Hk2.out).mono ?_
    rintro e W3 ⟨rfl, hB3⟩
    rw [show Dt.may c.W.K c.W.X c.W.S = _ from HW.out]
    replace hX1 := hX1.later hB3
    replace hB := hB.trans (hB3.mono hB.size)
    clear c0 c1 c2 c3 c4 c5 c6 c7 hB3
    obtain ⟨c0, c1, c2, c3, c4, c5, c6, c7⟩ := hX1.cells
    go_wp2_with fail
    go_ret
    exact ⟨ret_bool (by rw [HE.out, HF.out]; first | done | (simp; done) | (simp; omega)), hB⟩
  have hzp : 0 < c.T := by omega
  by_cases hg : 1099511627776 < c.T
  · have hg' : ¬ c.T ≤ 1099511627776 := by omega
    have HF := hide (show (decide (0 < c.T) && decide (c.T ≤ 1099511627776)) = false by simp; omega)
    go_enter Try.func31, Try.ntmps31
    go_wp2_with (refine wpList_box 46 (.tmp 0) (cv c) rfl rfl rfl ?_; intro W1 hB1 hX1; obtain ⟨c0, c1, c2, c3, c4, c5, c6, c7⟩ := hX1.cells)
    refine (kmay_any c.N _ hk0).mono ?_
    rintro e W2 ⟨rfl, rfl⟩
    rw [show (decide (1 ≤ (c.N.size : Int)) && decide ((c.N.size : Int) ≤ 16)) = _ from HK.out]
    have hB := hB1
    clear hB1
    go_wp2_with fail
    refine (may_any c.V.K c.V.X c.V.S _ Hk1.out).mono ?_
    rintro e W3 ⟨rfl, hB3⟩
    rw [show Dt.may c.V.K c.V.X c.V.S = _ from HV.out]
    replace hX1 := hX1.later hB3
    replace hB := hB.trans (hB3.mono hB.size)
    clear c0 c1 c2 c3 c4 c5 c6 c7 hB3
    obtain ⟨c0, c1, c2, c3, c4, c5, c6, c7⟩ := hX1.cells
    go_wp2_with fail
    refine (may_any c.W.K c.W.X c.W.S _ Hk2.out).mono ?_
    rintro e W3 ⟨rfl, hB3⟩
    rw [show Dt.may c.W.K c.W.X c.W.S = _ from HW.out]
    replace hX1 := hX1.later hB3
    replace hB := hB.trans (hB3.mono hB.size)
    clear c0 c1 c2 c3 c4 c5 c6 c7 hB3
    obtain ⟨c0, c1, c2, c3, c4, c5, c6, c7⟩ := hX1.cells
    go_wp2_with fail
    go_ret
    exact ⟨ret_bool (by rw [HE.out, HF.out]; first | done | (simp; done) | (simp; omega)), hB⟩
  · have hg' : c.T ≤ 1099511627776 := by omega
    have HF := hide (show (decide (0 < c.T) && decide (c.T ≤ 1099511627776)) = true by simp; omega)
    go_enter Try.func31, Try.ntmps31
    go_wp2_with (refine wpList_box 46 (.tmp 0) (cv c) rfl rfl rfl ?_; intro W1 hB1 hX1; obtain ⟨c0, c1, c2, c3, c4, c5, c6, c7⟩ := hX1.cells)
    refine (kmay_any c.N _ hk0).mono ?_
    rintro e W2 ⟨rfl, rfl⟩
    rw [show (decide (1 ≤ (c.N.size : Int)) && decide ((c.N.size : Int) ≤ 16)) = _ from HK.out]
    have hB := hB1
    clear hB1
    go_wp2_with fail
    refine (may_any c.V.K c.V.X c.V.S _ Hk1.out).mono ?_
    rintro e W3 ⟨rfl, hB3⟩
    rw [show Dt.may c.V.K c.V.X c.V.S = _ from HV.out]
    replace hX1 := hX1.later hB3
    replace hB := hB.trans (hB3.mono hB.size)
    clear c0 c1 c2 c3 c4 c5 c6 c7 hB3
    obtain ⟨c0, c1, c2, c3, c4, c5, c6, c7⟩ := hX1.cells
    go_wp2_with fail
    refine (may_any c.W.K c.W.X c.W.S _ Hk2.out).mono ?_
    rintro e W3 ⟨rfl, hB3⟩
    rw [show Dt.may c.W.K c.W.X c.W.S = _ from HW.out]
    replace hX1 := hX1.later hB3
    replace hB := hB.trans (hB3.mono hB.size)
    clear c0 c1 c2 c3 c4 c5 c6 c7 hB3
    obtain ⟨c0, c1, c2, c3, c4, c5, c6, c7⟩ := hX1.cells
    go_wp2_with fail
    go_ret
    exact ⟨ret_bool (by rw [HE.out, HF.out]; first | done | (simp; done) | (simp; omega)), hB⟩

set_option maxHeartbeats 4000000 in
theorem refMay_cell (c : Ce) (w : World) (hc : c.Ok) :
    Calls Try.prog 17 #[.agg (cv c)] w fun e w' => e = .returned (.bool (Ce.may c)) ∧ Below w.heap.size w w' := by
  have hk0 := hc.n
  have hk1 := hc.v.s
  have hk2 := hc.w.s
  have hk3 := hc.v.x
  have hk4 := hc.w.x
  have ht0 := hc.t0
  have ht1 := hc.t1
  have Hk1 := hide hk1
  have Hk2 := hide hk2
  clear hk1 hk2 hc
  unfold maxLen at hk0
  cases hk : Ce.km c.N
  · have HK := hide hk
    have HE := hide (cmay_k hk)
    clear hk
    go_enter Try.func17, Try.ntmps17
    go_wp2_with (refine wpList_box 34 (.tmp 0) (cv c) rfl rfl rfl ?_; intro W1 hB1 hX1; obtain ⟨c0, c1, c2, c3, c4, c5, c6, c7⟩ := hX1.cells)
    refine (refMayKey_any c.N _ hk0).mono ?_
    rintro e W2 ⟨rfl, rfl⟩
    rw [show (decide (1 ≤ (c.N.size : Int)) && decide ((c.N.size : Int) ≤ 16)) = _ from HK.out]
    have hB := hB1
    clear hB1
    go_wp2_with fail
    go_ret
    exact ⟨ret_bool (by rw [HE.out]; first | done | rfl | (simp; done) | (simp; omega)), hB⟩
  cases hv : c.V.may
  · have HK := hide hk
    have HV := hide hv
    have HE := hide (cmay_v hv)
    clear hk hv
    go_enter Try.func17, Try.ntmps17
    go_wp2_with (refine wpList_box 34 (.tmp 0) (cv c) rfl rfl rfl ?_; intro W1 hB1 hX1; obtain ⟨c0, c1, c2, c3, c4, c5, c6, c7⟩ := hX1.cells)
    refine (refMayKey_any c.N _ hk0).mono ?_
    rintro e W2 ⟨rfl, rfl⟩
    rw [show (decide (1 ≤ (c.N.size : Int)) && decide ((c.N.size : Int) ≤ 16)) = _ from HK.out]
    have hB := hB1
    clear hB1
    go_wp2_with fail
    refine (refMay_any c.V.K c.V.X c.V.S _ Hk1.out hk3).mono ?_
    rintro e W3 ⟨rfl, hB3⟩
    rw [show Dt.may c.V.K c.V.X c.V.S = _ from HV.out]
    replace hX1 := hX1.later hB3
    replace hB := hB.trans (hB3.mono hB.size)
    clear c0 c1 c2 c3 c4 c5 c6 c7 hB3
    obtain ⟨c0, c1, c2, c3, c4, c5, c6, c7⟩ := hX1.cells
    go_wp2_with fail
    go_ret
    exact ⟨ret_bool (by rw [HE.out]; first | done | rfl | (simp; done) | (simp; omega)), hB⟩
  cases hw : c.W.may
  · have HK := hide hk
    have HV := hide hv
    have HW := hide hw
    have HE := hide (cmay_w hw)
    clear hk hv hw
    go_enter Try.func17, Try.ntmps17
    go_wp2_with (refine wpList_box 34 (.tmp 0) (cv c) rfl rfl rfl ?_; intro W1 hB1 hX1; obtain ⟨c0, c1, c2, c3, c4, c5, c6, c7⟩ := hX1.cells)
    refine (refMayKey_any c.N _ hk0).mono ?_
    rintro e W2 ⟨rfl, rfl⟩
    rw [show (decide (1 ≤ (c.N.size : Int)) && decide ((c.N.size : Int) ≤ 16)) = _ from HK.out]
    have hB := hB1
    clear hB1
    go_wp2_with fail
    refine (refMay_any c.V.K c.V.X c.V.S _ Hk1.out hk3).mono ?_
    rintro e W3 ⟨rfl, hB3⟩
    rw [show Dt.may c.V.K c.V.X c.V.S = _ from HV.out]
    replace hX1 := hX1.later hB3
    replace hB := hB.trans (hB3.mono hB.size)
    clear c0 c1 c2 c3 c4 c5 c6 c7 hB3
    obtain ⟨c0, c1, c2, c3, c4, c5, c6, c7⟩ := hX1.cells
    go_wp2_with fail
    refine (refMay_any c.W.K c.W.X c.W.S _ Hk2.out hk4).mono ?_
    rintro e W3 ⟨rfl, hB3⟩
    rw [show Dt.may c.W.K c.W.X c.W.S = _ from HW.out]
    replace hX1 := hX1.later hB3
    replace hB := hB.trans (hB3.mono hB.size)
    clear c0 c1 c2 c3 c4 c5 c6 c7 hB3
    obtain ⟨c0, c1, c2, c3, c4, c5, c6, c7⟩ := hX1.cells
    go_wp2_with fail
    go_ret
    exact ⟨ret_bool (by rw [HE.out]; first | done | rfl | (simp; done) | (simp; omega)), hB⟩
  have HT := hide (cmay_t hk hv hw)
  have HK := hide hk
  have HV := hide hv
  have HW := hide hw
  clear hk hv hw
  by_cases hz : c.T = 0
  · have hz' : (c.T == 0) = true := by simpa using hz
    have hzl : ¬ c.T < 0 := by omega
    have hzg : ¬ 1099511627776 < c.T := by omega
    have hzp : ¬ 0 < c.T := by omega
    cases hn : decide (c.W.K = 0)
    · have HE := hide (cmay_0w HT.out hz hn)
      have HN := hide hn
      have hn' : (c.W.K == 0) = false := by rw [← hn]; rfl
      clear hn hz
      go_enter Try.func17, Try.ntmps17
      go_wp2_with (refine wpList_box 34 (.tmp 0) (cv c) rfl rfl rfl ?_; intro W1 hB1 hX1; obtain ⟨c0, c1, c2, c3, c4, c5, c6, c7⟩ := hX1.cells)
      refine (refMayKey_any c.N _ hk0).mono ?_
      rintro e W2 ⟨rfl, rfl⟩
      rw [show (decide (1 ≤ (c.N.size : Int)) && decide ((c.N.size : Int) ≤ 16)) = _ from HK.out]
      have hB := hB1
      clear hB1
      go_wp2_with fail
      refine (refMay_any c.V.K c.V.X c.V.S _ Hk1.out hk3).mono ?_
      rintro e W3 ⟨rfl, hB3⟩
      rw [show Dt.may c.V.K c.V.X c.V.S = _ from HV.out]
      replace hX1 := hX1.later hB3
      replace hB := hB.trans (hB3.mono hB.size)
      clear c0 c1 c2 c3 c4 c5 c6 c7 hB3
      obtain ⟨c0, c1, c2, c3, c4, c5, c6, c7⟩ := hX1.cells
      go_wp2_with fail
      refine (refMay_any c.W.K c.W.X c.W.S _ Hk2.out hk4).mono ?_
      rintro e W3 ⟨rfl, hB3⟩
      rw [show Dt.may c.W.K c.W.X c.W.S = _ from HW.out]
      replace hX1 := hX1.later hB3
      replace hB := hB.trans (hB3.mono hB.size)
      clear c0 c1 c2 c3 c4 c5 c6 c7 hB3
      obtain ⟨c0, c1, c2, c3, c4, c5, c6, c7⟩ := hX1.cells
      go_wp2_with fail
      go_ret
      exact ⟨ret_bool (by rw [HE.out]; first | done | rfl | (simp; done) | (simp; omega)), hB⟩
    · have HE := hide (cmay_0v HT.out hz hn)
      have HN := hide hn
      have hn' : (c.W.K == 0) = true := by rw [← hn]; rfl
      clear hn hz
      cases hm : decide (c.V.K = 0)
      all_goals
        have HM := hide hm
        have hm' : (c.V.K == 0) = _ := hm
        have hm2 : (c.V.K != 0) = _ := congrArg (!·) hm
        clear hm
        go_enter Try.func17, Try.ntmps17
        go_wp2_with (refine wpList_box 34 (.tmp 0) (cv c) rfl rfl rfl ?_; intro W1 hB1 hX1; obtain ⟨c0, c1, c2, c3, c4, c5, c6, c7⟩ := hX1.cells)
        refine (refMayKey_any c.N _ hk0).mono ?_
        rintro e W2 ⟨rfl, rfl⟩
        rw [show (decide (1 ≤ (c.N.size : Int)) && decide ((c.N.size : Int) ≤ 16)) = _ from HK.out]
        have hB := hB1
        clear hB1
        go_wp2_with fail
        refine (refMay_any c.V.K c.V.X c.V.S _ Hk1.out hk3).mono ?_
        rintro e W3 ⟨rfl, hB3⟩
        rw [show Dt.may c.V.K c.V.X c.V.S = _ from HV.out]
        replace hX1 := hX1.later hB3
        replace hB := hB.trans (hB3.mono hB.size)
        clear c0 c1 c2 c3 c4 c5 c6 c7 hB3
        obtain ⟨c0, c1, c2, c3, c4, c5, c6, c7⟩ := hX1.cells
        go_wp2_with fail
        refine (refMay_any c.W.K c.W.X c.W.S _ Hk2.out hk4).mono ?_
        rintro e W3 ⟨rfl, hB3⟩
        rw [show Dt.may c.W.K c.W.X c.W.S = _ from HW.out]
        replace hX1 := hX1.later hB3
        replace hB := hB.trans (hB3.mono hB.size)
        clear c0 c1 c2 c3 c4 c5 c6 c7 hB3
        obtain ⟨c0, c1, c2, c3, c4, c5, c6, c7⟩ := hX1.cells
        go_wp2_with fail
        go_ret
        exact ⟨ret_bool (by rw [HE.out, HM.out]; first | done | rfl | (simp; done) | (simp; omega)), hB⟩
  have hz' : (c.T == 0) = false := by simpa using hz
  have HE := hide (cmay_n HT.out hz)
  by_cases hl : c.T < 0
  · have hzp : ¬ 0 < c.T := by omega
    have HF := hide (show (decide (0 < c.T) && decide (c.T ≤ 1099511627776)) = false by simp; omega)
    go_enter Try.func17, Try.ntmps17
    go_wp2_with (refine wpList_box 34 (.tmp 0) (cv c) rfl rfl rfl ?_; intro W1 hB1 hX1; obtain ⟨c0, c1, c2, c3, c4, c5, c6, c7⟩ := hX1.cells)
    refine (refMayKey_any c.N _ hk0).mono ?_
    rintro e W2 ⟨rfl, rfl⟩
    rw [show (decide (1 ≤ (c.N.size : Int)) && decide ((c.N.size : Int) ≤ 16)) = _ from HK.out]
    have hB := hB1
    clear hB1
    go_wp2_with fail
    refine (refMay_any c.V.K c.V.X c.V.S _ Hk1.out hk3).mono ?_
    rintro e W3 ⟨rfl, hB3⟩
    rw [show Dt.may c.V.K c.V.X c.V.S = _ from HV.out]
    replace hX1 := hX1.later hB3
    replace hB := hB.trans (hB3.mono hB.size)
    clear c0 c1 c2 c3 c4 c5 c6 c7 hB3
    obtain ⟨c0, c1, c2, c3, c4, c5, c6, c7⟩ := hX1.cells
    go_wp2_with fail
    refine (refMay_any c.W.K c.W.X c.W.S _ Hk2.out hk4).mono ?_
    rintro e W3 ⟨rfl, hB3⟩
    rw [show Dt.may c.W.K c.W.X c.W.S = _ from HW.out]
    replace hX1 := hX1.later hB3
    replace hB := hB.trans (hB3.mono hB.size)
    clear c0 c1 c2 c3 c4 c5 c6 c7 hB3
    obtain ⟨c0, c1, c2, c3, c4, c5, c6, c7⟩ := hX1.cells
    go_wp2_with fail
    go_ret
    exact ⟨ret_bool (by rw [HE.out, HF.out]; first | done | (simp; done) | (simp; omega)), hB⟩
  have hzp : 0 < c.T := by omega
  by_cases hg : 1099511627776 < c.T
  · have hg' : ¬ c.T ≤ 1099511627776 := by omega
    have HF := hide (show (decide (0 < c.T) && decide (c.T ≤ 1099511627776)) = false by simp; omega)
    go_enter Try.func17, Try.ntmps17
    go_wp2_with (refine wpList_box 34 (.tmp 0) (cv c) rfl rfl rfl ?_; intro W1 hB1 hX1; obtain ⟨c0, c1, c2, c3, c4, c5, c6, c7⟩ := hX1.cells)
    refine (refMayKey_any c.N _ hk0).mono ?_
    rintro e W2 ⟨rfl, rfl⟩
    rw [show (decide (1 ≤ (c.N.size : Int)) && decide ((c.N.size : Int) ≤ 16)) = _ from HK.out]
    have hB := hB1
    clear hB1
    go_wp2_with fail
    refine (refMay_any c.V.K c.V.X c.V.S _ Hk1.out hk3).mono ?_
    rintro e W3 ⟨rfl, hB3⟩
    rw [show Dt.may c.V.K c.V.X c.V.S = _ from HV.out]
    replace hX1 := hX1.later hB3
    replace hB := hB.trans (hB3.mono hB.size)
    clear c0 c1 c2 c3 c4 c5 c6 c7 hB3
    obtain ⟨c0, c1, c2, c3, c4, c5, c6, c7⟩ := hX1.cells
    go_wp2_with fail
    refine (refMay_any c.W.K c.W.X c.W.S _ Hk2.out hk4).mono ?_
    rintro e W3 ⟨rfl, hB3⟩
    rw [show Dt.may c.W.K c.W.X c.W.S = _ from HW.out]
    replace hX1 := hX1.later hB3
    replace hB := hB.trans (hB3.mono hB.size)
    clear c0 c1 c2 c3 c4 c5 c6 c7 hB3
    obtain ⟨c0, c1, c2, c3, c4, c5, c6, c7⟩ := hX1.cells
    go_wp2_with fail
    go_ret
    exact ⟨ret_bool (by rw [HE.out, HF.out]; first | done | (simp; done) | (simp; omega)), hB⟩
  · have hg' : c.T ≤ 1099511627776 := by omega
    have HF := hide (show (decide (0 < c.T) && decide (c.T ≤ 1099511627776)) = true by simp; omega)
    go_enter Try.func17, Try.ntmps17
    go_wp2_with (refine wpList_box 34 (.tmp 0) (cv c) rfl rfl rfl ?_; intro W1 hB1 hX1; obtain ⟨c0, c1, c2, c3, c4, c5, c6, c7⟩ := hX1.cells)
    refine (refMayKey_any c.N _ hk0).mono ?_
    rintro e W2 ⟨rfl, rfl⟩
    rw [show (decide (1 ≤ (c.N.size : Int)) && decide ((c.N.size : Int) ≤ 16)) = _ from HK.out]
    have hB := hB1
    clear hB1
    go_wp2_with fail
    refine (refMay_any c.V.K c.V.X c.V.S _ Hk1.out hk3).mono ?_
    rintro e W3 ⟨rfl, hB3⟩
    rw [show Dt.may c.V.K c.V.X c.V.S = _ from HV.out]
    replace hX1 := hX1.later hB3
    replace hB := hB.trans (hB3.mono hB.size)
    clear c0 c1 c2 c3 c4 c5 c6 c7 hB3
    obtain ⟨c0, c1, c2, c3, c4, c5, c6, c7⟩ := hX1.cells
    go_wp2_with fail
    refine (refMay_any c.W.K c.W.X c.W.S _ Hk2.out hk4).mono ?_
    rintro e W3 ⟨rfl, hB3⟩
    rw [show Dt.may c.W.K c.W.X c.W.S = _ from HW.out]
    replace hX1 := hX1.later hB3
    replace hB := hB.trans (hB3.mono hB.size)
    clear c0 c1 c2 c3 c4 c5 c6 c7 hB3
    obtain ⟨c0, c1, c2, c3, c4, c5, c6, c7⟩ := hX1.cells
    go_wp2_with fail
    go_ret
    exact ⟨ret_bool (by rw [HE.out, HF.out]; first | done | (simp; done) | (simp; omega)), hB⟩

end Go.Proofs.Ytbddghdkmakjlab
