/-
  For every node n and every key NodeAll returns true: May, Size, Encode, Decode and Kid of a node (its lists cut to 40, its texts to 20 and 25 bytes) tell what the document says: a node that may not be is ErrForm, one of more than 256 bytes ErrFull, any other goes to its page and back. No condition.
-/
import Derived.Test.YtbddghdkmakjlaaRows
import Derived.WalkKit
import Derived.ProofKit
import Derived.OpenShut
import Derived.ShutString
import Derived.ChangeOld
import Derived.Below
import Derived.Test.YtbddghdkmakjlaaNodH
import Derived.Test.YtbddghdkmakjlaaNodC
import Derived.Test.YtbddghdkmakjlaaLae
import Derived.Test.YtbddghdkmakjlaaNodV
import Derived.Test.YtbddghdkmakjlaaNodL
import Derived.Test.YtbddghdkmakjlaaOnn
import Derived.Test.YtbddghdkmakjlaaKry
import Derived.Test.YtbddghdkmakjlaaKra
namespace Go.Proofs.Ytbddghdkmakjlaa.nodeAll
open Go.ChangeShapes Go.WideShapes Go.ChangeAt Go.RowKit
open Go.ChangeMaps (open_string shut_string)
set_option linter.unusedVariables false

theorem own : ownKnob Try.prog.godebug = none := by kernel_rfl
theorem laidOut : laidOutB Try.prog = true := by kernel_rfl

theorem whole_bd {zs : List Int} (h : ∀ z ∈ zs, 0 ≤ z ∧ z ≤ 255) : ∀ z ∈ No.whole zs, 0 ≤ z ∧ z ≤ 255 := by
  by_cases hl : zs.length ≤ 256
  · rw [No.whole_is hl]
    exact No.pad_bd h
  · rw [No.whole_no (by omega)]
    simp
theorem refB_bd {n : No} (hok : n.Ok) (hf : n.few) : ∀ z ∈ n.refB, 0 ≤ z ∧ z ≤ 255 := by
  cases hm : n.may
  · rw [No.refB_no hm]
    simp
  · rw [No.refB_is hm]
    exact No.bytes_bd hok hm (by unfold No.few at hf; omega)
theorem refMay_at {vc vk vi : Value} {n : No} {w : World} {b : Bool} (h : Nb w vc vk vi n) (he : n.may = b) :
    Calls Try.prog 13 #[.agg (nv n.L vc vk vi)] w fun e w' => e = .returned (.bool b) ∧ Below w.heap.size w w' := by rw [← he]; exact refMayNode_any vc vk vi n w h


theorem refEqNode_at {vc vk vi vc' vk' vi' : Value} {n m : No} {w : World} {b : Bool} (h : Nb w vc vk vi n) (g : Nb w vc' vk' vi' m) (he : n.eqn m = b) :
    Calls Try.prog 21 #[.agg (nv n.L vc vk vi), .agg (nv m.L vc' vk' vi')] w fun e w' => e = .returned (.bool b) ∧ Below w.heap.size w w' := by rw [← he]; exact refEqNode_any vc vk vi vc' vk' vi' n m w h g

/-- How many of the first j keys are not above s. -/
def cn (K : List ByteArray) (s : ByteArray) (j : Nat) : Nat := (K.take j).countP fun k => !Ky.bl s.toList k.toList
theorem cn_le (K : List ByteArray) (s : ByteArray) (j : Nat) : cn K s j ≤ j := by
  unfold cn
  exact Nat.le_trans List.countP_le_length (by simp; omega)
theorem cn_step {K : List ByteArray} {s q : ByteArray} {j : Nat} (hj : j < K.length) (hq : K.getD j No.bz = q) : cn K s (j + 1) = cn K s j + (if Ky.bl s.toList q.toList then 0 else 1) := by
  unfold cn
  rw [take_step (d := No.bz) hj, hq, List.countP_append]
  cases hb : Ky.bl s.toList q.toList <;> simp [hb]
theorem asc_of {K : List ByteArray} (h : No.mayK K = true) : K.Pairwise fun a b => Ky.bl a.toList b.toList = true := by
  rw [List.pairwise_iff_getElem]
  have adj : ∀ i, (hi : i + 1 < K.length) → Ky.bl (K[i]'(by omega)).toList (K[i + 1]'hi).toList = true := by
    intro i hi
    have := all_at h hi
    simp [No.kok, No.up, List.getD, List.getElem?_eq_getElem hi, List.getElem?_eq_getElem (show i < K.length by omega)] at this
    exact this.2
  intro i j hi hj hij
  induction j with
  | zero => omega
  | succ j ih =>
    rcases Nat.lt_or_ge i j with h2 | h2
    · exact Ky.bl_trans (ih (by omega) h2) (adj j hj)
    · obtain rfl : i = j := by omega
      exact adj i hj
theorem count_lead (s : ByteArray) : ∀ {K : List ByteArray}, (K.Pairwise fun a b => Ky.bl a.toList b.toList = true) → (K.countP fun k => !Ky.bl s.toList k.toList) = No.lead K s
  | [], _ => rfl
  | k :: K, h => by
    rw [List.pairwise_cons] at h
    unfold No.lead
    cases hb : Ky.bl s.toList k.toList
    · rw [List.countP_cons, count_lead s h.2, hb]; simp
    · rw [List.countP_cons, hb]
      have : (K.countP fun k => !Ky.bl s.toList k.toList) = 0 := by
        rw [List.countP_eq_zero]
        intro a ha
        rw [Ky.bl_trans hb (h.1 a ha)]
        simp
      simp [this]
theorem cn_all {K : List ByteArray} (h : No.mayK K = true) (s : ByteArray) : cn K s K.length = No.lead K s := by
  unfold cn
  rw [List.take_length]
  exact count_lead s (asc_of h)
theorem kid_no {n : No} {s : ByteArray} (h : n.may = false) : n.kid s = -1 := by
  unfold No.kid
  rw [h]
  split <;> rfl
theorem kid_leaf {n : No} {s : ByteArray} (h : n.L = true) : n.kid s = -1 := by
  unfold No.kid
  rw [h]
  rfl
theorem kid_fork {n : No} {s : ByteArray} (h : n.may = true) (hl : n.L = false) : n.kid s = (cn n.K s n.K.length : Int) := by
  rw [cn_all (No.may_fork hl h).2.2.2]
  unfold No.kid
  rw [h, hl]
  rfl

set_option maxRecDepth 100000 in
set_option maxHeartbeats 16000000 in
theorem walk (n1 : No) (vc1 vk1 vi1 : Value) (a1 : ByteArray) (w : World) (w0 : Nb w vc1 vk1 vi1 n1) (w1 : a1.size ≤ maxLen) :
    Calls Try.prog 3 #[.agg (nv n1.L vc1 vk1 vi1), .string a1] w fun e w' => e = .returned (.bool true) ∧ Below w.heap.size w w' := by
  have hN := w0
  have HA1 := hide w1
  clear w0 w1
  go_enter Try.func3, Try.ntmps3
  have hB : Below w.heap.size w w := Below.refl _ _
  go_upto_region 0 with fail
  refine kl_start 123 (by kernel_rfl) ?_
  refine kl_box 0 (some 2) 26 (.tmp 0) (nv n1.L vc1 vk1 vi1) (by kernel_rfl) (by kernel_rfl) (by kernel_rfl) (by kernel_rfl) (by kernel_rfl) ?_
  intro W1 hb hX
  replace hN := hN.later hb
  replace hB := hB.trans (hb.mono hB.size)
  clear hb
  refine kl_take 1 (some 4) ((Value.bool false)) (by kernel_rfl) (by kernel_rfl) (by kernel_rfl) (by kernel_rfl) ?_
  refine kl_done (by kernel_rfl) (fun y1 => #[.agg (nv n1.L vc1 vk1 vi1), .string a1, .pointer (some ⟨w.heap.size, 0, none⟩), undef, (Value.bool false), undef, undef, undef, undef, undef, undef, undef, undef, undef, undef, undef, undef, undef, undef, undef, undef, undef, undef, undef, undef, undef, undef, undef, undef, undef, undef, undef, undef, undef, undef, undef, undef, undef, undef, undef, undef, undef, undef, undef, undef, undef, undef, undef, undef, undef, undef, undef, undef, undef, undef, undef, undef, undef, undef, undef, undef, undef, undef, undef, undef, undef, undef, undef, undef, undef, undef, undef, undef, undef, undef, undef, undef, undef, undef, undef, undef, undef, undef, undef, undef, undef, undef, undef, undef, undef, undef, undef, undef, undef, undef, undef, undef, undef, undef, undef, undef, undef, undef, undef, undef, undef, undef, undef, undef, undef, undef, undef, undef, undef, undef, undef, undef, undef, undef, undef, undef, undef, undef]) (by kernel_rfl) ?_
  intro y1
  go_upto_region 1 with fail
  refine kl_start 123 (by kernel_rfl) ?_
  refine kl_callx 0 (some 14) (by kernel_rfl) (by kernel_rfl) (by kernel_rfl) (by kernel_rfl) (nbegun_any _) ?_
  rintro e x ⟨rfl, hb⟩
  refine ⟨_, rfl, ?_⟩
  replace hN := hN.later hb
  replace hX := hX.later hb
  replace hB := hB.trans (hb.mono hB.size)
  clear hb
  refine kl_take 1 (some 5) (.bool true) (by kernel_rfl) (by kernel_rfl) (by kernel_rfl) (by kernel_rfl) ?_
  refine kl_done (by kernel_rfl) (fun y2 => #[.agg (nv n1.L vc1 vk1 vi1), .string a1, .pointer (some ⟨w.heap.size, 0, none⟩), undef, (Value.bool false), .bool true, undef, undef, undef, undef, undef, undef, undef, undef, .bool true, undef, undef, undef, undef, undef, undef, undef, undef, undef, undef, undef, undef, undef, undef, undef, undef, undef, undef, undef, undef, undef, undef, undef, undef, undef, undef, undef, undef, undef, undef, undef, undef, undef, undef, undef, undef, undef, undef, undef, undef, undef, undef, undef, undef, undef, undef, undef, undef, undef, undef, undef, undef, undef, undef, undef, undef, undef, undef, undef, undef, undef, undef, undef, undef, undef, undef, undef, undef, undef, undef, undef, undef, undef, undef, undef, undef, undef, undef, undef, undef, undef, undef, undef, undef, undef, undef, undef, undef, undef, undef, undef, undef, undef, undef, undef, undef, undef, undef, undef, undef, undef, undef, undef, undef, undef, undef, undef, undef]) (by kernel_rfl) ?_
  intro y2
  go_upto_region 2 with fail
  refine kl_start 123 (by kernel_rfl) ?_
  refine kl_take 0 (some 15) (.bool true) (by kernel_rfl) (by kernel_rfl) (by kernel_rfl) (by kernel_rfl) ?_
  refine kl_take 1 (some 16) (.bool false) (by kernel_rfl) (by kernel_rfl) (by kernel_rfl) (by kernel_rfl) ?_
  refine kl_done (by kernel_rfl) (fun y3 => #[.agg (nv n1.L vc1 vk1 vi1), .string a1, .pointer (some ⟨w.heap.size, 0, none⟩), undef, (Value.bool false), .bool true, undef, undef, undef, undef, undef, undef, undef, undef, .bool true, .bool true, .bool false, undef, undef, undef, undef, undef, undef, undef, undef, undef, undef, undef, undef, undef, undef, undef, undef, undef, undef, undef, undef, undef, undef, undef, undef, undef, undef, undef, undef, undef, undef, undef, undef, undef, undef, undef, undef, undef, undef, undef, undef, undef, undef, undef, undef, undef, undef, undef, undef, undef, undef, undef, undef, undef, undef, undef, undef, undef, undef, undef, undef, undef, undef, undef, undef, undef, undef, undef, undef, undef, undef, undef, undef, undef, undef, undef, undef, undef, undef, undef, undef, undef, undef, undef, undef, undef, undef, undef, undef, undef, undef, undef, undef, undef, undef, undef, undef, undef, undef, undef, undef, undef, undef, undef, undef, undef, undef]) (by kernel_rfl) ?_
  intro y3
  go_upto_region 4 with fail
  refine kl_start 123 (by kernel_rfl) ?_
  refine kl_get 0 (some 17) 26 _ (.tmp 2) _ (nv n1.L vc1 vk1 vi1) (by kernel_rfl) (by kernel_rfl) (by kernel_rfl) (by kernel_rfl) (by kernel_rfl) hX tyM rfl ?_
  refine kl_callx 1 (some 18) (by kernel_rfl) (by kernel_rfl) (by kernel_rfl) (by kernel_rfl) (ncut_any vc1 vk1 vi1 n1 _ hN) ?_
  rintro e x ⟨vc, vk, vi, rfl, hcu, hb⟩
  refine ⟨_, rfl, ?_⟩
  replace hN := hN.later hb
  replace hX := hX.later hb
  replace hB := hB.trans (hb.mono hB.size)
  clear hb
  have hP := hcu.nb (No.cut_ok hN.ok)
  clear hcu
  refine kl_take 2 (some 19) (.string a1) (by kernel_rfl) (by kernel_rfl) (by kernel_rfl) (by kernel_rfl) ?_
  refine kl_callx 3 (some 20) (by kernel_rfl) (by kernel_rfl) (by kernel_rfl) (by kernel_rfl) (cut20_any a1 _ HA1.out) ?_
  rintro e x5 ⟨s1, rfl, hs20, -, rfl⟩
  refine ⟨_, rfl, ?_⟩
  refine kl_put 4 26 _ (.tmp 2) (.tmp 18) _ (nv n1.L vc vk vi) _ (by kernel_rfl) (by kernel_rfl) (by kernel_rfl) (by kernel_rfl) (by kernel_rfl) (by kernel_rfl) hX tyM rfl rfl (nv_one hP) ?_
  intro W4 hb4 hz4 hX4
  have pX := plain_nb (l := n1.L) hN
  replace hP := hP.beside hX pX hb4
  replace hB := Below.but hB hB.size hb4 (fun k e => by omega)
  clear hX hN hb4 hz4 pX
  have hX := hX4
  clear hX4
  have HF := hide (show n1.cut.few from Nat.le_trans (No.cut_small n1).c (by omega))
  refine kl_take 5 (some 1) (.string s1) (by kernel_rfl) (by kernel_rfl) (by kernel_rfl) (by kernel_rfl) ?_
  refine kl_done (by kernel_rfl) (fun y4 => #[.agg (nv n1.L vc1 vk1 vi1), .string s1, .pointer (some ⟨w.heap.size, 0, none⟩), undef, (Value.bool false), .bool true, undef, undef, undef, undef, undef, undef, undef, undef, .bool true, .bool true, .bool false, y4 17, y4 18, .string a1, y4 20, undef, undef, undef, undef, undef, undef, undef, undef, undef, undef, undef, undef, undef, undef, undef, undef, undef, undef, undef, undef, undef, undef, undef, undef, undef, undef, undef, undef, undef, undef, undef, undef, undef, undef, undef, undef, undef, undef, undef, undef, undef, undef, undef, undef, undef, undef, undef, undef, undef, undef, undef, undef, undef, undef, undef, undef, undef, undef, undef, undef, undef, undef, undef, undef, undef, undef, undef, undef, undef, undef, undef, undef, undef, undef, undef, undef, undef, undef, undef, undef, undef, undef, undef, undef, undef, undef, undef, undef, undef, undef, undef, undef, undef, undef, undef, undef, undef, undef, undef, undef, undef, undef]) (by kernel_rfl) ?_
  intro y4
  obtain ⟨P, hPe⟩ : ∃ P, P = n1.cut := ⟨_, rfl⟩
  have hLP : n1.L = P.L := by rw [hPe]; rfl
  rw [← hPe] at hP HF
  rw [hLP] at hX
  obtain ⟨pk, nk, ck, rfl, hak, hbk, hnk, -⟩ := hP.k.opens
  obtain rfl : nk = P.K.length := hnk.out
  clear hnk
  have HRB := hide (refB_bd hP.ok HF.out)
  have HKL : Hid (P.K.length ≤ 40) := hide (by rw [hPe]; exact (No.cut_small n1).k)
  clear hPe
  go_upto_region 5 with fail
  refine kl_start 123 (by kernel_rfl) ?_
  refine kl_get 0 (some 21) 26 _ (.tmp 2) _ (nv P.L vc (.slice pk P.K.length ck) vi) (by kernel_rfl) (by kernel_rfl) (by kernel_rfl) (by kernel_rfl) (by kernel_rfl) hX tyM rfl ?_
  refine kl_callx 1 (some 22) (by kernel_rfl) (by kernel_rfl) (by kernel_rfl) (by kernel_rfl) (refNodeBytes_any vc (.slice pk P.K.length ck) vi P _ hP HF.out) ?_
  rintro e x ⟨v6, rfl, ho6, hb⟩
  refine ⟨_, rfl, ?_⟩
  replace hX := hX.later hb
  replace hP := hP.later hb
  replace hB := hB.trans (hb.mono hB.size)
  clear hb
  have hS6 := Sl.own ho6 HRB.out
  clear ho6
  refine kl_take 2 (some 6) (v6) (by kernel_rfl) (by kernel_rfl) (by kernel_rfl) (by kernel_rfl) ?_
  refine kl_done (by kernel_rfl) (fun y5 => #[.agg (nv n1.L vc1 vk1 vi1), .string s1, .pointer (some ⟨w.heap.size, 0, none⟩), undef, (Value.bool false), .bool true, v6, undef, undef, undef, undef, undef, undef, undef, .bool true, .bool true, .bool false, y4 17, y4 18, .string a1, y4 20, y5 21, v6, undef, undef, undef, undef, undef, undef, undef, undef, undef, undef, undef, undef, undef, undef, undef, undef, undef, undef, undef, undef, undef, undef, undef, undef, undef, undef, undef, undef, undef, undef, undef, undef, undef, undef, undef, undef, undef, undef, undef, undef, undef, undef, undef, undef, undef, undef, undef, undef, undef, undef, undef, undef, undef, undef, undef, undef, undef, undef, undef, undef, undef, undef, undef, undef, undef, undef, undef, undef, undef, undef, undef, undef, undef, undef, undef, undef, undef, undef, undef, undef, undef, undef, undef, undef, undef, undef, undef, undef, undef, undef, undef, undef, undef, undef, undef, undef, undef, undef, undef, undef]) (by kernel_rfl) ?_
  intro y5
  obtain ⟨p6, n6, c6, rfl, -, -, hn6, HS6⟩ := hS6.opens
  have hS6 := HS6.out
  obtain rfl : n6 = P.refB.length := hn6.out
  clear HS6 hn6
  cases hm : P.may
  · skip
    have HM := hide hm
    have HSZ : Hid (P.size = (P.refB.length : Int)) := hide (by rw [No.size_no hm, No.refB_no hm]; rfl)
    go_upto_region 6 with fail
    refine kl_start 123 (by kernel_rfl) ?_
    refine kl_get 0 (some 23) 26 _ (.tmp 2) _ (nv P.L vc (.slice pk P.K.length ck) vi) (by kernel_rfl) (by kernel_rfl) (by kernel_rfl) (by kernel_rfl) (by kernel_rfl) hX tyM rfl ?_
    refine kl_callx 1 (some 24) (by kernel_rfl) (by kernel_rfl) (by kernel_rfl) (by kernel_rfl) (refMay_at hP hm) ?_
    rintro e x ⟨rfl, hb⟩
    refine ⟨_, rfl, ?_⟩
    replace hX := hX.later hb
    replace hP := hP.later hb
    replace hS6 := hS6.later hb
    replace hB := hB.trans (hb.mono hB.size)
    clear hb
    refine kl_take 2 (some 7) (.bool false) (by kernel_rfl) (by kernel_rfl) (by kernel_rfl) (by kernel_rfl) ?_
    refine kl_done (by kernel_rfl) (fun f6 => #[.agg (nv n1.L vc1 vk1 vi1), .string s1, .pointer (some ⟨w.heap.size, 0, none⟩), undef, (Value.bool false), .bool true, .slice p6 P.refB.length c6, .bool false, undef, undef, undef, undef, undef, undef, .bool true, .bool true, .bool false, y4 17, y4 18, .string a1, y4 20, y5 21, .slice p6 P.refB.length c6, f6 23, .bool false, undef, undef, undef, undef, undef, undef, undef, undef, undef, undef, undef, undef, undef, undef, undef, undef, undef, undef, undef, undef, undef, undef, undef, undef, undef, undef, undef, undef, undef, undef, undef, undef, undef, undef, undef, undef, undef, undef, undef, undef, undef, undef, undef, undef, undef, undef, undef, undef, undef, undef, undef, undef, undef, undef, undef, undef, undef, undef, undef, undef, undef, undef, undef, undef, undef, undef, undef, undef, undef, undef, undef, undef, undef, undef, undef, undef, undef, undef, undef, undef, undef, undef, undef, undef, undef, undef, undef, undef, undef, undef, undef, undef, undef, undef, undef, undef, undef, undef]) (by kernel_rfl) ?_
    intro f6
    go_upto_region 7 with fail
    refine kl_start 123 (by kernel_rfl) ?_
    refine kl_get 0 (some 25) 26 _ (.tmp 2) _ (nv P.L vc (.slice pk P.K.length ck) vi) (by kernel_rfl) (by kernel_rfl) (by kernel_rfl) (by kernel_rfl) (by kernel_rfl) hX tyM rfl ?_
    refine kl_callx 1 (some 26) (by kernel_rfl) (by kernel_rfl) (by kernel_rfl) (by kernel_rfl) (nof_any vc (.slice pk P.K.length ck) vi P _ hP HF.out) ?_
    rintro e x ⟨va, rfl, hva, hb⟩
    refine ⟨_, rfl, ?_⟩
    replace hX := hX.later hb
    replace hP := hP.later hb
    replace hS6 := hS6.later hb
    replace hB := hB.trans (hb.mono hB.size)
    clear hb
    refine kl_callx 2 (some 27) (by kernel_rfl) (by kernel_rfl) (by kernel_rfl) (by kernel_rfl) (may_at hva hm) ?_
    rintro e x ⟨rfl, hb⟩
    refine ⟨_, rfl, ?_⟩
    replace hX := hX.later hb
    replace hP := hP.later hb
    replace hS6 := hS6.later hb
    replace hva := hva.later hb
    replace hB := hB.trans (hb.mono hB.size)
    clear hb
    refine kl_take 3 (some 28) (.bool false) (by kernel_rfl) (by kernel_rfl) (by kernel_rfl) (by kernel_rfl) ?_
    refine kl_take 4 (some 29) (.bool false) (by kernel_rfl) (by kernel_rfl) (by kernel_rfl) (by kernel_rfl) ?_
    refine kl_take 5 (some 30) (.bool false) (by kernel_rfl) (by kernel_rfl) (by kernel_rfl) (by kernel_rfl) ?_
    refine kl_get 6 (some 31) 26 _ (.tmp 2) _ (nv P.L vc (.slice pk P.K.length ck) vi) (by kernel_rfl) (by kernel_rfl) (by kernel_rfl) (by kernel_rfl) (by kernel_rfl) hX tyM rfl ?_
    refine kl_callx 7 (some 32) (by kernel_rfl) (by kernel_rfl) (by kernel_rfl) (by kernel_rfl) (nof_any vc (.slice pk P.K.length ck) vi P _ hP HF.out) ?_
    rintro e x ⟨vb, rfl, hvb, hb⟩
    refine ⟨_, rfl, ?_⟩
    replace hX := hX.later hb
    replace hP := hP.later hb
    replace hS6 := hS6.later hb
    replace hva := hva.later hb
    replace hB := hB.trans (hb.mono hB.size)
    clear hb
    refine kl_callx 8 (some 33) (by kernel_rfl) (by kernel_rfl) (by kernel_rfl) (by kernel_rfl) (size_at hvb HF.out HSZ.out) ?_
    rintro e x ⟨rfl, hb⟩
    refine ⟨_, rfl, ?_⟩
    replace hX := hX.later hb
    replace hP := hP.later hb
    replace hS6 := hS6.later hb
    replace hva := hva.later hb
    replace hvb := hvb.later hb
    replace hB := hB.trans (hb.mono hB.size)
    clear hb
    refine kl_take 9 (some 34) (.slice p6 P.refB.length c6) (by kernel_rfl) (by kernel_rfl) (by kernel_rfl) (by kernel_rfl) ?_
    refine kl_take 10 (some 35) (.int .i64 (P.refB.length : Int)) (by kernel_rfl) (by kernel_rfl) (by kernel_rfl) (by kernel_rfl) ?_
    refine kl_test 11 (some 36) false (by kernel_rfl) (by kernel_rfl) (by kernel_rfl) (show ((P.refB.length : Int) != (P.refB.length : Int)) = false by simp) (by kernel_rfl) ?_
    refine kl_take 12 (some 37) (.bool false) (by kernel_rfl) (by kernel_rfl) (by kernel_rfl) (by kernel_rfl) ?_
    refine kl_done (by kernel_rfl) (fun f7 => #[.agg (nv n1.L vc1 vk1 vi1), .string s1, .pointer (some ⟨w.heap.size, 0, none⟩), undef, (Value.bool false), .bool true, .slice p6 P.refB.length c6, .bool false, undef, undef, undef, undef, undef, undef, .bool true, .bool true, .bool false, y4 17, y4 18, .string a1, y4 20, y5 21, .slice p6 P.refB.length c6, f6 23, .bool false, f7 25, f7 26, .bool false, .bool false, .bool false, .bool false, f7 31, f7 32, .int .i64 (P.refB.length : Int), .slice p6 P.refB.length c6, .int .i64 (P.refB.length : Int), .bool false, .bool false, undef, undef, undef, undef, undef, undef, undef, undef, undef, undef, undef, undef, undef, undef, undef, undef, undef, undef, undef, undef, undef, undef, undef, undef, undef, undef, undef, undef, undef, undef, undef, undef, undef, undef, undef, undef, undef, undef, undef, undef, undef, undef, undef, undef, undef, undef, undef, undef, undef, undef, undef, undef, undef, undef, undef, undef, undef, undef, undef, undef, undef, undef, undef, undef, undef, undef, undef, undef, undef, undef, undef, undef, undef, undef, undef, undef, undef, undef, undef, undef, undef, undef, undef, undef, undef]) (by kernel_rfl) ?_
    intro f7
    clear hva hvb
    go_upto_region 9 with fail
    refine kl_start 123 (by kernel_rfl) ?_
    refine kl_get 0 (some 39) 26 _ (.tmp 2) _ (nv P.L vc (.slice pk P.K.length ck) vi) (by kernel_rfl) (by kernel_rfl) (by kernel_rfl) (by kernel_rfl) (by kernel_rfl) hX tyM rfl ?_
    refine kl_callx 1 (some 40) (by kernel_rfl) (by kernel_rfl) (by kernel_rfl) (by kernel_rfl) (nof_any vc (.slice pk P.K.length ck) vi P _ hP HF.out) ?_
    rintro e x ⟨ve, rfl, hve, hb⟩
    refine ⟨_, rfl, ?_⟩
    replace hX := hX.later hb
    replace hP := hP.later hb
    replace hS6 := hS6.later hb
    replace hB := hB.trans (hb.mono hB.size)
    clear hb
    refine kl_callx 2 (some 41) (by kernel_rfl) (by kernel_rfl) (by kernel_rfl) (by kernel_rfl) (encode_at hve HF.out (No.enc_bad hm)) ?_
    rintro e x ⟨v8, rfl, ho8, hb⟩
    refine ⟨_, rfl, ?_⟩
    replace hX := hX.later hb
    replace hP := hP.later hb
    replace hS6 := hS6.later hb
    replace hve := hve.later hb
    replace hB := hB.trans (hb.mono hB.size)
    clear hb
    refine kl_take 3 (some 38) (.tuple #[v8, .int .i64 1]) (by kernel_rfl) (by kernel_rfl) (by kernel_rfl) (by kernel_rfl) ?_
    refine kl_take 4 (some 42) (v8) (by kernel_rfl) (by kernel_rfl) (by kernel_rfl) (by kernel_rfl) ?_
    refine kl_take 5 (some 43) (.int .i64 1) (by kernel_rfl) (by kernel_rfl) (by kernel_rfl) (by kernel_rfl) ?_
    refine kl_take 6 (some 8) (v8) (by kernel_rfl) (by kernel_rfl) (by kernel_rfl) (by kernel_rfl) ?_
    refine kl_take 7 (some 9) (.int .i64 1) (by kernel_rfl) (by kernel_rfl) (by kernel_rfl) (by kernel_rfl) ?_
    refine kl_done (by kernel_rfl) (fun f8 => #[.agg (nv n1.L vc1 vk1 vi1), .string s1, .pointer (some ⟨w.heap.size, 0, none⟩), undef, (Value.bool false), .bool true, .slice p6 P.refB.length c6, .bool false, v8, .int .i64 1, undef, undef, undef, undef, .bool true, .bool true, .bool false, y4 17, y4 18, .string a1, y4 20, y5 21, .slice p6 P.refB.length c6, f6 23, .bool false, f7 25, f7 26, .bool false, .bool false, .bool false, .bool false, f7 31, f7 32, .int .i64 (P.refB.length : Int), .slice p6 P.refB.length c6, .int .i64 (P.refB.length : Int), .bool false, .bool false, f8 38, f8 39, f8 40, f8 41, v8, .int .i64 1, undef, undef, undef, undef, undef, undef, undef, undef, undef, undef, undef, undef, undef, undef, undef, undef, undef, undef, undef, undef, undef, undef, undef, undef, undef, undef, undef, undef, undef, undef, undef, undef, undef, undef, undef, undef, undef, undef, undef, undef, undef, undef, undef, undef, undef, undef, undef, undef, undef, undef, undef, undef, undef, undef, undef, undef, undef, undef, undef, undef, undef, undef, undef, undef, undef, undef, undef, undef, undef, undef, undef, undef, undef, undef, undef, undef, undef, undef, undef]) (by kernel_rfl) ?_
    intro f8
    obtain ⟨p8, c8, rfl, -, -⟩ := own_opens ho8
    clear hve ho8
    go_upto_region 10 with fail
    refine kl_start 123 (by kernel_rfl) ?_
    refine kl_take 0 (some 45) (.bool false) (by kernel_rfl) (by kernel_rfl) (by kernel_rfl) (by kernel_rfl) ?_
    refine kl_take 1 (some 46) (.bool true) (by kernel_rfl) (by kernel_rfl) (by kernel_rfl) (by kernel_rfl) ?_
    refine kl_take 2 (some 44) (.bool true) (by kernel_rfl) (by kernel_rfl) (by kernel_rfl) (by kernel_rfl) ?_
    refine kl_done (by kernel_rfl) (fun f9 => #[.agg (nv n1.L vc1 vk1 vi1), .string s1, .pointer (some ⟨w.heap.size, 0, none⟩), undef, (Value.bool false), .bool true, .slice p6 P.refB.length c6, .bool false, .slice p8 0 c8, .int .i64 1, undef, undef, undef, undef, .bool true, .bool true, .bool false, y4 17, y4 18, .string a1, y4 20, y5 21, .slice p6 P.refB.length c6, f6 23, .bool false, f7 25, f7 26, .bool false, .bool false, .bool false, .bool false, f7 31, f7 32, .int .i64 (P.refB.length : Int), .slice p6 P.refB.length c6, .int .i64 (P.refB.length : Int), .bool false, .bool false, f8 38, f8 39, f8 40, f8 41, .slice p8 0 c8, .int .i64 1, .bool true, .bool false, .bool true, undef, undef, undef, undef, undef, undef, undef, undef, undef, undef, undef, undef, undef, undef, undef, undef, undef, undef, undef, undef, undef, undef, undef, undef, undef, undef, undef, undef, undef, undef, undef, undef, undef, undef, undef, undef, undef, undef, undef, undef, undef, undef, undef, undef, undef, undef, undef, undef, undef, undef, undef, undef, undef, undef, undef, undef, undef, undef, undef, undef, undef, undef, undef, undef, undef, undef, undef, undef, undef, undef, undef, undef, undef, undef, undef, undef]) (by kernel_rfl) ?_
    intro f9
    go_upto_region 11 with fail
    refine kl_start 123 (by kernel_rfl) ?_
    refine kl_take 0 (some 47) (.int .i64 1) (by kernel_rfl) (by kernel_rfl) (by kernel_rfl) (by kernel_rfl) ?_
    refine kl_take 1 (some 48) (.bool true) (by kernel_rfl) (by kernel_rfl) (by kernel_rfl) (by kernel_rfl) ?_
    refine kl_take 2 (some 49) (.bool true) (by kernel_rfl) (by kernel_rfl) (by kernel_rfl) (by kernel_rfl) ?_
    refine kl_take 3 (some 50) (.slice p8 0 c8) (by kernel_rfl) (by kernel_rfl) (by kernel_rfl) (by kernel_rfl) ?_
    refine kl_take 4 (some 51) (.int .i64 0) (by kernel_rfl) (by kernel_rfl) (by kernel_rfl) (by kernel_rfl) ?_
    refine kl_take 5 (some 52) (.bool true) (by kernel_rfl) (by kernel_rfl) (by kernel_rfl) (by kernel_rfl) ?_
    refine kl_take 6 (some 53) (.bool true) (by kernel_rfl) (by kernel_rfl) (by kernel_rfl) (by kernel_rfl) ?_
    refine kl_take 7 (some 54) (.bool true) (by kernel_rfl) (by kernel_rfl) (by kernel_rfl) (by kernel_rfl) ?_
    refine kl_get 8 (some 55) 26 _ (.tmp 2) _ (nv P.L vc (.slice pk P.K.length ck) vi) (by kernel_rfl) (by kernel_rfl) (by kernel_rfl) (by kernel_rfl) (by kernel_rfl) hX tyM rfl ?_
    refine kl_callx 9 (some 56) (by kernel_rfl) (by kernel_rfl) (by kernel_rfl) (by kernel_rfl) (nof_any vc (.slice pk P.K.length ck) vi P _ hP HF.out) ?_
    rintro e x ⟨vd, rfl, hvd, hb⟩
    refine ⟨_, rfl, ?_⟩
    replace hX := hX.later hb
    replace hP := hP.later hb
    replace hS6 := hS6.later hb
    replace hB := hB.trans (hb.mono hB.size)
    clear hb
    refine kl_take 10 (some 57) (.string s1) (by kernel_rfl) (by kernel_rfl) (by kernel_rfl) (by kernel_rfl) ?_
    refine kl_callx 11 (some 58) (by kernel_rfl) (by kernel_rfl) (by kernel_rfl) (by kernel_rfl) (kid_at hvd (kid_no (s := s1) hm)) ?_
    rintro e x ⟨rfl, hb⟩
    refine ⟨_, rfl, ?_⟩
    replace hX := hX.later hb
    replace hP := hP.later hb
    replace hS6 := hS6.later hb
    replace hvd := hvd.later hb
    replace hB := hB.trans (hb.mono hB.size)
    clear hb
    refine kl_take 12 (some 59) (.bool true) (by kernel_rfl) (by kernel_rfl) (by kernel_rfl) (by kernel_rfl) ?_
    refine kl_take 13 (some 60) (.bool true) (by kernel_rfl) (by kernel_rfl) (by kernel_rfl) (by kernel_rfl) ?_
    refine kl_take 14 (some 4) (.bool true) (by kernel_rfl) (by kernel_rfl) (by kernel_rfl) (by kernel_rfl) ?_
    refine kl_done (by kernel_rfl) (fun f10 => #[.agg (nv n1.L vc1 vk1 vi1), .string s1, .pointer (some ⟨w.heap.size, 0, none⟩), undef, .bool true, .bool true, .slice p6 P.refB.length c6, .bool false, .slice p8 0 c8, .int .i64 1, undef, undef, undef, undef, .bool true, .bool true, .bool false, y4 17, y4 18, .string a1, y4 20, y5 21, .slice p6 P.refB.length c6, f6 23, .bool false, f7 25, f7 26, .bool false, .bool false, .bool false, .bool false, f7 31, f7 32, .int .i64 (P.refB.length : Int), .slice p6 P.refB.length c6, .int .i64 (P.refB.length : Int), .bool false, .bool false, f8 38, f8 39, f8 40, f8 41, .slice p8 0 c8, .int .i64 1, .bool true, .bool false, .bool true, .int .i64 1, .bool true, .bool true, .slice p8 0 c8, .int .i64 0, .bool true, .bool true, .bool true, .agg (nv P.L vc (.slice pk P.K.length ck) vi), .agg (nv P.L vd (.slice pk P.K.length ck) vi), .string s1, .int .i64 (-1), .bool true, .bool true, undef, undef, undef, undef, undef, undef, undef, undef, undef, undef, undef, undef, undef, undef, undef, undef, undef, undef, undef, undef, undef, undef, undef, undef, undef, undef, undef, undef, undef, undef, undef, undef, undef, undef, undef, undef, undef, undef, undef, undef, undef, undef, undef, undef, undef, undef, undef, undef, undef, undef, undef, undef, undef, undef, undef, undef, undef, undef, undef, undef, undef, undef]) (by kernel_rfl) ?_
    intro f10
    go_wp2_with fail
    go_ret
    exact ⟨rfl, hB⟩
  · skip
    have HM := hide hm
    have HSZ : Hid (P.size = (P.refB.length : Int)) := hide (by rw [No.size_is hm, No.refB_is hm])
    go_upto_region 6 with fail
    refine kl_start 123 (by kernel_rfl) ?_
    refine kl_get 0 (some 23) 26 _ (.tmp 2) _ (nv P.L vc (.slice pk P.K.length ck) vi) (by kernel_rfl) (by kernel_rfl) (by kernel_rfl) (by kernel_rfl) (by kernel_rfl) hX tyM rfl ?_
    refine kl_callx 1 (some 24) (by kernel_rfl) (by kernel_rfl) (by kernel_rfl) (by kernel_rfl) (refMay_at hP hm) ?_
    rintro e x ⟨rfl, hb⟩
    refine ⟨_, rfl, ?_⟩
    replace hX := hX.later hb
    replace hP := hP.later hb
    replace hS6 := hS6.later hb
    replace hB := hB.trans (hb.mono hB.size)
    clear hb
    refine kl_take 2 (some 7) (.bool true) (by kernel_rfl) (by kernel_rfl) (by kernel_rfl) (by kernel_rfl) ?_
    refine kl_done (by kernel_rfl) (fun m6 => #[.agg (nv n1.L vc1 vk1 vi1), .string s1, .pointer (some ⟨w.heap.size, 0, none⟩), undef, (Value.bool false), .bool true, .slice p6 P.refB.length c6, .bool true, undef, undef, undef, undef, undef, undef, .bool true, .bool true, .bool false, y4 17, y4 18, .string a1, y4 20, y5 21, .slice p6 P.refB.length c6, m6 23, .bool true, undef, undef, undef, undef, undef, undef, undef, undef, undef, undef, undef, undef, undef, undef, undef, undef, undef, undef, undef, undef, undef, undef, undef, undef, undef, undef, undef, undef, undef, undef, undef, undef, undef, undef, undef, undef, undef, undef, undef, undef, undef, undef, undef, undef, undef, undef, undef, undef, undef, undef, undef, undef, undef, undef, undef, undef, undef, undef, undef, undef, undef, undef, undef, undef, undef, undef, undef, undef, undef, undef, undef, undef, undef, undef, undef, undef, undef, undef, undef, undef, undef, undef, undef, undef, undef, undef, undef, undef, undef, undef, undef, undef, undef, undef, undef, undef, undef, undef]) (by kernel_rfl) ?_
    intro m6
    go_upto_region 7 with fail
    refine kl_start 123 (by kernel_rfl) ?_
    refine kl_get 0 (some 25) 26 _ (.tmp 2) _ (nv P.L vc (.slice pk P.K.length ck) vi) (by kernel_rfl) (by kernel_rfl) (by kernel_rfl) (by kernel_rfl) (by kernel_rfl) hX tyM rfl ?_
    refine kl_callx 1 (some 26) (by kernel_rfl) (by kernel_rfl) (by kernel_rfl) (by kernel_rfl) (nof_any vc (.slice pk P.K.length ck) vi P _ hP HF.out) ?_
    rintro e x ⟨va, rfl, hva, hb⟩
    refine ⟨_, rfl, ?_⟩
    replace hX := hX.later hb
    replace hP := hP.later hb
    replace hS6 := hS6.later hb
    replace hB := hB.trans (hb.mono hB.size)
    clear hb
    refine kl_callx 2 (some 27) (by kernel_rfl) (by kernel_rfl) (by kernel_rfl) (by kernel_rfl) (may_at hva hm) ?_
    rintro e x ⟨rfl, hb⟩
    refine ⟨_, rfl, ?_⟩
    replace hX := hX.later hb
    replace hP := hP.later hb
    replace hS6 := hS6.later hb
    replace hva := hva.later hb
    replace hB := hB.trans (hb.mono hB.size)
    clear hb
    refine kl_take 3 (some 28) (.bool true) (by kernel_rfl) (by kernel_rfl) (by kernel_rfl) (by kernel_rfl) ?_
    refine kl_take 4 (some 29) (.bool false) (by kernel_rfl) (by kernel_rfl) (by kernel_rfl) (by kernel_rfl) ?_
    refine kl_take 5 (some 30) (.bool false) (by kernel_rfl) (by kernel_rfl) (by kernel_rfl) (by kernel_rfl) ?_
    refine kl_get 6 (some 31) 26 _ (.tmp 2) _ (nv P.L vc (.slice pk P.K.length ck) vi) (by kernel_rfl) (by kernel_rfl) (by kernel_rfl) (by kernel_rfl) (by kernel_rfl) hX tyM rfl ?_
    refine kl_callx 7 (some 32) (by kernel_rfl) (by kernel_rfl) (by kernel_rfl) (by kernel_rfl) (nof_any vc (.slice pk P.K.length ck) vi P _ hP HF.out) ?_
    rintro e x ⟨vb, rfl, hvb, hb⟩
    refine ⟨_, rfl, ?_⟩
    replace hX := hX.later hb
    replace hP := hP.later hb
    replace hS6 := hS6.later hb
    replace hva := hva.later hb
    replace hB := hB.trans (hb.mono hB.size)
    clear hb
    refine kl_callx 8 (some 33) (by kernel_rfl) (by kernel_rfl) (by kernel_rfl) (by kernel_rfl) (size_at hvb HF.out HSZ.out) ?_
    rintro e x ⟨rfl, hb⟩
    refine ⟨_, rfl, ?_⟩
    replace hX := hX.later hb
    replace hP := hP.later hb
    replace hS6 := hS6.later hb
    replace hva := hva.later hb
    replace hvb := hvb.later hb
    replace hB := hB.trans (hb.mono hB.size)
    clear hb
    refine kl_take 9 (some 34) (.slice p6 P.refB.length c6) (by kernel_rfl) (by kernel_rfl) (by kernel_rfl) (by kernel_rfl) ?_
    refine kl_take 10 (some 35) (.int .i64 (P.refB.length : Int)) (by kernel_rfl) (by kernel_rfl) (by kernel_rfl) (by kernel_rfl) ?_
    refine kl_test 11 (some 36) false (by kernel_rfl) (by kernel_rfl) (by kernel_rfl) (show ((P.refB.length : Int) != (P.refB.length : Int)) = false by simp) (by kernel_rfl) ?_
    refine kl_take 12 (some 37) (.bool false) (by kernel_rfl) (by kernel_rfl) (by kernel_rfl) (by kernel_rfl) ?_
    refine kl_done (by kernel_rfl) (fun m7 => #[.agg (nv n1.L vc1 vk1 vi1), .string s1, .pointer (some ⟨w.heap.size, 0, none⟩), undef, (Value.bool false), .bool true, .slice p6 P.refB.length c6, .bool true, undef, undef, undef, undef, undef, undef, .bool true, .bool true, .bool false, y4 17, y4 18, .string a1, y4 20, y5 21, .slice p6 P.refB.length c6, m6 23, .bool true, m7 25, m7 26, .bool true, .bool true, .bool false, .bool false, m7 31, m7 32, .int .i64 (P.refB.length : Int), .slice p6 P.refB.length c6, .int .i64 (P.refB.length : Int), .bool false, .bool false, undef, undef, undef, undef, undef, undef, undef, undef, undef, undef, undef, undef, undef, undef, undef, undef, undef, undef, undef, undef, undef, undef, undef, undef, undef, undef, undef, undef, undef, undef, undef, undef, undef, undef, undef, undef, undef, undef, undef, undef, undef, undef, undef, undef, undef, undef, undef, undef, undef, undef, undef, undef, undef, undef, undef, undef, undef, undef, undef, undef, undef, undef, undef, undef, undef, undef, undef, undef, undef, undef, undef, undef, undef, undef, undef, undef, undef, undef, undef, undef, undef, undef, undef, undef, undef]) (by kernel_rfl) ?_
    intro m7
    clear hva hvb
    have hrb := No.refB_is hm
    by_cases hl : P.refB.length ≤ 256
    rotate_left
    · skip
      have hl2 := hl
      rw [hrb] at hl2
      go_upto_region 9 with fail
      refine kl_start 123 (by kernel_rfl) ?_
      refine kl_get 0 (some 39) 26 _ (.tmp 2) _ (nv P.L vc (.slice pk P.K.length ck) vi) (by kernel_rfl) (by kernel_rfl) (by kernel_rfl) (by kernel_rfl) (by kernel_rfl) hX tyM rfl ?_
      refine kl_callx 1 (some 40) (by kernel_rfl) (by kernel_rfl) (by kernel_rfl) (by kernel_rfl) (nof_any vc (.slice pk P.K.length ck) vi P _ hP HF.out) ?_
      rintro e x ⟨ve, rfl, hve, hb⟩
      refine ⟨_, rfl, ?_⟩
      replace hX := hX.later hb
      replace hP := hP.later hb
      replace hS6 := hS6.later hb
      replace hB := hB.trans (hb.mono hB.size)
      clear hb
      refine kl_callx 2 (some 41) (by kernel_rfl) (by kernel_rfl) (by kernel_rfl) (by kernel_rfl) (encode_at hve HF.out (No.enc_full hm (by omega))) ?_
      rintro e x ⟨v8, rfl, ho8, hb⟩
      refine ⟨_, rfl, ?_⟩
      replace hX := hX.later hb
      replace hP := hP.later hb
      replace hS6 := hS6.later hb
      replace hve := hve.later hb
      replace hB := hB.trans (hb.mono hB.size)
      clear hb
      refine kl_take 3 (some 38) (.tuple #[v8, .int .i64 4]) (by kernel_rfl) (by kernel_rfl) (by kernel_rfl) (by kernel_rfl) ?_
      refine kl_take 4 (some 42) (v8) (by kernel_rfl) (by kernel_rfl) (by kernel_rfl) (by kernel_rfl) ?_
      refine kl_take 5 (some 43) (.int .i64 4) (by kernel_rfl) (by kernel_rfl) (by kernel_rfl) (by kernel_rfl) ?_
      refine kl_take 6 (some 8) (v8) (by kernel_rfl) (by kernel_rfl) (by kernel_rfl) (by kernel_rfl) ?_
      refine kl_take 7 (some 9) (.int .i64 4) (by kernel_rfl) (by kernel_rfl) (by kernel_rfl) (by kernel_rfl) ?_
      refine kl_done (by kernel_rfl) (fun g8 => #[.agg (nv n1.L vc1 vk1 vi1), .string s1, .pointer (some ⟨w.heap.size, 0, none⟩), undef, (Value.bool false), .bool true, .slice p6 P.refB.length c6, .bool true, v8, .int .i64 4, undef, undef, undef, undef, .bool true, .bool true, .bool false, y4 17, y4 18, .string a1, y4 20, y5 21, .slice p6 P.refB.length c6, m6 23, .bool true, m7 25, m7 26, .bool true, .bool true, .bool false, .bool false, m7 31, m7 32, .int .i64 (P.refB.length : Int), .slice p6 P.refB.length c6, .int .i64 (P.refB.length : Int), .bool false, .bool false, g8 38, g8 39, g8 40, g8 41, v8, .int .i64 4, undef, undef, undef, undef, undef, undef, undef, undef, undef, undef, undef, undef, undef, undef, undef, undef, undef, undef, undef, undef, undef, undef, undef, undef, undef, undef, undef, undef, undef, undef, undef, undef, undef, undef, undef, undef, undef, undef, undef, undef, undef, undef, undef, undef, undef, undef, undef, undef, undef, undef, undef, undef, undef, undef, undef, undef, undef, undef, undef, undef, undef, undef, undef, undef, undef, undef, undef, undef, undef, undef, undef, undef, undef, undef, undef, undef, undef, undef, undef]) (by kernel_rfl) ?_
      intro g8
      obtain ⟨p8, c8, rfl, -, -⟩ := own_opens ho8
      clear hve ho8
      go_upto_region 10 with fail
      refine kl_start 123 (by kernel_rfl) ?_
      refine kl_take 0 (some 45) (.bool true) (by kernel_rfl) (by kernel_rfl) (by kernel_rfl) (by kernel_rfl) ?_
      refine kl_take 1 (some 46) (.bool false) (by kernel_rfl) (by kernel_rfl) (by kernel_rfl) (by kernel_rfl) ?_
      refine kl_take 2 (some 44) (.bool false) (by kernel_rfl) (by kernel_rfl) (by kernel_rfl) (by kernel_rfl) ?_
      refine kl_done (by kernel_rfl) (fun g9 => #[.agg (nv n1.L vc1 vk1 vi1), .string s1, .pointer (some ⟨w.heap.size, 0, none⟩), undef, (Value.bool false), .bool true, .slice p6 P.refB.length c6, .bool true, .slice p8 0 c8, .int .i64 4, undef, undef, undef, undef, .bool true, .bool true, .bool false, y4 17, y4 18, .string a1, y4 20, y5 21, .slice p6 P.refB.length c6, m6 23, .bool true, m7 25, m7 26, .bool true, .bool true, .bool false, .bool false, m7 31, m7 32, .int .i64 (P.refB.length : Int), .slice p6 P.refB.length c6, .int .i64 (P.refB.length : Int), .bool false, .bool false, g8 38, g8 39, g8 40, g8 41, .slice p8 0 c8, .int .i64 4, .bool false, .bool true, .bool false, undef, undef, undef, undef, undef, undef, undef, undef, undef, undef, undef, undef, undef, undef, undef, undef, undef, undef, undef, undef, undef, undef, undef, undef, undef, undef, undef, undef, undef, undef, undef, undef, undef, undef, undef, undef, undef, undef, undef, undef, undef, undef, undef, undef, undef, undef, undef, undef, undef, undef, undef, undef, undef, undef, undef, undef, undef, undef, undef, undef, undef, undef, undef, undef, undef, undef, undef, undef, undef, undef, undef, undef, undef, undef, undef, undef]) (by kernel_rfl) ?_
      intro g9
      go_upto_region 12 with fail
      refine kl_start 123 (by kernel_rfl) ?_
      refine kl_take 0 (some 62) (.slice p6 P.refB.length c6) (by kernel_rfl) (by kernel_rfl) (by kernel_rfl) (by kernel_rfl) ?_
      refine kl_take 1 (some 63) (.int .i64 (P.refB.length : Int)) (by kernel_rfl) (by kernel_rfl) (by kernel_rfl) (by kernel_rfl) ?_
      refine kl_test 2 (some 64) true (by kernel_rfl) (by kernel_rfl) (by kernel_rfl) (show decide ((256 : Int) < (P.refB.length : Int)) = true by simp; omega) (by kernel_rfl) ?_
      refine kl_take 3 (some 61) (.bool true) (by kernel_rfl) (by kernel_rfl) (by kernel_rfl) (by kernel_rfl) ?_
      refine kl_done (by kernel_rfl) (fun g10 => #[.agg (nv n1.L vc1 vk1 vi1), .string s1, .pointer (some ⟨w.heap.size, 0, none⟩), undef, (Value.bool false), .bool true, .slice p6 P.refB.length c6, .bool true, .slice p8 0 c8, .int .i64 4, undef, undef, undef, undef, .bool true, .bool true, .bool false, y4 17, y4 18, .string a1, y4 20, y5 21, .slice p6 P.refB.length c6, m6 23, .bool true, m7 25, m7 26, .bool true, .bool true, .bool false, .bool false, m7 31, m7 32, .int .i64 (P.refB.length : Int), .slice p6 P.refB.length c6, .int .i64 (P.refB.length : Int), .bool false, .bool false, g8 38, g8 39, g8 40, g8 41, .slice p8 0 c8, .int .i64 4, .bool false, .bool true, .bool false, undef, undef, undef, undef, undef, undef, undef, undef, undef, undef, undef, undef, undef, undef, .bool true, .slice p6 P.refB.length c6, .int .i64 (P.refB.length : Int), .bool true, undef, undef, undef, undef, undef, undef, undef, undef, undef, undef, undef, undef, undef, undef, undef, undef, undef, undef, undef, undef, undef, undef, undef, undef, undef, undef, undef, undef, undef, undef, undef, undef, undef, undef, undef, undef, undef, undef, undef, undef, undef, undef, undef, undef, undef, undef, undef, undef, undef, undef, undef, undef, undef, undef, undef, undef, undef, undef]) (by kernel_rfl) ?_
      intro g10
      go_upto_region 13 with fail
      refine kl_start 123 (by kernel_rfl) ?_
      refine kl_take 0 (some 65) (.int .i64 4) (by kernel_rfl) (by kernel_rfl) (by kernel_rfl) (by kernel_rfl) ?_
      refine kl_take 1 (some 66) (.bool true) (by kernel_rfl) (by kernel_rfl) (by kernel_rfl) (by kernel_rfl) ?_
      refine kl_take 2 (some 67) (.bool true) (by kernel_rfl) (by kernel_rfl) (by kernel_rfl) (by kernel_rfl) ?_
      refine kl_take 3 (some 68) (.slice p8 0 c8) (by kernel_rfl) (by kernel_rfl) (by kernel_rfl) (by kernel_rfl) ?_
      refine kl_take 4 (some 69) (.int .i64 0) (by kernel_rfl) (by kernel_rfl) (by kernel_rfl) (by kernel_rfl) ?_
      refine kl_take 5 (some 70) (.bool true) (by kernel_rfl) (by kernel_rfl) (by kernel_rfl) (by kernel_rfl) ?_
      refine kl_take 6 (some 71) (.bool true) (by kernel_rfl) (by kernel_rfl) (by kernel_rfl) (by kernel_rfl) ?_
      refine kl_take 7 (some 4) (.bool true) (by kernel_rfl) (by kernel_rfl) (by kernel_rfl) (by kernel_rfl) ?_
      refine kl_done (by kernel_rfl) (fun g11 => #[.agg (nv n1.L vc1 vk1 vi1), .string s1, .pointer (some ⟨w.heap.size, 0, none⟩), undef, .bool true, .bool true, .slice p6 P.refB.length c6, .bool true, .slice p8 0 c8, .int .i64 4, undef, undef, undef, undef, .bool true, .bool true, .bool false, y4 17, y4 18, .string a1, y4 20, y5 21, .slice p6 P.refB.length c6, m6 23, .bool true, m7 25, m7 26, .bool true, .bool true, .bool false, .bool false, m7 31, m7 32, .int .i64 (P.refB.length : Int), .slice p6 P.refB.length c6, .int .i64 (P.refB.length : Int), .bool false, .bool false, g8 38, g8 39, g8 40, g8 41, .slice p8 0 c8, .int .i64 4, .bool false, .bool true, .bool false, undef, undef, undef, undef, undef, undef, undef, undef, undef, undef, undef, undef, undef, undef, .bool true, .slice p6 P.refB.length c6, .int .i64 (P.refB.length : Int), .bool true, .int .i64 4, .bool true, .bool true, .slice p8 0 c8, .int .i64 0, .bool true, .bool true, undef, undef, undef, undef, undef, undef, undef, undef, undef, undef, undef, undef, undef, undef, undef, undef, undef, undef, undef, undef, undef, undef, undef, undef, undef, undef, undef, undef, undef, undef, undef, undef, undef, undef, undef, undef, undef, undef, undef, undef, undef, undef, undef, undef, undef, undef, undef, undef, undef, undef, undef]) (by kernel_rfl) ?_
      intro g11
      go_wp2_with fail
      go_ret
      exact ⟨rfl, hB⟩
    · skip
      have hl2 := hl
      rw [hrb] at hl2
      have HDE := hide (No.dec_page hP.ok hm hl2)
      have HEB := hide (No.pad_bd (No.bytes_bd hP.ok hm (show P.C.length ≤ 9223372036854775807 by have := HF.out; unfold No.few at this; omega)))
      go_upto_region 9 with fail
      refine kl_start 123 (by kernel_rfl) ?_
      refine kl_get 0 (some 39) 26 _ (.tmp 2) _ (nv P.L vc (.slice pk P.K.length ck) vi) (by kernel_rfl) (by kernel_rfl) (by kernel_rfl) (by kernel_rfl) (by kernel_rfl) hX tyM rfl ?_
      refine kl_callx 1 (some 40) (by kernel_rfl) (by kernel_rfl) (by kernel_rfl) (by kernel_rfl) (nof_any vc (.slice pk P.K.length ck) vi P _ hP HF.out) ?_
      rintro e x ⟨ve, rfl, hve, hb⟩
      refine ⟨_, rfl, ?_⟩
      replace hX := hX.later hb
      replace hP := hP.later hb
      replace hS6 := hS6.later hb
      replace hB := hB.trans (hb.mono hB.size)
      clear hb
      refine kl_callx 2 (some 41) (by kernel_rfl) (by kernel_rfl) (by kernel_rfl) (by kernel_rfl) (encode_at hve HF.out (No.enc_ok hm hl2)) ?_
      rintro e x ⟨v8, rfl, ho8, hb⟩
      refine ⟨_, rfl, ?_⟩
      replace hX := hX.later hb
      replace hP := hP.later hb
      replace hS6 := hS6.later hb
      replace hve := hve.later hb
      replace hB := hB.trans (hb.mono hB.size)
      clear hb
      refine kl_take 3 (some 38) (.tuple #[v8, .int .i64 0]) (by kernel_rfl) (by kernel_rfl) (by kernel_rfl) (by kernel_rfl) ?_
      refine kl_take 4 (some 42) (v8) (by kernel_rfl) (by kernel_rfl) (by kernel_rfl) (by kernel_rfl) ?_
      refine kl_take 5 (some 43) (.int .i64 0) (by kernel_rfl) (by kernel_rfl) (by kernel_rfl) (by kernel_rfl) ?_
      refine kl_take 6 (some 8) (v8) (by kernel_rfl) (by kernel_rfl) (by kernel_rfl) (by kernel_rfl) ?_
      refine kl_take 7 (some 9) (.int .i64 0) (by kernel_rfl) (by kernel_rfl) (by kernel_rfl) (by kernel_rfl) ?_
      refine kl_done (by kernel_rfl) (fun m8 => #[.agg (nv n1.L vc1 vk1 vi1), .string s1, .pointer (some ⟨w.heap.size, 0, none⟩), undef, (Value.bool false), .bool true, .slice p6 P.refB.length c6, .bool true, v8, .int .i64 0, undef, undef, undef, undef, .bool true, .bool true, .bool false, y4 17, y4 18, .string a1, y4 20, y5 21, .slice p6 P.refB.length c6, m6 23, .bool true, m7 25, m7 26, .bool true, .bool true, .bool false, .bool false, m7 31, m7 32, .int .i64 (P.refB.length : Int), .slice p6 P.refB.length c6, .int .i64 (P.refB.length : Int), .bool false, .bool false, m8 38, m8 39, m8 40, m8 41, v8, .int .i64 0, undef, undef, undef, undef, undef, undef, undef, undef, undef, undef, undef, undef, undef, undef, undef, undef, undef, undef, undef, undef, undef, undef, undef, undef, undef, undef, undef, undef, undef, undef, undef, undef, undef, undef, undef, undef, undef, undef, undef, undef, undef, undef, undef, undef, undef, undef, undef, undef, undef, undef, undef, undef, undef, undef, undef, undef, undef, undef, undef, undef, undef, undef, undef, undef, undef, undef, undef, undef, undef, undef, undef, undef, undef, undef, undef, undef, undef, undef, undef]) (by kernel_rfl) ?_
      intro m8
      have hp8 := Sl.own ho8 HEB.out
      clear ho8 hve
      obtain ⟨p8, n8, c8, rfl, -, -, -, HS8⟩ := hp8.opens
      have hp8 := HS8.out
      clear HS8
      go_upto_region 10 with fail
      refine kl_start 123 (by kernel_rfl) ?_
      refine kl_take 0 (some 45) (.bool true) (by kernel_rfl) (by kernel_rfl) (by kernel_rfl) (by kernel_rfl) ?_
      refine kl_take 1 (some 46) (.bool false) (by kernel_rfl) (by kernel_rfl) (by kernel_rfl) (by kernel_rfl) ?_
      refine kl_take 2 (some 44) (.bool false) (by kernel_rfl) (by kernel_rfl) (by kernel_rfl) (by kernel_rfl) ?_
      refine kl_done (by kernel_rfl) (fun m9 => #[.agg (nv n1.L vc1 vk1 vi1), .string s1, .pointer (some ⟨w.heap.size, 0, none⟩), undef, (Value.bool false), .bool true, .slice p6 P.refB.length c6, .bool true, .slice p8 n8 c8, .int .i64 0, undef, undef, undef, undef, .bool true, .bool true, .bool false, y4 17, y4 18, .string a1, y4 20, y5 21, .slice p6 P.refB.length c6, m6 23, .bool true, m7 25, m7 26, .bool true, .bool true, .bool false, .bool false, m7 31, m7 32, .int .i64 (P.refB.length : Int), .slice p6 P.refB.length c6, .int .i64 (P.refB.length : Int), .bool false, .bool false, m8 38, m8 39, m8 40, m8 41, .slice p8 n8 c8, .int .i64 0, .bool false, .bool true, .bool false, undef, undef, undef, undef, undef, undef, undef, undef, undef, undef, undef, undef, undef, undef, undef, undef, undef, undef, undef, undef, undef, undef, undef, undef, undef, undef, undef, undef, undef, undef, undef, undef, undef, undef, undef, undef, undef, undef, undef, undef, undef, undef, undef, undef, undef, undef, undef, undef, undef, undef, undef, undef, undef, undef, undef, undef, undef, undef, undef, undef, undef, undef, undef, undef, undef, undef, undef, undef, undef, undef, undef, undef, undef, undef, undef, undef]) (by kernel_rfl) ?_
      intro m9
      go_upto_region 12 with fail
      refine kl_start 123 (by kernel_rfl) ?_
      refine kl_take 0 (some 62) (.slice p6 P.refB.length c6) (by kernel_rfl) (by kernel_rfl) (by kernel_rfl) (by kernel_rfl) ?_
      refine kl_take 1 (some 63) (.int .i64 (P.refB.length : Int)) (by kernel_rfl) (by kernel_rfl) (by kernel_rfl) (by kernel_rfl) ?_
      refine kl_test 2 (some 64) false (by kernel_rfl) (by kernel_rfl) (by kernel_rfl) (show decide ((256 : Int) < (P.refB.length : Int)) = false by simp; omega) (by kernel_rfl) ?_
      refine kl_take 3 (some 61) (.bool false) (by kernel_rfl) (by kernel_rfl) (by kernel_rfl) (by kernel_rfl) ?_
      refine kl_done (by kernel_rfl) (fun m10 => #[.agg (nv n1.L vc1 vk1 vi1), .string s1, .pointer (some ⟨w.heap.size, 0, none⟩), undef, (Value.bool false), .bool true, .slice p6 P.refB.length c6, .bool true, .slice p8 n8 c8, .int .i64 0, undef, undef, undef, undef, .bool true, .bool true, .bool false, y4 17, y4 18, .string a1, y4 20, y5 21, .slice p6 P.refB.length c6, m6 23, .bool true, m7 25, m7 26, .bool true, .bool true, .bool false, .bool false, m7 31, m7 32, .int .i64 (P.refB.length : Int), .slice p6 P.refB.length c6, .int .i64 (P.refB.length : Int), .bool false, .bool false, m8 38, m8 39, m8 40, m8 41, .slice p8 n8 c8, .int .i64 0, .bool false, .bool true, .bool false, undef, undef, undef, undef, undef, undef, undef, undef, undef, undef, undef, undef, undef, undef, .bool false, .slice p6 P.refB.length c6, .int .i64 (P.refB.length : Int), .bool false, undef, undef, undef, undef, undef, undef, undef, undef, undef, undef, undef, undef, undef, undef, undef, undef, undef, undef, undef, undef, undef, undef, undef, undef, undef, undef, undef, undef, undef, undef, undef, undef, undef, undef, undef, undef, undef, undef, undef, undef, undef, undef, undef, undef, undef, undef, undef, undef, undef, undef, undef, undef, undef, undef, undef, undef, undef, undef]) (by kernel_rfl) ?_
      intro m10
      go_upto_region 14 with fail
      refine kl_start 123 (by kernel_rfl) ?_
      refine kl_take 0 (some 10) ((Value.int IntKind.i64 0)) (by kernel_rfl) (by kernel_rfl) (by kernel_rfl) (by kernel_rfl) ?_
      refine kl_done (by kernel_rfl) (fun m11 => #[.agg (nv n1.L vc1 vk1 vi1), .string s1, .pointer (some ⟨w.heap.size, 0, none⟩), undef, (Value.bool false), .bool true, .slice p6 P.refB.length c6, .bool true, .slice p8 n8 c8, .int .i64 0, (Value.int IntKind.i64 0), undef, undef, undef, .bool true, .bool true, .bool false, y4 17, y4 18, .string a1, y4 20, y5 21, .slice p6 P.refB.length c6, m6 23, .bool true, m7 25, m7 26, .bool true, .bool true, .bool false, .bool false, m7 31, m7 32, .int .i64 (P.refB.length : Int), .slice p6 P.refB.length c6, .int .i64 (P.refB.length : Int), .bool false, .bool false, m8 38, m8 39, m8 40, m8 41, .slice p8 n8 c8, .int .i64 0, .bool false, .bool true, .bool false, undef, undef, undef, undef, undef, undef, undef, undef, undef, undef, undef, undef, undef, undef, .bool false, .slice p6 P.refB.length c6, .int .i64 (P.refB.length : Int), .bool false, undef, undef, undef, undef, undef, undef, undef, undef, undef, undef, undef, undef, undef, undef, undef, undef, undef, undef, undef, undef, undef, undef, undef, undef, undef, undef, undef, undef, undef, undef, undef, undef, undef, undef, undef, undef, undef, undef, undef, undef, undef, undef, undef, undef, undef, undef, undef, undef, undef, undef, undef, undef, undef, undef, undef, undef, undef, undef]) (by kernel_rfl) ?_
      intro m11
      go_upto_region 15 with fail
      refine kl_start 123 (by kernel_rfl) ?_
      refine kl_take 0 (some 11) ((Value.int IntKind.i64 0)) (by kernel_rfl) (by kernel_rfl) (by kernel_rfl) (by kernel_rfl) ?_
      refine kl_done (by kernel_rfl) (fun m12 => #[.agg (nv n1.L vc1 vk1 vi1), .string s1, .pointer (some ⟨w.heap.size, 0, none⟩), undef, (Value.bool false), .bool true, .slice p6 P.refB.length c6, .bool true, .slice p8 n8 c8, .int .i64 0, (Value.int IntKind.i64 0), (Value.int IntKind.i64 0), undef, undef, .bool true, .bool true, .bool false, y4 17, y4 18, .string a1, y4 20, y5 21, .slice p6 P.refB.length c6, m6 23, .bool true, m7 25, m7 26, .bool true, .bool true, .bool false, .bool false, m7 31, m7 32, .int .i64 (P.refB.length : Int), .slice p6 P.refB.length c6, .int .i64 (P.refB.length : Int), .bool false, .bool false, m8 38, m8 39, m8 40, m8 41, .slice p8 n8 c8, .int .i64 0, .bool false, .bool true, .bool false, undef, undef, undef, undef, undef, undef, undef, undef, undef, undef, undef, undef, undef, undef, .bool false, .slice p6 P.refB.length c6, .int .i64 (P.refB.length : Int), .bool false, undef, undef, undef, undef, undef, undef, undef, undef, undef, undef, undef, undef, undef, undef, undef, undef, undef, undef, undef, undef, undef, undef, undef, undef, undef, undef, undef, undef, undef, undef, undef, undef, undef, undef, undef, undef, undef, undef, undef, undef, undef, undef, undef, undef, undef, undef, undef, undef, undef, undef, undef, undef, undef, undef, undef, undef, undef, undef]) (by kernel_rfl) ?_
      intro m12
      have HTS := hide hP.k
      have HX := hide hX
      have HPh := hide hP
      have HS6 := hide hS6
      have HS8 := hide hp8
      have HBh := hide hB
      clear hX hP hS6 hp8 hB
      go_wp2_with fail
      go_loopw [10, 11] (fun kd i wr => ∃ j : Nat, j ≤ P.K.length ∧ i = .int .i64 j ∧ kd = .int .i64 (cn P.K s1 j : Int) ∧ wr = x) (fun _ i _ => P.K.length - (intOf i).toNat)
      case atStart => exact ⟨0, by omega, rfl, rfl, rfl⟩
      case round =>
        obtain ⟨j, hj0, rfl, rfl, rfl⟩ := hrel
        by_cases hj : j < P.K.length
        · skip
          obtain ⟨b, off, e2, hc, -⟩ := HTS.out.at_ (i := j) hj
          subst e2
          have hcn := cn_step (s := s1) hj rfl
          have hcb := cn_le P.K s1 j
          have hln := Ky.le_not (P.K.getD j No.bz).toList s1.toList
          generalize hq : P.K.getD j No.bz = q at *
          go_upto_region 16 with fail
          refine kl_start 123 (by kernel_rfl) ?_
          refine kl_take 0 (some 72) (.int .i64 (j : Int)) (by kernel_rfl) (by kernel_rfl) (by kernel_rfl) (by kernel_rfl) ?_
          refine kl_take 1 (some 73) (.pointer (some ⟨w.heap.size, 2, none⟩)) (by kernel_rfl) (by kernel_rfl) (by kernel_rfl) (by kernel_rfl) ?_
          refine kl_load 2 (some 74) (.slice (some ⟨b, off, none⟩) P.K.length ck) 23 (.tmp 73) (by kernel_rfl) (by kernel_rfl) (by kernel_rfl) (by kernel_rfl) (by kernel_rfl) (ld_ts HX.out.nodes.2.2.1) ?_
          refine kl_take 3 (some 75) (.int .i64 (P.K.length : Int)) (by kernel_rfl) (by kernel_rfl) (by kernel_rfl) (by kernel_rfl) ?_
          refine kl_test 4 (some 76) true (by kernel_rfl) (by kernel_rfl) (by kernel_rfl) (show decide ((j : Int) < (P.K.length : Int)) = true by simp; omega) (by kernel_rfl) ?_
          refine kl_done (by kernel_rfl) (fun z13 => #[.agg (nv n1.L vc1 vk1 vi1), .string s1, .pointer (some ⟨w.heap.size, 0, none⟩), undef, (Value.bool false), .bool true, .slice p6 P.refB.length c6, .bool true, .slice p8 n8 c8, .int .i64 0, .int .i64 (cn P.K s1 j : Int), .int .i64 (j : Int), undef, undef, .bool true, .bool true, .bool false, y4 17, y4 18, .string a1, y4 20, y5 21, .slice p6 P.refB.length c6, m6 23, .bool true, m7 25, m7 26, .bool true, .bool true, .bool false, .bool false, m7 31, m7 32, .int .i64 (P.refB.length : Int), .slice p6 P.refB.length c6, .int .i64 (P.refB.length : Int), .bool false, .bool false, m8 38, m8 39, m8 40, m8 41, .slice p8 n8 c8, .int .i64 0, .bool false, .bool true, .bool false, undef, undef, undef, undef, undef, undef, undef, undef, undef, undef, undef, undef, undef, undef, .bool false, .slice p6 P.refB.length c6, .int .i64 (P.refB.length : Int), .bool false, undef, undef, undef, undef, undef, undef, undef, .int .i64 (j : Int), .pointer (some ⟨w.heap.size, 2, none⟩), .slice (some ⟨b, off, none⟩) P.K.length ck, .int .i64 (P.K.length : Int), .bool true, u77, u78, u79, u80, u81, u82, u83, u84, u85, u86, u87, undef, undef, undef, undef, undef, undef, undef, undef, undef, undef, undef, undef, undef, undef, undef, undef, undef, undef, undef, undef, undef, undef, undef, undef, undef, undef, undef, undef, undef, undef, undef, undef, undef, undef, undef]) (by kernel_rfl) ?_
          intro z13
          cases hb : Ky.bl s1.toList q.toList
          · have hle : (Op.bytesLess q.toList s1.toList || q.toList == s1.toList) = true := by rw [hln, hb]; rfl
            have hcn1 : cn P.K s1 (j + 1) = cn P.K s1 j + 1 := by rw [hcn, hb]; rfl
            clear hln hb hcn
            go_upto_region 18 with fail
            refine kl_start 123 (by kernel_rfl) ?_
            refine kl_take 0 (some 79) (.pointer (some ⟨w.heap.size, 2, none⟩)) (by kernel_rfl) (by kernel_rfl) (by kernel_rfl) (by kernel_rfl) ?_
            refine kl_load 1 (some 80) (.slice (some ⟨b, off, none⟩) P.K.length ck) 23 (.tmp 79) (by kernel_rfl) (by kernel_rfl) (by kernel_rfl) (by kernel_rfl) (by kernel_rfl) (ld_ts HX.out.nodes.2.2.1) ?_
            refine kl_take 2 (some 81) (.int .i64 (j : Int)) (by kernel_rfl) (by kernel_rfl) (by kernel_rfl) (by kernel_rfl) ?_
            refine kl_index 3 (some 82) 23 (.tmp 80) (.tmp 81) 1 b (off) (P.K.length) (ck) (j) (by kernel_rfl) (by kernel_rfl) (by kernel_rfl) (by kernel_rfl) (by kernel_rfl) (by kernel_rfl) Try.underlying23 (by kernel_rfl) (hj) ?_
            refine kl_load 4 (some 83) (.string q) 9 (.tmp 82) (by kernel_rfl) (by kernel_rfl) (by kernel_rfl) (by kernel_rfl) (by kernel_rfl) (ld_st (mul1 hc)) ?_
            refine kl_take 5 (some 84) (.string s1) (by kernel_rfl) (by kernel_rfl) (by kernel_rfl) (by kernel_rfl) ?_
            refine kl_test 6 (some 85) true (by kernel_rfl) (by kernel_rfl) (by kernel_rfl) (hle) (by kernel_rfl) ?_
            refine kl_done (by kernel_rfl) (fun z14 => #[.agg (nv n1.L vc1 vk1 vi1), .string s1, .pointer (some ⟨w.heap.size, 0, none⟩), undef, (Value.bool false), .bool true, .slice p6 P.refB.length c6, .bool true, .slice p8 n8 c8, .int .i64 0, .int .i64 (cn P.K s1 j : Int), .int .i64 (j : Int), undef, undef, .bool true, .bool true, .bool false, y4 17, y4 18, .string a1, y4 20, y5 21, .slice p6 P.refB.length c6, m6 23, .bool true, m7 25, m7 26, .bool true, .bool true, .bool false, .bool false, m7 31, m7 32, .int .i64 (P.refB.length : Int), .slice p6 P.refB.length c6, .int .i64 (P.refB.length : Int), .bool false, .bool false, m8 38, m8 39, m8 40, m8 41, .slice p8 n8 c8, .int .i64 0, .bool false, .bool true, .bool false, undef, undef, undef, undef, undef, undef, undef, undef, undef, undef, undef, undef, undef, undef, .bool false, .slice p6 P.refB.length c6, .int .i64 (P.refB.length : Int), .bool false, undef, undef, undef, undef, undef, undef, undef, .int .i64 (j : Int), .pointer (some ⟨w.heap.size, 2, none⟩), .slice (some ⟨b, off, none⟩) P.K.length ck, .int .i64 (P.K.length : Int), .bool true, u77, u78, .pointer (some ⟨w.heap.size, 2, none⟩), .slice (some ⟨b, off, none⟩) P.K.length ck, .int .i64 (j : Int), .pointer (some ⟨b, off + j * 1, none⟩), .string q, .string s1, .bool true, u86, u87, undef, undef, undef, undef, undef, undef, undef, undef, undef, undef, undef, undef, undef, undef, undef, undef, undef, undef, undef, undef, undef, undef, undef, undef, undef, undef, undef, undef, undef, undef, undef, undef, undef, undef, undef]) (by kernel_rfl) ?_
            intro z14
            clear hle hq
            go_wp2_with fail
            go_roundw
            case rel => exact ⟨j + 1, hj, by go_num, by rw [hcn1]; go_num, trivial⟩
            case measure => simp [intOf]; omega
          · have hle : (Op.bytesLess q.toList s1.toList || q.toList == s1.toList) = false := by rw [hln, hb]; rfl
            have hcn1 : cn P.K s1 (j + 1) = cn P.K s1 j := by rw [hcn, hb]; rfl
            clear hln hb hcn
            go_upto_region 18 with fail
            refine kl_start 123 (by kernel_rfl) ?_
            refine kl_take 0 (some 79) (.pointer (some ⟨w.heap.size, 2, none⟩)) (by kernel_rfl) (by kernel_rfl) (by kernel_rfl) (by kernel_rfl) ?_
            refine kl_load 1 (some 80) (.slice (some ⟨b, off, none⟩) P.K.length ck) 23 (.tmp 79) (by kernel_rfl) (by kernel_rfl) (by kernel_rfl) (by kernel_rfl) (by kernel_rfl) (ld_ts HX.out.nodes.2.2.1) ?_
            refine kl_take 2 (some 81) (.int .i64 (j : Int)) (by kernel_rfl) (by kernel_rfl) (by kernel_rfl) (by kernel_rfl) ?_
            refine kl_index 3 (some 82) 23 (.tmp 80) (.tmp 81) 1 b (off) (P.K.length) (ck) (j) (by kernel_rfl) (by kernel_rfl) (by kernel_rfl) (by kernel_rfl) (by kernel_rfl) (by kernel_rfl) Try.underlying23 (by kernel_rfl) (hj) ?_
            refine kl_load 4 (some 83) (.string q) 9 (.tmp 82) (by kernel_rfl) (by kernel_rfl) (by kernel_rfl) (by kernel_rfl) (by kernel_rfl) (ld_st (mul1 hc)) ?_
            refine kl_take 5 (some 84) (.string s1) (by kernel_rfl) (by kernel_rfl) (by kernel_rfl) (by kernel_rfl) ?_
            refine kl_test 6 (some 85) false (by kernel_rfl) (by kernel_rfl) (by kernel_rfl) (hle) (by kernel_rfl) ?_
            refine kl_done (by kernel_rfl) (fun z14 => #[.agg (nv n1.L vc1 vk1 vi1), .string s1, .pointer (some ⟨w.heap.size, 0, none⟩), undef, (Value.bool false), .bool true, .slice p6 P.refB.length c6, .bool true, .slice p8 n8 c8, .int .i64 0, .int .i64 (cn P.K s1 j : Int), .int .i64 (j : Int), undef, undef, .bool true, .bool true, .bool false, y4 17, y4 18, .string a1, y4 20, y5 21, .slice p6 P.refB.length c6, m6 23, .bool true, m7 25, m7 26, .bool true, .bool true, .bool false, .bool false, m7 31, m7 32, .int .i64 (P.refB.length : Int), .slice p6 P.refB.length c6, .int .i64 (P.refB.length : Int), .bool false, .bool false, m8 38, m8 39, m8 40, m8 41, .slice p8 n8 c8, .int .i64 0, .bool false, .bool true, .bool false, undef, undef, undef, undef, undef, undef, undef, undef, undef, undef, undef, undef, undef, undef, .bool false, .slice p6 P.refB.length c6, .int .i64 (P.refB.length : Int), .bool false, undef, undef, undef, undef, undef, undef, undef, .int .i64 (j : Int), .pointer (some ⟨w.heap.size, 2, none⟩), .slice (some ⟨b, off, none⟩) P.K.length ck, .int .i64 (P.K.length : Int), .bool true, u77, u78, .pointer (some ⟨w.heap.size, 2, none⟩), .slice (some ⟨b, off, none⟩) P.K.length ck, .int .i64 (j : Int), .pointer (some ⟨b, off + j * 1, none⟩), .string q, .string s1, .bool false, u86, u87, undef, undef, undef, undef, undef, undef, undef, undef, undef, undef, undef, undef, undef, undef, undef, undef, undef, undef, undef, undef, undef, undef, undef, undef, undef, undef, undef, undef, undef, undef, undef, undef, undef, undef, undef]) (by kernel_rfl) ?_
            intro z14
            clear hle hq
            go_wp2_with fail
            go_roundw
            case rel => exact ⟨j + 1, hj, by go_num, by rw [hcn1], trivial⟩
            case measure => simp [intOf]; omega
        · skip
          have hjl : j = P.K.length := by omega
          clear hj hj0
          subst hjl
          go_upto_region 16 with fail
          refine kl_start 123 (by kernel_rfl) ?_
          refine kl_take 0 (some 72) (.int .i64 (P.K.length : Int)) (by kernel_rfl) (by kernel_rfl) (by kernel_rfl) (by kernel_rfl) ?_
          refine kl_take 1 (some 73) (.pointer (some ⟨w.heap.size, 2, none⟩)) (by kernel_rfl) (by kernel_rfl) (by kernel_rfl) (by kernel_rfl) ?_
          refine kl_load 2 (some 74) (.slice pk P.K.length ck) 23 (.tmp 73) (by kernel_rfl) (by kernel_rfl) (by kernel_rfl) (by kernel_rfl) (by kernel_rfl) (ld_ts HX.out.nodes.2.2.1) ?_
          refine kl_take 3 (some 75) (.int .i64 (P.K.length : Int)) (by kernel_rfl) (by kernel_rfl) (by kernel_rfl) (by kernel_rfl) ?_
          refine kl_test 4 (some 76) false (by kernel_rfl) (by kernel_rfl) (by kernel_rfl) (show decide ((P.K.length : Int) < (P.K.length : Int)) = false by simp) (by kernel_rfl) ?_
          refine kl_done (by kernel_rfl) (fun t13 => #[.agg (nv n1.L vc1 vk1 vi1), .string s1, .pointer (some ⟨w.heap.size, 0, none⟩), undef, (Value.bool false), .bool true, .slice p6 P.refB.length c6, .bool true, .slice p8 n8 c8, .int .i64 0, .int .i64 (cn P.K s1 P.K.length : Int), .int .i64 (P.K.length : Int), undef, undef, .bool true, .bool true, .bool false, y4 17, y4 18, .string a1, y4 20, y5 21, .slice p6 P.refB.length c6, m6 23, .bool true, m7 25, m7 26, .bool true, .bool true, .bool false, .bool false, m7 31, m7 32, .int .i64 (P.refB.length : Int), .slice p6 P.refB.length c6, .int .i64 (P.refB.length : Int), .bool false, .bool false, m8 38, m8 39, m8 40, m8 41, .slice p8 n8 c8, .int .i64 0, .bool false, .bool true, .bool false, undef, undef, undef, undef, undef, undef, undef, undef, undef, undef, undef, undef, undef, undef, .bool false, .slice p6 P.refB.length c6, .int .i64 (P.refB.length : Int), .bool false, undef, undef, undef, undef, undef, undef, undef, .int .i64 (P.K.length : Int), .pointer (some ⟨w.heap.size, 2, none⟩), .slice pk P.K.length ck, .int .i64 (P.K.length : Int), .bool false, u77, u78, u79, u80, u81, u82, u83, u84, u85, u86, u87, undef, undef, undef, undef, undef, undef, undef, undef, undef, undef, undef, undef, undef, undef, undef, undef, undef, undef, undef, undef, undef, undef, undef, undef, undef, undef, undef, undef, undef, undef, undef, undef, undef, undef, undef]) (by kernel_rfl) ?_
          intro t13
          have hX := HX.out
          have hP := HPh.out
          have hS6 := HS6.out
          have hp8 := HS8.out
          have hB := HBh.out
          clear HX HPh HS6 HS8 HBh HTS
          cases hL : P.L
          · skip
            have HKI := hide (kid_fork (s := s1) HM.out hL)
            go_upto_region 20 with fail
            refine kl_start 123 (by kernel_rfl) ?_
            refine kl_take 0 (some 88) (.pointer (some ⟨w.heap.size, 0, none⟩)) (by kernel_rfl) (by kernel_rfl) (by kernel_rfl) (by kernel_rfl) ?_
            refine kl_load 1 (some 89) (.bool false) 4 (.tmp 88) (by kernel_rfl) (by kernel_rfl) (by kernel_rfl) (by kernel_rfl) (by kernel_rfl) (ld_bo (by have := hX.nodes.1; rw [hL] at this; exact this)) ?_
            refine kl_done (by kernel_rfl) (fun b14 => #[.agg (nv n1.L vc1 vk1 vi1), .string s1, .pointer (some ⟨w.heap.size, 0, none⟩), undef, (Value.bool false), .bool true, .slice p6 P.refB.length c6, .bool true, .slice p8 n8 c8, .int .i64 0, .int .i64 (cn P.K s1 P.K.length : Int), .int .i64 (P.K.length : Int), undef, undef, .bool true, .bool true, .bool false, y4 17, y4 18, .string a1, y4 20, y5 21, .slice p6 P.refB.length c6, m6 23, .bool true, m7 25, m7 26, .bool true, .bool true, .bool false, .bool false, m7 31, m7 32, .int .i64 (P.refB.length : Int), .slice p6 P.refB.length c6, .int .i64 (P.refB.length : Int), .bool false, .bool false, m8 38, m8 39, m8 40, m8 41, .slice p8 n8 c8, .int .i64 0, .bool false, .bool true, .bool false, undef, undef, undef, undef, undef, undef, undef, undef, undef, undef, undef, undef, undef, undef, .bool false, .slice p6 P.refB.length c6, .int .i64 (P.refB.length : Int), .bool false, undef, undef, undef, undef, undef, undef, undef, .int .i64 (P.K.length : Int), .pointer (some ⟨w.heap.size, 2, none⟩), .slice pk P.K.length ck, .int .i64 (P.K.length : Int), .bool false, u77, u78, u79, u80, u81, u82, u83, u84, u85, u86, u87, .pointer (some ⟨w.heap.size, 0, none⟩), .bool false, undef, undef, undef, undef, undef, undef, undef, undef, undef, undef, undef, undef, undef, undef, undef, undef, undef, undef, undef, undef, undef, undef, undef, undef, undef, undef, undef, undef, undef, undef, undef, undef, undef]) (by kernel_rfl) ?_
            intro b14
            go_upto_region 22 with fail
            refine kl_start 123 (by kernel_rfl) ?_
            refine kl_take 0 (some 91) (.slice p8 n8 c8) (by kernel_rfl) (by kernel_rfl) (by kernel_rfl) (by kernel_rfl) ?_
            refine kl_callx 1 (some 92) (by kernel_rfl) (by kernel_rfl) (by kernel_rfl) (by kernel_rfl) (decode_at hp8 HDE.out) ?_
            rintro e xd ⟨hb, vc3, vk3, vi3, rfl, hN3, -⟩
            refine ⟨_, rfl, ?_⟩
            replace hX := hX.later hb
            replace hP := hP.later hb
            replace hS6 := hS6.later hb
            replace hp8 := hp8.later hb
            replace hB := hB.trans (hb.mono hB.size)
            clear hb
            refine kl_take 2 (some 90) (.tuple #[.agg (nv P.L vc3 vk3 vi3), .int .i64 0]) (by kernel_rfl) (by kernel_rfl) (by kernel_rfl) (by kernel_rfl) ?_
            refine kl_take 3 (some 93) (.agg (nv P.L vc3 vk3 vi3)) (by kernel_rfl) (by kernel_rfl) (by kernel_rfl) (by kernel_rfl) ?_
            refine kl_take 4 (some 94) (.int .i64 0) (by kernel_rfl) (by kernel_rfl) (by kernel_rfl) (by kernel_rfl) ?_
            refine kl_new 5 (some 12) 36 _ (by kernel_rfl) (by kernel_rfl) (by kernel_rfl) (by kernel_rfl) tyN ?_
            intro Wn hb hY0
            have hYn := hN3.later hb
            have hBn := hb
            generalize hbn2 : xd.heap.size = bn at hY0 ⊢
            refine kl_put 6 36 _ (.tmp 12) (.tmp 93) _ (nv P.L vc3 vk3 vi3) _ (by kernel_rfl) (by kernel_rfl) (by kernel_rfl) (by kernel_rfl) (by kernel_rfl) (by kernel_rfl) hY0 tyN rfl rfl (nv_one hYn) ?_
            intro Z hbp hsp hY
            rw [← hbn2] at hbp
            have hbz := newput hBn hbp
            replace hX := hX.later hbz
            replace hP := hP.later hbz
            replace hS6 := hS6.later hbz
            replace hp8 := hp8.later hbz
            replace hN3 := hN3.later hbz
            replace hB := hB.trans (hbz.mono hB.size)
            clear hb hY0 hYn hBn hbp hsp hbz hbn2
            refine kl_take 7 (some 13) (.int .i64 0) (by kernel_rfl) (by kernel_rfl) (by kernel_rfl) (by kernel_rfl) ?_
            refine kl_done (by kernel_rfl) (fun b15 => #[.agg (nv n1.L vc1 vk1 vi1), .string s1, .pointer (some ⟨w.heap.size, 0, none⟩), undef, (Value.bool false), .bool true, .slice p6 P.refB.length c6, .bool true, .slice p8 n8 c8, .int .i64 0, .int .i64 (cn P.K s1 P.K.length : Int), .int .i64 (P.K.length : Int), .pointer (some ⟨bn, 0, none⟩), .int .i64 0, .bool true, .bool true, .bool false, y4 17, y4 18, .string a1, y4 20, y5 21, .slice p6 P.refB.length c6, m6 23, .bool true, m7 25, m7 26, .bool true, .bool true, .bool false, .bool false, m7 31, m7 32, .int .i64 (P.refB.length : Int), .slice p6 P.refB.length c6, .int .i64 (P.refB.length : Int), .bool false, .bool false, m8 38, m8 39, m8 40, m8 41, .slice p8 n8 c8, .int .i64 0, .bool false, .bool true, .bool false, undef, undef, undef, undef, undef, undef, undef, undef, undef, undef, undef, undef, undef, undef, .bool false, .slice p6 P.refB.length c6, .int .i64 (P.refB.length : Int), .bool false, undef, undef, undef, undef, undef, undef, undef, .int .i64 (P.K.length : Int), .pointer (some ⟨w.heap.size, 2, none⟩), .slice pk P.K.length ck, .int .i64 (P.K.length : Int), .bool false, u77, u78, u79, u80, u81, u82, u83, u84, u85, u86, u87, .pointer (some ⟨w.heap.size, 0, none⟩), .bool false, .tuple #[.agg (nv P.L vc3 vk3 vi3), .int .i64 0], .slice p8 n8 c8, .tuple #[.agg (nv P.L vc3 vk3 vi3), .int .i64 0], .agg (nv P.L vc3 vk3 vi3), .int .i64 0, undef, undef, undef, undef, undef, undef, undef, undef, undef, undef, undef, undef, undef, undef, undef, undef, undef, undef, undef, undef, undef, undef, undef, undef, undef, undef, undef, undef]) (by kernel_rfl) ?_
            intro b15
            have HWB := hide (whole_bd HRB.out)
            have HEQ : Hid (strOfNums (No.pad P.bytes) = strOfNums (No.whole P.refB)) := hide (by rw [No.whole_is hl, hrb])
            go_upto_region 23 with fail
            refine ka_start 123 29 (by kernel_rfl) (by kernel_rfl) (by kernel_rfl) ?_
            intro ZA hb
            replace hX := hX.later hb
            replace hP := hP.later hb
            replace hS6 := hS6.later hb
            replace hp8 := hp8.later hb
            replace hN3 := hN3.later hb
            replace hY := hY.later hb
            replace hB := hB.trans (hb.mono hB.size)
            clear hb
            refine ka_pure 0 (some 95) (.int .i64 0) (by kernel_rfl) (by kernel_rfl) (by kernel_rfl) (by kernel_rfl) (by kernel_rfl) (by kernel_rfl) (fun _ => by kernel_rfl) ?_
            refine ka_pure 1 (some 96) (.bool true) (by kernel_rfl) (by kernel_rfl) (by kernel_rfl) (by kernel_rfl) (by kernel_rfl) (by kernel_rfl) (fun _ => by kernel_rfl) ?_
            refine ka_pure 2 (some 97) (.bool true) (by kernel_rfl) (by kernel_rfl) (by kernel_rfl) (by kernel_rfl) (by kernel_rfl) (by kernel_rfl) (fun _ => by kernel_rfl) ?_
            refine ka_pure 3 (some 98) (.slice p8 n8 c8) (by kernel_rfl) (by kernel_rfl) (by kernel_rfl) (by kernel_rfl) (by kernel_rfl) (by kernel_rfl) (fun _ => by kernel_rfl) ?_
            refine ka_conv 4 (some 99) _ (No.pad P.bytes) (.tmp 98) (by kernel_rfl) (by kernel_rfl) (by kernel_rfl) (by kernel_rfl) (by kernel_rfl) (by kernel_rfl) (by kernel_rfl) (by kernel_rfl) hp8 ?_
            refine ka_pure 5 (some 100) (.slice p6 P.refB.length c6) (by kernel_rfl) (by kernel_rfl) (by kernel_rfl) (by kernel_rfl) (by kernel_rfl) (by kernel_rfl) (fun _ => by kernel_rfl) ?_
            refine ka_call 6 (some 101) (by kernel_rfl) (by kernel_rfl) (by kernel_rfl) (by kernel_rfl) (Below.refl _ _) (by kernel_rfl) (whole_any _ _ _ hS6) ?_
            rintro e xa ⟨vz, rfl, hoz, hb⟩
            refine ⟨hb, _, rfl, ?_⟩
            replace hX := hX.later hb
            replace hP := hP.later hb
            replace hS6 := hS6.later hb
            replace hp8 := hp8.later hb
            replace hN3 := hN3.later hb
            replace hY := hY.later hb
            replace hB := hB.trans (hb.mono hB.size)
            clear hb
            have hvz := Sl.own hoz HWB.out
            clear hoz
            refine ka_conv 7 (some 102) _ (No.whole P.refB) (.tmp 101) (by kernel_rfl) (by kernel_rfl) (by kernel_rfl) (by kernel_rfl) (by kernel_rfl) (by kernel_rfl) (by kernel_rfl) (by kernel_rfl) hvz ?_
            refine ka_test 8 (some 103) true (by kernel_rfl) (by kernel_rfl) (by kernel_rfl) (by kernel_rfl) (by kernel_rfl) (by kernel_rfl) (show ((strOfNums (No.pad P.bytes)).toList == (strOfNums (No.whole P.refB)).toList) = true by rw [HEQ.out]; simp) (fun _ => by kernel_rfl) ?_
            refine ka_pure 9 (some 104) (.bool true) (by kernel_rfl) (by kernel_rfl) (by kernel_rfl) (by kernel_rfl) (by kernel_rfl) (by kernel_rfl) (fun _ => by kernel_rfl) ?_
            refine ka_pure 10 (some 105) (.bool true) (by kernel_rfl) (by kernel_rfl) (by kernel_rfl) (by kernel_rfl) (by kernel_rfl) (by kernel_rfl) (fun _ => by kernel_rfl) ?_
            refine ka_pure 11 (some 106) (.int .i64 0) (by kernel_rfl) (by kernel_rfl) (by kernel_rfl) (by kernel_rfl) (by kernel_rfl) (by kernel_rfl) (fun _ => by kernel_rfl) ?_
            refine ka_pure 12 (some 107) (.bool true) (by kernel_rfl) (by kernel_rfl) (by kernel_rfl) (by kernel_rfl) (by kernel_rfl) (by kernel_rfl) (fun _ => by kernel_rfl) ?_
            refine ka_pure 13 (some 108) (.bool true) (by kernel_rfl) (by kernel_rfl) (by kernel_rfl) (by kernel_rfl) (by kernel_rfl) (by kernel_rfl) (fun _ => by kernel_rfl) ?_
            refine ka_pure 14 (some 109) (.bool true) (by kernel_rfl) (by kernel_rfl) (by kernel_rfl) (by kernel_rfl) (by kernel_rfl) (by kernel_rfl) (fun _ => by kernel_rfl) ?_
            refine ka_get 15 (some 110) 36 _ (.tmp 12) _ (nv P.L vc3 vk3 vi3) (by kernel_rfl) (by kernel_rfl) (by kernel_rfl) (by kernel_rfl) (by kernel_rfl) (by kernel_rfl) (by kernel_rfl) (by kernel_rfl) hY tyN rfl ?_
            refine ka_get 17 (some 112) 26 _ (.tmp 2) _ (nv P.L vc (.slice pk P.K.length ck) vi) (by kernel_rfl) (by kernel_rfl) (by kernel_rfl) (by kernel_rfl) (by kernel_rfl) (by kernel_rfl) (by kernel_rfl) (by kernel_rfl) hX tyM rfl ?_
            refine ka_call 16 (some 111) (by kernel_rfl) (by kernel_rfl) (by kernel_rfl) (by kernel_rfl) (Below.refl _ _) (by kernel_rfl) (nback_any vc3 vk3 vi3 P _ hN3 HF.out) ?_
            rintro e xa ⟨vb3, rfl, hN4, hb⟩
            refine ⟨hb, _, rfl, ?_⟩
            replace hX := hX.later hb
            replace hP := hP.later hb
            replace hS6 := hS6.later hb
            replace hp8 := hp8.later hb
            replace hN3 := hN3.later hb
            replace hY := hY.later hb
            replace hvz := hvz.later hb
            replace hB := hB.trans (hb.mono hB.size)
            clear hb
            refine ka_call 18 (some 113) (by kernel_rfl) (by kernel_rfl) (by kernel_rfl) (by kernel_rfl) (Below.refl _ _) (by kernel_rfl) (refEqNode_at hN4 hP (No.eqn_refl P)) ?_
            rintro e xa ⟨rfl, hb⟩
            refine ⟨hb, _, rfl, ?_⟩
            replace hX := hX.later hb
            replace hP := hP.later hb
            replace hS6 := hS6.later hb
            replace hp8 := hp8.later hb
            replace hN3 := hN3.later hb
            replace hY := hY.later hb
            replace hvz := hvz.later hb
            replace hN4 := hN4.later hb
            replace hB := hB.trans (hb.mono hB.size)
            clear hb
            refine ka_pure 19 (some 114) (.bool true) (by kernel_rfl) (by kernel_rfl) (by kernel_rfl) (by kernel_rfl) (by kernel_rfl) (by kernel_rfl) (fun _ => by kernel_rfl) ?_
            refine ka_pure 20 (some 115) (.bool true) (by kernel_rfl) (by kernel_rfl) (by kernel_rfl) (by kernel_rfl) (by kernel_rfl) (by kernel_rfl) (fun _ => by kernel_rfl) ?_
            refine ka_get 21 (some 116) 26 _ (.tmp 2) _ (nv P.L vc (.slice pk P.K.length ck) vi) (by kernel_rfl) (by kernel_rfl) (by kernel_rfl) (by kernel_rfl) (by kernel_rfl) (by kernel_rfl) (by kernel_rfl) (by kernel_rfl) hX tyM rfl ?_
            refine ka_pure 23 (some 118) (.string s1) (by kernel_rfl) (by kernel_rfl) (by kernel_rfl) (by kernel_rfl) (by kernel_rfl) (by kernel_rfl) (fun _ => by kernel_rfl) ?_
            refine ka_pure 25 (some 120) (.int .i64 (cn P.K s1 P.K.length : Int)) (by kernel_rfl) (by kernel_rfl) (by kernel_rfl) (by kernel_rfl) (by kernel_rfl) (by kernel_rfl) (fun _ => by kernel_rfl) ?_
            refine ka_call 22 (some 117) (by kernel_rfl) (by kernel_rfl) (by kernel_rfl) (by kernel_rfl) (Below.refl _ _) (by kernel_rfl) (nof_any vc (.slice pk P.K.length ck) vi P _ hP HF.out) ?_
            rintro e xa ⟨vo3, rfl, hN5, hb⟩
            refine ⟨hb, _, rfl, ?_⟩
            replace hX := hX.later hb
            replace hP := hP.later hb
            replace hS6 := hS6.later hb
            replace hp8 := hp8.later hb
            replace hN3 := hN3.later hb
            replace hY := hY.later hb
            replace hvz := hvz.later hb
            replace hN4 := hN4.later hb
            replace hB := hB.trans (hb.mono hB.size)
            clear hb
            refine ka_call 24 (some 119) (by kernel_rfl) (by kernel_rfl) (by kernel_rfl) (by kernel_rfl) (Below.refl _ _) (by kernel_rfl) (kid_at hN5 HKI.out) ?_
            rintro e xa ⟨rfl, hb⟩
            refine ⟨hb, _, rfl, ?_⟩
            replace hX := hX.later hb
            replace hP := hP.later hb
            replace hS6 := hS6.later hb
            replace hp8 := hp8.later hb
            replace hN3 := hN3.later hb
            replace hY := hY.later hb
            replace hvz := hvz.later hb
            replace hN4 := hN4.later hb
            replace hN5 := hN5.later hb
            replace hB := hB.trans (hb.mono hB.size)
            clear hb
            refine ka_test 26 (some 121) true (by kernel_rfl) (by kernel_rfl) (by kernel_rfl) (by kernel_rfl) (by kernel_rfl) (by kernel_rfl) (show ((cn P.K s1 P.K.length : Int) == (cn P.K s1 P.K.length : Int)) = true by simp) (fun _ => by kernel_rfl) ?_
            refine ka_pure 27 (some 122) (.bool true) (by kernel_rfl) (by kernel_rfl) (by kernel_rfl) (by kernel_rfl) (by kernel_rfl) (by kernel_rfl) (fun _ => by kernel_rfl) ?_
            refine ka_pure 28 (some 4) (.bool true) (by kernel_rfl) (by kernel_rfl) (by kernel_rfl) (by kernel_rfl) (by kernel_rfl) (by kernel_rfl) (fun _ => by kernel_rfl) ?_
            refine ka_done (by kernel_rfl) (fun b16 => #[.agg (nv n1.L vc1 vk1 vi1), .string s1, .pointer (some ⟨w.heap.size, 0, none⟩), undef, .bool true, .bool true, .slice p6 P.refB.length c6, .bool true, .slice p8 n8 c8, .int .i64 0, .int .i64 (cn P.K s1 P.K.length : Int), .int .i64 (P.K.length : Int), .pointer (some ⟨bn, 0, none⟩), .int .i64 0, .bool true, .bool true, .bool false, y4 17, y4 18, .string a1, y4 20, y5 21, .slice p6 P.refB.length c6, m6 23, .bool true, m7 25, m7 26, .bool true, .bool true, .bool false, .bool false, m7 31, m7 32, .int .i64 (P.refB.length : Int), .slice p6 P.refB.length c6, .int .i64 (P.refB.length : Int), .bool false, .bool false, m8 38, m8 39, m8 40, m8 41, .slice p8 n8 c8, .int .i64 0, .bool false, .bool true, .bool false, undef, undef, undef, undef, undef, undef, undef, undef, undef, undef, undef, undef, undef, undef, .bool false, .slice p6 P.refB.length c6, .int .i64 (P.refB.length : Int), .bool false, undef, undef, undef, undef, undef, undef, undef, .int .i64 (P.K.length : Int), .pointer (some ⟨w.heap.size, 2, none⟩), .slice pk P.K.length ck, .int .i64 (P.K.length : Int), .bool false, u77, u78, u79, u80, u81, u82, u83, u84, u85, u86, u87, .pointer (some ⟨w.heap.size, 0, none⟩), .bool false, .tuple #[.agg (nv P.L vc3 vk3 vi3), .int .i64 0], .slice p8 n8 c8, .tuple #[.agg (nv P.L vc3 vk3 vi3), .int .i64 0], .agg (nv P.L vc3 vk3 vi3), .int .i64 0, .int .i64 0, .bool true, .bool true, .slice p8 n8 c8, .string (strOfNums (No.pad P.bytes)), .slice p6 P.refB.length c6, vz, .string (strOfNums (No.whole P.refB)), .bool true, .bool true, .bool true, .int .i64 0, .bool true, .bool true, .bool true, .agg (nv P.L vc3 vk3 vi3), .agg (nv P.L vb3 vk3 vi3), .agg (nv P.L vc (.slice pk P.K.length ck) vi), .bool true, .bool true, .bool true, .agg (nv P.L vc (.slice pk P.K.length ck) vi), .agg (nv P.L vo3 (.slice pk P.K.length ck) vi), .string s1, .int .i64 (cn P.K s1 P.K.length : Int), .int .i64 (cn P.K s1 P.K.length : Int), .bool true, .bool true]) (by kernel_rfl) (Below.refl _ _) ?_
            intro b16
            go_wp2_with fail
            go_ret
            exact ⟨rfl, hB⟩
          · skip
            have HKI := hide (kid_leaf (s := s1) hL)
            go_upto_region 20 with fail
            refine kl_start 123 (by kernel_rfl) ?_
            refine kl_take 0 (some 88) (.pointer (some ⟨w.heap.size, 0, none⟩)) (by kernel_rfl) (by kernel_rfl) (by kernel_rfl) (by kernel_rfl) ?_
            refine kl_load 1 (some 89) (.bool true) 4 (.tmp 88) (by kernel_rfl) (by kernel_rfl) (by kernel_rfl) (by kernel_rfl) (by kernel_rfl) (ld_bo (by have := hX.nodes.1; rw [hL] at this; exact this)) ?_
            refine kl_done (by kernel_rfl) (fun a14 => #[.agg (nv n1.L vc1 vk1 vi1), .string s1, .pointer (some ⟨w.heap.size, 0, none⟩), undef, (Value.bool false), .bool true, .slice p6 P.refB.length c6, .bool true, .slice p8 n8 c8, .int .i64 0, .int .i64 (cn P.K s1 P.K.length : Int), .int .i64 (P.K.length : Int), undef, undef, .bool true, .bool true, .bool false, y4 17, y4 18, .string a1, y4 20, y5 21, .slice p6 P.refB.length c6, m6 23, .bool true, m7 25, m7 26, .bool true, .bool true, .bool false, .bool false, m7 31, m7 32, .int .i64 (P.refB.length : Int), .slice p6 P.refB.length c6, .int .i64 (P.refB.length : Int), .bool false, .bool false, m8 38, m8 39, m8 40, m8 41, .slice p8 n8 c8, .int .i64 0, .bool false, .bool true, .bool false, undef, undef, undef, undef, undef, undef, undef, undef, undef, undef, undef, undef, undef, undef, .bool false, .slice p6 P.refB.length c6, .int .i64 (P.refB.length : Int), .bool false, undef, undef, undef, undef, undef, undef, undef, .int .i64 (P.K.length : Int), .pointer (some ⟨w.heap.size, 2, none⟩), .slice pk P.K.length ck, .int .i64 (P.K.length : Int), .bool false, u77, u78, u79, u80, u81, u82, u83, u84, u85, u86, u87, .pointer (some ⟨w.heap.size, 0, none⟩), .bool true, undef, undef, undef, undef, undef, undef, undef, undef, undef, undef, undef, undef, undef, undef, undef, undef, undef, undef, undef, undef, undef, undef, undef, undef, undef, undef, undef, undef, undef, undef, undef, undef, undef]) (by kernel_rfl) ?_
            intro a14
            go_upto_region 21 with fail
            refine kl_start 123 (by kernel_rfl) ?_
            refine kl_take 0 (some 10) ((Value.int IntKind.i64 (-1))) (by kernel_rfl) (by kernel_rfl) (by kernel_rfl) (by kernel_rfl) ?_
            refine kl_done (by kernel_rfl) (fun a15 => #[.agg (nv n1.L vc1 vk1 vi1), .string s1, .pointer (some ⟨w.heap.size, 0, none⟩), undef, (Value.bool false), .bool true, .slice p6 P.refB.length c6, .bool true, .slice p8 n8 c8, .int .i64 0, (Value.int IntKind.i64 (-1)), .int .i64 (P.K.length : Int), undef, undef, .bool true, .bool true, .bool false, y4 17, y4 18, .string a1, y4 20, y5 21, .slice p6 P.refB.length c6, m6 23, .bool true, m7 25, m7 26, .bool true, .bool true, .bool false, .bool false, m7 31, m7 32, .int .i64 (P.refB.length : Int), .slice p6 P.refB.length c6, .int .i64 (P.refB.length : Int), .bool false, .bool false, m8 38, m8 39, m8 40, m8 41, .slice p8 n8 c8, .int .i64 0, .bool false, .bool true, .bool false, undef, undef, undef, undef, undef, undef, undef, undef, undef, undef, undef, undef, undef, undef, .bool false, .slice p6 P.refB.length c6, .int .i64 (P.refB.length : Int), .bool false, undef, undef, undef, undef, undef, undef, undef, .int .i64 (P.K.length : Int), .pointer (some ⟨w.heap.size, 2, none⟩), .slice pk P.K.length ck, .int .i64 (P.K.length : Int), .bool false, u77, u78, u79, u80, u81, u82, u83, u84, u85, u86, u87, .pointer (some ⟨w.heap.size, 0, none⟩), .bool true, undef, undef, undef, undef, undef, undef, undef, undef, undef, undef, undef, undef, undef, undef, undef, undef, undef, undef, undef, undef, undef, undef, undef, undef, undef, undef, undef, undef, undef, undef, undef, undef, undef]) (by kernel_rfl) ?_
            intro a15
            go_upto_region 22 with fail
            refine kl_start 123 (by kernel_rfl) ?_
            refine kl_take 0 (some 91) (.slice p8 n8 c8) (by kernel_rfl) (by kernel_rfl) (by kernel_rfl) (by kernel_rfl) ?_
            refine kl_callx 1 (some 92) (by kernel_rfl) (by kernel_rfl) (by kernel_rfl) (by kernel_rfl) (decode_at hp8 HDE.out) ?_
            rintro e xd ⟨hb, vc3, vk3, vi3, rfl, hN3, -⟩
            refine ⟨_, rfl, ?_⟩
            replace hX := hX.later hb
            replace hP := hP.later hb
            replace hS6 := hS6.later hb
            replace hp8 := hp8.later hb
            replace hB := hB.trans (hb.mono hB.size)
            clear hb
            refine kl_take 2 (some 90) (.tuple #[.agg (nv P.L vc3 vk3 vi3), .int .i64 0]) (by kernel_rfl) (by kernel_rfl) (by kernel_rfl) (by kernel_rfl) ?_
            refine kl_take 3 (some 93) (.agg (nv P.L vc3 vk3 vi3)) (by kernel_rfl) (by kernel_rfl) (by kernel_rfl) (by kernel_rfl) ?_
            refine kl_take 4 (some 94) (.int .i64 0) (by kernel_rfl) (by kernel_rfl) (by kernel_rfl) (by kernel_rfl) ?_
            refine kl_new 5 (some 12) 36 _ (by kernel_rfl) (by kernel_rfl) (by kernel_rfl) (by kernel_rfl) tyN ?_
            intro Wn hb hY0
            have hYn := hN3.later hb
            have hBn := hb
            generalize hbn2 : xd.heap.size = bn at hY0 ⊢
            refine kl_put 6 36 _ (.tmp 12) (.tmp 93) _ (nv P.L vc3 vk3 vi3) _ (by kernel_rfl) (by kernel_rfl) (by kernel_rfl) (by kernel_rfl) (by kernel_rfl) (by kernel_rfl) hY0 tyN rfl rfl (nv_one hYn) ?_
            intro Z hbp hsp hY
            rw [← hbn2] at hbp
            have hbz := newput hBn hbp
            replace hX := hX.later hbz
            replace hP := hP.later hbz
            replace hS6 := hS6.later hbz
            replace hp8 := hp8.later hbz
            replace hN3 := hN3.later hbz
            replace hB := hB.trans (hbz.mono hB.size)
            clear hb hY0 hYn hBn hbp hsp hbz hbn2
            refine kl_take 7 (some 13) (.int .i64 0) (by kernel_rfl) (by kernel_rfl) (by kernel_rfl) (by kernel_rfl) ?_
            refine kl_done (by kernel_rfl) (fun a16 => #[.agg (nv n1.L vc1 vk1 vi1), .string s1, .pointer (some ⟨w.heap.size, 0, none⟩), undef, (Value.bool false), .bool true, .slice p6 P.refB.length c6, .bool true, .slice p8 n8 c8, .int .i64 0, .int .i64 (-1), .int .i64 (P.K.length : Int), .pointer (some ⟨bn, 0, none⟩), .int .i64 0, .bool true, .bool true, .bool false, y4 17, y4 18, .string a1, y4 20, y5 21, .slice p6 P.refB.length c6, m6 23, .bool true, m7 25, m7 26, .bool true, .bool true, .bool false, .bool false, m7 31, m7 32, .int .i64 (P.refB.length : Int), .slice p6 P.refB.length c6, .int .i64 (P.refB.length : Int), .bool false, .bool false, m8 38, m8 39, m8 40, m8 41, .slice p8 n8 c8, .int .i64 0, .bool false, .bool true, .bool false, undef, undef, undef, undef, undef, undef, undef, undef, undef, undef, undef, undef, undef, undef, .bool false, .slice p6 P.refB.length c6, .int .i64 (P.refB.length : Int), .bool false, undef, undef, undef, undef, undef, undef, undef, .int .i64 (P.K.length : Int), .pointer (some ⟨w.heap.size, 2, none⟩), .slice pk P.K.length ck, .int .i64 (P.K.length : Int), .bool false, u77, u78, u79, u80, u81, u82, u83, u84, u85, u86, u87, .pointer (some ⟨w.heap.size, 0, none⟩), .bool true, .tuple #[.agg (nv P.L vc3 vk3 vi3), .int .i64 0], .slice p8 n8 c8, .tuple #[.agg (nv P.L vc3 vk3 vi3), .int .i64 0], .agg (nv P.L vc3 vk3 vi3), .int .i64 0, undef, undef, undef, undef, undef, undef, undef, undef, undef, undef, undef, undef, undef, undef, undef, undef, undef, undef, undef, undef, undef, undef, undef, undef, undef, undef, undef, undef]) (by kernel_rfl) ?_
            intro a16
            have HWB := hide (whole_bd HRB.out)
            have HEQ : Hid (strOfNums (No.pad P.bytes) = strOfNums (No.whole P.refB)) := hide (by rw [No.whole_is hl, hrb])
            go_upto_region 23 with fail
            refine ka_start 123 29 (by kernel_rfl) (by kernel_rfl) (by kernel_rfl) ?_
            intro ZA hb
            replace hX := hX.later hb
            replace hP := hP.later hb
            replace hS6 := hS6.later hb
            replace hp8 := hp8.later hb
            replace hN3 := hN3.later hb
            replace hY := hY.later hb
            replace hB := hB.trans (hb.mono hB.size)
            clear hb
            refine ka_pure 0 (some 95) (.int .i64 0) (by kernel_rfl) (by kernel_rfl) (by kernel_rfl) (by kernel_rfl) (by kernel_rfl) (by kernel_rfl) (fun _ => by kernel_rfl) ?_
            refine ka_pure 1 (some 96) (.bool true) (by kernel_rfl) (by kernel_rfl) (by kernel_rfl) (by kernel_rfl) (by kernel_rfl) (by kernel_rfl) (fun _ => by kernel_rfl) ?_
            refine ka_pure 2 (some 97) (.bool true) (by kernel_rfl) (by kernel_rfl) (by kernel_rfl) (by kernel_rfl) (by kernel_rfl) (by kernel_rfl) (fun _ => by kernel_rfl) ?_
            refine ka_pure 3 (some 98) (.slice p8 n8 c8) (by kernel_rfl) (by kernel_rfl) (by kernel_rfl) (by kernel_rfl) (by kernel_rfl) (by kernel_rfl) (fun _ => by kernel_rfl) ?_
            refine ka_conv 4 (some 99) _ (No.pad P.bytes) (.tmp 98) (by kernel_rfl) (by kernel_rfl) (by kernel_rfl) (by kernel_rfl) (by kernel_rfl) (by kernel_rfl) (by kernel_rfl) (by kernel_rfl) hp8 ?_
            refine ka_pure 5 (some 100) (.slice p6 P.refB.length c6) (by kernel_rfl) (by kernel_rfl) (by kernel_rfl) (by kernel_rfl) (by kernel_rfl) (by kernel_rfl) (fun _ => by kernel_rfl) ?_
            refine ka_call 6 (some 101) (by kernel_rfl) (by kernel_rfl) (by kernel_rfl) (by kernel_rfl) (Below.refl _ _) (by kernel_rfl) (whole_any _ _ _ hS6) ?_
            rintro e xa ⟨vz, rfl, hoz, hb⟩
            refine ⟨hb, _, rfl, ?_⟩
            replace hX := hX.later hb
            replace hP := hP.later hb
            replace hS6 := hS6.later hb
            replace hp8 := hp8.later hb
            replace hN3 := hN3.later hb
            replace hY := hY.later hb
            replace hB := hB.trans (hb.mono hB.size)
            clear hb
            have hvz := Sl.own hoz HWB.out
            clear hoz
            refine ka_conv 7 (some 102) _ (No.whole P.refB) (.tmp 101) (by kernel_rfl) (by kernel_rfl) (by kernel_rfl) (by kernel_rfl) (by kernel_rfl) (by kernel_rfl) (by kernel_rfl) (by kernel_rfl) hvz ?_
            refine ka_test 8 (some 103) true (by kernel_rfl) (by kernel_rfl) (by kernel_rfl) (by kernel_rfl) (by kernel_rfl) (by kernel_rfl) (show ((strOfNums (No.pad P.bytes)).toList == (strOfNums (No.whole P.refB)).toList) = true by rw [HEQ.out]; simp) (fun _ => by kernel_rfl) ?_
            refine ka_pure 9 (some 104) (.bool true) (by kernel_rfl) (by kernel_rfl) (by kernel_rfl) (by kernel_rfl) (by kernel_rfl) (by kernel_rfl) (fun _ => by kernel_rfl) ?_
            refine ka_pure 10 (some 105) (.bool true) (by kernel_rfl) (by kernel_rfl) (by kernel_rfl) (by kernel_rfl) (by kernel_rfl) (by kernel_rfl) (fun _ => by kernel_rfl) ?_
            refine ka_pure 11 (some 106) (.int .i64 0) (by kernel_rfl) (by kernel_rfl) (by kernel_rfl) (by kernel_rfl) (by kernel_rfl) (by kernel_rfl) (fun _ => by kernel_rfl) ?_
            refine ka_pure 12 (some 107) (.bool true) (by kernel_rfl) (by kernel_rfl) (by kernel_rfl) (by kernel_rfl) (by kernel_rfl) (by kernel_rfl) (fun _ => by kernel_rfl) ?_
            refine ka_pure 13 (some 108) (.bool true) (by kernel_rfl) (by kernel_rfl) (by kernel_rfl) (by kernel_rfl) (by kernel_rfl) (by kernel_rfl) (fun _ => by kernel_rfl) ?_
            refine ka_pure 14 (some 109) (.bool true) (by kernel_rfl) (by kernel_rfl) (by kernel_rfl) (by kernel_rfl) (by kernel_rfl) (by kernel_rfl) (fun _ => by kernel_rfl) ?_
            refine ka_get 15 (some 110) 36 _ (.tmp 12) _ (nv P.L vc3 vk3 vi3) (by kernel_rfl) (by kernel_rfl) (by kernel_rfl) (by kernel_rfl) (by kernel_rfl) (by kernel_rfl) (by kernel_rfl) (by kernel_rfl) hY tyN rfl ?_
            refine ka_get 17 (some 112) 26 _ (.tmp 2) _ (nv P.L vc (.slice pk P.K.length ck) vi) (by kernel_rfl) (by kernel_rfl) (by kernel_rfl) (by kernel_rfl) (by kernel_rfl) (by kernel_rfl) (by kernel_rfl) (by kernel_rfl) hX tyM rfl ?_
            refine ka_call 16 (some 111) (by kernel_rfl) (by kernel_rfl) (by kernel_rfl) (by kernel_rfl) (Below.refl _ _) (by kernel_rfl) (nback_any vc3 vk3 vi3 P _ hN3 HF.out) ?_
            rintro e xa ⟨vb3, rfl, hN4, hb⟩
            refine ⟨hb, _, rfl, ?_⟩
            replace hX := hX.later hb
            replace hP := hP.later hb
            replace hS6 := hS6.later hb
            replace hp8 := hp8.later hb
            replace hN3 := hN3.later hb
            replace hY := hY.later hb
            replace hvz := hvz.later hb
            replace hB := hB.trans (hb.mono hB.size)
            clear hb
            refine ka_call 18 (some 113) (by kernel_rfl) (by kernel_rfl) (by kernel_rfl) (by kernel_rfl) (Below.refl _ _) (by kernel_rfl) (refEqNode_at hN4 hP (No.eqn_refl P)) ?_
            rintro e xa ⟨rfl, hb⟩
            refine ⟨hb, _, rfl, ?_⟩
            replace hX := hX.later hb
            replace hP := hP.later hb
            replace hS6 := hS6.later hb
            replace hp8 := hp8.later hb
            replace hN3 := hN3.later hb
            replace hY := hY.later hb
            replace hvz := hvz.later hb
            replace hN4 := hN4.later hb
            replace hB := hB.trans (hb.mono hB.size)
            clear hb
            refine ka_pure 19 (some 114) (.bool true) (by kernel_rfl) (by kernel_rfl) (by kernel_rfl) (by kernel_rfl) (by kernel_rfl) (by kernel_rfl) (fun _ => by kernel_rfl) ?_
            refine ka_pure 20 (some 115) (.bool true) (by kernel_rfl) (by kernel_rfl) (by kernel_rfl) (by kernel_rfl) (by kernel_rfl) (by kernel_rfl) (fun _ => by kernel_rfl) ?_
            refine ka_get 21 (some 116) 26 _ (.tmp 2) _ (nv P.L vc (.slice pk P.K.length ck) vi) (by kernel_rfl) (by kernel_rfl) (by kernel_rfl) (by kernel_rfl) (by kernel_rfl) (by kernel_rfl) (by kernel_rfl) (by kernel_rfl) hX tyM rfl ?_
            refine ka_pure 23 (some 118) (.string s1) (by kernel_rfl) (by kernel_rfl) (by kernel_rfl) (by kernel_rfl) (by kernel_rfl) (by kernel_rfl) (fun _ => by kernel_rfl) ?_
            refine ka_pure 25 (some 120) (.int .i64 (-1)) (by kernel_rfl) (by kernel_rfl) (by kernel_rfl) (by kernel_rfl) (by kernel_rfl) (by kernel_rfl) (fun _ => by kernel_rfl) ?_
            refine ka_call 22 (some 117) (by kernel_rfl) (by kernel_rfl) (by kernel_rfl) (by kernel_rfl) (Below.refl _ _) (by kernel_rfl) (nof_any vc (.slice pk P.K.length ck) vi P _ hP HF.out) ?_
            rintro e xa ⟨vo3, rfl, hN5, hb⟩
            refine ⟨hb, _, rfl, ?_⟩
            replace hX := hX.later hb
            replace hP := hP.later hb
            replace hS6 := hS6.later hb
            replace hp8 := hp8.later hb
            replace hN3 := hN3.later hb
            replace hY := hY.later hb
            replace hvz := hvz.later hb
            replace hN4 := hN4.later hb
            replace hB := hB.trans (hb.mono hB.size)
            clear hb
            refine ka_call 24 (some 119) (by kernel_rfl) (by kernel_rfl) (by kernel_rfl) (by kernel_rfl) (Below.refl _ _) (by kernel_rfl) (kid_at hN5 HKI.out) ?_
            rintro e xa ⟨rfl, hb⟩
            refine ⟨hb, _, rfl, ?_⟩
            replace hX := hX.later hb
            replace hP := hP.later hb
            replace hS6 := hS6.later hb
            replace hp8 := hp8.later hb
            replace hN3 := hN3.later hb
            replace hY := hY.later hb
            replace hvz := hvz.later hb
            replace hN4 := hN4.later hb
            replace hN5 := hN5.later hb
            replace hB := hB.trans (hb.mono hB.size)
            clear hb
            refine ka_test 26 (some 121) true (by kernel_rfl) (by kernel_rfl) (by kernel_rfl) (by kernel_rfl) (by kernel_rfl) (by kernel_rfl) (show ((-1 : Int) == -1) = true by simp) (fun _ => by kernel_rfl) ?_
            refine ka_pure 27 (some 122) (.bool true) (by kernel_rfl) (by kernel_rfl) (by kernel_rfl) (by kernel_rfl) (by kernel_rfl) (by kernel_rfl) (fun _ => by kernel_rfl) ?_
            refine ka_pure 28 (some 4) (.bool true) (by kernel_rfl) (by kernel_rfl) (by kernel_rfl) (by kernel_rfl) (by kernel_rfl) (by kernel_rfl) (fun _ => by kernel_rfl) ?_
            refine ka_done (by kernel_rfl) (fun a17 => #[.agg (nv n1.L vc1 vk1 vi1), .string s1, .pointer (some ⟨w.heap.size, 0, none⟩), undef, .bool true, .bool true, .slice p6 P.refB.length c6, .bool true, .slice p8 n8 c8, .int .i64 0, .int .i64 (-1), .int .i64 (P.K.length : Int), .pointer (some ⟨bn, 0, none⟩), .int .i64 0, .bool true, .bool true, .bool false, y4 17, y4 18, .string a1, y4 20, y5 21, .slice p6 P.refB.length c6, m6 23, .bool true, m7 25, m7 26, .bool true, .bool true, .bool false, .bool false, m7 31, m7 32, .int .i64 (P.refB.length : Int), .slice p6 P.refB.length c6, .int .i64 (P.refB.length : Int), .bool false, .bool false, m8 38, m8 39, m8 40, m8 41, .slice p8 n8 c8, .int .i64 0, .bool false, .bool true, .bool false, undef, undef, undef, undef, undef, undef, undef, undef, undef, undef, undef, undef, undef, undef, .bool false, .slice p6 P.refB.length c6, .int .i64 (P.refB.length : Int), .bool false, undef, undef, undef, undef, undef, undef, undef, .int .i64 (P.K.length : Int), .pointer (some ⟨w.heap.size, 2, none⟩), .slice pk P.K.length ck, .int .i64 (P.K.length : Int), .bool false, u77, u78, u79, u80, u81, u82, u83, u84, u85, u86, u87, .pointer (some ⟨w.heap.size, 0, none⟩), .bool true, .tuple #[.agg (nv P.L vc3 vk3 vi3), .int .i64 0], .slice p8 n8 c8, .tuple #[.agg (nv P.L vc3 vk3 vi3), .int .i64 0], .agg (nv P.L vc3 vk3 vi3), .int .i64 0, .int .i64 0, .bool true, .bool true, .slice p8 n8 c8, .string (strOfNums (No.pad P.bytes)), .slice p6 P.refB.length c6, vz, .string (strOfNums (No.whole P.refB)), .bool true, .bool true, .bool true, .int .i64 0, .bool true, .bool true, .bool true, .agg (nv P.L vc3 vk3 vi3), .agg (nv P.L vb3 vk3 vi3), .agg (nv P.L vc (.slice pk P.K.length ck) vi), .bool true, .bool true, .bool true, .agg (nv P.L vc (.slice pk P.K.length ck) vi), .agg (nv P.L vo3 (.slice pk P.K.length ck) vi), .string s1, .int .i64 (-1), .int .i64 (-1), .bool true, .bool true]) (by kernel_rfl) (Below.refl _ _) ?_
            intro a17
            go_wp2_with fail
            go_ret
            exact ⟨rfl, hB⟩


set_option maxRecDepth 100000 in
theorem lifted (os : Os) (started : os.Started) (H : Type) (enc : TypeId × Value → H) :
    ReturnsInHanded {} Try.checked os 3 .any (Rows.nodeAllSpec.pre6 enc Try.prog Try.f3 Rows.nodeAllRow.domain false) (Rows.nodeAllSpec.post enc Try.prog Try.f3 false true false false) := by
  refine returnsInHanded_of_change (C := Try.checked) own started (by kernel_rfl) Try.func3
    (ChangeSpec.witness6 (enc := enc) (C := Try.checked) false ⟨#[], #[.agg nn0, .string ByteArray.empty], []⟩ 8 (by kernel_rfl) (by kernel_rfl) (by kernel_rfl) (by kernel_rfl)) ?_
  intro W base args ds gs before hval0 hW hcnd _
  have hval : ∀ (j : Nat) t v, Try.f3.params[j]? = some t → args[j]? = some v → Value.okWide Try.prog W .any base t v := hval0
  have hW' := hW
  obtain ⟨p, q, hA0, hV, rfl, hfz, hnd⟩ := hW
  have hA : DataW.TrodAll enc Try.prog W 0 (fun _ => true) true Try.f3.params.toList args.toList ds p := hA0
  rw [Try.params3] at hA hval
  obtain ⟨v0, vs0, d0, ds0, p0, q0, hargs, rfl, rfl, h0, r0⟩ := trodAll_cons hA
  obtain ⟨v1, vs1, d1, ds1, p1, q1, rfl, rfl, rfl, h1, r1⟩ := trodAll_cons r0
  obtain ⟨rfl, rfl, rfl⟩ := trodAll_nil r1
  obtain rfl : args = #[v0, v1] := by cases args; simp_all
  obtain ⟨rfl, rfl⟩ := trodVars_none hV
  have k0 := h0
  have lt0 : ∀ x ∈ p0, x.block < W.heap.size := by obtain ⟨m, hm⟩ := k0; exact DataW.trod_lt m _ _ _ hm
  obtain ⟨n0, vc0, vk0, vi0, rfl, w0⟩ := open_node (hval 0 26 v0 rfl rfl) h0
  obtain ⟨a1, rfl, rfl, rfl, w1⟩ := open_string Try.underlying9 (hval 1 9 v1 rfl rfl) h1
  clear hA0 hval0
  refine (walk n0 vc0 vk0 vi0 a1 W w0 w1).mono fun e W' ⟨he, bel⟩ => ?_
  subst he
  exact ⟨_, rfl, _, _, _, [], _, [], hW', trodAll_mk1 (shut_bool Try.underlying4 _), (trodAll_cons_mk (Below.trod laidOut (by kernel_rfl) (of_decide_eq_true (by kernel_rfl)) k0 bel lt0) (trodAll_cons_mk (shut_string Try.underlying9 w1) trodAll_mk0)), rfl, bel.frame _, fun h => by cases h⟩

theorem over : Rows.nodeAllRow.holds Try.pinned (OpenSpec.ofChange Rows.nodeAllSpec) :=
  OpenClaim.holds_of_wide 3 Try.f3 rfl rfl rfl rfl rfl rfl rfl ⟨rfl, rfl, rfl, rfl, rfl⟩ rfl rfl rfl rfl rfl (by kernel_rfl) Try.func3 (by kernel_rfl)
    (of_decide_eq_true (by kernel_rfl)) (by unfold Func.isWrapper; first | (rw [if_pos (by decide +kernel)]; kernel_rfl) | (rw [if_neg (by decide +kernel)]; exact ⟨rfl, rfl⟩))
    (fun os started H enc _ => lifted os started H enc)

theorem proved : Rows.NodeAllSaid := over
#print axioms proved
end Go.Proofs.Ytbddghdkmakjlaa.nodeAll
