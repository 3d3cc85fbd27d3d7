/-
  The contract of the document's NodeBytes over the translated program.
  The contract of the document's NodeBytes over the translated program: of a node of ways, and of any.
-/
import Derived.Test.YtbddghdkmakjlaaNodZ
import Derived.Test.YtbddghdkmakjlaaNodO
import Derived.Test.YtbddghdkmakjlaaGf
namespace Go.Proofs.Ytbddghdkmakjlaa
set_option maxRecDepth 100000
set_option linter.unusedVariables false
open Go.RowKit

def No.refB (n : No) : List Int := if n.may = true then n.bytes else []
theorem No.refB_no {n : No} (h : n.may = false) : n.refB = [] := by simp [No.refB, h]
theorem No.refB_is {n : No} (h : n.may = true) : n.refB = n.bytes := by simp [No.refB, h]

/-- '[]byte{x}'. -/
theorem wpList_litB {w : World} {ops : Array Oper} {rest : List Oper} {o : Oper} {a : Act} {Q : Exit → Act → World → Prop} (y : Operand) (b : Int) (hg : o.guard = none) (hop : o.op = Op.buildSlice 30 1 #[(0, y)]) (hy : a.eval y = .int .u8 b)
    (h : ∀ W v, Below w.heap.size w W → W.ownsRow w.heap.size 5 1 v 1 (bv [b]) → wpList Try.prog ops Q rest (a.put o.dst v) W) : wpList Try.prog ops Q (o :: rest) a w :=
  wpList_buildN hg 30 5 (.int .u8 0) 1 1 Try.underlying30 Try.info5 rfl (by decide) (by decide) y hop (.int .u8 b) hy rfl
    (h _ _ ((Below.refl _ _).alloc (Nat.le_refl _) _) (World.ownsRow_lit (base := w.heap.size) (e := 5) (size := 1) w #[.int .u8 b] 1 (Nat.le_refl _) (by unfold maxLen; omega) rfl))

set_option maxHeartbeats 8000000 in
theorem refBytesLeaf_any (vc vk vi : Value) (C : List Ce) (K : List ByteArray) (I : List Int) (w : World) (h : Nb w vc vk vi ⟨true, C, K, I⟩) (hm : No.may ⟨true, C, K, I⟩ = true) (hl : C.length ≤ 100000) :
    Calls Try.prog 12 #[.agg (nv true vc vk vi)] w fun e w' => ∃ v', e = .returned v' ∧ w'.ownsRow w.heap.size 5 1 v' (No.leafB C).length (bv (No.leafB C)) ∧ Below w.heap.size w w' := by
  have HH := hide h
  have hc := h.c
  simp only at hc
  obtain ⟨p0, n0, c0, rfl, ha0, hb0, HN0, HC⟩ := hc.opens
  have e0 := HN0.out
  subst e0
  have HM := hide hm
  have hmc := No.mayC_each (No.may_leaf rfl hm).2.2
  simp only at hmc
  have HOK := hide (fun c hc' => ⟨hc.ok c hc', hmc c hc'⟩ : ∀ c ∈ C, c.Ok ∧ c.may = true)
  have HL := hide hl
  clear h hc hm hmc hl HN0
  obtain ⟨X, hX⟩ : ∃ X : List Int, X = [1] ++ Nm.num (C.length : Int) := ⟨_, rfl⟩
  have HXL : Hid (X.length ≤ 11) := hide (by have := Nm.num_len (C.length : Int); rw [hX]; simp; omega)
  have HE : Hid (No.leafB C = X ++ Ce.cat C) := hide (by rw [hX]; exact No.leafB_eq C)
  have HX := hide hX
  clear hX
  go_enter Try.func12, Try.ntmps12
  go_wp2_with (first
    | (refine wpList_box 26 (.tmp 0) (nv true _ _ _) rfl rfl rfl ?_; intro W1 hB hY; have lB := hY.lt; have lW := Nat.le_refl W1.heap.size)
    | (refine wpList_get 26 _ (.tmp 1) _ (nv true _ _ _) rfl rfl rfl hY tyM rfl ?_))
  refine (refMayNode_any _ _ _ ⟨true, C, K, I⟩ _ (HH.out.later hB)).mono ?_
  rintro e W2 ⟨rfl, hb⟩
  rw [HM.out]
  replace hY := hY.later hb
  replace hB := hB.trans (hb.mono hB.size)
  replace lW := Nat.le_trans lW hb.size
  clear hb
  generalize W1.heap.size = B at *
  have HLB := hide lB
  clear lB
  obtain ⟨g0, g1, g2, g3⟩ := hY.nodes
  go_wp2_with (refine wpList_litB (.const (.int .u8 1)) 1 rfl rfl rfl ?_; intro W3 v3 hb ho3; clear g0 g1 g2 g3; replace ho3 := own_mono ho3 lW; replace lW := Nat.le_trans lW hb.size; replace hY := hY.later hb; replace hB := hB.trans (hb.mono hB.size); clear hb; obtain ⟨g0, g1, g2, g3⟩ := hY.nodes)
  refine (refPut_any (C.length : Int) _ (by omega) (by have := HL.out; omega)).mono ?_
  rintro e W4 ⟨v4, rfl, ho4, hb⟩
  have hs4 := Sl.own ho4 (Nm.num_bd (C.length : Int) (by omega) (by have := HL.out; omega))
  replace ho3 := own_below ho3 hb
  replace hY := hY.later hb
  replace hB := hB.trans (hb.mono hB.size)
  replace lW := Nat.le_trans lW hb.size
  clear hb ho4 g0 g1 g2 g3
  go_wp2_with (refine wpList_append_sl rfl (.tmp 13) (.tmp 17) 30 rfl B 5 Try.underlying30 Try.info5 v3 1 [1] rfl ho3 v4 _ rfl hs4 (by have := Nm.num_len (C.length : Int); omega) lW ?_; intro v5 W5 ho5 hg5)
  have hY5 := hY.grown hg5 (own_ne ho3 HLB.out)
  have hB5 := hB.grown hg5 hB.size (fun j hj => by have := (ho3.lt j hj).1; have := HLB.out; omega)
  have HO1 : Hid (W5.ownsRow B 5 1 v5 (X ++ Ce.cat (C.take 0)).length (bv (X ++ Ce.cat (C.take 0)))) := hide (by
    rw [List.take_zero, show Ce.cat [] = [] from rfl, List.append_nil, HX.out, List.length_append]
    exact ho5)
  have HY1 := hide hY5
  have HB1 := hide hB5
  have HW1 := hide (Nat.le_trans lW hg5.size)
  clear ho5 hg5 hY5 hB5 hY hB lW ho3 hs4
  go_loopw [3, 4] (fun vb i wr => ∃ k : Nat, k ≤ C.length ∧ i = .int .i64 k ∧ Hid (wr.ownsRow B 5 1 vb (X ++ Ce.cat (C.take k)).length (bv (X ++ Ce.cat (C.take k)))) ∧ Hid (Bx wr w.heap.size (nv true (.slice p0 C.length c0) vk vi)) ∧ Hid (B ≤ wr.heap.size) ∧ Hid (Below w.heap.size w wr)) (fun _ i _ => C.length - (intOf i).toNat)
  case atStart => exact ⟨0, by omega, rfl, HO1, HY1, HW1, HB1⟩
  case round =>
    clear HO1 HY1 HW1 HB1
    obtain ⟨k, hk0, rfl, HO, HY, HW, HBel⟩ := hrel
    obtain ⟨g0, g1, g2, g3⟩ := HY.out.nodes
    by_cases hk : k < C.length
    · obtain ⟨b, off, rfl, r0, hqo⟩ := Cs.at_ HC.out hk
      have HCT := hide (cat_take hk)
      have hmem : C.getD k Ce.zero ∈ C := by simp [List.getD, List.getElem?_eq_getElem hk]
      have HQ := hide (HOK.out _ hmem)
      have HPS := hide (Ce.put_small (HOK.out _ hmem).2)
      have HCL := hide (Ce.cat_len (F := C.take k) (fun c hc => HOK.out c (List.mem_of_mem_take hc)))
      generalize hq : C.getD k Ce.zero = q at *
      have HSZ : Hid ((X ++ Ce.cat (C.take k)).length + (Ce.put q).length ≤ 140737488355328) := hide (by
        have h1 := HPS.out
        have h2 := HCL.out
        have h3 := HXL.out
        have h4 := HL.out
        have h5 : (C.take k).length ≤ C.length := by simp; omega
        rw [List.length_append]
        omega)
      have HG := hide (rangeAt_later r0 HBel.out (rangeAt_lt r0))
      clear r0 hqo hmem hq
      go_wp2_with (refine wpList_getM (.tmp 30) _ _ q rfl rfl rfl HG.out ?_)
      refine (refBytes_cell q _ (by have := HPS.out; omega) HQ.out.1).mono ?_
      rintro e W6 ⟨v6, rfl, ho6, hb⟩
      have hs6 := Sl.own ho6 (Ce.put_bd HQ.out.2)
      have ho := own_below HO.out hb
      have hY := HY.out.later hb
      have hB := HBel.out.trans (hb.mono HBel.out.size)
      have lW := Nat.le_trans HW.out hb.size
      clear hb ho6 g0 g1 g2 g3
      go_wp2_with (refine wpList_append_sl rfl (.tmp 26) (.tmp 32) 30 rfl B 5 Try.underlying30 Try.info5 _ _ _ rfl ho v6 _ rfl hs6 HSZ.out lW ?_; intro v7 W7 ho7 hg7)
      have hY7 := hY.grown hg7 (own_ne ho HLB.out)
      have hB7 := hB.grown hg7 hB.size (fun j hj => by have := (ho.lt j hj).1; have := HLB.out; omega)
      have HO7 : Hid (W7.ownsRow B 5 1 v7 (X ++ Ce.cat (C.take (k + 1))).length (bv (X ++ Ce.cat (C.take (k + 1))))) := hide (by
        rw [HCT.out, ← List.append_assoc, List.length_append]
        exact ho7)
      have HY7 := hide hY7
      have HB7 := hide hB7
      have HW7 := hide (Nat.le_trans lW hg7.size)
      clear ho7 hg7 hY7 hB7 hY hB lW ho hs6
      go_roundw
      case rel => exact ⟨_, hk, by go_num, HO7, HY7, HW7, HB7⟩
      case measure => simp [intOf]; omega
    · obtain rfl : k = C.length := by omega
      have HO2 := HO.out
      rw [List.take_length, ← HE.out] at HO2
      have hlb := HLB.out
      go_wp2_with fail
      go_ret
      exact ⟨_, rfl, own_mono HO2 (by omega), HBel.out⟩
end Go.Proofs.Ytbddghdkmakjlaa

namespace Go.Proofs.Ytbddghdkmakjlaa
set_option maxRecDepth 100000
set_option linter.unusedVariables false
open Go.RowKit

set_option maxHeartbeats 8000000 in
theorem refBytesFork_any (vc vk vi : Value) (C : List Ce) (K : List ByteArray) (I : List Int) (w : World) (h : Nb w vc vk vi ⟨false, C, K, I⟩) (hm : No.may ⟨false, C, K, I⟩ = true) :
    Calls Try.prog 12 #[.agg (nv false vc vk vi)] w fun e w' => ∃ v', e = .returned v' ∧ w'.ownsRow w.heap.size 5 1 v' (No.forkB I K).length (bv (No.forkB I K)) ∧ Below w.heap.size w w' := by
  have HH := hide h
  have hk := h.k
  have hi := h.i
  simp only at hk hi
  obtain ⟨p1, n1, c1, rfl, ha1, hb1, HN1, HK⟩ := hk.opens
  obtain ⟨p2, n2, c2, rfl, ha2, hb2, HN2, HI⟩ := hi.opens
  have e1 := HN1.out
  have e2 := HN2.out
  subst e1 e2
  have HM := hide hm
  obtain ⟨-, m2, m3, m4⟩ := No.may_fork rfl hm
  simp only at m2 m3 m4
  have m5 := No.mayI_each m2
  have m6 := No.mayK_each m4
  have HS := hide (fun s hs => by have := m6 s hs; omega : ∀ s ∈ K, s.size ≤ 100)
  have HIb := hide hi.2
  have HL := hide (show I.length ≤ 1000 by omega)
  have HL' := hide (show K.length ≤ 1000 by omega)
  clear h hk hi hm m2 m3 m4 m5 m6 HN1 HN2
  obtain ⟨X, hX⟩ : ∃ X : List Int, X = [2] ++ Nm.num (I.length : Int) := ⟨_, rfl⟩
  have HXL : Hid (X.length ≤ 11) := hide (by have := Nm.num_len (I.length : Int); rw [hX]; simp; omega)
  have HE : Hid (No.forkB I K = (X ++ No.nn I) ++ No.tx K) := hide (by rw [hX]; exact No.forkB_eq I K)
  have HX := hide hX
  clear hX
  go_enter Try.func12, Try.ntmps12
  go_wp2_with (first
    | (refine wpList_box 26 (.tmp 0) (nv false _ _ _) rfl rfl rfl ?_; intro W1 hB hY; have lB := hY.lt; have lW := Nat.le_refl W1.heap.size)
    | (refine wpList_get 26 _ (.tmp 1) _ (nv false _ _ _) rfl rfl rfl hY tyM rfl ?_))
  refine (refMayNode_any _ _ _ ⟨false, C, K, I⟩ _ (HH.out.later hB)).mono ?_
  rintro e W2 ⟨rfl, hb⟩
  rw [HM.out]
  replace hY := hY.later hb
  replace hB := hB.trans (hb.mono hB.size)
  replace lW := Nat.le_trans lW hb.size
  clear hb
  generalize W1.heap.size = B at *
  have HLB := hide lB
  clear lB
  obtain ⟨g0, g1, g2, g3⟩ := hY.nodes
  go_wp2_with (refine wpList_litB (.const (.int .u8 2)) 2 rfl rfl rfl ?_; intro W3 v3 hb ho3; clear g0 g1 g2 g3; replace ho3 := own_mono ho3 lW; replace lW := Nat.le_trans lW hb.size; replace hY := hY.later hb; replace hB := hB.trans (hb.mono hB.size); clear hb; obtain ⟨g0, g1, g2, g3⟩ := hY.nodes)
  refine (refPut_any (I.length : Int) _ (by omega) (by have := HL.out; omega)).mono ?_
  rintro e W4 ⟨v4, rfl, ho4, hb⟩
  have hs4 := Sl.own ho4 (Nm.num_bd (I.length : Int) (by omega) (by have := HL.out; omega))
  replace ho3 := own_below ho3 hb
  replace hY := hY.later hb
  replace hB := hB.trans (hb.mono hB.size)
  replace lW := Nat.le_trans lW hb.size
  clear hb ho4 g0 g1 g2 g3
  go_wp2_with (refine wpList_append_sl rfl (.tmp 35) (.tmp 39) 30 rfl B 5 Try.underlying30 Try.info5 v3 1 [2] rfl ho3 v4 _ rfl hs4 (by have := Nm.num_len (I.length : Int); omega) lW ?_; intro v5 W5 ho5 hg5)
  have hY5 := hY.grown hg5 (own_ne ho3 HLB.out)
  have hB5 := hB.grown hg5 hB.size (fun j hj => by have := (ho3.lt j hj).1; have := HLB.out; omega)
  have HO1 : Hid (W5.ownsRow B 5 1 v5 (X ++ No.nn (I.take 0)).length (bv (X ++ No.nn (I.take 0)))) := hide (by
    rw [List.take_zero, show No.nn [] = [] from rfl, List.append_nil, HX.out, List.length_append]
    exact ho5)
  have HY1 := hide hY5
  have HB1 := hide hB5
  have HW1 := hide (Nat.le_trans lW hg5.size)
  clear ho5 hg5 hY5 hB5 hY hB lW ho3 hs4
  go_loopw [5, 6] (fun vb i wr => ∃ k : Nat, k ≤ I.length ∧ i = .int .i64 k ∧ Hid (wr.ownsRow B 5 1 vb (X ++ No.nn (I.take k)).length (bv (X ++ No.nn (I.take k)))) ∧ Hid (Bx wr w.heap.size (nv false vc (.slice p1 K.length c1) (.slice p2 I.length c2))) ∧ Hid (B ≤ wr.heap.size) ∧ Hid (Below w.heap.size w wr)) (fun _ i _ => I.length - (intOf i).toNat)
  case atStart => exact ⟨0, by omega, rfl, HO1, HY1, HW1, HB1⟩
  case round =>
    clear HO1 HY1 HW1 HB1
    obtain ⟨k, hk0, rfl, HO, HY, HW, HBel⟩ := hrel
    obtain ⟨g0, g1, g2, g3⟩ := HY.out.nodes
    by_cases hk : k < I.length
    · obtain ⟨b, off, rfl, r0, hz0, hz1⟩ := Is.at_ HI.out hk
      have HCT := hide (nn_take hk)
      have HCL := hide (nn_len (I.take k))
      generalize hq : I.getD k 0 = z at *
      have HSZ : Hid ((X ++ No.nn (I.take k)).length + (Nm.num z).length ≤ 140737488355328) := hide (by
        have h1 := Nm.num_len z
        have h2 := HCL.out
        have h3 := HXL.out
        have h4 := HL.out
        have h5 : (I.take k).length ≤ I.length := by simp; omega
        rw [List.length_append]
        omega)
      have HG : _ := (HBel.out.cell (p := ⟨b, off + k, none⟩) (cell_lt r0)).trans r0
      clear r0 hq
      go_wp2_with fail
      refine (refPut_any z _ hz0 hz1).mono ?_
      rintro e W6 ⟨v6, rfl, ho6, hb⟩
      have hs6 := Sl.own ho6 (Nm.num_bd z hz0 hz1)
      have ho := own_below HO.out hb
      have hY := HY.out.later hb
      have hB := HBel.out.trans (hb.mono HBel.out.size)
      have lW := Nat.le_trans HW.out hb.size
      clear hb ho6 g0 g1 g2 g3
      go_wp2_with (refine wpList_append_sl rfl (.tmp 48) (.tmp 54) 30 rfl B 5 Try.underlying30 Try.info5 _ _ _ rfl ho v6 _ rfl hs6 HSZ.out lW ?_; intro v7 W7 ho7 hg7)
      have hY7 := hY.grown hg7 (own_ne ho HLB.out)
      have hB7 := hB.grown hg7 hB.size (fun j hj => by have := (ho.lt j hj).1; have := HLB.out; omega)
      have HO7 : Hid (W7.ownsRow B 5 1 v7 (X ++ No.nn (I.take (k + 1))).length (bv (X ++ No.nn (I.take (k + 1))))) := hide (by
        rw [HCT.out, ← List.append_assoc, List.length_append]
        exact ho7)
      have HY7 := hide hY7
      have HB7 := hide hB7
      have HW7 := hide (Nat.le_trans lW hg7.size)
      clear ho7 hg7 hY7 hB7 hY hB lW ho hs6
      go_roundw
      case rel => exact ⟨_, hk, by go_num, HO7, HY7, HW7, HB7⟩
      case measure => simp [intOf]; omega
    · obtain rfl : k = I.length := by omega
      have HO2 : Hid (wr.ownsRow B 5 1 u5 ((X ++ No.nn I) ++ No.tx (K.take 0)).length (bv ((X ++ No.nn I) ++ No.tx (K.take 0)))) := hide (by
        have := HO.out
        rw [List.take_length] at this
        rw [List.take_zero, show No.tx [] = [] from rfl, List.append_nil]
        exact this)
      have HNL2 : Hid ((X ++ No.nn I).length ≤ 20000) := hide (by
        have h2 := nn_len I
        have h3 := HXL.out
        have h4 := HL.out
        rw [List.length_append]
        omega)
      generalize X ++ No.nn I = Y at *
      clear HO HX HXL
      go_wp2_with fail
      clear g0 g1 g2 g3 hk hk0
      go_loopw [5, 7] (fun vb i wz => ∃ k : Nat, k ≤ K.length ∧ i = .int .i64 k ∧ Hid (wz.ownsRow B 5 1 vb (Y ++ No.tx (K.take k)).length (bv (Y ++ No.tx (K.take k)))) ∧ Hid (Bx wz w.heap.size (nv false vc (.slice p1 K.length c1) (.slice p2 I.length c2))) ∧ Hid (B ≤ wz.heap.size) ∧ Hid (Below w.heap.size w wz)) (fun _ i _ => K.length - (intOf i).toNat)
      case atStart => exact ⟨0, by omega, rfl, HO2, HY, HW, HBel⟩
      case round =>
        clear HO2 HY HW HBel
        obtain ⟨k, hk0, rfl, HO, HY, HW, HBel⟩ := hrel
        obtain ⟨g0, g1, g2, g3⟩ := HY.out.nodes
        by_cases hk : k < K.length
        · obtain ⟨b, off, rfl, r0, hz0⟩ := Ts.at_ HK.out hk
          have HCT := hide (tx_take hk)
          have HCL := hide (tx_len (K := K.take k) (fun z hz => HS.out z (List.mem_of_mem_take hz)))
          have hmem : K.getD k No.bz ∈ K := by simp [List.getD, List.getElem?_eq_getElem hk]
          have HQ := hide (HS.out _ hmem)
          generalize hq : K.getD k No.bz = z at *
          have HSZ : Hid ((Y ++ No.tx (K.take k)).length + (Nm.text (sb z)).length ≤ 140737488355328) := hide (by
            have h1 := Nm.num_len ((sb z).length : Int)
            have h2 := HCL.out
            have h3 := HNL2.out
            have h4 := HL'.out
            have h6 := HQ.out
            have h5 : (K.take k).length ≤ K.length := by simp; omega
            rw [List.length_append, Nm.text_len, sb_len]
            rw [sb_len] at h1
            omega)
          have HG : _ := (HBel.out.cell (p := ⟨b, off + k, none⟩) (cell_lt r0)).trans r0
          clear r0 hq hmem hz0
          go_wp2_with fail
          refine (refPutText_any z _ (by have := HQ.out; omega)).mono ?_
          rintro e W6 ⟨v6, rfl, ho6, hb⟩
          have hs6 := Sl.own ho6 (text_bd z (by have := HQ.out; omega))
          have ho := own_below HO.out hb
          have hY := HY.out.later hb
          have hB := HBel.out.trans (hb.mono HBel.out.size)
          have lW := Nat.le_trans HW.out hb.size
          clear hb ho6 g0 g1 g2 g3
          go_wp2_with (refine wpList_append_sl rfl (.tmp 63) (.tmp 69) 30 rfl B 5 Try.underlying30 Try.info5 _ _ _ rfl ho v6 _ rfl hs6 HSZ.out lW ?_; intro v7 W7 ho7 hg7)
          have hY7 := hY.grown hg7 (own_ne ho HLB.out)
          have hB7 := hB.grown hg7 hB.size (fun j hj => by have := (ho.lt j hj).1; have := HLB.out; omega)
          have HO7 : Hid (W7.ownsRow B 5 1 v7 (Y ++ No.tx (K.take (k + 1))).length (bv (Y ++ No.tx (K.take (k + 1))))) := hide (by
            rw [HCT.out, ← List.append_assoc, List.length_append]
            exact ho7)
          have HY7 := hide hY7
          have HB7 := hide hB7
          have HW7 := hide (Nat.le_trans lW hg7.size)
          clear ho7 hg7 hY7 hB7 hY hB lW ho hs6
          go_roundw
          case rel => exact ⟨_, hk, by go_num, HO7, HY7, HW7, HB7⟩
          case measure => simp [intOf]; omega
        · obtain rfl : k = K.length := by omega
          have HO3 := HO.out
          rw [List.take_length, ← HE.out] at HO3
          have hlb := HLB.out
          go_wp2_with fail
          go_ret
          exact ⟨_, rfl, own_mono HO3 (by omega), HBel.out⟩

set_option maxHeartbeats 2000000 in
theorem refNodeBytes_any (vc vk vi : Value) (n : No) (w : World) (h : Nb w vc vk vi n) (hf : n.few) :
    Calls Try.prog 12 #[.agg (nv n.L vc vk vi)] w fun e w' => ∃ v', e = .returned v' ∧ w'.ownsRow w.heap.size 5 1 v' n.refB.length (bv n.refB) ∧ Below w.heap.size w w' := by
  cases hm : n.may
  · have HH := hide h
    have HM := hide hm
    have HR := hide (No.refB_no hm)
    clear h hm
    go_enter Try.func12, Try.ntmps12
    go_wp2_with (first
      | (refine wpList_box 26 (.tmp 0) (nv n.L _ _ _) rfl rfl rfl ?_; intro W1 hB hY)
      | (refine wpList_get 26 _ (.tmp 1) _ (nv n.L _ _ _) rfl rfl rfl hY tyM rfl ?_))
    refine (refMayNode_any _ _ _ n _ (HH.out.later hB)).mono ?_
    rintro e W2 ⟨rfl, hb⟩
    rw [HM.out]
    replace hB := hB.trans (hb.mono hB.size)
    clear hb hY
    go_wp2_with fail
    go_ret
    exact ⟨_, rfl, by rw [HR.out]; exact World.ownsRow_nil _ _ _ _, hB⟩
  · rw [No.refB_is hm]
    obtain ⟨L, C, K, I⟩ := n
    cases L
    · exact refBytesFork_any vc vk vi C K I w h hm
    · exact refBytesLeaf_any vc vk vi C K I w h hm hf
end Go.Proofs.Ytbddghdkmakjlaa
