/-
  Contracts of node.writeLeaf, node.writeFork, node.write, node.Size over the translated program.
  Contracts of node.writeFork, node.write, node.Size over the translated program.
  Contracts of node.Encode, bytes.Equal and the document's Whole over the translated program.
  'append(own, make([]byte, k)...)': noughts behind bytes of the call's own; no program is named here.
-/
import Derived.Test.YtbddghdkmakjlabNodN
import Derived.Test.YtbddghdkmakjlabGe
import Derived.Test.YtbddghdkmakjlabGa
import Derived.Test.YtbddghdkmakjlabGc
namespace Go.Proofs.Ytbddghdkmakjlab
set_option maxRecDepth 100000
set_option linter.unusedVariables false
open Go.RowKit

theorem alloc_le (w : World) (o : Obj) : w.heap.size ≤ (w.alloc o).heap.size := ((Below.refl w.heap.size w).alloc (Nat.le_refl _) o).size

theorem lit1_sl (w : World) (e : TypeId) (b : Int) (h0 : 0 ≤ b) (h1 : b ≤ 255) : Sl (w.alloc (.cells (Value.int .u8 b).cells e)) (.slice (some ⟨w.heap.size, 0, none⟩) 1 1) [b] :=
  Sl.own (World.ownsRow_lit (base := 0) (e := e) (size := 1) w #[.int .u8 b] 1 (Nat.zero_le _) (by unfold maxLen; omega) rfl) (by intro z hz; rw [List.mem_singleton] at hz; omega)

theorem cat_take {C : List Ce} {k : Nat} (hk : k < C.length) : Ce.cat (C.take (k + 1)) = Ce.cat (C.take k) ++ Ce.put (C.getD k Ce.zero) := by
  rw [← List.take_append_getElem hk, Ce.cat_snoc]
  simp [List.getD, List.getElem?_eq_getElem hk]
theorem tx_take {K : List ByteArray} {k : Nat} (hk : k < K.length) : No.tx (K.take (k + 1)) = No.tx (K.take k) ++ Nm.text (sb (K.getD k No.bz)) := by
  rw [← List.take_append_getElem hk, No.tx_snoc]
  simp [List.getD, List.getElem?_eq_getElem hk]
theorem nn_take {I : List Int} {k : Nat} (hk : k < I.length) : No.nn (I.take (k + 1)) = No.nn (I.take k) ++ Nm.num (I.getD k 0) := by
  rw [← List.take_append_getElem hk, No.nn_snoc]
  simp [List.getD, List.getElem?_eq_getElem hk]
theorem nn_len (I : List Int) : (No.nn I).length ≤ 10 * I.length := by
  induction I with
  | nil => simp [No.nn]
  | cons z I ih =>
    rw [No.nn_cons, List.length_append, List.length_cons]
    have := Nm.num_len z
    omega
theorem tx_len {K : List ByteArray} (h : ∀ s ∈ K, s.size ≤ 100) : (No.tx K).length ≤ 110 * K.length := by
  induction K with
  | nil => simp [No.tx]
  | cons s K ih =>
    rw [No.tx_cons, List.length_append, List.length_cons, Nm.text_len, sb_len]
    have := Nm.num_len (s.size : Int)
    have := ih (fun t ht => h t (List.mem_cons_of_mem _ ht))
    have := h s (List.mem_cons_self ..)
    omega
theorem nn_bd {I : List Int} (h : ∀ z ∈ I, -9223372036854775808 ≤ z ∧ z ≤ 9223372036854775807) : ∀ z ∈ No.nn I, 0 ≤ z ∧ z ≤ 255 := by
  intro z hz
  obtain ⟨q, hq, hz⟩ := List.mem_flatMap.1 hz
  exact Nm.num_bd _ (h q hq).1 (h q hq).2 z hz
theorem tx_bd {K : List ByteArray} (h : ∀ s ∈ K, s.size ≤ 100) : ∀ z ∈ No.tx K, 0 ≤ z ∧ z ≤ 255 := by
  intro z hz
  obtain ⟨q, hq, hz⟩ := List.mem_flatMap.1 hz
  exact text_bd q (by have := h q hq; omega) z hz

set_option maxHeartbeats 4000000 in
theorem writeLeaf_any (v : Value) (C : List Ce) (w : World) (h : Cs w v C) (hm : ∀ c ∈ C, c.may = true) (hl : C.length ≤ 100000) :
    Calls Try.prog 29 #[v] w fun e w' => ∃ v', e = .returned v' ∧ w'.ownsRow w.heap.size 5 1 v' (No.leafB C).length (bv (No.leafB C)) ∧ Below w.heap.size w w' := by
  obtain ⟨p, n, cp, rfl, hn1, hn2, HN0, HC⟩ := h.opens
  have hn := HN0.out
  subst hn
  have HOK := hide (fun c hc => ⟨h.ok c hc, hm c hc⟩ : ∀ c ∈ C, c.Ok ∧ c.may = true)
  have HL := hide hl
  clear h hm HN0 hl
  obtain ⟨X, hX⟩ : ∃ X : List Int, X = [1] ++ Nm.num (C.length : Int) := ⟨_, rfl⟩
  have HXL : Hid (X.length ≤ 11) := hide (by have := Nm.num_len (C.length : Int); rw [hX]; simp; omega)
  have HXB : Hid (∀ z ∈ X, 0 ≤ z ∧ z ≤ 255) := hide (by rw [hX]; exact bd_app (by simp) (Nm.num_bd _ (by omega) (by have := HL.out; omega)))
  have HE : Hid (No.leafB C = X ++ Ce.cat C) := hide (by rw [hX]; exact No.leafB_eq C)
  have HX := hide hX
  clear hX
  go_enter Try.func29, Try.ntmps29
  go_wp2_with (refine wpList_buildN rfl 35 5 (.int .u8 0) 1 1 Try.underlying35 Try.info5 rfl (by decide) (by decide) (.const (.int .u8 1)) rfl (.int .u8 1) rfl rfl ?_)
  refine (put_any _ [1] (C.length : Int) _ (lit1_sl w _ 1 (by decide) (by decide)) (by simp) (by omega) (by have := HL.out; omega)).mono ?_
  rintro e W1 ⟨v1, rfl, ho1, hb1⟩
  have hB0 : Below w.heap.size w W1 := ((Below.refl _ _).alloc (Nat.le_refl _) _).trans (hb1.mono (alloc_le _ _))
  have HO1 : Hid (W1.ownsRow w.heap.size 5 1 v1 (X ++ Ce.cat (C.take 0)).length (bv (X ++ Ce.cat (C.take 0)))) := hide (by
    rw [List.take_zero, show Ce.cat [] = [] from rfl, List.append_nil, HX.out]
    have := own_mono ho1 (alloc_le w _)
    simpa [Nat.add_comm] using this)
  have HB1 := hide hB0
  clear hb1 ho1 hB0
  go_wp2_with fail
  go_loopw [3, 12] (fun vb i wr => ∃ k : Nat, k ≤ C.length ∧ i = .int .i64 k ∧ Hid (wr.ownsRow w.heap.size 5 1 vb (X ++ Ce.cat (C.take k)).length (bv (X ++ Ce.cat (C.take k)))) ∧ Hid (Below w.heap.size w wr)) (fun _ i _ => C.length - (intOf i).toNat)
  case atStart => exact ⟨0, by omega, rfl, HO1, HB1⟩
  case round =>
    obtain ⟨k, hk0, rfl, HO, HBel⟩ := hrel
    by_cases hk : k < C.length
    · obtain ⟨b, off, rfl, g0, hqo⟩ := Cs.at_ HC.out hk
      have HCT := hide (cat_take hk)
      have hmem : C.getD k Ce.zero ∈ C := by simp [List.getD, List.getElem?_eq_getElem hk]
      have HQ := hide (HOK.out _ hmem)
      have HPS := hide (Ce.put_small (HOK.out _ hmem).2)
      have HCL := hide (Ce.cat_len (F := C.take k) (fun c hc => HOK.out c (List.mem_of_mem_take hc)))
      have HCB := hide (Ce.cat_bd (F := C.take k) (fun c hc => HOK.out c (List.mem_of_mem_take hc)))
      generalize hq : C.getD k Ce.zero = q at *
      have HSZ : Hid ((X ++ Ce.cat (C.take k)).length + (Ce.put q).length ≤ 140737488355328) := hide (by
        have h1 := HPS.out
        have h2 := HCL.out
        have h3 := HXL.out
        have h4 := HL.out
        have h5 : (C.take k).length ≤ C.length := by simp; omega
        rw [List.length_append]
        omega)
      have HG := hide (rangeAt_later g0 HBel.out (rangeAt_lt g0))
      clear g0 hqo hmem hq
      have hB := HBel.out
      have ho := HO.out
      go_wp2_with (first
        | (refine wpList_getC (.tmp 14) _ _ q rfl rfl rfl HG.out ?_)
        | (refine wpList_new 46 _ rfl rfl tyC ?_; intro Wn hBn hN)
        | (refine wpList_put 46 _ (.tmp 5) (.tmp 15) _ (cv q) _ rfl rfl rfl rfl hN tyC rfl rfl (cv_one _) ?_; intro Z hbp hsp hX; have hBp := newput hBn hbp; replace ho := own_below ho hBp; replace hB := hB.trans (hBp.mono hB.size); clear hBn hN hbp hsp hBp)
        | (refine wpList_get 46 _ (.tmp 5) _ (cv q) rfl rfl rfl hX tyC rfl ?_))
      refine (put_cell (.slice none 0 0) [] q _ (Sl.nil _) (by have := HPS.out; simp only [List.length_nil]; omega) HQ.out.1).mono ?_
      rintro e W2 ⟨v2, rfl, ho2, hb2⟩
      have hs2 : Sl W2 v2 (Ce.put q) := Sl.own ho2 (Ce.put_bd HQ.out.2)
      replace ho := own_below ho hb2
      replace hB := hB.trans (hb2.mono hB.size)
      have hBs := hB.size
      clear ho2 hb2 hX HG HBel HO
      go_wp2_with (refine wpList_append_sl rfl (.tmp 16) (.tmp 18) 35 rfl w.heap.size 5 Try.underlying35 Try.info5 _ _ _ rfl ho v2 _ rfl hs2 HSZ.out hBs ?_; intro v3 W3 ho3 hg3)
      have hB3 := hB.grown hg3 hBs (fun j hj => (ho.lt j hj).1)
      have HO3 : Hid (W3.ownsRow w.heap.size 5 1 v3 (X ++ Ce.cat (C.take (k + 1))).length (bv (X ++ Ce.cat (C.take (k + 1))))) := hide (by
        rw [HCT.out, ← List.append_assoc, List.length_append]
        exact ho3)
      have HB3 := hide hB3
      clear ho3 hg3 hB3 ho hs2 hB
      go_wp2_with fail
      go_roundw
      case rel => exact ⟨_, hk, by go_num, HO3, HB3⟩
      case measure => simp [intOf]; omega
    · obtain rfl : k = C.length := by omega
      have HO2 := HO.out
      rw [List.take_length, ← HE.out] at HO2
      go_wp2_with fail
      go_ret
      exact ⟨_, rfl, HO2, HBel.out⟩
end Go.Proofs.Ytbddghdkmakjlab

namespace Go.Proofs.Ytbddghdkmakjlab
set_option maxRecDepth 100000
set_option linter.unusedVariables false
open Go.RowKit

set_option maxHeartbeats 4000000 in
theorem writeFork_any (vi vk : Value) (I : List Int) (K : List ByteArray) (w : World) (h : Is w vi I) (h' : Ts w vk K) (hk : ∀ s ∈ K, s.size ≤ 100) (hl : I.length ≤ 1000) (hl' : K.length ≤ 1000) :
    Calls Try.prog 30 #[vi, vk] w fun e w' => ∃ v', e = .returned v' ∧ w'.ownsRow w.heap.size 5 1 v' (No.forkB I K).length (bv (No.forkB I K)) ∧ Below w.heap.size w w' := by
  obtain ⟨p, n, cp, rfl, hn1, hn2, HN0, HC⟩ := h.opens
  have hn := HN0.out
  subst hn
  obtain ⟨p', n', cp', rfl, hn1', hn2', HN0', HK⟩ := h'.opens
  have hn := HN0'.out
  subst hn
  have HS := hide hk
  have HI := hide h.2
  have HL := hide hl
  have HL' := hide hl'
  clear h h' hk HN0 HN0' hl hl'
  obtain ⟨X, hX⟩ : ∃ X : List Int, X = [2] ++ Nm.num (I.length : Int) := ⟨_, rfl⟩
  have HXL : Hid (X.length ≤ 11) := hide (by have := Nm.num_len (I.length : Int); rw [hX]; simp; omega)
  have HXB : Hid (∀ z ∈ X, 0 ≤ z ∧ z ≤ 255) := hide (by rw [hX]; exact bd_app (by simp) (Nm.num_bd _ (by omega) (by have := HL.out; omega)))
  have HE : Hid (No.forkB I K = (X ++ No.nn I) ++ No.tx K) := hide (by rw [hX]; exact No.forkB_eq I K)
  have HX := hide hX
  clear hX
  go_enter Try.func30, Try.ntmps30
  go_wp2_with (refine wpList_buildN rfl 35 5 (.int .u8 0) 1 1 Try.underlying35 Try.info5 rfl (by decide) (by decide) (.const (.int .u8 2)) rfl (.int .u8 2) rfl rfl ?_)
  refine (put_any _ [2] (I.length : Int) _ (lit1_sl w _ 2 (by decide) (by decide)) (by simp) (by omega) (by have := HL.out; omega)).mono ?_
  rintro e W1 ⟨v1, rfl, ho1, hb1⟩
  have hB0 : Below w.heap.size w W1 := ((Below.refl _ _).alloc (Nat.le_refl _) _).trans (hb1.mono (alloc_le _ _))
  have HO1 : Hid (W1.ownsRow w.heap.size 5 1 v1 (X ++ No.nn (I.take 0)).length (bv (X ++ No.nn (I.take 0)))) := hide (by
    rw [List.take_zero, show No.nn [] = [] from rfl, List.append_nil, HX.out]
    have := own_mono ho1 (alloc_le w _)
    simpa [Nat.add_comm] using this)
  have HB1 := hide hB0
  clear hb1 ho1 hB0
  go_wp2_with fail
  go_loopw [5, 16] (fun vb i wr => ∃ k : Nat, k ≤ I.length ∧ i = .int .i64 k ∧ Hid (wr.ownsRow w.heap.size 5 1 vb (X ++ No.nn (I.take k)).length (bv (X ++ No.nn (I.take k)))) ∧ Hid (Below w.heap.size w wr)) (fun _ i _ => I.length - (intOf i).toNat)
  case atStart => exact ⟨0, by omega, rfl, HO1, HB1⟩
  case round =>
    obtain ⟨k, hk0, rfl, HO, HBel⟩ := hrel
    have HNB := hide (bd_app HXB.out (nn_bd (I := I.take k) (fun z hz => HI.out z (List.mem_of_mem_take hz))))
    have HNL := hide (nn_len (I.take k))
    by_cases hk : k < I.length
    · obtain ⟨b, off, rfl, g0, hz0, hz1⟩ := Is.at_ HC.out hk
      have HCT := hide (nn_take hk)
      generalize hq : I.getD k 0 = z at *
      have HG : _ := (HBel.out.cell (p := ⟨b, off + k, none⟩) (cell_lt g0)).trans g0
      clear g0 hq
      have hsl : Sl wr _ _ := Sl.own HO.out HNB.out
      have HSZ : Hid ((X ++ No.nn (I.take k)).length ≤ 140737488350000) := hide (by
        have h2 := HNL.out
        have h3 := HXL.out
        have h4 := HL.out
        have h5 : (I.take k).length ≤ I.length := by simp; omega
        rw [List.length_append]
        omega)
      go_wp2_with fail
      refine (put_any _ _ z _ hsl HSZ.out hz0 hz1).mono ?_
      rintro e W2 ⟨v2, rfl, ho2, hb2⟩
      have HO3 : Hid (W2.ownsRow w.heap.size 5 1 v2 (X ++ No.nn (I.take (k + 1))).length (bv (X ++ No.nn (I.take (k + 1))))) := hide (by
        rw [HCT.out, ← List.append_assoc, List.length_append]
        exact own_mono ho2 HBel.out.size)
      have HB3 := hide (HBel.out.trans (hb2.mono HBel.out.size))
      clear ho2 hb2 hsl
      go_wp2_with fail
      go_roundw
      case rel => exact ⟨_, hk, by go_num, HO3, HB3⟩
      case measure => simp [intOf]; omega
    · obtain rfl : k = I.length := by omega
      have HO2 : Hid (wr.ownsRow w.heap.size 5 1 u5 ((X ++ No.nn I) ++ No.tx (K.take 0)).length (bv ((X ++ No.nn I) ++ No.tx (K.take 0)))) := hide (by
        have := HO.out
        rw [List.take_length] at this
        rw [List.take_zero, show No.tx [] = [] from rfl, List.append_nil]
        exact this)
      have HNB2 : Hid (∀ z ∈ X ++ No.nn I, 0 ≤ z ∧ z ≤ 255) := hide (bd_app HXB.out (nn_bd HI.out))
      have HNL2 : Hid ((X ++ No.nn I).length ≤ 20000) := hide (by
        have h2 := nn_len I
        have h3 := HXL.out
        have h4 := HL.out
        rw [List.length_append]
        omega)
      generalize X ++ No.nn I = Y at *
      have HB2 := HBel
      clear HO HNB HNL HO1 HB1 hk hk0 HBel HX HXL HXB
      go_wp2_with fail
      go_loopw [5, 26] (fun vb i wz => ∃ k : Nat, k ≤ K.length ∧ i = .int .i64 k ∧ Hid (wz.ownsRow w.heap.size 5 1 vb (Y ++ No.tx (K.take k)).length (bv (Y ++ No.tx (K.take k)))) ∧ Hid (Below w.heap.size w wz)) (fun _ i _ => K.length - (intOf i).toNat)
      case atStart => exact ⟨0, by omega, rfl, HO2, HB2⟩
      case round =>
        obtain ⟨k, hk0, rfl, HO, HBel⟩ := hrel
        have HNB := hide (bd_app HNB2.out (tx_bd (K := K.take k) (fun z hz => HS.out z (List.mem_of_mem_take hz))))
        have HNL := hide (tx_len (K := K.take k) (fun z hz => HS.out z (List.mem_of_mem_take hz)))
        by_cases hk : k < K.length
        · obtain ⟨b, off, rfl, g0, hz0⟩ := Ts.at_ HK.out hk
          have HCT := hide (tx_take hk)
          have hmem : K.getD k No.bz ∈ K := by simp [List.getD, List.getElem?_eq_getElem hk]
          have HQ := hide (HS.out _ hmem)
          generalize hq : K.getD k No.bz = z at *
          have HG : _ := (HBel.out.cell (p := ⟨b, off + k, none⟩) (cell_lt g0)).trans g0
          clear g0 hq hmem hz0
          have hsl : Sl wr _ _ := Sl.own HO.out HNB.out
          have HSZ : Hid ((Y ++ No.tx (K.take k)).length + z.size ≤ 140737488350000) := hide (by
            have h2 := HNL.out
            have h3 := HNL2.out
            have h4 := HL'.out
            have h6 := HQ.out
            have h5 : (K.take k).length ≤ K.length := by simp; omega
            rw [List.length_append]
            omega)
          go_wp2_with fail
          refine (putText_any _ _ z _ hsl HSZ.out).mono ?_
          rintro e W2 ⟨v2, rfl, ho2, hb2⟩
          have HO3 : Hid (W2.ownsRow w.heap.size 5 1 v2 (Y ++ No.tx (K.take (k + 1))).length (bv (Y ++ No.tx (K.take (k + 1))))) := hide (by
            rw [HCT.out, ← List.append_assoc, List.length_append]
            exact own_mono ho2 HBel.out.size)
          have HB3 := hide (HBel.out.trans (hb2.mono HBel.out.size))
          clear ho2 hb2 hsl
          go_wp2_with fail
          go_roundw
          case rel => exact ⟨_, hk, by go_num, HO3, HB3⟩
          case measure => simp [intOf]; omega
        · obtain rfl : k = K.length := by omega
          have HO4 := HO.out
          rw [List.take_length, ← HE.out] at HO4
          go_wp2_with fail
          go_ret
          exact ⟨_, rfl, HO4, HBel.out⟩

/-- Within what is written: not too many cells. -/
def No.few (n : No) : Prop := n.C.length ≤ 100000

set_option maxHeartbeats 2000000 in
theorem write_any (vc vk vi : Value) (n : No) (w : World) (h : Nb w vc vk vi n) (hm : n.may = true) (hf : n.few) :
    Calls Try.prog 19 #[.agg (nv n.L vc vk vi)] w fun e w' => ∃ v', e = .returned v' ∧ w'.ownsRow w.heap.size 5 1 v' n.bytes.length (bv n.bytes) ∧ Below w.heap.size w w' := by
  obtain ⟨L, C, K, I⟩ := n
  obtain ⟨hc, hk, hi⟩ := h
  simp only at hc hk hi
  cases L
  · obtain ⟨-, h2, h3, h4⟩ := No.may_fork rfl hm
    simp only at h2 h3 h4
    have h5 := No.mayI_each h2
    have h6 := No.mayK_each h4
    have HW := hide (fun W (hW : Below w.heap.size w W) => writeFork_any vi vk I K W (hi.later hW) (hk.later hW) (fun s hs => by have := h6 s hs; omega) (by omega) (by omega))
    clear h2 h3 h4 h5 h6 hm hc hk hi hf
    go_enter Try.func19, Try.ntmps19
    go_wp2_with (refine wpList_box 41 (.tmp 0) (nv false _ _ _) rfl rfl rfl ?_; intro W1 hB hX; obtain ⟨g0, g1, g2, g3⟩ := hX.nodes)
    refine (HW.out _ hB).mono ?_
    rintro e x ⟨v', rfl, ho, hb⟩
    go_wp2_with fail
    go_ret
    exact ⟨_, rfl, own_mono ho hB.size, hB.trans (hb.mono hB.size)⟩
  · obtain ⟨-, -, h4⟩ := No.may_leaf rfl hm
    have HW := hide (fun W (hW : Below w.heap.size w W) => writeLeaf_any vc C W (hc.later hW) (No.mayC_each h4) hf)
    clear h4 hm hc hk hi hf
    go_enter Try.func19, Try.ntmps19
    go_wp2_with (refine wpList_box 41 (.tmp 0) (nv true _ _ _) rfl rfl rfl ?_; intro W1 hB hX; obtain ⟨g0, g1, g2, g3⟩ := hX.nodes)
    refine (HW.out _ hB).mono ?_
    rintro e x ⟨v', rfl, ho, hb⟩
    go_wp2_with fail
    go_ret
    exact ⟨_, rfl, own_mono ho hB.size, hB.trans (hb.mono hB.size)⟩

/-- How many bytes. -/
def No.size (n : No) : Int := if n.may = true then (n.bytes.length : Int) else 0
theorem No.size_no {n : No} (h : n.may = false) : n.size = 0 := by simp [No.size, h]
theorem No.size_is {n : No} (h : n.may = true) : n.size = n.bytes.length := by simp [No.size, h]

set_option maxHeartbeats 2000000 in
theorem nsize_any (vc vk vi : Value) (n : No) (w : World) (h : Nb w vc vk vi n) (hf : n.few) :
    Calls Try.prog 14 #[.agg (nv n.L vc vk vi)] w fun e w' => e = .returned (.int .i64 n.size) ∧ Below w.heap.size w w' := by
  have HH := hide h
  clear h
  cases hm : n.may
  · have HM := hide hm
    have HS := hide (No.size_no hm)
    clear hm
    go_enter Try.func14, Try.ntmps14
    go_wp2_with (first
      | (refine wpList_box 41 (.tmp 0) (nv n.L _ _ _) rfl rfl rfl ?_; intro W1 hB hX)
      | (refine wpList_get 41 _ (.tmp 1) _ (nv n.L vc vk vi) rfl rfl rfl hX tyN rfl ?_))
    refine (nmay_any vc vk vi n _ (HH.out.later hB)).mono ?_
    rintro e x ⟨rfl, hb⟩
    rw [HM.out]
    replace hX := hX.later hb
    replace hB := hB.trans (hb.mono hB.size)
    clear hb
    go_wp2_with fail
    go_ret
    exact ⟨by rw [HS.out]; rfl, hB⟩
  · have HM := hide hm
    have HS := hide (No.size_is hm)
    clear hm
    go_enter Try.func14, Try.ntmps14
    go_wp2_with (first
      | (refine wpList_box 41 (.tmp 0) (nv n.L _ _ _) rfl rfl rfl ?_; intro W1 hB hX)
      | (refine wpList_get 41 _ (.tmp 1) _ (nv n.L vc vk vi) rfl rfl rfl hX tyN rfl ?_))
    refine (nmay_any vc vk vi n _ (HH.out.later hB)).mono ?_
    rintro e x ⟨rfl, hb⟩
    rw [HM.out]
    replace hX := hX.later hb
    replace hB := hB.trans (hb.mono hB.size)
    clear hb
    go_wp2_with (refine wpList_get 41 _ (.tmp 1) _ (nv n.L vc vk vi) rfl rfl rfl hX tyN rfl ?_)
    refine (write_any vc vk vi n _ (HH.out.later hB) HM.out hf).mono ?_
    rintro e y ⟨v', rfl, ho, hb⟩
    replace hB := hB.trans (hb.mono hB.size)
    clear hb
    obtain ⟨q, cq, rfl, hq1, hq2⟩ := own_opens ho
    clear ho
    go_wp2_with fail
    go_ret
    exact ⟨by rw [HS.out]; rfl, hB⟩
end Go.Proofs.Ytbddghdkmakjlab

namespace Go.Proofs.Ytbddghdkmakjlab
set_option maxRecDepth 100000
set_option linter.unusedVariables false
open Go.RowKit

theorem splice_pad (m : Nat) (zs : List Int) : splice (List.replicate m (Value.int .u8 0)) 0 (bv zs) = bv (zs ++ List.replicate (m - zs.length) 0) := by simp [splice, bv]
theorem page_spliced {w : World} {g : Nat} {e : TypeId} {zs : List Int} (h : w.heap[g]? = some (.cells (splice (List.replicate 256 (Value.int .u8 0)) 0 (bv zs)).toArray e (0, 0))) (hl : zs.length ≤ 256) {base : Nat} (hb : base ≤ g) :
    w.ownsRow base e 1 (.slice (some ⟨g, 0, none⟩) 256 256) (No.pad zs).length (bv (No.pad zs)) := by
  rw [No.pad_len hl]
  refine ⟨by rw [bv_len, No.pad_len hl], .inr ⟨g, 256, _, rfl, hb, h, Nat.le_refl _, by unfold maxLen; omega, ?_, ?_⟩⟩
  · rw [splice_pad, List.size_toArray, bv_len]
    exact No.pad_len hl
  · rw [splice_pad]
    exact List.take_of_length_le (by rw [show (bv (zs ++ List.replicate (256 - zs.length) 0)).toArray.toList = bv (No.pad zs) from rfl, bv_len, No.pad_len hl]; omega)

theorem enc_1 {n : No} (h : n.may = false) : n.enc = ([], 1) := No.enc_bad h

set_option maxHeartbeats 4000000 in
theorem encode_any (vc vk vi : Value) (n : No) (w : World) (h : Nb w vc vk vi n) (hf : n.few) :
    Calls Try.prog 8 #[.agg (nv n.L vc vk vi)] w fun e w' => ∃ v', e = .returned (.tuple #[v', .int .i64 n.enc.2]) ∧ w'.ownsRow w.heap.size 5 1 v' n.enc.1.length (bv n.enc.1) ∧ Below w.heap.size w w' := by
  have hbd : n.may = true → ∀ z ∈ n.bytes, 0 ≤ z ∧ z ≤ 255 := fun hm => No.bytes_bd h.ok hm (by unfold No.few at hf; omega)
  have HH := hide h
  clear h
  cases hm : n.may
  · have HM := hide hm
    have HS := hide (No.enc_bad hm)
    clear hm hbd
    go_enter Try.func8, Try.ntmps8
    go_wp2_with (first
      | (refine wpList_box 41 (.tmp 0) (nv n.L _ _ _) rfl rfl rfl ?_; intro W1 hB hX)
      | (refine wpList_get 41 _ (.tmp 1) _ (nv n.L vc vk vi) rfl rfl rfl hX tyN rfl ?_))
    refine (nmay_any vc vk vi n _ (HH.out.later hB)).mono ?_
    rintro e x ⟨rfl, hb⟩
    rw [HM.out]
    replace hB := hB.trans (hb.mono hB.size)
    clear hb hX
    go_wp2_with fail
    go_ret2
    exact ⟨_, by rw [HS.out]; rfl, by rw [HS.out]; exact World.ownsRow_nil _ _ _ _, hB⟩
  · have HM := hide hm
    have HBD := hide (hbd hm)
    clear hbd
    by_cases hl : n.bytes.length ≤ 256
    · have HS := hide (No.enc_ok hm hl)
      have hd : decide ((256 : Int) < (n.bytes.length : Int)) = false := by simp; omega
      have HL := hide hl
      clear hm hl
      obtain ⟨i0, hi, hz0, hz1, hz2⟩ := info_parts Try.info5
      have hmk := fun (w : World) => run_make (P := Try.prog) w 35 5 i0 (.int .u8 0) Try.underlying35 hi hz0 .i64 .i64 256 256 (by omega) (by omega) (by rw [hz2]; omega) (by omega)
      go_enter Try.func8, Try.ntmps8
      go_wp2_with (first
        | (refine wpList_box 41 (.tmp 0) (nv n.L _ _ _) rfl rfl rfl ?_; intro W1 hB hX)
        | (refine wpList_get 41 _ (.tmp 1) _ (nv n.L vc vk vi) rfl rfl rfl hX tyN rfl ?_))
      refine (nmay_any vc vk vi n _ (HH.out.later hB)).mono ?_
      rintro e x ⟨rfl, hb⟩
      rw [HM.out]
      replace hX := hX.later hb
      replace hB := hB.trans (hb.mono hB.size)
      clear hb
      go_wp2_with (refine wpList_get 41 _ (.tmp 1) _ (nv n.L vc vk vi) rfl rfl rfl hX tyN rfl ?_)
      refine (write_any vc vk vi n _ (HH.out.later hB) HM.out hf).mono ?_
      rintro e y ⟨v', rfl, ho, hb⟩
      replace hB := hB.trans (hb.mono hB.size)
      have hs := Sl.own ho HBD.out
      obtain ⟨q, cq, rfl, hq1, hq2⟩ := own_opens ho
      clear hb ho hX
      have HSl := hide hs
      clear hs
      have HMd := hide (made_heap y (.int .u8 0) 256 5)
      have hB2 : Below y.heap.size y (y.alloc (Obj.cells (madeCells #[Value.int IntKind.u8 0] 256) 5)) := (Below.refl _ _).alloc (Nat.le_refl _) _
      go_wp2_with (refine wpList_copy_splice rfl (.tmp 15) (.tmp 16) 35 35 rfl 5 Try.underlying35 (by rw [hi]; simp [hz1]) _ _ _ _ _ _ rfl rfl y.heap.size 0 _ 5 HMd.out (bv n.bytes) (by have := HL.out; rw [bv_len]; simp [Nat.min_def]; omega) (fun hp => ⟨rfl, HSl.out.src hB2 hp⟩) (by have := HL.out; rw [bv_len]; simp; omega) (bv_one _) y.heap.size y hB2 (Nat.le_refl _) ?_; intro w2 HG hB3)
      go_ret2
      have hBs := hB.size
      exact ⟨_, by rw [HS.out]; rfl, by rw [HS.out]; exact own_mono (page_spliced HG.out HL.out (Nat.le_refl _)) hBs, hB.trans (hB3.mono hBs)⟩
    · have HS := hide (No.enc_full hm (by omega))
      have hd : decide ((256 : Int) < (n.bytes.length : Int)) = true := by simp; omega
      clear hm hl
      go_enter Try.func8, Try.ntmps8
      go_wp2_with (first
        | (refine wpList_box 41 (.tmp 0) (nv n.L _ _ _) rfl rfl rfl ?_; intro W1 hB hX)
        | (refine wpList_get 41 _ (.tmp 1) _ (nv n.L vc vk vi) rfl rfl rfl hX tyN rfl ?_))
      refine (nmay_any vc vk vi n _ (HH.out.later hB)).mono ?_
      rintro e x ⟨rfl, hb⟩
      rw [HM.out]
      replace hX := hX.later hb
      replace hB := hB.trans (hb.mono hB.size)
      clear hb
      go_wp2_with (refine wpList_get 41 _ (.tmp 1) _ (nv n.L vc vk vi) rfl rfl rfl hX tyN rfl ?_)
      refine (write_any vc vk vi n _ (HH.out.later hB) HM.out hf).mono ?_
      rintro e y ⟨v', rfl, ho, hb⟩
      replace hB := hB.trans (hb.mono hB.size)
      obtain ⟨q, cq, rfl, hq1, hq2⟩ := own_opens ho
      clear hb ho hX
      go_wp2_with fail
      go_ret2
      exact ⟨_, by rw [HS.out]; rfl, by rw [HS.out]; exact World.ownsRow_nil _ _ _ _, hB⟩

theorem nums_same {a b : List Int} (ha : ∀ z ∈ a, 0 ≤ z ∧ z ≤ 255) (hb : ∀ z ∈ b, 0 ≤ z ∧ z ≤ 255) : ((strOfNums a).toList == (strOfNums b).toList) = decide (a = b) := by
  rw [Bool.eq_iff_iff]
  simp only [beq_iff_eq, decide_eq_true_eq]
  constructor
  · intro q
    refine Fl.str_inj ha hb ?_
    apply ByteArray.ext
    apply Array.toList_inj.1
    rw [← ByteArray.toList_eq, ← ByteArray.toList_eq, q]
  · rintro rfl; rfl

set_option maxHeartbeats 400000 in
theorem equal_any {w : World} {a b : Value} {zs us : List Int} (ha : Sl w a zs) (hb : Sl w b us) :
    Calls Try.prog 26 #[a, b] w fun e w' => e = .returned (.bool (decide (zs = us))) ∧ w' = w := by
  have HE := hide (nums_same ha.bd hb.bd)
  have h1 := ha.conv (P := Try.prog) 35 9 5 Try.underlying35 Try.underlying5 Try.underlying9
  have h2 := hb.conv (P := Try.prog) 35 9 5 Try.underlying35 Try.underlying5 Try.underlying9
  clear ha hb
  go_enter Try.func26, Try.ntmps26
  go_wp2_with fail
  go_ret
  exact ⟨by rw [← HE.out]; rfl, rfl⟩

/-- The page of bytes; none where they are too many. -/
def No.whole (zs : List Int) : List Int := if 256 < zs.length then [] else No.pad zs
theorem No.whole_no {zs : List Int} (h : 256 < zs.length) : No.whole zs = [] := by simp [No.whole, h]
theorem No.whole_is {zs : List Int} (h : zs.length ≤ 256) : No.whole zs = No.pad zs := by simp [No.whole, show ¬ 256 < zs.length by omega]
end Go.Proofs.Ytbddghdkmakjlab

namespace Go.Proofs.Ytbddghdkmakjlab
set_option maxRecDepth 100000
set_option linter.unusedVariables false
open Go.RowKit

theorem zero_cells (k : Nat) : Builtin.zeroCells #[Value.int .u8 0] k = (bv (List.replicate k 0)).toArray := by
  apply Array.ext
  · simp [Builtin.zeroCells, bv]
  · intro i h1 h2
    simp [Builtin.zeroCells, bv, Nat.mod_one]

section
variable {P : Program} (w : World)

theorem run_append_zeros (base : Nat) (t ty e u : TypeId) (ht : P.underlying t = some (.slice e)) (hu : P.underlying u = some (.int .i64)) (hinfo : (P.info? e).map (fun i => (i.zero, i.size, i.bytes)) = some (some (.int .u8 0), 1, 1))
    (v : Value) (n : Nat) (xs : List Int) (hown : w.ownsRow base e 1 v n (bv xs)) (k : Nat) (hk : n + k ≤ 100000000) (hbase : base ≤ w.heap.size) :
    ∃ v' w', (Builtin.append_ #[t, u] ty #[v, .int .i64 k]).run P w = .ok v' w' ∧ w'.ownsRow base e 1 v' (n + k) (bv (xs ++ List.replicate k 0)) ∧ w.grownBy w' v.ownBlock := by
  obtain ⟨i, hi, hz0, hz1, hz2⟩ := info_parts hinfo
  have hxl : xs.length = n := by have := hown.1; rw [bv_len] at this; omega
  have hl : (bv (xs ++ List.replicate k 0)).length = (n + k) * 1 := by rw [bv_len]; simp; omega
  have hwr : IntKind.i64.wrap (k : Int) = (k : Int) := by rw [IntKind.wrap_i64]; omega
  have g1 : ¬ ((k : Int) < 0) := by omega
  have g2 : ¬ (281474976710656 < (k : Int) * ((1 : Nat) : Int)) := by omega
  have hai : ∀ (z : Int) (w : World), (asIntOf (.int .i64 z)).run P w = .ok (.i64, z) w := fun _ _ => rfl
  by_cases hroom : ∃ g cap, v = .slice (some ⟨g, 0, none⟩) n cap ∧ n + k ≤ cap
  · obtain ⟨g, cap, rfl, hr⟩ := hroom
    obtain ⟨-, hv | ⟨g', cap', cur, hv, hbg, hg, hnc, hcm, hcs, htake⟩⟩ := hown
    · simp at hv
    · simp only [Value.slice.injEq, Option.some.injEq, Addr.mk.injEq, and_true, true_and] at hv
      obtain ⟨rfl, rfl⟩ := hv
      have hfit : n * 1 + 0 + (bv (List.replicate k 0)).length ≤ cur.size := by rw [bv_len]; simp; omega
      have hst := run_storeCells_at P g (n * 1) e (bv (List.replicate k 0)) 0 cur w hg hfit (bv_one _)
      have hrun : (Builtin.append_ #[t, u] ty #[.slice (some ⟨g, 0, none⟩) n cap, .int .i64 k]).run P w = .ok (.slice (some ⟨g, 0, none⟩) (n + k) cap) (w.setRow g (cur.toList.take (n * 1 + 0) ++ bv (List.replicate k 0) ++ cur.toList.drop (n * 1 + 0 + (bv (List.replicate k 0)).length)).toArray) := by
        by_cases h0 : k = 0
        · subst h0
          simp [Builtin.append_, run_underlying ht, run_underlying hu, sizeOf, typeInfo, zeroValue, hi, hz0, hz2, asInt, hai, show IntKind.i64.wrap 0 = 0 from rfl, show n ≤ cap by omega, Addr.add_lit, bv, setRow_self w g cur e (0, 0) hg, storeCells]
        · simp [Builtin.append_, run_underlying ht, run_underlying hu, sizeOf, typeInfo, zeroValue, hi, hz0, hz1, hz2, asInt, hai, hwr, g1, show ¬ (281474976710656 < (k : Int)) by omega, h0, hr, Addr.add_lit, Value.cells, zero_cells] at hst ⊢
          rw [hst]
          simp
      refine ⟨_, _, hrun, ⟨hl, .inr ⟨g, cap, _, rfl, hbg, setRow_heap w g cur _ e _ hg, hr, hcm, ?_, ?_⟩⟩, ⟨rfl, rfl, rfl, by simp, fun j _ hj => setRow_other w g j _ (fun e => hj (by simp [Value.ownBlock, e]))⟩⟩
      · simp [bv] at hfit ⊢; omega
      · rw [Nat.add_zero, htake, ← hl, bv_app]
        exact List.take_left
  · have hgr : ∀ (old : Nat) (row : Option Nat), 
        (w.drew.alloc (.cells ((bv xs).toArray ++ (bv (List.replicate k 0)).toArray ++ Builtin.zeroCells #[Value.int .u8 0] (grownCap w (n + k) old e - (n + k))) e)).ownsRow base e 1
          (.slice (some ⟨w.heap.size, 0, none⟩) (n + k) (grownCap w (n + k) old e)) (n + k) (bv (xs ++ List.replicate k 0)) ∧
        w.grownBy (w.drew.alloc (.cells ((bv xs).toArray ++ (bv (List.replicate k 0)).toArray ++ Builtin.zeroCells #[Value.int .u8 0] (grownCap w (n + k) old e - (n + k))) e)) row := by
      intro old row
      have hge := grownCap_ge w (n + k) old e
      have hcm : grownCap w (n + k) old e ≤ maxLen := grownCap_le_maxLen w (n + k) old e (by unfold maxLen; omega)
      refine ⟨⟨hl, .inr ⟨w.heap.size, _, _, rfl, hbase, heap_alloc_new w.drew _, hge, hcm, ?_, ?_⟩⟩, ⟨rfl, rfl, rfl, by simp, fun j hj _ => Below.heap_alloc w.drew _ j hj⟩⟩
      · simp [size_zeroCells, bv]; omega
      · simp only [Array.toList_append, ← bv_app]
        rw [← hl]
        exact List.take_left
    rcases hown.2 with ⟨rfl, rfl⟩ | ⟨g, cap, cur, rfl, hbg, hg, hnc, hcm, hcs, htake⟩
    · have hx : xs = [] := List.eq_nil_of_length_eq_zero hxl
      subst hx
      by_cases h0 : k = 0
      · subst h0
        refine ⟨.slice none 0 0, w, ?_, World.ownsRow_nil w base e 1, World.grownBy.refl _ _⟩
        simp [Builtin.append_, run_underlying ht, run_underlying hu, sizeOf, typeInfo, zeroValue, hi, hz0, hz2, asInt, hai, show IntKind.i64.wrap 0 = 0 from rfl]
      · have h := hgr 0 (Value.ownBlock (.slice none 0 0))
        refine ⟨_, _, ?_, h.1, h.2⟩
        have hn : Builtin.nextslicecap k 0 = k := by unfold Builtin.nextslicecap; rw [if_pos (by omega)]
        simp [Builtin.append_, run_underlying ht, run_underlying hu, sizeOf, typeInfo, zeroValue, hi, hz0, hz1, hz2, asInt, hai, hwr, g1, show ¬ (281474976710656 < (k : Int)) by omega, h0, Question.forced, run_firstCells_none, newRow, grownCap, Value.cells, zero_cells, hn, show ¬ (9223372036854775807 < (k : Int)) by omega, show ¬ (281474976710656 < k) by omega, bv]
    · have hno : ¬ (n + k ≤ cap) := fun h => hroom ⟨g, cap, rfl, h⟩
      have h0 : ¬ k = 0 := by omega
      have holds : ∀ j u, (bv xs)[j]? = some u → w.cell? ((⟨g, 0, none⟩ : Addr).add j) = some u := hown.cells (g := g) rfl
      have hfo := run_firstCells_some (P := P) w.drew 1 n ⟨g, 0, none⟩ n cap (bv xs) hown.1 (by simpa using holds)
      have hfit : ¬ (281474976710656 < Builtin.nextslicecap (n + k) cap) := by
        have := growslice_fits (bytes := 1) (show cap < n + k by omega) (show (n + k) * 1 ≤ 140737488355328 by omega)
        omega
      have h := hgr cap (Value.ownBlock (.slice (some ⟨g, 0, none⟩) n cap))
      refine ⟨_, _, ?_, h.1, h.2⟩
      simp [Builtin.append_, run_underlying ht, run_underlying hu, sizeOf, typeInfo, zeroValue, hi, hz0, hz1, hz2, asInt, hai, hwr, g1, show ¬ (281474976710656 < (k : Int)) by omega, h0, hno, Question.forced, hfo, newRow, grownCap, Value.cells, zero_cells, hfit, show ¬ (9223372036854775807 < (n : Int) + (k : Int)) by omega]
end

/-- The same as a step of the walk. -/
theorem wpList_append_zeros {P : Program} {w : World} {ops : Array Oper} {rest : List Oper} {o : Oper} {a : Act} {Q : Exit → Act → World → Prop} (hgd : o.guard = none) (s x : Operand) (t u : TypeId)
    (ho : o.op = .call { callee := .builtin .append, args := #[s, x], argTypes := #[t, u] })
    (base : Nat) (e : TypeId) (ht : P.underlying t = some (.slice e)) (hu : P.underlying u = some (.int .i64)) (hinfo : (P.info? e).map (fun i => (i.zero, i.size, i.bytes)) = some (some (.int .u8 0), 1, 1))
    (v : Value) (n : Nat) (xs : List Int) (hs : a.eval s = v) (hown : w.ownsRow base e 1 v n (bv xs)) (k : Nat) (hx : a.eval x = .int .i64 k) (hk : n + k ≤ 100000000) (hbase : base ≤ w.heap.size)
    (h : ∀ v' w', w'.ownsRow base e 1 v' (n + k) (bv (xs ++ List.replicate k 0)) → w.grownBy w' v.ownBlock → wpList P ops Q rest (a.put o.dst v') w') : wpList P ops Q (o :: rest) a w := by
  obtain ⟨v', w', hr, h2, h3⟩ := run_append_zeros (P := P) w base t o.type e u ht hu hinfo v n xs hown k hk hbase
  refine wpList_plain hgd fun K hK => ?_
  unfold Oper.wp
  simp [execOp, ho, resolve, invoke, builtin, hs, hx, hr, Result.andThen]
  exact hK _ _ (h v' w' h2 h3)
end Go.Proofs.Ytbddghdkmakjlab
