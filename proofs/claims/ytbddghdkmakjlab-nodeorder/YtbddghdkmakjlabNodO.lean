/-
  Contracts of the laws' helpers Of and Back on nodes, over the translated program.
-/
import Derived.Test.YtbddghdkmakjlabGj
import Derived.Test.YtbddghdkmakjlabGd
import Derived.Test.YtbddghdkmakjlabGg
namespace Go.Proofs.Ytbddghdkmakjlab
set_option maxRecDepth 100000
set_option linter.unusedVariables false
open Go.RowKit

theorem cc_take {C : List Ce} {k : Nat} (hk : k < C.length) : cc (C.take (k + 1)) = cc (C.take k) ++ (cv (C.getD k Ce.zero)).toList := by
  rw [← List.take_append_getElem hk, cc_snoc]
  simp [List.getD, List.getElem?_eq_getElem hk]
theorem undrew {w x : World} (h : Below w.drew.heap.size w.drew x) : Below w.heap.size w x := ⟨h.os, h.tape, h.output, h.size, h.block⟩
theorem Bx.low {w w' : World} {b B : Nat} {cs : Array Value} (h : Bx w b cs) (hb : b < B) (hB : Below B w w') : Bx w' b cs := by
  obtain ⟨t, h⟩ := h
  exact ⟨t, (hB.block b hb).trans h⟩
theorem nv3_one {l : Bool} (p : Option Addr) (n c : Nat) (p' : Option Addr) (n' c' : Nat) (p'' : Option Addr) (n'' c'' : Nat) : ∀ u ∈ (nv l (.slice p'' n'' c'') (.slice p n c) (.slice p' n' c')).toList, u.oneCell' = true := by
  intro u hu
  simp [nv] at hu
  rcases hu with rfl | rfl | rfl | rfl <;> rfl

/-- The variable that lies in slot s. -/
theorem wpList_at {w : World} {ops : Array Oper} {rest : List Oper} {o : Oper} {a : Act} {Q : Exit → Act → World → Prop} (s : Nat) (ty : TypeId) (z : Array Value) (hg : o.guard = none) (hop : o.op = Op.alloc ty) (_hd : o.dst = some s) (ht : Ty ty z)
    (hK : ∀ W, Below w.heap.size w W → Bx W w.heap.size z → wpList Try.prog ops Q rest (a.put o.dst (.pointer (some ⟨w.heap.size, 0, none⟩))) W) : wpList Try.prog ops Q (o :: rest) a w := wpList_new ty z hg hop ht hK

set_option maxHeartbeats 16000000 in
theorem nof_any (vc vk vi : Value) (n : No) (w : World) (h : Nb w vc vk vi n) (hf : n.few) :
    Calls Try.prog 9 #[.agg (nv n.L vc vk vi)] w fun e w' => ∃ vc', e = .returned (.agg (nv n.L vc' vk vi)) ∧ Nb w' vc' vk vi n ∧ Below w.heap.size w w' := by
  obtain ⟨L, C, K, I⟩ := n
  obtain ⟨hc, hk, hi⟩ := h
  simp only at hc hk hi
  have HK := hide hk
  have HI := hide hi
  obtain ⟨p0, n0, c0, rfl, ha0, hb0, HN0, HC⟩ := hc.opens
  obtain ⟨p1, n1, c1, rfl, ha1, hb1, -, -⟩ := hk.opens
  obtain ⟨p2, n2, c2, rfl, ha2, hb2, -, -⟩ := hi.opens
  have e0 := HN0.out
  subst e0
  have HF : Hid (C.length ≤ 100000) := hide hf
  clear hc hk hi HN0 hf
  go_enter Try.func9, Try.ntmps9
  go_wp2_with (first
    | (refine wpList_box 26 (.tmp 0) (nv L _ _ _) rfl rfl rfl ?_; intro W1 hB hA; have lw := hA.lt)
    | (refine wpList_at 3 41 _ rfl rfl rfl tyN ?_; intro W3 hB3 hX; have lx := hR.lt; have lb := hX.lt; replace hR := hR.later hB3; replace hA := hA.later hB3; replace hB := hB.trans (hB3.mono hB.size); clear hB3; obtain ⟨g0, g1, g2, g3⟩ := hA.nodes)
    | (refine wpList_new 41 _ rfl rfl tyN ?_; intro W2 hB2 hR; replace hA := hA.later hB2; replace hB := hB.trans (hB2.mono hB.size); clear hB2; obtain ⟨g0, g1, g2, g3⟩ := hA.nodes)
    | (refine wpList_put 41 _ (.tmp 3) (.tmp 11) _ (nv L (.slice none 0 0) (.slice p1 n1 c1) (.slice p2 n2 c2)) _ rfl rfl rfl rfl hX tyN rfl rfl (nvki_one _ _ _ _ _ _) ?_; intro W4 hb4 hs4 hX4; replace hR := hR.but hb4 (Nat.ne_of_lt lx); replace hA := hA.but hb4 (Nat.ne_of_lt (Nat.lt_trans lw lx)); have hB4 := Below.but hB hB.size hb4 (fun k e => by omega); clear hB hX hb4 g0 g1 g2 g3))
  generalize W2.heap.size = bx at *
  generalize W1.heap.size = br at *
  generalize hB0 : W3.heap.size = B at *
  have HLA := hide (show w.heap.size < B by omega)
  have HLR := hide (show br < B by omega)
  have HLX := hide (show bx < B by omega)
  have HAR := hide lw
  have HRX := hide lx
  have HAX := hide (show w.heap.size < bx by omega)
  have HA1 := hide hA
  have HR1 := hide hR
  have HX1 := hide hX4
  have HB1 := hide hB4
  have HBs := hide (show B ≤ W4.heap.size by omega)
  clear hA hR hX4 hB4 hs4 lw lx lb hB0
  go_loopw [4] (fun i wr => ∃ (k : Nat) (va : Value), k ≤ C.length ∧ i = .int .i64 k ∧ Hid (wr.ownsRow B 46 8 va k (cc (C.take k))) ∧ Hid (Bx wr bx (nv L va (.slice p1 n1 c1) (.slice p2 n2 c2))) ∧ Hid (Bx wr w.heap.size (nv L (.slice p0 C.length c0) (.slice p1 n1 c1) (.slice p2 n2 c2))) ∧ Hid (Bx wr br nn0) ∧ Hid (B ≤ wr.heap.size) ∧ Hid (Below w.heap.size w wr)) (fun i _ => C.length - (intOf i).toNat)
  case atStart => exact ⟨0, .slice none 0 0, by omega, rfl, World.ownsRow_nil _ _ _ _, HX1, HA1, HR1, HBs, HB1⟩
  case round =>
    obtain ⟨k, vr, hk0, rfl, HO, HX, HA, HR, HBr, HBel⟩ := hrel
    clear HX1 HA1 HR1 HB1 HBs
    have hA := HA.out
    have hX := HX.out
    have hB := HBel.out
    obtain ⟨g0, g1, g2, g3⟩ := hA.nodes
    by_cases hk : k < C.length
    · obtain ⟨b, off, rfl, r0, hqo⟩ := Cs.at_ HC.out hk
      have HCT := hide (cc_take hk)
      have HQ := hide hqo
      generalize hq : C.getD k Ce.zero = q at *
      have HG : Hid (wr.rangeAt b (off + k * 8) (cv q).toList) := hide (rangeAt_later r0 hB (rangeAt_lt r0))
      have HGl : Hid (b < B) := hide (Nat.lt_trans (rangeAt_lt r0) HLA.out)
      have HS1 : Hid ((k + 1) * 88 ≤ 140737488355328) := hide (by have := HF.out; omega)
      have HS2 : Hid (k + 1 ≤ 140737488355328) := hide (by have := HF.out; omega)
      clear r0 hqo hq
      go_wp2_with fail
      clear g0 g1 g2 g3
      obtain ⟨pr, cr, rfl, hr1, hr2⟩ := own_opensN HO.out
      refine wp_region_noPanic ?_
      refine wp_region_P 11 (fun W => Below B wr W) (by kernel_rfl) (Below.refl _ _).drew (fun hHeld => ?_)
      refine wpAnyP_takeU (i := 0) (v := ?_) rfl (by kernel_rfl) (by kernel_rfl) (by kernel_rfl) (by decide) (fun _ _ _ h => h) (Or.inl ⟨by kernel_rfl, ?_⟩) hHeld ?_
      rotate_left
      · intro W hW; clear hW; go_simp; first | done | with_reducible rfl | rfl
      try simp only [Act.put, List.getElem_toArray, List.getElem_cons_zero, List.setIfInBounds_toArray, List.set_cons_succ, List.set_cons_zero]
      refine wpAnyP_take (i := 1) (v := .slice pr k cr) rfl (by kernel_rfl) (by kernel_rfl) (by kernel_rfl) (by kernel_rfl) (by kernel_rfl) (by decide) (fun _ _ _ h => h) (Or.inl ⟨by kernel_rfl, ?_⟩) hHeld ?_
      · intro W hW; obtain ⟨g0, g1, g2, g3⟩ := (hX.low HLX.out hW).nodes; go_simp; first | done | with_reducible rfl | rfl
      try simp only [Act.put, List.getElem_toArray, List.getElem_cons_zero, List.getElem_cons_succ, List.setIfInBounds_toArray, List.set_cons_succ, List.set_cons_zero]
      refine wpAnyP_takeU (i := 2) (v := ?_) rfl (by kernel_rfl) (by kernel_rfl) (by kernel_rfl) (by decide) (fun _ _ _ h => h) (Or.inl ⟨by kernel_rfl, ?_⟩) hHeld ?_
      rotate_left
      · intro W hW; clear hW; go_simp; first | done | with_reducible rfl | rfl
      try simp only [Act.put, List.getElem_toArray, List.getElem_cons_zero, List.getElem_cons_succ, List.setIfInBounds_toArray, List.set_cons_succ, List.set_cons_zero]
      refine wpAnyP_take (i := 3) (v := .slice (some ⟨b, off, none⟩) C.length c0) rfl (by kernel_rfl) (by kernel_rfl) (by kernel_rfl) (by kernel_rfl) (by kernel_rfl) (by decide) (fun _ _ _ h => h) (Or.inl ⟨by kernel_rfl, ?_⟩) hHeld ?_
      · intro W hW; obtain ⟨g0, g1, g2, g3⟩ := (hA.low HLA.out hW).nodes; go_simp; first | done | with_reducible rfl | rfl
      try simp only [Act.put, List.getElem_toArray, List.getElem_cons_zero, List.getElem_cons_succ, List.setIfInBounds_toArray, List.set_cons_succ, List.set_cons_zero]
      refine wpAnyP_takeU (i := 4) (v := ?_) rfl (by kernel_rfl) (by kernel_rfl) (by kernel_rfl) (by decide) (fun _ _ _ h => h) (Or.inl ⟨by kernel_rfl, ?_⟩) hHeld ?_
      rotate_left
      · intro W hW; clear hW; go_simp; first | done | with_reducible rfl | rfl
      try simp only [Act.put, List.getElem_toArray, List.getElem_cons_zero, List.getElem_cons_succ, List.setIfInBounds_toArray, List.set_cons_succ, List.set_cons_zero]
      refine wpAnyP_take (i := 5) (v := .pointer (some ⟨b, off + k * 8, none⟩)) rfl (by kernel_rfl) (by kernel_rfl) (by kernel_rfl) (by kernel_rfl) (by kernel_rfl) (by decide) (fun _ _ _ h => h) (Or.inl ⟨by kernel_rfl, ?_⟩) hHeld ?_
      · intro W hW; go_simp; first | done | with_reducible rfl | rfl
      try simp only [Act.put, List.getElem_toArray, List.getElem_cons_zero, List.getElem_cons_succ, List.setIfInBounds_toArray, List.set_cons_succ, List.set_cons_zero]
      refine wpAnyP_take (i := 6) (v := .agg (cv q)) rfl (by kernel_rfl) (by kernel_rfl) (by kernel_rfl) (by kernel_rfl) (by kernel_rfl) (by decide) (fun _ _ _ h => h) (yields_mid (by kernel_rfl) _ rfl _ _ rfl (fun W hW => rangeAt_later HG.out hW HGl.out)) hHeld ?_
      try simp only [Act.put, List.getElem_toArray, List.getElem_cons_zero, List.getElem_cons_succ, List.setIfInBounds_toArray, List.set_cons_succ, List.set_cons_zero]
      refine wpAnyP_ready (rs := [7]) (by kernel_rfl) (by simp) ?_
      refine AllReadyP.cons (o := _) rfl (fun K hK => ?_) AllReadyP.nil
      rw [if_pos (by kernel_rfl)]
      go_simp
      refine (of_cell q _).mono ?_
      rintro e x1 ⟨rfl, hb⟩
      dsimp only
      have ho := own_below HO.out (undrew hb)
      have hX1 := hX.later (undrew hb)
      have hA1 := hA.later (undrew hb)
      have hR1 := HR.out.later (undrew hb)
      have hB1 := hB.trans (Below.mono (undrew hb) hB.size)
      have hBB := Nat.le_trans HBr.out (show wr.heap.size ≤ x1.heap.size from hb.size)
      have hH1 := hHeld.trans (hb.mono (Nat.le_trans HBr.out hHeld.size))
      refine hK.out _ _ hH1 ?_
      clear hK K hb hHeld
      have hHeld := hH1
      clear hH1
      try simp only [Act.put, List.getElem_toArray, List.getElem_cons_zero, List.getElem_cons_succ, List.setIfInBounds_toArray, List.set_cons_succ, List.set_cons_zero]
      refine wpAnyP_ready (rs := [8]) (by kernel_rfl) (by simp) ?_
      refine AllReadyP.cons (o := _) rfl (fun K hK => ?_) AllReadyP.nil
      rw [if_pos (by kernel_rfl)]
      refine wp_buildN 39 46 (.agg (cv Ce.zero)) 8 88 Try.underlying39 infoV rfl (by decide) (by decide) (.tmp 26) rfl (.agg (cv q)) rfl rfl ?_
      have hA5 : Below x1.heap.size x1 (x1.alloc (.cells (cv q) 46)) := (Below.refl _ _).alloc (Nat.le_refl _) _
      have hH2 := hHeld.trans (hA5.mono hBB)
      refine hK.out _ _ hH2 ?_
      clear hK K hHeld
      try simp only [Act.put, List.getElem_toArray, List.getElem_cons_zero, List.getElem_cons_succ, List.setIfInBounds_toArray, List.set_cons_succ, List.set_cons_zero]
      refine wpAnyP_ready (rs := [9]) (by kernel_rfl) (by simp) ?_
      refine AllReadyP.cons (o := _) rfl (fun K hK => ?_) AllReadyP.nil
      rw [if_pos (by kernel_rfl)]
      refine wp_appN 39 46 (.agg (cv Ce.zero)) 8 88 Try.underlying39 infoV rfl (by decide) (.tmp 20) (.tmp 27) rfl B _ k (cc (C.take k)) _ (cv q) rfl rfl HS1.out HS2.out (ho.alloc _) (heap_alloc_new _ _) rfl (cv_one q) (Nat.le_trans hBB (alloc_le _ _)) ?_
      intro v5 W5 ho5 hg5
      have hX5 := (hX1.later hA5).grown hg5 (own_ne ho HLX.out)
      have hA6 := (hA1.later hA5).grown hg5 (own_ne ho HLA.out)
      have hR5 := (hR1.later hA5).grown hg5 (own_ne ho HLR.out)
      have hB5 := (hB1.trans (hA5.mono hB1.size)).grown hg5 (hB1.trans (hA5.mono hB1.size)).size (fun j hj => by have := (ho.lt j hj).1; have := HLA.out; omega)
      have hBB5 := Nat.le_trans (Nat.le_trans hBB (alloc_le x1 (.cells (cv q) 46))) hg5.size
      have hHeld := hH2.grown hg5 (Nat.le_trans hBB (alloc_le _ _)) (fun j hj => (ho.lt j hj).1)
      obtain ⟨p5, c5, rfl, hc5, hc6⟩ := own_opensN ho5
      refine hK.out _ _ hHeld ?_
      clear hK K hA5 hg5 hX1 hA1 hR1 hB1 hBB ho hH2
      try simp only [Act.put, List.getElem_toArray, List.getElem_cons_zero, List.getElem_cons_succ, List.setIfInBounds_toArray, List.set_cons_succ, List.set_cons_zero]
      refine wpAnyP_takeU (i := 10) (v := ?_) rfl (by kernel_rfl) (by kernel_rfl) (by kernel_rfl) (by decide) (fun _ _ _ h => h) (Or.inl ⟨by kernel_rfl, ?_⟩) hHeld ?_
      rotate_left
      · intro W hW; clear hW; go_simp; first | done | with_reducible rfl | rfl
      try simp only [Act.put, List.getElem_toArray, List.getElem_cons_zero, List.getElem_cons_succ, List.setIfInBounds_toArray, List.set_cons_succ, List.set_cons_zero]
      refine wpAnyP_ready (rs := [11]) (by kernel_rfl) (by simp) ?_
      refine AllReadyP.late (o := _) rfl (by kernel_rfl) (fun K hK => ?_)
      rw [if_pos (by kernel_rfl)]
      refine wp_put1 39 (.tmp 29) (.tmp 28) _ 1 (.slice p5 (k + 1) c5) _ rfl rfl rfl hX5 (show 1 < 4 by omega) (by kernel_rfl) rfl (fun a W => run_store Try.prog W a _ _ rfl) ?_
      intro W6 hb6 hs6 hX6
      refine hK.out _ _ ?_
      clear hK K hHeld
      try simp only [Act.put, List.getElem_toArray, List.getElem_cons_zero, List.getElem_cons_succ]
      refine wpAnyP_done (by kernel_rfl) ?_ _
      refine NoPanic.normal ?_
      go_simp
      go_wp2_with fail
      go_roundw
      case rel =>
        refine ⟨k + 1, .slice p5 (k + 1) c5, hk, by go_num, ?_, hX6, hA6.but hb6 (Nat.ne_of_lt HAX.out), hR5.but hb6 (Nat.ne_of_lt HRX.out), by rw [hs6]; exact hBB5, Below.but hB5 hB5.size hb6 (fun k e => by have := HAX.out; omega)⟩
        rw [HCT.out]
        exact own_but' ho5 hb6 (fun k hk e => by have := HLX.out; omega)
      case measure => simp [intOf]; omega
    · obtain rfl : k = C.length := by omega
      have ho := HO.out
      rw [List.take_length] at ho
      obtain ⟨p5, c5, rfl, hc5, hc6⟩ := own_opensN ho
      have hR := HR.out
      go_wp2_with (first
        | (refine wpList_get 41 _ (.tmp 3) _ (nv L (.slice p5 C.length c5) (.slice p1 n1 c1) (.slice p2 n2 c2)) rfl rfl rfl hX tyN rfl ?_)
        | (refine wpList_put 41 _ (.tmp 2) (.tmp 30) _ (nv L (.slice p5 C.length c5) (.slice p1 n1 c1) (.slice p2 n2 c2)) _ rfl rfl rfl rfl hR tyN rfl rfl (nv3_one _ _ _ _ _ _ _ _ _) ?_; intro W9 hb9 hs9 hX9))
      have hB9 := Below.but hB hB.size hb9 (fun k e => by have := HAR.out; omega)
      refine bodyPost_ret (v := .agg (nv L (.slice p5 C.length c5) (.slice p1 n1 c1) (.slice p2 n2 c2))) (results_bx Try.results9 _ _ _ _ rfl hX9 tyN rfl) rfl ⟨_, rfl, ⟨?_, HK.out.later hB9, HI.out.later hB9⟩, hB9⟩
      exact Cs.own (own_but' ho hb9 (fun k hk e => by have := HLR.out; omega)) HC.out.ok

end Go.Proofs.Ytbddghdkmakjlab
