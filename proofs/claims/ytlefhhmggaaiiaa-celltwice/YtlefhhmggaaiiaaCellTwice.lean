/-
  For every cell c, every int64 txn and every two values v and w CellTwice returns true: of a cell that may be and has no Txn, written twice by txn (1 to 2^40) with values that may be, txn sees the last one, txn + 1 sees what all see, Undo gives the cell as it was, and Commit gives the last value, or tells that nothing is left. No condition.
-/
import Derived.Test.YtlefhhmggaaiiaaRows
import Derived.WalkKit
import Derived.ProofKit
import Derived.OpenShut
import Derived.ShutString
import Derived.ChangeOld
import Derived.Below
import Derived.Test.YtlefhhmggaaiiaaCelL
import Derived.Test.YtlefhhmggaaiiaaCelH
import Derived.Test.YtlefhhmggaaiiaaCelO
import Derived.Test.YtlefhhmggaaiiaaCelS
import Derived.Test.YtlefhhmggaaiiaaOrw
import Derived.Test.YtlefhhmggaaiiaaOrx
namespace Go.Proofs.Ytlefhhmggaaiiaa.cellTwice
open Go.ChangeShapes Go.WideShapes Go.ChangeAt Go.RowKit
open Go.ChangeMaps (open_string shut_string)
set_option linter.unusedVariables false

theorem own : ownKnob Try.prog.godebug = none := by kernel_rfl
theorem laidOut : laidOutB Try.prog = true := by kernel_rfl

set_option maxRecDepth 100000 in
set_option maxHeartbeats 16000000 in
theorem walk (a0 : Ce) (a1 : Int) (a2 a3 : Va) (w : World) (w0 : a0.Ok) (w1 : (Lit.int .i64 a1).wf = true) (w2 : a2.Ok) (w3 : a3.Ok) :
    Calls Try.prog 8 #[.agg (cv a0), .int .i64 a1, .agg (va a2), .agg (va a3)] w fun e w' => e = .returned (.bool true) ∧ Below w.heap.size w w' := by
  obtain ⟨l1, l2⟩ := bounds_i64 w1
  clear w1
  have H0 := hide w0
  have H2 := hide w2
  have H3 := hide w3
  clear w0 w2 w3
  go_enter Try.func8, Try.ntmps8
  go_wp2_with (first
    | (refine wpList_box 26 (.tmp 0) (cv a0) rfl rfl rfl ?_; intro W1 hB hX)
    | (refine wpList_box 24 (.tmp 2) (va a2) rfl rfl rfl ?_; intro W2 hBx hU; have nhXhU := Nat.ne_of_lt hX.lt; replace hX := hX.later hBx; have lhU := hB.size; replace hB := hB.trans (hBx.mono hB.size); clear hBx)
    | (refine wpList_box 24 (.tmp 3) (va a3) rfl rfl rfl ?_; intro W3 hBx hV; have nhXhV := Nat.ne_of_lt hX.lt; replace hX := hX.later hBx; have nhUhV := Nat.ne_of_lt hU.lt; replace hU := hU.later hBx; have lhV := hB.size; replace hB := hB.trans (hBx.mono hB.size); clear hBx))
  refine (begun_any _).mono ?_
  rintro e X ⟨rfl, hb⟩
  replace hX := hX.later hb
  replace hU := hU.later hb
  replace hV := hV.later hb
  replace hB := hB.trans (hb.mono hB.size)
  clear hb
  go_wp2_with fail
  refine wp_region_noPanic ?_
  refine wp_region_P 6 (fun W => Below X.heap.size X W) (by kernel_rfl) (Below.refl _ _).drew (fun hHeld => ?_)
  refine wpAnyP_take (i := 0) (v := .agg (cv a0)) rfl (by kernel_rfl) (by kernel_rfl) (by kernel_rfl) (by kernel_rfl) (by kernel_rfl) (by decide) (fun _ _ _ h => h) (yields_bx (by kernel_rfl) _ _ _ rfl _ rfl (cv a0) (fun W hW => hX.later hW) tyR rfl) hHeld ?_
  try simp only [Act.put, List.getElem_toArray, List.getElem_cons_zero, List.setIfInBounds_toArray, List.set_cons_succ, List.set_cons_zero]
  refine wpAnyP_takeD [3,5,6] (i := 2) (v := .agg (va a2)) rfl (by kernel_rfl) (by kernel_rfl) (by kernel_rfl) (by kernel_rfl) (by kernel_rfl) (by kernel_rfl) (fun _ _ _ h => h) (yields_bx (by kernel_rfl) _ _ _ rfl _ rfl (va a2) (fun W hW => hU.later hW) tyV rfl) hHeld ?_
  try simp only [Act.put, List.getElem_toArray, List.getElem_cons_zero, List.getElem_cons_succ, List.setIfInBounds_toArray, List.set_cons_succ, List.set_cons_zero]
  refine wpAnyP_takeD [5,6] (i := 4) (v := .agg (va a3)) rfl (by kernel_rfl) (by kernel_rfl) (by kernel_rfl) (by kernel_rfl) (by kernel_rfl) (by kernel_rfl) (fun _ _ _ h => h) (yields_bx (by kernel_rfl) _ _ _ rfl _ rfl (va a3) (fun W hW => hV.later hW) tyV rfl) hHeld ?_
  try simp only [Act.put, List.getElem_toArray, List.getElem_cons_zero, List.getElem_cons_succ, List.setIfInBounds_toArray, List.set_cons_succ, List.set_cons_zero]
  refine wpAnyP_ready (rs := [1]) (by kernel_rfl) (by simp) ?_
  refine AllReadyP.cons (o := _) rfl (fun K hK => ?_) AllReadyP.nil
  rw [if_pos (by kernel_rfl)]
  go_simp
  refine (cut_cell a0 _ H0.out).mono ?_
  rintro e xc ⟨d, rfl, hdd, h20d, h25d, h26d, hb⟩
  dsimp only
  have hHeldN := hHeld.trans (hb.mono hHeld.size)
  refine hK.out _ _ hHeldN ?_
  clear hK K hb hHeld
  have hHeld := hHeldN
  clear hHeldN
  try simp only [Act.put, List.getElem_toArray, List.getElem_cons_zero, List.getElem_cons_succ, List.setIfInBounds_toArray, List.set_cons_succ, List.set_cons_zero]
  have Hd := hide hdd
  have Fd := hide (show d.N.size + d.V.S.size + d.W.S.size ≤ 70 by omega)
  clear hdd h20d h25d h26d
  refine wpAnyP_ready (rs := [3]) (by kernel_rfl) (by simp) ?_
  refine AllReadyP.cons (o := _) rfl (fun K hK => ?_) AllReadyP.nil
  rw [if_pos (by kernel_rfl)]
  go_simp
  refine (val_cell a2 _ H2.out.s).mono ?_
  rintro e xc ⟨su, rfl, hsu, hb⟩
  dsimp only
  have hHeldN := hHeld.trans (hb.mono hHeld.size)
  refine hK.out _ _ hHeldN ?_
  clear hK K hb hHeld
  have hHeld := hHeldN
  clear hHeldN
  try simp only [Act.put, List.getElem_toArray, List.getElem_cons_zero, List.getElem_cons_succ, List.setIfInBounds_toArray, List.set_cons_succ, List.set_cons_zero]
  have huu : (⟨a2.K, a2.X, su⟩ : Va).Ok := ⟨H2.out.k0, H2.out.k1, H2.out.x, by show su.size ≤ maxLen; unfold maxLen; omega⟩
  generalize hqu : (⟨a2.K, a2.X, su⟩ : Va) = u at *
  have Hu := hide huu
  clear huu hqu hsu
  refine wpAnyP_ready (rs := [5]) (by kernel_rfl) (by simp) ?_
  refine AllReadyP.cons (o := _) rfl (fun K hK => ?_) AllReadyP.nil
  rw [if_pos (by kernel_rfl)]
  go_simp
  refine (val_cell a3 _ H3.out.s).mono ?_
  rintro e xc ⟨sv, rfl, hsv, hb⟩
  dsimp only
  have hHeldN := hHeld.trans (hb.mono hHeld.size)
  refine hK.out _ _ hHeldN ?_
  clear hK K hb hHeld
  have hHeld := hHeldN
  clear hHeldN
  try simp only [Act.put, List.getElem_toArray, List.getElem_cons_zero, List.getElem_cons_succ, List.setIfInBounds_toArray, List.set_cons_succ, List.set_cons_zero]
  have huv : (⟨a3.K, a3.X, sv⟩ : Va).Ok := ⟨H3.out.k0, H3.out.k1, H3.out.x, by show sv.size ≤ maxLen; unfold maxLen; omega⟩
  generalize hqv : (⟨a3.K, a3.X, sv⟩ : Va) = v at *
  have Hv := hide huv
  clear huv hqv hsv
  replace hX := hX.later hHeld
  replace hU := hU.later hHeld
  replace hV := hV.later hHeld
  replace hB := hB.trans (hHeld.mono hB.size)
  clear hHeld
  refine wpAnyP_ready (rs := [6]) (by kernel_rfl) (by simp) ?_
  refine AllReadyP.late (o := _) rfl (by kernel_rfl) (fun K hK => ?_)
  rw [if_pos (by kernel_rfl)]
  refine wp_put 26 _ (.tmp 4) (.tmp 19) _ (cv d) _ rfl rfl rfl hX tyR rfl rfl (cv_one _) ?_
  intro Wp hbp hzp hNp
  refine hK.out _ _ ?_
  clear hK K
  try simp only [Act.put, List.getElem_toArray, List.getElem_cons_zero, List.getElem_cons_succ]
  replace hU := hU.but hbp (fun e => nhXhU e.symm)
  replace hV := hV.but hbp (fun e => nhXhV e.symm)
  replace hB := Below.but hB hB.size hbp (fun k e => by omega)
  clear hX hbp hzp
  have hX := hNp
  clear hNp
  refine wpAnyP_ready (rs := [7]) (by kernel_rfl) (by simp) ?_
  refine AllReadyP.late (o := _) rfl (by kernel_rfl) (fun K hK => ?_)
  rw [if_pos (by kernel_rfl)]
  refine wp_put 24 _ (.tmp 6) (.tmp 21) _ (va u) _ rfl rfl rfl hU tyV rfl rfl (va_one _) ?_
  intro Wp hbp hzp hNp
  refine hK.out _ _ ?_
  clear hK K
  try simp only [Act.put, List.getElem_toArray, List.getElem_cons_zero, List.getElem_cons_succ]
  replace hX := hX.but hbp nhXhU
  replace hV := hV.but hbp (fun e => nhUhV e.symm)
  replace hB := Below.but hB hB.size hbp (fun k e => by omega)
  clear hU hbp hzp
  have hU := hNp
  clear hNp
  refine wpAnyP_ready (rs := [8]) (by kernel_rfl) (by simp) ?_
  refine AllReadyP.late (o := _) rfl (by kernel_rfl) (fun K hK => ?_)
  rw [if_pos (by kernel_rfl)]
  refine wp_put 24 _ (.tmp 7) (.tmp 23) _ (va v) _ rfl rfl rfl hV tyV rfl rfl (va_one _) ?_
  intro Wp hbp hzp hNp
  refine hK.out _ _ ?_
  clear hK K
  try simp only [Act.put, List.getElem_toArray, List.getElem_cons_zero, List.getElem_cons_succ]
  replace hX := hX.but hbp nhXhV
  replace hU := hU.but hbp nhUhV
  replace hB := Below.but hB hB.size hbp (fun k e => by omega)
  clear hV hbp hzp
  have hV := hNp
  clear hNp
  refine wpAnyP_done (by kernel_rfl) ?_ _
  refine NoPanic.normal ?_
  go_simp
  go_wp2_with (first
    | (refine wpList_get 26 _ (.tmp 4) _ (cv d) rfl rfl rfl hX tyR rfl ?_))
  refine (refMay_cell d _ Hd.out).mono ?_
  rintro e W7 ⟨rfl, hb⟩
  replace hX := hX.later hb
  replace hU := hU.later hb
  replace hV := hV.later hb
  replace hB := hB.trans (hb.mono hB.size)
  clear hb
  cases hm : d.may
  · go_wp2_with fail
    go_ret
    exact ⟨rfl, hB⟩
  have HM := hide hm
  clear hm
  have c4 := hX.c4
  by_cases hT : d.T = 0
  rotate_left
  · have hT' : (d.T != 0) = true := by simpa using hT
    go_wp2_with fail
    go_ret
    exact ⟨rfl, hB⟩
  have hT' : (d.T != 0) = false := by simpa using hT
  have HT := hide hT
  clear hT
  cases h1 : decide (a1 < 1)
  rotate_left
  · go_wp2_with fail
    go_ret
    exact ⟨rfl, hB⟩
  cases h2 : decide (1099511627776 < a1)
  rotate_left
  · go_wp2_with fail
    go_ret
    exact ⟨rfl, hB⟩
  go_wp2_with (first
    | (refine wpList_getG 24 _ (.tmp 6) _ (va u) rfl rfl rfl rfl rfl hU tyV rfl ?_))
  refine (refMay_va u _ Hu.out).mono ?_
  rintro e W8 ⟨rfl, hb⟩
  replace hX := hX.later hb
  replace hU := hU.later hb
  replace hV := hV.later hb
  replace hB := hB.trans (hb.mono hB.size)
  clear hb
  cases hmu : u.may
  · go_wp2_with fail
    go_ret
    exact ⟨rfl, hB⟩
  have HMU := hide hmu
  clear hmu
  go_wp2_with (first
    | (refine wpList_getG 24 _ (.tmp 7) _ (va v) rfl rfl rfl rfl rfl hV tyV rfl ?_))
  refine (refMay_va v _ Hv.out).mono ?_
  rintro e W9 ⟨rfl, hb⟩
  replace hX := hX.later hb
  replace hU := hU.later hb
  replace hV := hV.later hb
  replace hB := hB.trans (hb.mono hB.size)
  clear hb
  cases hmv : v.may
  · go_wp2_with fail
    go_ret
    exact ⟨rfl, hB⟩
  have HMV := hide hmv
  clear hmv
  have Hl1 := hide (show 1 ≤ a1 by have := of_decide_eq_false h1; omega)
  have Hl2 := hide (show a1 ≤ 1099511627776 by have := of_decide_eq_false h2; omega)
  clear h1 h2 hT' c4
  go_wp2_with fail
  obtain ⟨Q0, HQ0⟩ : ∃ Q0 : Exit → Act → World → Prop, Hid (Q0 = fun e a' w' => e = Exit.normal ∧ ∃ b, ∃ x : Nat → Value, a' = ({ tmps := #[x 0, .int .i64 a1, x 2, x 3, .pointer (some ⟨w.heap.size, 0, none⟩), x 5, x 6, .pointer (some ⟨W2.heap.size, 0, none⟩), x 8, x 9, .pointer (some ⟨b, 0, none⟩), x 11, x 12, x 13, x 14, x 15, x 16, x 17, x 18, x 19, x 20, x 21, x 22, x 23, x 24, x 25, x 26, x 27, x 28, x 29, x 30, x 31, x 32, x 33, x 34, x 35, x 36, x 37, x 38, x 39, x 40, x 41, x 42, x 43, x 44, x 45, x 46, x 47, x 48, x 49, x 50, x 51, x 52, x 53, x 54, x 55, x 56, x 57, x 58, x 59, x 60, x 61, x 62, x 63, x 64, x 65, x 66, x 67, x 68, x 69, x 70, x 71, x 72, x 73, x 74, x 75, x 76, x 77, x 78, x 79, x 80, x 81, x 82, x 83, x 84, x 85, x 86, x 87, x 88, x 89, x 90, x 91, x 92, x 93, x 94, x 95, x 96, x 97, x 98, x 99, x 100, x 101, x 102, x 103, x 104, x 105, x 106, x 107, x 108, x 109, x 110, x 111, x 112], defers := [] } : Act) ∧ Bx w' b (cv (Ce.wr d a1 v)) ∧ Below W9.heap.size W9 w') := ⟨_, rfl⟩
  refine Code.wp_mono (Q := Q0) ?cont ?_
  rotate_left
  · skip
    refine wp_region_noPanic ?_
    refine wp_region_held_drew (S := fun W => Below W9.heap.size W9 W) (by kernel_rfl) ?_ (fun hHeld => ?_)
    · exact (Below.refl _ _).drew
    refine wpAnyH_take (i := 0) (v := .agg (cv d)) rfl (by kernel_rfl) (by kernel_rfl) (by kernel_rfl) (fun _ _ _ h => h) (yields_bx (by kernel_rfl) _ _ _ rfl _ rfl (cv d) (fun W hW => hX.later hW) tyR rfl) hHeld ?_
    try simp only [Act.put, List.getElem_toArray, List.getElem_cons_zero, List.setIfInBounds_toArray, List.set_cons_succ, List.set_cons_zero]
    refine wpAnyH_take (i := 2) (v := ?_) rfl (by kernel_rfl) (by kernel_rfl) (by kernel_rfl) (fun _ _ _ h => h) (Or.inl ⟨by kernel_rfl, ?_⟩) hHeld ?_
    rotate_left
    · intro W hW; go_simp; first | done | with_reducible rfl | rfl
    try simp only [Act.put, List.getElem_toArray, List.getElem_cons_zero, List.getElem_cons_succ, List.setIfInBounds_toArray, List.set_cons_succ, List.set_cons_zero]
    refine wpAnyH_take (i := 3) (v := .agg (va u)) rfl (by kernel_rfl) (by kernel_rfl) (by kernel_rfl) (fun _ _ _ h => h) (yields_bx (by kernel_rfl) _ _ _ rfl _ rfl (va u) (fun W hW => hU.later hW) tyV rfl) hHeld ?_
    try simp only [Act.put, List.getElem_toArray, List.getElem_cons_zero, List.getElem_cons_succ, List.setIfInBounds_toArray, List.set_cons_succ, List.set_cons_zero]
    refine wpAnyH_take (i := 5) (v := ?_) rfl (by kernel_rfl) (by kernel_rfl) (by kernel_rfl) (fun _ _ _ h => h) (Or.inl ⟨by kernel_rfl, ?_⟩) hHeld ?_
    rotate_left
    · intro W hW; go_simp; first | done | with_reducible rfl | rfl
    try simp only [Act.put, List.getElem_toArray, List.getElem_cons_zero, List.getElem_cons_succ, List.setIfInBounds_toArray, List.set_cons_succ, List.set_cons_zero]
    refine wpAnyH_take (i := 6) (v := .agg (va v)) rfl (by kernel_rfl) (by kernel_rfl) (by kernel_rfl) (fun _ _ _ h => h) (yields_bx (by kernel_rfl) _ _ _ rfl _ rfl (va v) (fun W hW => hV.later hW) tyV rfl) hHeld ?_
    try simp only [Act.put, List.getElem_toArray, List.getElem_cons_zero, List.getElem_cons_succ, List.setIfInBounds_toArray, List.set_cons_succ, List.set_cons_zero]
    refine wpAnyH_ready (rs := [1, 8]) (by kernel_rfl) (by simp) ?_
    refine allReady2 ?_ (AllReadyH.cons (o := _) rfl (fun K hK => ?_) AllReadyH.nil)
    · skip
      refine wpAnyH_callS rfl (by kernel_rfl) (by kernel_rfl) (of_cell d _) hHeld ?_
      intro xc hb hHeld
      try simp only [Act.put, List.getElem_toArray, List.getElem_cons_zero, List.getElem_cons_succ, List.setIfInBounds_toArray, List.set_cons_succ, List.set_cons_zero]
      clear hb
      refine wpAnyH_ready (rs := [4, 8]) (by kernel_rfl) (by simp) ?_
      refine allReady2 ?_ (AllReadyH.cons (o := _) rfl (fun K hK => ?_) AllReadyH.nil)
      · skip
        refine wpAnyH_callS rfl (by kernel_rfl) (by kernel_rfl) (write_cell d a1 u _) hHeld ?_
        intro xc hb hHeld
        try simp only [Act.put, List.getElem_toArray, List.getElem_cons_zero, List.getElem_cons_succ, List.setIfInBounds_toArray, List.set_cons_succ, List.set_cons_zero]
        clear hb
        refine wpAnyH_ready (rs := [7, 8]) (by kernel_rfl) (by simp) ?_
        refine allReady2 ?_ (AllReadyH.cons (o := _) rfl (fun K hK => ?_) AllReadyH.nil)
        · skip
          refine wpAnyH_callS rfl (by kernel_rfl) (by kernel_rfl) (write_cell (Ce.wr d a1 u) a1 v _) hHeld ?_
          intro xc hb hHeld
          try simp only [Act.put, List.getElem_toArray, List.getElem_cons_zero, List.getElem_cons_succ, List.setIfInBounds_toArray, List.set_cons_succ, List.set_cons_zero]
          clear hb
          refine wpAnyH_ready (rs := [8]) (by kernel_rfl) (by simp) ?_
          refine AllReadyH.cons (o := _) rfl (fun K hK => ?_) AllReadyH.nil
          rw [if_pos (by kernel_rfl)]
          refine wp_new 31 _ rfl tyC ?_
          intro Wa hBa hN
          have lb := hHeld.size
          refine hK.out _ _ (hHeld.trans (hBa.mono hHeld.size)) (fun hHeld => ?_)
          clear hK K hBa
          try simp only [Act.put, List.getElem_toArray, List.getElem_cons_zero, List.getElem_cons_succ, List.setIfInBounds_toArray, List.set_cons_succ, List.set_cons_zero]
          refine wpAnyH_ready (rs := [9]) (by kernel_rfl) (by simp) ?_
          refine AllReadyH.cons (o := _) rfl (fun K hK => ?_) AllReadyH.nil
          rw [if_pos (by kernel_rfl)]
          refine wp_put 31 _ (.tmp 10) (.tmp 57) _ (cv (Ce.wr d a1 v)) _ rfl rfl rfl hN tyC rfl rfl (cv_one _) ?_
          intro Ws hbs hss hNs
          refine hK.out _ _ (Below.but hHeld hHeld.size hbs (fun k e => by rw [e]; exact lb)) (fun hHeld => ?_)
          clear hK K hN hbs hss
          have hN := hNs
          clear hNs
          try simp only [Act.put, List.getElem_toArray, List.getElem_cons_zero, List.getElem_cons_succ]
          refine wpAnyH_done (by kernel_rfl) ?_ _
          refine NoPanic.normal ?_
          generalize hA : ({ tmps := _, defers := [] } : Act) = A
          rw [HQ0.out]
          exact ⟨rfl, _, fun k => A.tmps.getD k undef, (by subst hA; kernel_rfl), hN, hHeld⟩
        · skip
          rw [if_pos (by kernel_rfl)]
          refine wp_new 31 _ rfl tyC ?_
          intro Wa hBa hN
          have lb := hHeld.size
          refine hK.out _ _ (hHeld.trans (hBa.mono hHeld.size)) (fun hHeld => ?_)
          clear hK K hBa
          try simp only [Act.put, List.getElem_toArray, List.getElem_cons_zero, List.getElem_cons_succ, List.setIfInBounds_toArray, List.set_cons_succ, List.set_cons_zero]
          refine wpAnyH_ready (rs := [7]) (by kernel_rfl) (by simp) ?_
          intro j hj
          rw [List.mem_singleton] at hj
          subst hj
          refine wpAnyH_callS rfl (by kernel_rfl) (by kernel_rfl) (write_cell (Ce.wr d a1 u) a1 v _) hHeld ?_
          intro xc hb hHeld
          try simp only [Act.put, List.getElem_toArray, List.getElem_cons_zero, List.getElem_cons_succ, List.setIfInBounds_toArray, List.set_cons_succ, List.set_cons_zero]
          replace hN := hN.later hb
          clear hb
          refine wpAnyH_ready (rs := [9]) (by kernel_rfl) (by simp) ?_
          refine AllReadyH.cons (o := _) rfl (fun K hK => ?_) AllReadyH.nil
          rw [if_pos (by kernel_rfl)]
          refine wp_put 31 _ (.tmp 10) (.tmp 57) _ (cv (Ce.wr d a1 v)) _ rfl rfl rfl hN tyC rfl rfl (cv_one _) ?_
          intro Ws hbs hss hNs
          refine hK.out _ _ (Below.but hHeld hHeld.size hbs (fun k e => by rw [e]; exact lb)) (fun hHeld => ?_)
          clear hK K hN hbs hss
          have hN := hNs
          clear hNs
          try simp only [Act.put, List.getElem_toArray, List.getElem_cons_zero, List.getElem_cons_succ]
          refine wpAnyH_done (by kernel_rfl) ?_ _
          refine NoPanic.normal ?_
          generalize hA : ({ tmps := _, defers := [] } : Act) = A
          rw [HQ0.out]
          exact ⟨rfl, _, fun k => A.tmps.getD k undef, (by subst hA; kernel_rfl), hN, hHeld⟩
      · skip
        rw [if_pos (by kernel_rfl)]
        refine wp_new 31 _ rfl tyC ?_
        intro Wa hBa hN
        have lb := hHeld.size
        refine hK.out _ _ (hHeld.trans (hBa.mono hHeld.size)) (fun hHeld => ?_)
        clear hK K hBa
        try simp only [Act.put, List.getElem_toArray, List.getElem_cons_zero, List.getElem_cons_succ, List.setIfInBounds_toArray, List.set_cons_succ, List.set_cons_zero]
        refine wpAnyH_ready (rs := [4]) (by kernel_rfl) (by simp) ?_
        intro j hj
        rw [List.mem_singleton] at hj
        subst hj
        refine wpAnyH_callS rfl (by kernel_rfl) (by kernel_rfl) (write_cell d a1 u _) hHeld ?_
        intro xc hb hHeld
        try simp only [Act.put, List.getElem_toArray, List.getElem_cons_zero, List.getElem_cons_succ, List.setIfInBounds_toArray, List.set_cons_succ, List.set_cons_zero]
        replace hN := hN.later hb
        clear hb
        refine wpAnyH_ready (rs := [7]) (by kernel_rfl) (by simp) ?_
        intro j hj
        rw [List.mem_singleton] at hj
        subst hj
        refine wpAnyH_callS rfl (by kernel_rfl) (by kernel_rfl) (write_cell (Ce.wr d a1 u) a1 v _) hHeld ?_
        intro xc hb hHeld
        try simp only [Act.put, List.getElem_toArray, List.getElem_cons_zero, List.getElem_cons_succ, List.setIfInBounds_toArray, List.set_cons_succ, List.set_cons_zero]
        replace hN := hN.later hb
        clear hb
        refine wpAnyH_ready (rs := [9]) (by kernel_rfl) (by simp) ?_
        refine AllReadyH.cons (o := _) rfl (fun K hK => ?_) AllReadyH.nil
        rw [if_pos (by kernel_rfl)]
        refine wp_put 31 _ (.tmp 10) (.tmp 57) _ (cv (Ce.wr d a1 v)) _ rfl rfl rfl hN tyC rfl rfl (cv_one _) ?_
        intro Ws hbs hss hNs
        refine hK.out _ _ (Below.but hHeld hHeld.size hbs (fun k e => by rw [e]; exact lb)) (fun hHeld => ?_)
        clear hK K hN hbs hss
        have hN := hNs
        clear hNs
        try simp only [Act.put, List.getElem_toArray, List.getElem_cons_zero, List.getElem_cons_succ]
        refine wpAnyH_done (by kernel_rfl) ?_ _
        refine NoPanic.normal ?_
        generalize hA : ({ tmps := _, defers := [] } : Act) = A
        rw [HQ0.out]
        exact ⟨rfl, _, fun k => A.tmps.getD k undef, (by subst hA; kernel_rfl), hN, hHeld⟩
    · skip
      rw [if_pos (by kernel_rfl)]
      refine wp_new 31 _ rfl tyC ?_
      intro Wa hBa hN
      have lb := hHeld.size
      refine hK.out _ _ (hHeld.trans (hBa.mono hHeld.size)) (fun hHeld => ?_)
      clear hK K hBa
      try simp only [Act.put, List.getElem_toArray, List.getElem_cons_zero, List.getElem_cons_succ, List.setIfInBounds_toArray, List.set_cons_succ, List.set_cons_zero]
      refine wpAnyH_ready (rs := [1]) (by kernel_rfl) (by simp) ?_
      intro j hj
      rw [List.mem_singleton] at hj
      subst hj
      refine wpAnyH_callS rfl (by kernel_rfl) (by kernel_rfl) (of_cell d _) hHeld ?_
      intro xc hb hHeld
      try simp only [Act.put, List.getElem_toArray, List.getElem_cons_zero, List.getElem_cons_succ, List.setIfInBounds_toArray, List.set_cons_succ, List.set_cons_zero]
      replace hN := hN.later hb
      clear hb
      refine wpAnyH_ready (rs := [4]) (by kernel_rfl) (by simp) ?_
      intro j hj
      rw [List.mem_singleton] at hj
      subst hj
      refine wpAnyH_callS rfl (by kernel_rfl) (by kernel_rfl) (write_cell d a1 u _) hHeld ?_
      intro xc hb hHeld
      try simp only [Act.put, List.getElem_toArray, List.getElem_cons_zero, List.getElem_cons_succ, List.setIfInBounds_toArray, List.set_cons_succ, List.set_cons_zero]
      replace hN := hN.later hb
      clear hb
      refine wpAnyH_ready (rs := [7]) (by kernel_rfl) (by simp) ?_
      intro j hj
      rw [List.mem_singleton] at hj
      subst hj
      refine wpAnyH_callS rfl (by kernel_rfl) (by kernel_rfl) (write_cell (Ce.wr d a1 u) a1 v _) hHeld ?_
      intro xc hb hHeld
      try simp only [Act.put, List.getElem_toArray, List.getElem_cons_zero, List.getElem_cons_succ, List.setIfInBounds_toArray, List.set_cons_succ, List.set_cons_zero]
      replace hN := hN.later hb
      clear hb
      refine wpAnyH_ready (rs := [9]) (by kernel_rfl) (by simp) ?_
      refine AllReadyH.cons (o := _) rfl (fun K hK => ?_) AllReadyH.nil
      rw [if_pos (by kernel_rfl)]
      refine wp_put 31 _ (.tmp 10) (.tmp 57) _ (cv (Ce.wr d a1 v)) _ rfl rfl rfl hN tyC rfl rfl (cv_one _) ?_
      intro Ws hbs hss hNs
      refine hK.out _ _ (Below.but hHeld hHeld.size hbs (fun k e => by rw [e]; exact lb)) (fun hHeld => ?_)
      clear hK K hN hbs hss
      have hN := hNs
      clear hNs
      try simp only [Act.put, List.getElem_toArray, List.getElem_cons_zero, List.getElem_cons_succ]
      refine wpAnyH_done (by kernel_rfl) ?_ _
      refine NoPanic.normal ?_
      generalize hA : ({ tmps := _, defers := [] } : Act) = A
      rw [HQ0.out]
      exact ⟨rfl, _, fun k => A.tmps.getD k undef, (by subst hA; kernel_rfl), hN, hHeld⟩
  case cont =>
    intro e a' Y hq
    rw [HQ0.out] at hq
    obtain ⟨rfl, b, x, rfl, hZ, hb⟩ := hq
    clear HQ0 Q0
    replace hX := hX.later hb
    replace hU := hU.later hb
    replace hV := hV.later hb
    replace hB := hB.trans (hb.mono hB.size)
    clear hb hU
    have HZ := hide (Ce.wr_ok Hd.out (t := a1) (v := v) l1 l2 Hv.out)
    have HS1 := hide (Ce.see_wr (c := d) (t := a1) (v := v) (by have := Hl1.out; omega))
    have HS2 := hide (Ce.see_wr_not (c := d) (t := a1) (s := a1 + 1) (v := v) (by omega))
    have HUN := hide (Ce.undo_wr (t := a1) (v := v) HM.out HT.out)
    have HCO := hide (Ce.commit_wr (c := d) (t := a1) (v := v) (by have := Hl1.out; omega))
    have hZV : (Ce.wr d a1 v).V = d.V := rfl
    have HZV := hide (show (!decide ((Ce.wr d a1 v).V.K = 0)) = true by rw [hZV]; simp [HUN.out.2])
    clear hZV
    generalize hz : Ce.wr d a1 v = z at *
    clear hz
    go_simp
    go_wp2_with (first
      | (refine wpList_get 31 _ (.tmp 10) _ (cv z) rfl rfl rfl hZ tyC rfl ?_))
    refine (undo_cell z _).mono ?_
    rintro e W10 ⟨rfl, hb⟩
    rw [HUN.out.1, HZV.out]
    replace hX := hX.later hb
    replace hV := hV.later hb
    replace hZ := hZ.later hb
    replace hB := hB.trans (hb.mono hB.size)
    clear hb
    go_wp2_with (first
      | (refine wpList_new 31 _ rfl rfl tyC ?_; intro Wn hBn hN)
      | (refine wpList_put 31 _ (.tmp 11) (.tmp 61) _ (cv d) _ rfl rfl rfl rfl hN tyC rfl rfl (cv_one _) ?_; intro Wp hbp hsp hY; have hBp := newput hBn hbp; replace hX := hX.later hBp; replace hV := hV.later hBp; replace hZ := hZ.later hBp; replace hB := hB.trans (hBp.mono hB.size); clear hBn hN hbp hsp hBp)
      | (refine wpList_get 31 _ (.tmp 10) _ (cv z) rfl rfl rfl hZ tyC rfl ?_))
    refine (commit_cell z _).mono ?_
    rintro e W11 ⟨rfl, hb⟩
    rw [HCO.out.1]
    replace hX := hX.later hb
    replace hV := hV.later hb
    replace hZ := hZ.later hb
    replace hY := hY.later hb
    replace hB := hB.trans (hb.mono hB.size)
    clear hb
    cases hk : decide (v.K = 0)
    rotate_left
    · skip
      have hk2 : (v.K != 0) = false := congrArg (!·) hk
      clear hk
      generalize Ce.commit z = q at *
      have Hadd := hide (show IntKind.i64.wrap (a1 + 1) = a1 + 1 by have := Hl2.out; have := Hl1.out; rw [IntKind.wrap_i64]; omega)
      go_wp2_with (first
        | (refine wpList_new 31 _ rfl rfl tyC ?_; intro Wn hBn hN)
        | (refine wpList_put 31 _ (.tmp 13) (.tmp 66) _ (cv q) _ rfl rfl rfl rfl hN tyC rfl rfl (cv_one _) ?_; intro Wp hbp hsp hQ; have hBp := newput hBn hbp; replace hX := hX.later hBp; replace hV := hV.later hBp; replace hZ := hZ.later hBp; replace hY := hY.later hBp; replace hB := hB.trans (hBp.mono hB.size); clear hBn hN hbp hsp hBp))
      have hadd := Hadd.out
      refine wp_region_noPanic ?_
      refine wp_region_held_drew (S := fun W => Below Wp.heap.size Wp W) (by kernel_rfl) ?_ (fun hHeld => ?_)
      · exact (Below.refl _ _).drew
      refine wpAnyH_take (i := 0) (v := ?_) rfl (by kernel_rfl) (by kernel_rfl) (by kernel_rfl) (fun _ _ _ h => h) (Or.inl ⟨by kernel_rfl, ?_⟩) hHeld ?_
      rotate_left
      · intro W hW; go_simp; first | done | with_reducible rfl | rfl
      try simp only [Act.put, List.getElem_toArray, List.getElem_cons_zero, List.setIfInBounds_toArray, List.set_cons_succ, List.set_cons_zero]
      refine wpAnyH_take (i := 1) (v := ?_) rfl (by kernel_rfl) (by kernel_rfl) (by kernel_rfl) (fun _ _ _ h => h) (Or.inl ⟨by kernel_rfl, ?_⟩) hHeld ?_
      rotate_left
      · intro W hW; go_simp; first | done | with_reducible rfl | rfl
      try simp only [Act.put, List.getElem_toArray, List.getElem_cons_zero, List.getElem_cons_succ, List.setIfInBounds_toArray, List.set_cons_succ, List.set_cons_zero]
      refine wpAnyH_take (i := 2) (v := .agg (cv d)) rfl (by kernel_rfl) (by kernel_rfl) (by kernel_rfl) (fun _ _ _ h => h) (yields_bx (by kernel_rfl) _ _ _ rfl _ rfl (cv d) (fun W hW => hY.later hW) tyC rfl) hHeld ?_
      try simp only [Act.put, List.getElem_toArray, List.getElem_cons_zero, List.getElem_cons_succ, List.setIfInBounds_toArray, List.set_cons_succ, List.set_cons_zero]
      refine wpAnyH_take (i := 3) (v := .agg (cv d)) rfl (by kernel_rfl) (by kernel_rfl) (by kernel_rfl) (fun _ _ _ h => h) (yields_bx (by kernel_rfl) _ _ _ rfl _ rfl (cv d) (fun W hW => hX.later hW) tyR rfl) hHeld ?_
      try simp only [Act.put, List.getElem_toArray, List.getElem_cons_zero, List.getElem_cons_succ, List.setIfInBounds_toArray, List.set_cons_succ, List.set_cons_zero]
      refine wpAnyH_callB (i := 4) rfl (by kernel_rfl) (by kernel_rfl) (by kernel_rfl) (of_cell d _) hHeld ?_
      intro xc hb4 hHeld
      try simp only [Act.put, List.getElem_toArray, List.getElem_cons_zero, List.getElem_cons_succ, List.setIfInBounds_toArray, List.set_cons_succ, List.set_cons_zero]
      replace hX := hX.later hHeld
      replace hV := hV.later hHeld
      replace hZ := hZ.later hHeld
      replace hY := hY.later hHeld
      replace hQ := hQ.later hHeld
      replace hB := hB.trans (hHeld.mono hB.size)
      clear hHeld hb4
      have hHeld : Below xc.heap.size xc xc := Below.refl _ _
      refine wpAnyH_callB (i := 5) rfl (by kernel_rfl) (by kernel_rfl) (by kernel_rfl) (eq_cell d d _ Hd.out Hd.out) hHeld ?_
      intro xc hb4 hHeld
      rw [Ce.eq_refl]
      try simp only [Act.put, List.getElem_toArray, List.getElem_cons_zero, List.getElem_cons_succ, List.setIfInBounds_toArray, List.set_cons_succ, List.set_cons_zero]
      replace hX := hX.later hHeld
      replace hV := hV.later hHeld
      replace hZ := hZ.later hHeld
      replace hY := hY.later hHeld
      replace hQ := hQ.later hHeld
      replace hB := hB.trans (hHeld.mono hB.size)
      clear hHeld hb4
      have hHeld : Below xc.heap.size xc xc := Below.refl _ _
      refine wpAnyH_take (i := 6) (v := ?_) rfl (by kernel_rfl) (by kernel_rfl) (by kernel_rfl) (fun _ _ _ h => h) (Or.inl ⟨by kernel_rfl, ?_⟩) hHeld ?_
      rotate_left
      · intro W hW; go_simp; first | done | with_reducible rfl | rfl
      try simp only [Act.put, List.getElem_toArray, List.getElem_cons_zero, List.getElem_cons_succ, List.setIfInBounds_toArray, List.set_cons_succ, List.set_cons_zero]
      refine wpAnyH_take (i := 7) (v := ?_) rfl (by kernel_rfl) (by kernel_rfl) (by kernel_rfl) (fun _ _ _ h => h) (Or.inl ⟨by kernel_rfl, ?_⟩) hHeld ?_
      rotate_left
      · intro W hW; go_simp; first | done | with_reducible rfl | rfl
      try simp only [Act.put, List.getElem_toArray, List.getElem_cons_zero, List.getElem_cons_succ, List.setIfInBounds_toArray, List.set_cons_succ, List.set_cons_zero]
      refine wpAnyH_take (i := 8) (v := .agg (cv z)) rfl (by kernel_rfl) (by kernel_rfl) (by kernel_rfl) (fun _ _ _ h => h) (yields_bx (by kernel_rfl) _ _ _ rfl _ rfl (cv z) (fun W hW => hZ.later hW) tyC rfl) hHeld ?_
      try simp only [Act.put, List.getElem_toArray, List.getElem_cons_zero, List.getElem_cons_succ, List.setIfInBounds_toArray, List.set_cons_succ, List.set_cons_zero]
      refine wpAnyH_take (i := 9) (v := ?_) rfl (by kernel_rfl) (by kernel_rfl) (by kernel_rfl) (fun _ _ _ h => h) (Or.inl ⟨by kernel_rfl, ?_⟩) hHeld ?_
      rotate_left
      · intro W hW; go_simp; first | done | with_reducible rfl | rfl
      try simp only [Act.put, List.getElem_toArray, List.getElem_cons_zero, List.getElem_cons_succ, List.setIfInBounds_toArray, List.set_cons_succ, List.set_cons_zero]
      refine wpAnyH_take (i := 11) (v := .agg (va v)) rfl (by kernel_rfl) (by kernel_rfl) (by kernel_rfl) (fun _ _ _ h => h) (yields_bx (by kernel_rfl) _ _ _ rfl _ rfl (va v) (fun W hW => hV.later hW) tyV rfl) hHeld ?_
      try simp only [Act.put, List.getElem_toArray, List.getElem_cons_zero, List.getElem_cons_succ, List.setIfInBounds_toArray, List.set_cons_succ, List.set_cons_zero]
      refine wpAnyH_callB (i := 10) rfl (by kernel_rfl) (by kernel_rfl) (by kernel_rfl) (see_cell z a1 _) hHeld ?_
      intro xc hb4 hHeld
      rw [HS1.out]
      try simp only [Act.put, List.getElem_toArray, List.getElem_cons_zero, List.getElem_cons_succ, List.setIfInBounds_toArray, List.set_cons_succ, List.set_cons_zero]
      replace hX := hX.later hHeld
      replace hV := hV.later hHeld
      replace hZ := hZ.later hHeld
      replace hY := hY.later hHeld
      replace hQ := hQ.later hHeld
      replace hB := hB.trans (hHeld.mono hB.size)
      clear hHeld hb4
      have hHeld : Below xc.heap.size xc xc := Below.refl _ _
      refine wpAnyH_callB (i := 12) rfl (by kernel_rfl) (by kernel_rfl) (by kernel_rfl) (refEq_va v v _ Hv.out Hv.out) hHeld ?_
      intro xc hb4 hHeld
      rw [Va.eq_refl]
      try simp only [Act.put, List.getElem_toArray, List.getElem_cons_zero, List.getElem_cons_succ, List.setIfInBounds_toArray, List.set_cons_succ, List.set_cons_zero]
      replace hX := hX.later hHeld
      replace hV := hV.later hHeld
      replace hZ := hZ.later hHeld
      replace hY := hY.later hHeld
      replace hQ := hQ.later hHeld
      replace hB := hB.trans (hHeld.mono hB.size)
      clear hHeld hb4
      have hHeld : Below xc.heap.size xc xc := Below.refl _ _
      refine wpAnyH_take (i := 13) (v := ?_) rfl (by kernel_rfl) (by kernel_rfl) (by kernel_rfl) (fun _ _ _ h => h) (Or.inl ⟨by kernel_rfl, ?_⟩) hHeld ?_
      rotate_left
      · intro W hW; go_simp; first | done | with_reducible rfl | rfl
      try simp only [Act.put, List.getElem_toArray, List.getElem_cons_zero, List.getElem_cons_succ, List.setIfInBounds_toArray, List.set_cons_succ, List.set_cons_zero]
      refine wpAnyH_take (i := 14) (v := ?_) rfl (by kernel_rfl) (by kernel_rfl) (by kernel_rfl) (fun _ _ _ h => h) (Or.inl ⟨by kernel_rfl, ?_⟩) hHeld ?_
      rotate_left
      · intro W hW; go_simp; first | done | with_reducible rfl | rfl
      try simp only [Act.put, List.getElem_toArray, List.getElem_cons_zero, List.getElem_cons_succ, List.setIfInBounds_toArray, List.set_cons_succ, List.set_cons_zero]
      refine wpAnyH_take (i := 15) (v := .agg (cv z)) rfl (by kernel_rfl) (by kernel_rfl) (by kernel_rfl) (fun _ _ _ h => h) (yields_bx (by kernel_rfl) _ _ _ rfl _ rfl (cv z) (fun W hW => hZ.later hW) tyC rfl) hHeld ?_
      try simp only [Act.put, List.getElem_toArray, List.getElem_cons_zero, List.getElem_cons_succ, List.setIfInBounds_toArray, List.set_cons_succ, List.set_cons_zero]
      refine wpAnyH_take (i := 16) (v := ?_) rfl (by kernel_rfl) (by kernel_rfl) (by kernel_rfl) (fun _ _ _ h => h) (Or.inl ⟨by kernel_rfl, ?_⟩) hHeld ?_
      rotate_left
      · intro W hW; go_simp; first | done | with_reducible rfl | rfl
      try simp only [Act.put, List.getElem_toArray, List.getElem_cons_zero, List.getElem_cons_succ, List.setIfInBounds_toArray, List.set_cons_succ, List.set_cons_zero]
      refine wpAnyH_take (i := 17) (v := .int .i64 (a1 + 1)) rfl (by kernel_rfl) (by kernel_rfl) (by kernel_rfl) (fun _ _ _ h => h) (Or.inl ⟨by kernel_rfl, ?_⟩) hHeld ?_
      · intro W hW; go_simp; first | done | with_reducible rfl | rfl
      try simp only [Act.put, List.getElem_toArray, List.getElem_cons_zero, List.getElem_cons_succ, List.setIfInBounds_toArray, List.set_cons_succ, List.set_cons_zero]
      refine wpAnyH_take (i := 19) (v := ?_) rfl (by kernel_rfl) (by kernel_rfl) (by kernel_rfl) (fun _ _ _ h => h) (Or.inl ⟨by kernel_rfl, ?_⟩) hHeld ?_
      rotate_left
      · intro W hW; go_simp; first | done | with_reducible rfl | rfl
      try simp only [Act.put, List.getElem_toArray, List.getElem_cons_zero, List.getElem_cons_succ, List.setIfInBounds_toArray, List.set_cons_succ, List.set_cons_zero]
      refine wpAnyH_take (i := 20) (v := .agg (va (d).V)) rfl (by kernel_rfl) (by kernel_rfl) (by kernel_rfl) (fun _ _ _ h => h) (yields_part1 (by kernel_rfl) _ rfl _ rfl (fun W hW => hX.later hW)) hHeld ?_
      try simp only [Act.put, List.getElem_toArray, List.getElem_cons_zero, List.getElem_cons_succ, List.setIfInBounds_toArray, List.set_cons_succ, List.set_cons_zero]
      refine wpAnyH_callB (i := 18) rfl (by kernel_rfl) (by kernel_rfl) (by kernel_rfl) (see_cell z (a1 + 1) _) hHeld ?_
      intro xc hb4 hHeld
      rw [HS2.out]
      try simp only [Act.put, List.getElem_toArray, List.getElem_cons_zero, List.getElem_cons_succ, List.setIfInBounds_toArray, List.set_cons_succ, List.set_cons_zero]
      replace hX := hX.later hHeld
      replace hV := hV.later hHeld
      replace hZ := hZ.later hHeld
      replace hY := hY.later hHeld
      replace hQ := hQ.later hHeld
      replace hB := hB.trans (hHeld.mono hB.size)
      clear hHeld hb4
      have hHeld : Below xc.heap.size xc xc := Below.refl _ _
      refine wpAnyH_callB (i := 21) rfl (by kernel_rfl) (by kernel_rfl) (by kernel_rfl) (refEq_va d.V d.V _ Hd.out.v Hd.out.v) hHeld ?_
      intro xc hb4 hHeld
      rw [Va.eq_refl]
      try simp only [Act.put, List.getElem_toArray, List.getElem_cons_zero, List.getElem_cons_succ, List.setIfInBounds_toArray, List.set_cons_succ, List.set_cons_zero]
      replace hX := hX.later hHeld
      replace hV := hV.later hHeld
      replace hZ := hZ.later hHeld
      replace hY := hY.later hHeld
      replace hQ := hQ.later hHeld
      replace hB := hB.trans (hHeld.mono hB.size)
      clear hHeld hb4
      have hHeld : Below xc.heap.size xc xc := Below.refl _ _
      refine wpAnyH_take (i := 22) (v := ?_) rfl (by kernel_rfl) (by kernel_rfl) (by kernel_rfl) (fun _ _ _ h => h) (Or.inl ⟨by kernel_rfl, ?_⟩) hHeld ?_
      rotate_left
      · intro W hW; go_simp; first | done | with_reducible rfl | rfl
      try simp only [Act.put, List.getElem_toArray, List.getElem_cons_zero, List.getElem_cons_succ, List.setIfInBounds_toArray, List.set_cons_succ, List.set_cons_zero]
      refine wpAnyH_take (i := 23) (v := ?_) rfl (by kernel_rfl) (by kernel_rfl) (by kernel_rfl) (fun _ _ _ h => h) (Or.inl ⟨by kernel_rfl, ?_⟩) hHeld ?_
      rotate_left
      · intro W hW; go_simp; first | done | with_reducible rfl | rfl
      try simp only [Act.put, List.getElem_toArray, List.getElem_cons_zero, List.getElem_cons_succ, List.setIfInBounds_toArray, List.set_cons_succ, List.set_cons_zero]
      refine wpAnyH_take (i := 24) (v := ?_) rfl (by kernel_rfl) (by kernel_rfl) (by kernel_rfl) (fun _ _ _ h => h) (Or.inl ⟨by kernel_rfl, ?_⟩) hHeld ?_
      rotate_left
      · intro W hW; go_simp; first | done | with_reducible rfl | rfl
      try simp only [Act.put, List.getElem_toArray, List.getElem_cons_zero, List.getElem_cons_succ, List.setIfInBounds_toArray, List.set_cons_succ, List.set_cons_zero]
      refine wpAnyH_take (i := 25) (v := ?_) rfl (by kernel_rfl) (by kernel_rfl) (by kernel_rfl) (fun _ _ _ h => h) (Or.inl ⟨by kernel_rfl, ?_⟩) hHeld ?_
      rotate_left
      · intro W hW; go_simp; first | done | with_reducible rfl | rfl
      try simp only [Act.put, List.getElem_toArray, List.getElem_cons_zero, List.getElem_cons_succ, List.setIfInBounds_toArray, List.set_cons_succ, List.set_cons_zero]
      refine wpAnyH_take (i := 26) (v := .int .i64 v.K) rfl (by kernel_rfl) (by kernel_rfl) (by kernel_rfl) (fun _ _ _ h => h) (Or.inl ⟨by kernel_rfl, ?_⟩) hHeld ?_
      · intro W hW; have v0 := (hV.later hW).v0; clear hW; go_simp; first | done | with_reducible rfl | rfl
      try simp only [Act.put, List.getElem_toArray, List.getElem_cons_zero, List.getElem_cons_succ, List.setIfInBounds_toArray, List.set_cons_succ, List.set_cons_zero]
      refine wpAnyH_take (i := 27) (v := .bool false) rfl (by kernel_rfl) (by kernel_rfl) (by kernel_rfl) (fun _ _ _ h => h) (Or.inl ⟨by kernel_rfl, ?_⟩) hHeld ?_
      · intro W hW; go_simp; first | done | with_reducible rfl | rfl
      try simp only [Act.put, List.getElem_toArray, List.getElem_cons_zero, List.getElem_cons_succ, List.setIfInBounds_toArray, List.set_cons_succ, List.set_cons_zero]
      refine wpAnyH_take (i := 28) (v := .bool true) rfl (by kernel_rfl) (by kernel_rfl) (by kernel_rfl) (fun _ _ _ h => h) (Or.inl ⟨by kernel_rfl, ?_⟩) hHeld ?_
      · intro W hW; go_simp; first | done | with_reducible rfl | rfl
      try simp only [Act.put, List.getElem_toArray, List.getElem_cons_zero, List.getElem_cons_succ, List.setIfInBounds_toArray, List.set_cons_succ, List.set_cons_zero]
      refine wpAnyH_take (i := 29) (v := ?_) rfl (by kernel_rfl) (by kernel_rfl) (by kernel_rfl) (fun _ _ _ h => h) (Or.inl ⟨by kernel_rfl, ?_⟩) hHeld ?_
      rotate_left
      · intro W hW; go_simp; first | done | with_reducible rfl | rfl
      try simp only [Act.put, List.getElem_toArray, List.getElem_cons_zero, List.getElem_cons_succ, List.setIfInBounds_toArray, List.set_cons_succ, List.set_cons_zero]
      refine wpAnyH_take (i := 30) (v := ?_) rfl (by kernel_rfl) (by kernel_rfl) (by kernel_rfl) (fun _ _ _ h => h) (Or.inl ⟨by kernel_rfl, ?_⟩) hHeld ?_
      rotate_left
      · intro W hW; go_simp; first | done | with_reducible rfl | rfl
      try simp only [Act.put, List.getElem_toArray, List.getElem_cons_zero, List.getElem_cons_succ, List.setIfInBounds_toArray, List.set_cons_succ, List.set_cons_zero]
      refine wpAnyH_take (i := 31) (v := ?_) rfl (by kernel_rfl) (by kernel_rfl) (by kernel_rfl) (fun _ _ _ h => h) (Or.inl ⟨by kernel_rfl, ?_⟩) hHeld ?_
      rotate_left
      · intro W hW; go_simp; first | done | with_reducible rfl | rfl
      try simp only [Act.put, List.getElem_toArray, List.getElem_cons_zero, List.getElem_cons_succ, List.setIfInBounds_toArray, List.set_cons_succ, List.set_cons_zero]
      refine wpAnyH_take (i := 32) (v := ?_) rfl (by kernel_rfl) (by kernel_rfl) (by kernel_rfl) (fun _ _ _ h => h) (Or.inl ⟨by kernel_rfl, ?_⟩) hHeld ?_
      rotate_left
      · intro W hW; go_simp; first | done | with_reducible rfl | rfl
      try simp only [Act.put, List.getElem_toArray, List.getElem_cons_zero, List.getElem_cons_succ, List.setIfInBounds_toArray, List.set_cons_succ, List.set_cons_zero]
      refine wpAnyH_take (i := 33) (v := ?_) rfl (by kernel_rfl) (by kernel_rfl) (by kernel_rfl) (fun _ _ _ h => h) (Or.inl ⟨by kernel_rfl, ?_⟩) hHeld ?_
      rotate_left
      · intro W hW; go_simp; first | done | with_reducible rfl | rfl
      try simp only [Act.put, List.getElem_toArray, List.getElem_cons_zero, List.getElem_cons_succ, List.setIfInBounds_toArray, List.set_cons_succ, List.set_cons_zero]
      refine wpAnyH_take (i := 34) (v := undef) rfl (by kernel_rfl) (by kernel_rfl) (by kernel_rfl) (fun _ _ _ h => h) (Or.inr ⟨by kernel_rfl, rfl⟩) hHeld ?_
      try simp only [Act.put, List.getElem_toArray, List.getElem_cons_zero, List.getElem_cons_succ, List.setIfInBounds_toArray, List.set_cons_succ, List.set_cons_zero]
      refine wpAnyH_take (i := 35) (v := undef) rfl (by kernel_rfl) (by kernel_rfl) (by kernel_rfl) (fun _ _ _ h => h) (Or.inr ⟨by kernel_rfl, rfl⟩) hHeld ?_
      try simp only [Act.put, List.getElem_toArray, List.getElem_cons_zero, List.getElem_cons_succ, List.setIfInBounds_toArray, List.set_cons_succ, List.set_cons_zero]
      refine wpAnyH_take (i := 36) (v := undef) rfl (by kernel_rfl) (by kernel_rfl) (by kernel_rfl) (fun _ _ _ h => h) (Or.inr ⟨by kernel_rfl, rfl⟩) hHeld ?_
      try simp only [Act.put, List.getElem_toArray, List.getElem_cons_zero, List.getElem_cons_succ, List.setIfInBounds_toArray, List.set_cons_succ, List.set_cons_zero]
      refine wpAnyH_off (i := 37) rfl (by kernel_rfl) (by kernel_rfl) hHeld ?_
      try simp only [Act.put, List.getElem_toArray, List.getElem_cons_zero, List.getElem_cons_succ, List.setIfInBounds_toArray, List.set_cons_succ, List.set_cons_zero]
      refine wpAnyH_take (i := 38) (v := undef) rfl (by kernel_rfl) (by kernel_rfl) (by kernel_rfl) (fun _ _ _ h => h) (Or.inr ⟨by kernel_rfl, rfl⟩) hHeld ?_
      try simp only [Act.put, List.getElem_toArray, List.getElem_cons_zero, List.getElem_cons_succ, List.setIfInBounds_toArray, List.set_cons_succ, List.set_cons_zero]
      refine wpAnyH_take (i := 39) (v := undef) rfl (by kernel_rfl) (by kernel_rfl) (by kernel_rfl) (fun _ _ _ h => h) (Or.inr ⟨by kernel_rfl, rfl⟩) hHeld ?_
      try simp only [Act.put, List.getElem_toArray, List.getElem_cons_zero, List.getElem_cons_succ, List.setIfInBounds_toArray, List.set_cons_succ, List.set_cons_zero]
      refine wpAnyH_take (i := 40) (v := undef) rfl (by kernel_rfl) (by kernel_rfl) (by kernel_rfl) (fun _ _ _ h => h) (Or.inr ⟨by kernel_rfl, rfl⟩) hHeld ?_
      try simp only [Act.put, List.getElem_toArray, List.getElem_cons_zero, List.getElem_cons_succ, List.setIfInBounds_toArray, List.set_cons_succ, List.set_cons_zero]
      refine wpAnyH_take (i := 41) (v := undef) rfl (by kernel_rfl) (by kernel_rfl) (by kernel_rfl) (fun _ _ _ h => h) (Or.inr ⟨by kernel_rfl, rfl⟩) hHeld ?_
      try simp only [Act.put, List.getElem_toArray, List.getElem_cons_zero, List.getElem_cons_succ, List.setIfInBounds_toArray, List.set_cons_succ, List.set_cons_zero]
      refine wpAnyH_take (i := 42) (v := undef) rfl (by kernel_rfl) (by kernel_rfl) (by kernel_rfl) (fun _ _ _ h => h) (Or.inr ⟨by kernel_rfl, rfl⟩) hHeld ?_
      try simp only [Act.put, List.getElem_toArray, List.getElem_cons_zero, List.getElem_cons_succ, List.setIfInBounds_toArray, List.set_cons_succ, List.set_cons_zero]
      refine wpAnyH_take (i := 43) (v := ?_) rfl (by kernel_rfl) (by kernel_rfl) (by kernel_rfl) (fun _ _ _ h => h) (Or.inl ⟨by kernel_rfl, ?_⟩) hHeld ?_
      rotate_left
      · intro W hW; go_simp; first | done | with_reducible rfl | rfl
      try simp only [Act.put, List.getElem_toArray, List.getElem_cons_zero, List.getElem_cons_succ, List.setIfInBounds_toArray, List.set_cons_succ, List.set_cons_zero]
      refine wpAnyH_take (i := 44) (v := ?_) rfl (by kernel_rfl) (by kernel_rfl) (by kernel_rfl) (fun _ _ _ h => h) (Or.inl ⟨by kernel_rfl, ?_⟩) hHeld ?_
      rotate_left
      · intro W hW; go_simp; first | done | with_reducible rfl | rfl
      try simp only [Act.put, List.getElem_toArray, List.getElem_cons_zero, List.getElem_cons_succ, List.setIfInBounds_toArray, List.set_cons_succ, List.set_cons_zero]
      refine wpAnyH_take (i := 45) (v := ?_) rfl (by kernel_rfl) (by kernel_rfl) (by kernel_rfl) (fun _ _ _ h => h) (Or.inl ⟨by kernel_rfl, ?_⟩) hHeld ?_
      rotate_left
      · intro W hW; go_simp; first | done | with_reducible rfl | rfl
      try simp only [Act.put, List.getElem_toArray, List.getElem_cons_zero, List.getElem_cons_succ, List.setIfInBounds_toArray, List.set_cons_succ, List.set_cons_zero]
      refine wpAnyH_done (by kernel_rfl) ?_ _
      refine NoPanic.normal ?_
      go_simp
      go_wp2_with fail
      go_ret
      exact ⟨rfl, hB⟩
    · skip
      have hk2 : (v.K != 0) = true := congrArg (!·) hk
      have HQ := hide (HCO.out.2 (of_decide_eq_false hk))
      clear hk
      have Hadd := hide (show IntKind.i64.wrap (a1 + 1) = a1 + 1 by have := Hl2.out; have := Hl1.out; rw [IntKind.wrap_i64]; omega)
      have Hq := hide (show (Ce.commit z).V.Ok by rw [HQ.out]; exact Hv.out)
      have HqE := hide (show (Ce.commit z).V.eq v = true by rw [HQ.out]; exact Va.eq_refl v)
      have hqT : (Ce.commit z).T = 0 := by rw [HQ.out]
      clear HQ HCO
      generalize Ce.commit z = q at *
      go_wp2_with (first
        | (refine wpList_new 31 _ rfl rfl tyC ?_; intro Wn hBn hN)
        | (refine wpList_put 31 _ (.tmp 13) (.tmp 66) _ (cv q) _ rfl rfl rfl rfl hN tyC rfl rfl (cv_one _) ?_; intro Wp hbp hsp hQ; have hBp := newput hBn hbp; replace hX := hX.later hBp; replace hV := hV.later hBp; replace hZ := hZ.later hBp; replace hY := hY.later hBp; replace hB := hB.trans (hBp.mono hB.size); clear hBn hN hbp hsp hBp))
      have hadd := Hadd.out
      refine wp_region_noPanic ?_
      refine wp_region_held_drew (S := fun W => Below Wp.heap.size Wp W) (by kernel_rfl) ?_ (fun hHeld => ?_)
      · exact (Below.refl _ _).drew
      refine wpAnyH_take (i := 0) (v := ?_) rfl (by kernel_rfl) (by kernel_rfl) (by kernel_rfl) (fun _ _ _ h => h) (Or.inl ⟨by kernel_rfl, ?_⟩) hHeld ?_
      rotate_left
      · intro W hW; go_simp; first | done | with_reducible rfl | rfl
      try simp only [Act.put, List.getElem_toArray, List.getElem_cons_zero, List.setIfInBounds_toArray, List.set_cons_succ, List.set_cons_zero]
      refine wpAnyH_take (i := 1) (v := ?_) rfl (by kernel_rfl) (by kernel_rfl) (by kernel_rfl) (fun _ _ _ h => h) (Or.inl ⟨by kernel_rfl, ?_⟩) hHeld ?_
      rotate_left
      · intro W hW; go_simp; first | done | with_reducible rfl | rfl
      try simp only [Act.put, List.getElem_toArray, List.getElem_cons_zero, List.getElem_cons_succ, List.setIfInBounds_toArray, List.set_cons_succ, List.set_cons_zero]
      refine wpAnyH_take (i := 2) (v := .agg (cv d)) rfl (by kernel_rfl) (by kernel_rfl) (by kernel_rfl) (fun _ _ _ h => h) (yields_bx (by kernel_rfl) _ _ _ rfl _ rfl (cv d) (fun W hW => hY.later hW) tyC rfl) hHeld ?_
      try simp only [Act.put, List.getElem_toArray, List.getElem_cons_zero, List.getElem_cons_succ, List.setIfInBounds_toArray, List.set_cons_succ, List.set_cons_zero]
      refine wpAnyH_take (i := 3) (v := .agg (cv d)) rfl (by kernel_rfl) (by kernel_rfl) (by kernel_rfl) (fun _ _ _ h => h) (yields_bx (by kernel_rfl) _ _ _ rfl _ rfl (cv d) (fun W hW => hX.later hW) tyR rfl) hHeld ?_
      try simp only [Act.put, List.getElem_toArray, List.getElem_cons_zero, List.getElem_cons_succ, List.setIfInBounds_toArray, List.set_cons_succ, List.set_cons_zero]
      refine wpAnyH_callB (i := 4) rfl (by kernel_rfl) (by kernel_rfl) (by kernel_rfl) (of_cell d _) hHeld ?_
      intro xc hb4 hHeld
      try simp only [Act.put, List.getElem_toArray, List.getElem_cons_zero, List.getElem_cons_succ, List.setIfInBounds_toArray, List.set_cons_succ, List.set_cons_zero]
      replace hX := hX.later hHeld
      replace hV := hV.later hHeld
      replace hZ := hZ.later hHeld
      replace hY := hY.later hHeld
      replace hQ := hQ.later hHeld
      replace hB := hB.trans (hHeld.mono hB.size)
      clear hHeld hb4
      have hHeld : Below xc.heap.size xc xc := Below.refl _ _
      refine wpAnyH_callB (i := 5) rfl (by kernel_rfl) (by kernel_rfl) (by kernel_rfl) (eq_cell d d _ Hd.out Hd.out) hHeld ?_
      intro xc hb4 hHeld
      rw [Ce.eq_refl]
      try simp only [Act.put, List.getElem_toArray, List.getElem_cons_zero, List.getElem_cons_succ, List.setIfInBounds_toArray, List.set_cons_succ, List.set_cons_zero]
      replace hX := hX.later hHeld
      replace hV := hV.later hHeld
      replace hZ := hZ.later hHeld
      replace hY := hY.later hHeld
      replace hQ := hQ.later hHeld
      replace hB := hB.trans (hHeld.mono hB.size)
      clear hHeld hb4
      have hHeld : Below xc.heap.size xc xc := Below.refl _ _
      refine wpAnyH_take (i := 6) (v := ?_) rfl (by kernel_rfl) (by kernel_rfl) (by kernel_rfl) (fun _ _ _ h => h) (Or.inl ⟨by kernel_rfl, ?_⟩) hHeld ?_
      rotate_left
      · intro W hW; go_simp; first | done | with_reducible rfl | rfl
      try simp only [Act.put, List.getElem_toArray, List.getElem_cons_zero, List.getElem_cons_succ, List.setIfInBounds_toArray, List.set_cons_succ, List.set_cons_zero]
      refine wpAnyH_take (i := 7) (v := ?_) rfl (by kernel_rfl) (by kernel_rfl) (by kernel_rfl) (fun _ _ _ h => h) (Or.inl ⟨by kernel_rfl, ?_⟩) hHeld ?_
      rotate_left
      · intro W hW; go_simp; first | done | with_reducible rfl | rfl
      try simp only [Act.put, List.getElem_toArray, List.getElem_cons_zero, List.getElem_cons_succ, List.setIfInBounds_toArray, List.set_cons_succ, List.set_cons_zero]
      refine wpAnyH_take (i := 8) (v := .agg (cv z)) rfl (by kernel_rfl) (by kernel_rfl) (by kernel_rfl) (fun _ _ _ h => h) (yields_bx (by kernel_rfl) _ _ _ rfl _ rfl (cv z) (fun W hW => hZ.later hW) tyC rfl) hHeld ?_
      try simp only [Act.put, List.getElem_toArray, List.getElem_cons_zero, List.getElem_cons_succ, List.setIfInBounds_toArray, List.set_cons_succ, List.set_cons_zero]
      refine wpAnyH_take (i := 9) (v := ?_) rfl (by kernel_rfl) (by kernel_rfl) (by kernel_rfl) (fun _ _ _ h => h) (Or.inl ⟨by kernel_rfl, ?_⟩) hHeld ?_
      rotate_left
      · intro W hW; go_simp; first | done | with_reducible rfl | rfl
      try simp only [Act.put, List.getElem_toArray, List.getElem_cons_zero, List.getElem_cons_succ, List.setIfInBounds_toArray, List.set_cons_succ, List.set_cons_zero]
      refine wpAnyH_take (i := 11) (v := .agg (va v)) rfl (by kernel_rfl) (by kernel_rfl) (by kernel_rfl) (fun _ _ _ h => h) (yields_bx (by kernel_rfl) _ _ _ rfl _ rfl (va v) (fun W hW => hV.later hW) tyV rfl) hHeld ?_
      try simp only [Act.put, List.getElem_toArray, List.getElem_cons_zero, List.getElem_cons_succ, List.setIfInBounds_toArray, List.set_cons_succ, List.set_cons_zero]
      refine wpAnyH_callB (i := 10) rfl (by kernel_rfl) (by kernel_rfl) (by kernel_rfl) (see_cell z a1 _) hHeld ?_
      intro xc hb4 hHeld
      rw [HS1.out]
      try simp only [Act.put, List.getElem_toArray, List.getElem_cons_zero, List.getElem_cons_succ, List.setIfInBounds_toArray, List.set_cons_succ, List.set_cons_zero]
      replace hX := hX.later hHeld
      replace hV := hV.later hHeld
      replace hZ := hZ.later hHeld
      replace hY := hY.later hHeld
      replace hQ := hQ.later hHeld
      replace hB := hB.trans (hHeld.mono hB.size)
      clear hHeld hb4
      have hHeld : Below xc.heap.size xc xc := Below.refl _ _
      refine wpAnyH_callB (i := 12) rfl (by kernel_rfl) (by kernel_rfl) (by kernel_rfl) (refEq_va v v _ Hv.out Hv.out) hHeld ?_
      intro xc hb4 hHeld
      rw [Va.eq_refl]
      try simp only [Act.put, List.getElem_toArray, List.getElem_cons_zero, List.getElem_cons_succ, List.setIfInBounds_toArray, List.set_cons_succ, List.set_cons_zero]
      replace hX := hX.later hHeld
      replace hV := hV.later hHeld
      replace hZ := hZ.later hHeld
      replace hY := hY.later hHeld
      replace hQ := hQ.later hHeld
      replace hB := hB.trans (hHeld.mono hB.size)
      clear hHeld hb4
      have hHeld : Below xc.heap.size xc xc := Below.refl _ _
      refine wpAnyH_take (i := 13) (v := ?_) rfl (by kernel_rfl) (by kernel_rfl) (by kernel_rfl) (fun _ _ _ h => h) (Or.inl ⟨by kernel_rfl, ?_⟩) hHeld ?_
      rotate_left
      · intro W hW; go_simp; first | done | with_reducible rfl | rfl
      try simp only [Act.put, List.getElem_toArray, List.getElem_cons_zero, List.getElem_cons_succ, List.setIfInBounds_toArray, List.set_cons_succ, List.set_cons_zero]
      refine wpAnyH_take (i := 14) (v := ?_) rfl (by kernel_rfl) (by kernel_rfl) (by kernel_rfl) (fun _ _ _ h => h) (Or.inl ⟨by kernel_rfl, ?_⟩) hHeld ?_
      rotate_left
      · intro W hW; go_simp; first | done | with_reducible rfl | rfl
      try simp only [Act.put, List.getElem_toArray, List.getElem_cons_zero, List.getElem_cons_succ, List.setIfInBounds_toArray, List.set_cons_succ, List.set_cons_zero]
      refine wpAnyH_take (i := 15) (v := .agg (cv z)) rfl (by kernel_rfl) (by kernel_rfl) (by kernel_rfl) (fun _ _ _ h => h) (yields_bx (by kernel_rfl) _ _ _ rfl _ rfl (cv z) (fun W hW => hZ.later hW) tyC rfl) hHeld ?_
      try simp only [Act.put, List.getElem_toArray, List.getElem_cons_zero, List.getElem_cons_succ, List.setIfInBounds_toArray, List.set_cons_succ, List.set_cons_zero]
      refine wpAnyH_take (i := 16) (v := ?_) rfl (by kernel_rfl) (by kernel_rfl) (by kernel_rfl) (fun _ _ _ h => h) (Or.inl ⟨by kernel_rfl, ?_⟩) hHeld ?_
      rotate_left
      · intro W hW; go_simp; first | done | with_reducible rfl | rfl
      try simp only [Act.put, List.getElem_toArray, List.getElem_cons_zero, List.getElem_cons_succ, List.setIfInBounds_toArray, List.set_cons_succ, List.set_cons_zero]
      refine wpAnyH_take (i := 17) (v := .int .i64 (a1 + 1)) rfl (by kernel_rfl) (by kernel_rfl) (by kernel_rfl) (fun _ _ _ h => h) (Or.inl ⟨by kernel_rfl, ?_⟩) hHeld ?_
      · intro W hW; go_simp; first | done | with_reducible rfl | rfl
      try simp only [Act.put, List.getElem_toArray, List.getElem_cons_zero, List.getElem_cons_succ, List.setIfInBounds_toArray, List.set_cons_succ, List.set_cons_zero]
      refine wpAnyH_take (i := 19) (v := ?_) rfl (by kernel_rfl) (by kernel_rfl) (by kernel_rfl) (fun _ _ _ h => h) (Or.inl ⟨by kernel_rfl, ?_⟩) hHeld ?_
      rotate_left
      · intro W hW; go_simp; first | done | with_reducible rfl | rfl
      try simp only [Act.put, List.getElem_toArray, List.getElem_cons_zero, List.getElem_cons_succ, List.setIfInBounds_toArray, List.set_cons_succ, List.set_cons_zero]
      refine wpAnyH_take (i := 20) (v := .agg (va (d).V)) rfl (by kernel_rfl) (by kernel_rfl) (by kernel_rfl) (fun _ _ _ h => h) (yields_part1 (by kernel_rfl) _ rfl _ rfl (fun W hW => hX.later hW)) hHeld ?_
      try simp only [Act.put, List.getElem_toArray, List.getElem_cons_zero, List.getElem_cons_succ, List.setIfInBounds_toArray, List.set_cons_succ, List.set_cons_zero]
      refine wpAnyH_callB (i := 18) rfl (by kernel_rfl) (by kernel_rfl) (by kernel_rfl) (see_cell z (a1 + 1) _) hHeld ?_
      intro xc hb4 hHeld
      rw [HS2.out]
      try simp only [Act.put, List.getElem_toArray, List.getElem_cons_zero, List.getElem_cons_succ, List.setIfInBounds_toArray, List.set_cons_succ, List.set_cons_zero]
      replace hX := hX.later hHeld
      replace hV := hV.later hHeld
      replace hZ := hZ.later hHeld
      replace hY := hY.later hHeld
      replace hQ := hQ.later hHeld
      replace hB := hB.trans (hHeld.mono hB.size)
      clear hHeld hb4
      have hHeld : Below xc.heap.size xc xc := Below.refl _ _
      refine wpAnyH_callB (i := 21) rfl (by kernel_rfl) (by kernel_rfl) (by kernel_rfl) (refEq_va d.V d.V _ Hd.out.v Hd.out.v) hHeld ?_
      intro xc hb4 hHeld
      rw [Va.eq_refl]
      try simp only [Act.put, List.getElem_toArray, List.getElem_cons_zero, List.getElem_cons_succ, List.setIfInBounds_toArray, List.set_cons_succ, List.set_cons_zero]
      replace hX := hX.later hHeld
      replace hV := hV.later hHeld
      replace hZ := hZ.later hHeld
      replace hY := hY.later hHeld
      replace hQ := hQ.later hHeld
      replace hB := hB.trans (hHeld.mono hB.size)
      clear hHeld hb4
      have hHeld : Below xc.heap.size xc xc := Below.refl _ _
      refine wpAnyH_take (i := 22) (v := ?_) rfl (by kernel_rfl) (by kernel_rfl) (by kernel_rfl) (fun _ _ _ h => h) (Or.inl ⟨by kernel_rfl, ?_⟩) hHeld ?_
      rotate_left
      · intro W hW; go_simp; first | done | with_reducible rfl | rfl
      try simp only [Act.put, List.getElem_toArray, List.getElem_cons_zero, List.getElem_cons_succ, List.setIfInBounds_toArray, List.set_cons_succ, List.set_cons_zero]
      refine wpAnyH_take (i := 23) (v := ?_) rfl (by kernel_rfl) (by kernel_rfl) (by kernel_rfl) (fun _ _ _ h => h) (Or.inl ⟨by kernel_rfl, ?_⟩) hHeld ?_
      rotate_left
      · intro W hW; go_simp; first | done | with_reducible rfl | rfl
      try simp only [Act.put, List.getElem_toArray, List.getElem_cons_zero, List.getElem_cons_succ, List.setIfInBounds_toArray, List.set_cons_succ, List.set_cons_zero]
      refine wpAnyH_take (i := 24) (v := ?_) rfl (by kernel_rfl) (by kernel_rfl) (by kernel_rfl) (fun _ _ _ h => h) (Or.inl ⟨by kernel_rfl, ?_⟩) hHeld ?_
      rotate_left
      · intro W hW; go_simp; first | done | with_reducible rfl | rfl
      try simp only [Act.put, List.getElem_toArray, List.getElem_cons_zero, List.getElem_cons_succ, List.setIfInBounds_toArray, List.set_cons_succ, List.set_cons_zero]
      refine wpAnyH_take (i := 25) (v := ?_) rfl (by kernel_rfl) (by kernel_rfl) (by kernel_rfl) (fun _ _ _ h => h) (Or.inl ⟨by kernel_rfl, ?_⟩) hHeld ?_
      rotate_left
      · intro W hW; go_simp; first | done | with_reducible rfl | rfl
      try simp only [Act.put, List.getElem_toArray, List.getElem_cons_zero, List.getElem_cons_succ, List.setIfInBounds_toArray, List.set_cons_succ, List.set_cons_zero]
      refine wpAnyH_take (i := 26) (v := .int .i64 v.K) rfl (by kernel_rfl) (by kernel_rfl) (by kernel_rfl) (fun _ _ _ h => h) (Or.inl ⟨by kernel_rfl, ?_⟩) hHeld ?_
      · intro W hW; have v0 := (hV.later hW).v0; clear hW; go_simp; first | done | with_reducible rfl | rfl
      try simp only [Act.put, List.getElem_toArray, List.getElem_cons_zero, List.getElem_cons_succ, List.setIfInBounds_toArray, List.set_cons_succ, List.set_cons_zero]
      refine wpAnyH_take (i := 27) (v := .bool true) rfl (by kernel_rfl) (by kernel_rfl) (by kernel_rfl) (fun _ _ _ h => h) (Or.inl ⟨by kernel_rfl, ?_⟩) hHeld ?_
      · intro W hW; go_simp; first | done | with_reducible rfl | rfl
      try simp only [Act.put, List.getElem_toArray, List.getElem_cons_zero, List.getElem_cons_succ, List.setIfInBounds_toArray, List.set_cons_succ, List.set_cons_zero]
      refine wpAnyH_take (i := 28) (v := .bool true) rfl (by kernel_rfl) (by kernel_rfl) (by kernel_rfl) (fun _ _ _ h => h) (Or.inl ⟨by kernel_rfl, ?_⟩) hHeld ?_
      · intro W hW; go_simp; first | done | with_reducible rfl | rfl
      try simp only [Act.put, List.getElem_toArray, List.getElem_cons_zero, List.getElem_cons_succ, List.setIfInBounds_toArray, List.set_cons_succ, List.set_cons_zero]
      refine wpAnyH_take (i := 29) (v := ?_) rfl (by kernel_rfl) (by kernel_rfl) (by kernel_rfl) (fun _ _ _ h => h) (Or.inl ⟨by kernel_rfl, ?_⟩) hHeld ?_
      rotate_left
      · intro W hW; go_simp; first | done | with_reducible rfl | rfl
      try simp only [Act.put, List.getElem_toArray, List.getElem_cons_zero, List.getElem_cons_succ, List.setIfInBounds_toArray, List.set_cons_succ, List.set_cons_zero]
      refine wpAnyH_take (i := 30) (v := ?_) rfl (by kernel_rfl) (by kernel_rfl) (by kernel_rfl) (fun _ _ _ h => h) (Or.inl ⟨by kernel_rfl, ?_⟩) hHeld ?_
      rotate_left
      · intro W hW; go_simp; first | done | with_reducible rfl | rfl
      try simp only [Act.put, List.getElem_toArray, List.getElem_cons_zero, List.getElem_cons_succ, List.setIfInBounds_toArray, List.set_cons_succ, List.set_cons_zero]
      refine wpAnyH_take (i := 31) (v := ?_) rfl (by kernel_rfl) (by kernel_rfl) (by kernel_rfl) (fun _ _ _ h => h) (Or.inl ⟨by kernel_rfl, ?_⟩) hHeld ?_
      rotate_left
      · intro W hW; go_simp; first | done | with_reducible rfl | rfl
      try simp only [Act.put, List.getElem_toArray, List.getElem_cons_zero, List.getElem_cons_succ, List.setIfInBounds_toArray, List.set_cons_succ, List.set_cons_zero]
      refine wpAnyH_take (i := 32) (v := ?_) rfl (by kernel_rfl) (by kernel_rfl) (by kernel_rfl) (fun _ _ _ h => h) (Or.inl ⟨by kernel_rfl, ?_⟩) hHeld ?_
      rotate_left
      · intro W hW; go_simp; first | done | with_reducible rfl | rfl
      try simp only [Act.put, List.getElem_toArray, List.getElem_cons_zero, List.getElem_cons_succ, List.setIfInBounds_toArray, List.set_cons_succ, List.set_cons_zero]
      refine wpAnyH_take (i := 33) (v := ?_) rfl (by kernel_rfl) (by kernel_rfl) (by kernel_rfl) (fun _ _ _ h => h) (Or.inl ⟨by kernel_rfl, ?_⟩) hHeld ?_
      rotate_left
      · intro W hW; go_simp; first | done | with_reducible rfl | rfl
      try simp only [Act.put, List.getElem_toArray, List.getElem_cons_zero, List.getElem_cons_succ, List.setIfInBounds_toArray, List.set_cons_succ, List.set_cons_zero]
      refine wpAnyH_take (i := 34) (v := ?_) rfl (by kernel_rfl) (by kernel_rfl) (by kernel_rfl) (fun _ _ _ h => h) (Or.inl ⟨by kernel_rfl, ?_⟩) hHeld ?_
      rotate_left
      · intro W hW; go_simp; first | done | with_reducible rfl | rfl
      try simp only [Act.put, List.getElem_toArray, List.getElem_cons_zero, List.getElem_cons_succ, List.setIfInBounds_toArray, List.set_cons_succ, List.set_cons_zero]
      refine wpAnyH_take (i := 35) (v := .agg (va (q).V)) rfl (by kernel_rfl) (by kernel_rfl) (by kernel_rfl) (fun _ _ _ h => h) (yields_part1 (by kernel_rfl) _ rfl _ rfl (fun W hW => hQ.later hW)) hHeld ?_
      try simp only [Act.put, List.getElem_toArray, List.getElem_cons_zero, List.getElem_cons_succ, List.setIfInBounds_toArray, List.set_cons_succ, List.set_cons_zero]
      refine wpAnyH_take (i := 36) (v := .agg (va v)) rfl (by kernel_rfl) (by kernel_rfl) (by kernel_rfl) (fun _ _ _ h => h) (yields_bx (by kernel_rfl) _ _ _ rfl _ rfl (va v) (fun W hW => hV.later hW) tyV rfl) hHeld ?_
      try simp only [Act.put, List.getElem_toArray, List.getElem_cons_zero, List.getElem_cons_succ, List.setIfInBounds_toArray, List.set_cons_succ, List.set_cons_zero]
      refine wpAnyH_callB (i := 37) rfl (by kernel_rfl) (by kernel_rfl) (by kernel_rfl) (refEq_va q.V v _ Hq.out Hv.out) hHeld ?_
      intro xc hb4 hHeld
      rw [HqE.out]
      try simp only [Act.put, List.getElem_toArray, List.getElem_cons_zero, List.getElem_cons_succ, List.setIfInBounds_toArray, List.set_cons_succ, List.set_cons_zero]
      replace hX := hX.later hHeld
      replace hV := hV.later hHeld
      replace hZ := hZ.later hHeld
      replace hY := hY.later hHeld
      replace hQ := hQ.later hHeld
      replace hB := hB.trans (hHeld.mono hB.size)
      clear hHeld hb4
      have hHeld : Below xc.heap.size xc xc := Below.refl _ _
      refine wpAnyH_take (i := 38) (v := ?_) rfl (by kernel_rfl) (by kernel_rfl) (by kernel_rfl) (fun _ _ _ h => h) (Or.inl ⟨by kernel_rfl, ?_⟩) hHeld ?_
      rotate_left
      · intro W hW; go_simp; first | done | with_reducible rfl | rfl
      try simp only [Act.put, List.getElem_toArray, List.getElem_cons_zero, List.getElem_cons_succ, List.setIfInBounds_toArray, List.set_cons_succ, List.set_cons_zero]
      refine wpAnyH_take (i := 39) (v := ?_) rfl (by kernel_rfl) (by kernel_rfl) (by kernel_rfl) (fun _ _ _ h => h) (Or.inl ⟨by kernel_rfl, ?_⟩) hHeld ?_
      rotate_left
      · intro W hW; go_simp; first | done | with_reducible rfl | rfl
      try simp only [Act.put, List.getElem_toArray, List.getElem_cons_zero, List.getElem_cons_succ, List.setIfInBounds_toArray, List.set_cons_succ, List.set_cons_zero]
      refine wpAnyH_take (i := 40) (v := .int .i64 q.T) rfl (by kernel_rfl) (by kernel_rfl) (by kernel_rfl) (fun _ _ _ h => h) (Or.inl ⟨by kernel_rfl, ?_⟩) hHeld ?_
      · intro W hW; have c4 := (hQ.later hW).c4; clear hW; go_simp; first | done | with_reducible rfl | rfl
      try simp only [Act.put, List.getElem_toArray, List.getElem_cons_zero, List.getElem_cons_succ, List.setIfInBounds_toArray, List.set_cons_succ, List.set_cons_zero]
      refine wpAnyH_take (i := 41) (v := .bool true) rfl (by kernel_rfl) (by kernel_rfl) (by kernel_rfl) (fun _ _ _ h => h) (Or.inl ⟨by kernel_rfl, ?_⟩) hHeld ?_
      · intro W hW; go_simp; first | done | with_reducible rfl | rfl
      try simp only [Act.put, List.getElem_toArray, List.getElem_cons_zero, List.getElem_cons_succ, List.setIfInBounds_toArray, List.set_cons_succ, List.set_cons_zero]
      refine wpAnyH_take (i := 42) (v := ?_) rfl (by kernel_rfl) (by kernel_rfl) (by kernel_rfl) (fun _ _ _ h => h) (Or.inl ⟨by kernel_rfl, ?_⟩) hHeld ?_
      rotate_left
      · intro W hW; go_simp; first | done | with_reducible rfl | rfl
      try simp only [Act.put, List.getElem_toArray, List.getElem_cons_zero, List.getElem_cons_succ, List.setIfInBounds_toArray, List.set_cons_succ, List.set_cons_zero]
      refine wpAnyH_take (i := 43) (v := ?_) rfl (by kernel_rfl) (by kernel_rfl) (by kernel_rfl) (fun _ _ _ h => h) (Or.inl ⟨by kernel_rfl, ?_⟩) hHeld ?_
      rotate_left
      · intro W hW; go_simp; first | done | with_reducible rfl | rfl
      try simp only [Act.put, List.getElem_toArray, List.getElem_cons_zero, List.getElem_cons_succ, List.setIfInBounds_toArray, List.set_cons_succ, List.set_cons_zero]
      refine wpAnyH_take (i := 44) (v := ?_) rfl (by kernel_rfl) (by kernel_rfl) (by kernel_rfl) (fun _ _ _ h => h) (Or.inl ⟨by kernel_rfl, ?_⟩) hHeld ?_
      rotate_left
      · intro W hW; go_simp; first | done | with_reducible rfl | rfl
      try simp only [Act.put, List.getElem_toArray, List.getElem_cons_zero, List.getElem_cons_succ, List.setIfInBounds_toArray, List.set_cons_succ, List.set_cons_zero]
      refine wpAnyH_take (i := 45) (v := ?_) rfl (by kernel_rfl) (by kernel_rfl) (by kernel_rfl) (fun _ _ _ h => h) (Or.inl ⟨by kernel_rfl, ?_⟩) hHeld ?_
      rotate_left
      · intro W hW; go_simp; first | done | with_reducible rfl | rfl
      try simp only [Act.put, List.getElem_toArray, List.getElem_cons_zero, List.getElem_cons_succ, List.setIfInBounds_toArray, List.set_cons_succ, List.set_cons_zero]
      refine wpAnyH_done (by kernel_rfl) ?_ _
      refine NoPanic.normal ?_
      go_simp
      go_wp2_with fail
      go_ret
      exact ⟨rfl, hB⟩


set_option maxRecDepth 100000 in
theorem lifted (os : Os) (started : os.Started) (H : Type) (enc : TypeId × Value → H) :
    ReturnsInHanded {} Try.checked os 8 .any (Rows.cellTwiceSpec.pre6 enc Try.prog Try.f8 Rows.cellTwiceRow.domain false) (Rows.cellTwiceSpec.post enc Try.prog Try.f8 false true false false) := by
  refine returnsInHanded_of_change (C := Try.checked) own started (by kernel_rfl) Try.func8
    (ChangeSpec.witness6 (enc := enc) (C := Try.checked) false ⟨#[], #[.agg (cv Ce.zero), .int .i64 0, .agg (va Va.zero), .agg (va Va.zero)], []⟩ 8 (by kernel_rfl) (by kernel_rfl) (by kernel_rfl) (by kernel_rfl)) ?_
  intro W base args ds gs before hval0 hW hcnd _
  have hval : ∀ (j : Nat) t v, Try.f8.params[j]? = some t → args[j]? = some v → Value.okWide Try.prog W .any base t v := hval0
  have hW' := hW
  obtain ⟨p, q, hA0, hV, rfl, hfz, hnd⟩ := hW
  have hA : DataW.TrodAll enc Try.prog W 0 (fun _ => true) true Try.f8.params.toList args.toList ds p := hA0
  rw [Try.params8] at hA hval
  obtain ⟨v0, vs0, d0, ds0, p0, q0, hargs, rfl, rfl, h0, r0⟩ := trodAll_cons hA
  obtain ⟨v1, vs1, d1, ds1, p1, q1, rfl, rfl, rfl, h1, r1⟩ := trodAll_cons r0
  obtain ⟨v2, vs2, d2, ds2, p2, q2, rfl, rfl, rfl, h2, r2⟩ := trodAll_cons r1
  obtain ⟨v3, vs3, d3, ds3, p3, q3, rfl, rfl, rfl, h3, r3⟩ := trodAll_cons r2
  obtain ⟨rfl, rfl, rfl⟩ := trodAll_nil r3
  obtain rfl : args = #[v0, v1, v2, v3] := by cases args; simp_all
  obtain ⟨rfl, rfl⟩ := trodVars_none hV
  have k0 := h0
  have lt0 : ∀ x ∈ p0, x.block < W.heap.size := by obtain ⟨m, hm⟩ := k0; exact DataW.trod_lt m _ _ _ hm
  obtain ⟨a0, rfl, w0⟩ := open_cell (hval 0 26 v0 rfl rfl) h0
  obtain ⟨a1, rfl, rfl, rfl, w1⟩ := open_int Try.underlying2 (hval 1 2 v1 rfl rfl) h1
  have k2 := h2
  have lt2 : ∀ x ∈ p2, x.block < W.heap.size := by obtain ⟨m, hm⟩ := k2; exact DataW.trod_lt m _ _ _ hm
  obtain ⟨a2, rfl, w2⟩ := open_val (hval 2 24 v2 rfl rfl) h2
  have k3 := h3
  have lt3 : ∀ x ∈ p3, x.block < W.heap.size := by obtain ⟨m, hm⟩ := k3; exact DataW.trod_lt m _ _ _ hm
  obtain ⟨a3, rfl, w3⟩ := open_val (hval 3 24 v3 rfl rfl) h3
  clear hA0 hval0
  refine (walk a0 a1 a2 a3 W w0 w1 w2 w3).mono fun e W' ⟨he, bel⟩ => ?_
  subst he
  exact ⟨_, rfl, _, _, _, [], _, [], hW', trodAll_mk1 (shut_bool Try.underlying4 _), (trodAll_cons_mk (Below.trod laidOut (by kernel_rfl) (of_decide_eq_true (by kernel_rfl)) k0 bel lt0) (trodAll_cons_mk (shut_int Try.underlying2 w1) (trodAll_cons_mk (Below.trod laidOut (by kernel_rfl) (of_decide_eq_true (by kernel_rfl)) k2 bel lt2) (trodAll_cons_mk (Below.trod laidOut (by kernel_rfl) (of_decide_eq_true (by kernel_rfl)) k3 bel lt3) trodAll_mk0)))), rfl, bel.frame _, fun h => by cases h⟩

theorem over : Rows.cellTwiceRow.holds Try.pinned (OpenSpec.ofChange Rows.cellTwiceSpec) :=
  OpenClaim.holds_of_wide 8 Try.f8 rfl rfl rfl rfl rfl rfl rfl ⟨rfl, rfl, rfl, rfl, rfl⟩ rfl rfl rfl rfl rfl (by kernel_rfl) Try.func8 (by kernel_rfl)
    (of_decide_eq_true (by kernel_rfl)) (by unfold Func.isWrapper; first | (rw [if_pos (by decide +kernel)]; kernel_rfl) | (rw [if_neg (by decide +kernel)]; exact ⟨rfl, rfl⟩))
    (fun os started H enc _ => lifted os started H enc)

theorem proved : Rows.CellTwiceSaid := over
#print axioms proved
end Go.Proofs.Ytlefhhmggaaiiaa.cellTwice
