/-
  For every cell c, every two int64 a and b and every value v CellWho returns true: of a cell that may be and has no Txn, written by a (1 to 2^40) with a value that may be, a alone sees v, b and 0 see what all see, it may be, and writing it again gives the same cell. No condition.
-/
import Derived.Test.YtlefhhmggaaiiaaRows
import Derived.WalkKit
import Derived.ProofKit
import Derived.OpenShut
import Derived.ShutString
import Derived.ChangeOld
import Derived.Below
import Derived.Test.YtlefhhmggaaiiaaCelL
import Derived.Test.YtlefhhmggaaiiaaCelH
import Derived.Test.YtlefhhmggaaiiaaCelO
import Derived.Test.YtlefhhmggaaiiaaCelS
import Derived.Test.YtlefhhmggaaiiaaOrw
namespace Go.Proofs.Ytlefhhmggaaiiaa.cellWho
open Go.ChangeShapes Go.WideShapes Go.ChangeAt Go.RowKit
open Go.ChangeMaps (open_string shut_string)
set_option linter.unusedVariables false

theorem own : ownKnob Try.prog.godebug = none := by kernel_rfl
theorem laidOut : laidOutB Try.prog = true := by kernel_rfl

set_option maxRecDepth 100000 in
set_option maxHeartbeats 16000000 in
theorem walk (a0 : Ce) (a1 a2 : Int) (a3 : Va) (w : World) (w0 : a0.Ok) (w1 : (Lit.int .i64 a1).wf = true) (w2 : (Lit.int .i64 a2).wf = true) (w3 : a3.Ok) :
    Calls Try.prog 7 #[.agg (cv a0), .int .i64 a1, .int .i64 a2, .agg (va a3)] w fun e w' => e = .returned (.bool true) ∧ Below w.heap.size w w' := by
  obtain ⟨l1, l2⟩ := bounds_i64 w1
  clear w1 w2
  have H0 := hide w0
  have H3 := hide w3
  clear w0 w3
  go_enter Try.func7, Try.ntmps7
  go_wp2_with (first
    | (refine wpList_box 26 (.tmp 0) (cv a0) rfl rfl rfl ?_; intro W1 hB hX)
    | (refine wpList_box 24 (.tmp 3) (va a3) rfl rfl rfl ?_; intro W2 hBx hV; have nhXhV := Nat.ne_of_lt hX.lt; replace hX := hX.later hBx; have lhV := hB.size; replace hB := hB.trans (hBx.mono hB.size); clear hBx))
  refine (begun_any _).mono ?_
  rintro e X ⟨rfl, hb⟩
  replace hX := hX.later hb
  replace hV := hV.later hb
  replace hB := hB.trans (hb.mono hB.size)
  clear hb
  go_wp2_with fail
  refine wp_region_noPanic ?_
  refine wp_region_P 4 (fun W => Below X.heap.size X W) (by kernel_rfl) (Below.refl _ _).drew (fun hHeld => ?_)
  refine wpAnyP_take (i := 0) (v := .agg (cv a0)) rfl (by kernel_rfl) (by kernel_rfl) (by kernel_rfl) (by kernel_rfl) (by kernel_rfl) (by decide) (fun _ _ _ h => h) (yields_bx (by kernel_rfl) _ _ _ rfl _ rfl (cv a0) (fun W hW => hX.later hW) tyR rfl) hHeld ?_
  try simp only [Act.put, List.getElem_toArray, List.getElem_cons_zero, List.setIfInBounds_toArray, List.set_cons_succ, List.set_cons_zero]
  refine wpAnyP_takeD [3,4] (i := 2) (v := .agg (va a3)) rfl (by kernel_rfl) (by kernel_rfl) (by kernel_rfl) (by kernel_rfl) (by kernel_rfl) (by kernel_rfl) (fun _ _ _ h => h) (yields_bx (by kernel_rfl) _ _ _ rfl _ rfl (va a3) (fun W hW => hV.later hW) tyV rfl) hHeld ?_
  try simp only [Act.put, List.getElem_toArray, List.getElem_cons_zero, List.getElem_cons_succ, List.setIfInBounds_toArray, List.set_cons_succ, List.set_cons_zero]
  refine wpAnyP_ready (rs := [1]) (by kernel_rfl) (by simp) ?_
  refine AllReadyP.cons (o := _) rfl (fun K hK => ?_) AllReadyP.nil
  rw [if_pos (by kernel_rfl)]
  go_simp
  refine (cut_cell a0 _ H0.out).mono ?_
  rintro e x2 ⟨d, rfl, hd, h20, h25, h26, hb2⟩
  dsimp only
  have hHeld2 := hHeld.trans (hb2.mono hHeld.size)
  refine hK.out _ _ hHeld2 ?_
  clear hK K hb2 hHeld
  try simp only [Act.put, List.getElem_toArray, List.getElem_cons_zero, List.getElem_cons_succ, List.setIfInBounds_toArray, List.set_cons_succ, List.set_cons_zero]
  refine wpAnyP_ready (rs := [3]) (by kernel_rfl) (by simp) ?_
  refine AllReadyP.cons (o := _) rfl (fun K hK => ?_) AllReadyP.nil
  rw [if_pos (by kernel_rfl)]
  go_simp
  refine (val_cell a3 _ H3.out.s).mono ?_
  rintro e x3 ⟨s1, rfl, hs1, hb3⟩
  dsimp only
  have hHeld3 := hHeld2.trans (hb3.mono hHeld2.size)
  refine hK.out _ _ hHeld3 ?_
  clear hK K hb3 hHeld2
  try simp only [Act.put, List.getElem_toArray, List.getElem_cons_zero, List.getElem_cons_succ, List.setIfInBounds_toArray, List.set_cons_succ, List.set_cons_zero]
  have HD := hide hd
  have hu : (⟨a3.K, a3.X, s1⟩ : Va).Ok := ⟨H3.out.k0, H3.out.k1, H3.out.x, by show s1.size ≤ maxLen; unfold maxLen; omega⟩
  generalize hu0 : (⟨a3.K, a3.X, s1⟩ : Va) = u at *
  have HU := hide hu
  clear hd h20 h25 h26 hu hu0 hs1
  replace hX := hX.later hHeld3
  replace hV := hV.later hHeld3
  replace hB := hB.trans (hHeld3.mono hB.size)
  clear hHeld3 H0 H3
  refine wpAnyP_ready (rs := [4]) (by kernel_rfl) (by simp) ?_
  refine AllReadyP.late (o := _) rfl (by kernel_rfl) (fun K hK => ?_)
  rw [if_pos (by kernel_rfl)]
  refine wp_put 26 _ (.tmp 4) (.tmp 15) _ (cv d) _ rfl rfl rfl hX tyR rfl rfl (cv_one _) ?_
  intro W5 hb5 hz5 hX5
  refine hK.out _ _ ?_
  clear hK K
  try simp only [Act.put, List.getElem_toArray, List.getElem_cons_zero, List.getElem_cons_succ]
  replace hV := hV.but hb5 (fun e => nhXhV e.symm)
  replace hB := Below.but hB hB.size hb5 (fun k e => by omega)
  clear hX hb5 hz5
  have hX := hX5
  clear hX5
  refine wpAnyP_ready (rs := [5]) (by kernel_rfl) (by simp) ?_
  refine AllReadyP.late (o := _) rfl (by kernel_rfl) (fun K hK => ?_)
  rw [if_pos (by kernel_rfl)]
  refine wp_put 24 _ (.tmp 7) (.tmp 17) _ (va u) _ rfl rfl rfl hV tyV rfl rfl (va_one _) ?_
  intro W6 hb6 hz6 hV6
  refine hK.out _ _ ?_
  clear hK K
  try simp only [Act.put, List.getElem_toArray, List.getElem_cons_zero, List.getElem_cons_succ]
  replace hX := hX.but hb6 nhXhV
  replace hB := Below.but hB hB.size hb6 (fun k e => by omega)
  clear hV hb6 hz6
  have hV := hV6
  clear hV6
  refine wpAnyP_done (by kernel_rfl) ?_ _
  refine NoPanic.normal ?_
  go_simp
  go_wp2_with (first
    | (refine wpList_get 26 _ (.tmp 4) _ (cv d) rfl rfl rfl hX tyR rfl ?_))
  refine (refMay_cell d _ HD.out).mono ?_
  rintro e W7 ⟨rfl, hb⟩
  replace hX := hX.later hb
  replace hV := hV.later hb
  replace hB := hB.trans (hb.mono hB.size)
  clear hb
  cases hm : d.may
  · go_wp2_with fail
    go_ret
    exact ⟨rfl, hB⟩
  have HM := hide hm
  clear hm
  have c4 := hX.c4
  by_cases hT : d.T = 0
  rotate_left
  · have hT' : (d.T != 0) = true := by simpa using hT
    go_wp2_with fail
    go_ret
    exact ⟨rfl, hB⟩
  have hT' : (d.T != 0) = false := by simpa using hT
  have HT := hide hT
  clear hT
  cases h1 : decide (a1 < 1)
  rotate_left
  · go_wp2_with fail
    go_ret
    exact ⟨rfl, hB⟩
  cases h2 : decide (1099511627776 < a1)
  rotate_left
  · go_wp2_with fail
    go_ret
    exact ⟨rfl, hB⟩
  cases h3 : (a1 == a2)
  rotate_left
  · go_wp2_with fail
    go_ret
    exact ⟨rfl, hB⟩
  go_wp2_with (first
    | (refine wpList_getG 24 _ (.tmp 7) _ (va u) rfl rfl rfl rfl rfl hV tyV rfl ?_))
  refine (refMay_va u _ HU.out).mono ?_
  rintro e W8 ⟨rfl, hb⟩
  replace hX := hX.later hb
  replace hV := hV.later hb
  replace hB := hB.trans (hb.mono hB.size)
  clear hb
  clear c4
  cases hmu : u.may
  · go_wp2_with fail
    go_ret
    exact ⟨rfl, hB⟩
  have HMU := hide hmu
  clear hmu
  have H1 := hide (show 1 ≤ a1 by have := of_decide_eq_false h1; omega)
  have H2 := hide (show a1 ≤ 1099511627776 by have := of_decide_eq_false h2; omega)
  have H3 := hide (show ¬ a1 = a2 by simpa using h3)
  clear h1 h2 h3 hT'
  go_wp2_with fail
  obtain ⟨Q0, HQ0⟩ : ∃ Q0 : Exit → Act → World → Prop, Hid (Q0 = fun e a' w' => e = Exit.normal ∧ ∃ b, ∃ x : Nat → Value, a' = ({ tmps := #[x 0, .int .i64 a1, .int .i64 a2, x 3, .pointer (some ⟨w.heap.size, 0, none⟩), x 5, x 6, .pointer (some ⟨W1.heap.size, 0, none⟩), x 8, x 9, .pointer (some ⟨b, 0, none⟩), x 11, x 12, x 13, x 14, x 15, x 16, x 17, x 18, x 19, x 20, x 21, x 22, x 23, x 24, x 25, x 26, x 27, x 28, x 29, x 30, x 31, x 32, x 33, x 34, x 35, x 36, x 37, x 38, x 39, x 40, x 41, x 42, x 43, x 44, x 45, x 46, x 47, x 48, x 49, x 50, x 51, x 52, x 53, x 54, x 55, x 56, x 57, x 58, x 59, x 60, x 61, x 62, x 63, x 64, x 65, x 66, x 67, x 68, x 69, x 70, x 71, x 72, x 73, x 74, x 75, x 76, x 77, x 78, x 79, x 80, x 81], defers := [] } : Act) ∧ Bx w' b (cv (Ce.wr d a1 u)) ∧ Below W8.heap.size W8 w') := ⟨_, rfl⟩
  refine Code.wp_mono (Q := Q0) ?cont ?_
  rotate_left
  · skip
    refine wp_region_noPanic ?_
    refine wp_region_held_drew (S := fun W => Below W8.heap.size W8 W) (by kernel_rfl) ?_ (fun hHeld => ?_)
    · exact (Below.refl _ _).drew
    have hb8 : Below W8.heap.size W8 W8 := Below.refl _ _
    refine wpAnyH_take (i := 0) (v := .agg (cv d)) rfl (by kernel_rfl) (by kernel_rfl) (by kernel_rfl) (fun _ _ _ h => h) (yields_bx (by kernel_rfl) _ _ _ rfl _ rfl (cv d) (fun W hW => hX.later hW) tyR rfl) hHeld ?_
    try simp only [Act.put, List.getElem_toArray, List.getElem_cons_zero, List.setIfInBounds_toArray, List.set_cons_succ, List.set_cons_zero]
    refine wpAnyH_take (i := 2) (v := ?_) rfl (by kernel_rfl) (by kernel_rfl) (by kernel_rfl) (fun _ _ _ h => h) (Or.inl ⟨by kernel_rfl, ?_⟩) hHeld ?_
    rotate_left
    · intro W hW; go_simp; first | done | with_reducible rfl | rfl
    try simp only [Act.put, List.getElem_toArray, List.getElem_cons_zero, List.getElem_cons_succ, List.setIfInBounds_toArray, List.set_cons_succ, List.set_cons_zero]
    refine wpAnyH_take (i := 3) (v := .agg (va u)) rfl (by kernel_rfl) (by kernel_rfl) (by kernel_rfl) (fun _ _ _ h => h) (yields_bx (by kernel_rfl) _ _ _ rfl _ rfl (va u) (fun W hW => hV.later hW) tyV rfl) hHeld ?_
    try simp only [Act.put, List.getElem_toArray, List.getElem_cons_zero, List.getElem_cons_succ, List.setIfInBounds_toArray, List.set_cons_succ, List.set_cons_zero]
    refine wpAnyH_ready (rs := [1, 5]) (by kernel_rfl) (by simp) ?_
    refine AllReadyH.cons (o := _) rfl (fun K hK => ?_) (AllReadyH.cons (o := _) rfl (fun K hK => ?_) AllReadyH.nil)
    · skip
      rw [if_pos (by kernel_rfl)]
      go_simp
      refine (of_cell d _).mono ?_
      rintro e xc ⟨rfl, hb⟩
      dsimp only
      refine hK.out _ _ (hHeld.trans (hb.mono hHeld.size)) (fun hHeld => ?_)
      clear hK K
      try simp only [Act.put, List.getElem_toArray, List.getElem_cons_zero, List.getElem_cons_succ, List.setIfInBounds_toArray, List.set_cons_succ, List.set_cons_zero]
      clear hb
      refine wpAnyH_ready (rs := [4, 5]) (by kernel_rfl) (by simp) ?_
      refine AllReadyH.cons (o := _) rfl (fun K hK => ?_) (AllReadyH.cons (o := _) rfl (fun K hK => ?_) AllReadyH.nil)
      · skip
        rw [if_pos (by kernel_rfl)]
        go_simp
        refine (write_cell d a1 u _).mono ?_
        rintro e xc ⟨rfl, hb⟩
        dsimp only
        refine hK.out _ _ (hHeld.trans (hb.mono hHeld.size)) (fun hHeld => ?_)
        clear hK K
        try simp only [Act.put, List.getElem_toArray, List.getElem_cons_zero, List.getElem_cons_succ, List.setIfInBounds_toArray, List.set_cons_succ, List.set_cons_zero]
        clear hb
        refine wpAnyH_ready (rs := [5]) (by kernel_rfl) (by simp) ?_
        refine AllReadyH.cons (o := _) rfl (fun K hK => ?_) AllReadyH.nil
        rw [if_pos (by kernel_rfl)]
        refine wp_new 31 _ rfl tyC ?_
        intro Wa hBa hN
        have lb := hHeld.size
        refine hK.out _ _ (hHeld.trans (hBa.mono hHeld.size)) (fun hHeld => ?_)
        clear hK K hBa
        try simp only [Act.put, List.getElem_toArray, List.getElem_cons_zero, List.getElem_cons_succ, List.setIfInBounds_toArray, List.set_cons_succ, List.set_cons_zero]
        refine wpAnyH_ready (rs := [6]) (by kernel_rfl) (by simp) ?_
        refine AllReadyH.cons (o := _) rfl (fun K hK => ?_) AllReadyH.nil
        rw [if_pos (by kernel_rfl)]
        refine wp_put 31 _ (.tmp 10) (.tmp 48) _ (cv (Ce.wr d a1 u)) _ rfl rfl rfl hN tyC rfl rfl (cv_one _) ?_
        intro Ws hbs hss hNs
        refine hK.out _ _ (Below.but hHeld hHeld.size hbs (fun k e => by rw [e]; exact lb)) (fun hHeld => ?_)
        clear hK K hN hbs hss
        have hN := hNs
        clear hNs
        try simp only [Act.put, List.getElem_toArray, List.getElem_cons_zero, List.getElem_cons_succ]
        refine wpAnyH_done (by kernel_rfl) ?_ _
        refine NoPanic.normal ?_
        generalize hA : ({ tmps := _, defers := [] } : Act) = A
        rw [HQ0.out]
        exact ⟨rfl, _, fun k => A.tmps.getD k undef, (by subst hA; kernel_rfl), hN, hHeld⟩
      · skip
        rw [if_pos (by kernel_rfl)]
        refine wp_new 31 _ rfl tyC ?_
        intro Wa hBa hN
        have lb := hHeld.size
        refine hK.out _ _ (hHeld.trans (hBa.mono hHeld.size)) (fun hHeld => ?_)
        clear hK K hBa
        try simp only [Act.put, List.getElem_toArray, List.getElem_cons_zero, List.getElem_cons_succ, List.setIfInBounds_toArray, List.set_cons_succ, List.set_cons_zero]
        refine wpAnyH_ready (rs := [4]) (by kernel_rfl) (by simp) ?_
        refine AllReadyH.cons (o := _) rfl (fun K hK => ?_) AllReadyH.nil
        rw [if_pos (by kernel_rfl)]
        go_simp
        refine (write_cell d a1 u _).mono ?_
        rintro e xc ⟨rfl, hb⟩
        dsimp only
        refine hK.out _ _ (hHeld.trans (hb.mono hHeld.size)) (fun hHeld => ?_)
        clear hK K
        try simp only [Act.put, List.getElem_toArray, List.getElem_cons_zero, List.getElem_cons_succ, List.setIfInBounds_toArray, List.set_cons_succ, List.set_cons_zero]
        replace hN := hN.later hb
        clear hb
        refine wpAnyH_ready (rs := [6]) (by kernel_rfl) (by simp) ?_
        refine AllReadyH.cons (o := _) rfl (fun K hK => ?_) AllReadyH.nil
        rw [if_pos (by kernel_rfl)]
        refine wp_put 31 _ (.tmp 10) (.tmp 48) _ (cv (Ce.wr d a1 u)) _ rfl rfl rfl hN tyC rfl rfl (cv_one _) ?_
        intro Ws hbs hss hNs
        refine hK.out _ _ (Below.but hHeld hHeld.size hbs (fun k e => by rw [e]; exact lb)) (fun hHeld => ?_)
        clear hK K hN hbs hss
        have hN := hNs
        clear hNs
        try simp only [Act.put, List.getElem_toArray, List.getElem_cons_zero, List.getElem_cons_succ]
        refine wpAnyH_done (by kernel_rfl) ?_ _
        refine NoPanic.normal ?_
        generalize hA : ({ tmps := _, defers := [] } : Act) = A
        rw [HQ0.out]
        exact ⟨rfl, _, fun k => A.tmps.getD k undef, (by subst hA; kernel_rfl), hN, hHeld⟩
    · skip
      rw [if_pos (by kernel_rfl)]
      refine wp_new 31 _ rfl tyC ?_
      intro Wa hBa hN
      have lb := hHeld.size
      refine hK.out _ _ (hHeld.trans (hBa.mono hHeld.size)) (fun hHeld => ?_)
      clear hK K hBa
      try simp only [Act.put, List.getElem_toArray, List.getElem_cons_zero, List.getElem_cons_succ, List.setIfInBounds_toArray, List.set_cons_succ, List.set_cons_zero]
      refine wpAnyH_ready (rs := [1]) (by kernel_rfl) (by simp) ?_
      refine AllReadyH.cons (o := _) rfl (fun K hK => ?_) AllReadyH.nil
      rw [if_pos (by kernel_rfl)]
      go_simp
      refine (of_cell d _).mono ?_
      rintro e xc ⟨rfl, hb⟩
      dsimp only
      refine hK.out _ _ (hHeld.trans (hb.mono hHeld.size)) (fun hHeld => ?_)
      clear hK K
      try simp only [Act.put, List.getElem_toArray, List.getElem_cons_zero, List.getElem_cons_succ, List.setIfInBounds_toArray, List.set_cons_succ, List.set_cons_zero]
      replace hN := hN.later hb
      clear hb
      refine wpAnyH_ready (rs := [4]) (by kernel_rfl) (by simp) ?_
      refine AllReadyH.cons (o := _) rfl (fun K hK => ?_) AllReadyH.nil
      rw [if_pos (by kernel_rfl)]
      go_simp
      refine (write_cell d a1 u _).mono ?_
      rintro e xc ⟨rfl, hb⟩
      dsimp only
      refine hK.out _ _ (hHeld.trans (hb.mono hHeld.size)) (fun hHeld => ?_)
      clear hK K
      try simp only [Act.put, List.getElem_toArray, List.getElem_cons_zero, List.getElem_cons_succ, List.setIfInBounds_toArray, List.set_cons_succ, List.set_cons_zero]
      replace hN := hN.later hb
      clear hb
      refine wpAnyH_ready (rs := [6]) (by kernel_rfl) (by simp) ?_
      refine AllReadyH.cons (o := _) rfl (fun K hK => ?_) AllReadyH.nil
      rw [if_pos (by kernel_rfl)]
      refine wp_put 31 _ (.tmp 10) (.tmp 48) _ (cv (Ce.wr d a1 u)) _ rfl rfl rfl hN tyC rfl rfl (cv_one _) ?_
      intro Ws hbs hss hNs
      refine hK.out _ _ (Below.but hHeld hHeld.size hbs (fun k e => by rw [e]; exact lb)) (fun hHeld => ?_)
      clear hK K hN hbs hss
      have hN := hNs
      clear hNs
      try simp only [Act.put, List.getElem_toArray, List.getElem_cons_zero, List.getElem_cons_succ]
      refine wpAnyH_done (by kernel_rfl) ?_ _
      refine NoPanic.normal ?_
      generalize hA : ({ tmps := _, defers := [] } : Act) = A
      rw [HQ0.out]
      exact ⟨rfl, _, fun k => A.tmps.getD k undef, (by subst hA; kernel_rfl), hN, hHeld⟩
  case cont =>
    intro e a' Y hq
    rw [HQ0.out] at hq
    obtain ⟨rfl, b, x, rfl, hZ, hb⟩ := hq
    clear HQ0
    replace hX := hX.later hb
    replace hV := hV.later hb
    replace hB := hB.trans (hb.mono hB.size)
    clear hb
    have HZ := hide (Ce.wr_ok HD.out (t := a1) (v := u) l1 l2 HU.out)
    have HS1 := hide (Ce.see_wr (c := d) (t := a1) (v := u) (by have := H1.out; omega))
    have HS2 := hide (Ce.see_wr_not (c := d) (t := a1) (s := a2) (v := u) H3.out)
    have HS3 := hide (Ce.see_wr_not (c := d) (t := a1) (s := 0) (v := u) (by have := H1.out; omega))
    have HZM := hide (Ce.wr_may HM.out H1.out H2.out HMU.out)
    have HWR : Hid (Ce.wr d a1 u = Ce.wr d a1 u) := rfl
    generalize hz : Ce.wr d a1 u = z at *
    have Hz := hide hz
    clear hz HWR
    go_simp
    go_wp2_with fail
    refine wp_region_noPanic ?_
    refine wp_region_held_drew (S := fun W => Below Y.heap.size Y W) (by kernel_rfl) ?_ (fun hHeld => ?_)
    · exact (Below.refl _ _).drew
    refine wpAnyH_take (i := 0) (v := .agg (cv z)) rfl (by kernel_rfl) (by kernel_rfl) (by kernel_rfl) (fun _ _ _ h => h) (yields_bx (by kernel_rfl) _ _ _ rfl _ rfl (cv z) (fun W hW => hZ.later hW) tyC rfl) hHeld ?_
    try simp only [Act.put, List.getElem_toArray, List.getElem_cons_zero, List.setIfInBounds_toArray, List.set_cons_succ, List.set_cons_zero]
    refine wpAnyH_take (i := 1) (v := ?_) rfl (by kernel_rfl) (by kernel_rfl) (by kernel_rfl) (fun _ _ _ h => h) (Or.inl ⟨by kernel_rfl, ?_⟩) hHeld ?_
    rotate_left
    · intro W hW; go_simp; first | done | with_reducible rfl | rfl
    try simp only [Act.put, List.getElem_toArray, List.getElem_cons_zero, List.getElem_cons_succ, List.setIfInBounds_toArray, List.set_cons_succ, List.set_cons_zero]
    refine wpAnyH_take (i := 3) (v := .agg (va u)) rfl (by kernel_rfl) (by kernel_rfl) (by kernel_rfl) (fun _ _ _ h => h) (yields_bx (by kernel_rfl) _ _ _ rfl _ rfl (va u) (fun W hW => hV.later hW) tyV rfl) hHeld ?_
    try simp only [Act.put, List.getElem_toArray, List.getElem_cons_zero, List.getElem_cons_succ, List.setIfInBounds_toArray, List.set_cons_succ, List.set_cons_zero]
    refine wpAnyH_callB (i := 2) rfl (by kernel_rfl) (by kernel_rfl) (by kernel_rfl) (see_cell z a1 _) hHeld ?_
    intro xc hb4 hHeld
    rw [HS1.out]
    try simp only [Act.put, List.getElem_toArray, List.getElem_cons_zero, List.getElem_cons_succ, List.setIfInBounds_toArray, List.set_cons_succ, List.set_cons_zero]
    replace hX := hX.later hHeld
    replace hV := hV.later hHeld
    replace hZ := hZ.later hHeld
    replace hB := hB.trans (hHeld.mono hB.size)
    clear hHeld hb4
    have hHeld : Below xc.heap.size xc xc := Below.refl _ _
    refine wpAnyH_callB (i := 4) rfl (by kernel_rfl) (by kernel_rfl) (by kernel_rfl) (refEq_va u u _ HU.out HU.out) hHeld ?_
    intro xc hb4 hHeld
    rw [Va.eq_refl]
    try simp only [Act.put, List.getElem_toArray, List.getElem_cons_zero, List.getElem_cons_succ, List.setIfInBounds_toArray, List.set_cons_succ, List.set_cons_zero]
    replace hX := hX.later hHeld
    replace hV := hV.later hHeld
    replace hZ := hZ.later hHeld
    replace hB := hB.trans (hHeld.mono hB.size)
    clear hHeld hb4
    have hHeld : Below xc.heap.size xc xc := Below.refl _ _
    refine wpAnyH_take (i := 5) (v := ?_) rfl (by kernel_rfl) (by kernel_rfl) (by kernel_rfl) (fun _ _ _ h => h) (Or.inl ⟨by kernel_rfl, ?_⟩) hHeld ?_
    rotate_left
    · intro W hW; go_simp; first | done | with_reducible rfl | rfl
    try simp only [Act.put, List.getElem_toArray, List.getElem_cons_zero, List.getElem_cons_succ, List.setIfInBounds_toArray, List.set_cons_succ, List.set_cons_zero]
    refine wpAnyH_take (i := 6) (v := .agg (cv z)) rfl (by kernel_rfl) (by kernel_rfl) (by kernel_rfl) (fun _ _ _ h => h) (yields_bx (by kernel_rfl) _ _ _ rfl _ rfl (cv z) (fun W hW => hZ.later hW) tyC rfl) hHeld ?_
    try simp only [Act.put, List.getElem_toArray, List.getElem_cons_zero, List.getElem_cons_succ, List.setIfInBounds_toArray, List.set_cons_succ, List.set_cons_zero]
    refine wpAnyH_take (i := 7) (v := ?_) rfl (by kernel_rfl) (by kernel_rfl) (by kernel_rfl) (fun _ _ _ h => h) (Or.inl ⟨by kernel_rfl, ?_⟩) hHeld ?_
    rotate_left
    · intro W hW; go_simp; first | done | with_reducible rfl | rfl
    try simp only [Act.put, List.getElem_toArray, List.getElem_cons_zero, List.getElem_cons_succ, List.setIfInBounds_toArray, List.set_cons_succ, List.set_cons_zero]
    refine wpAnyH_take (i := 9) (v := ?_) rfl (by kernel_rfl) (by kernel_rfl) (by kernel_rfl) (fun _ _ _ h => h) (Or.inl ⟨by kernel_rfl, ?_⟩) hHeld ?_
    rotate_left
    · intro W hW; go_simp; first | done | with_reducible rfl | rfl
    try simp only [Act.put, List.getElem_toArray, List.getElem_cons_zero, List.getElem_cons_succ, List.setIfInBounds_toArray, List.set_cons_succ, List.set_cons_zero]
    refine wpAnyH_take (i := 10) (v := .agg (va (d).V)) rfl (by kernel_rfl) (by kernel_rfl) (by kernel_rfl) (fun _ _ _ h => h) (yields_part1 (by kernel_rfl) _ rfl _ rfl (fun W hW => hX.later hW)) hHeld ?_
    try simp only [Act.put, List.getElem_toArray, List.getElem_cons_zero, List.getElem_cons_succ, List.setIfInBounds_toArray, List.set_cons_succ, List.set_cons_zero]
    refine wpAnyH_callB (i := 8) rfl (by kernel_rfl) (by kernel_rfl) (by kernel_rfl) (see_cell z a2 _) hHeld ?_
    intro xc hb4 hHeld
    rw [HS2.out]
    try simp only [Act.put, List.getElem_toArray, List.getElem_cons_zero, List.getElem_cons_succ, List.setIfInBounds_toArray, List.set_cons_succ, List.set_cons_zero]
    replace hX := hX.later hHeld
    replace hV := hV.later hHeld
    replace hZ := hZ.later hHeld
    replace hB := hB.trans (hHeld.mono hB.size)
    clear hHeld hb4
    have hHeld : Below xc.heap.size xc xc := Below.refl _ _
    refine wpAnyH_callB (i := 11) rfl (by kernel_rfl) (by kernel_rfl) (by kernel_rfl) (refEq_va d.V d.V _ HD.out.v HD.out.v) hHeld ?_
    intro xc hb4 hHeld
    rw [Va.eq_refl]
    try simp only [Act.put, List.getElem_toArray, List.getElem_cons_zero, List.getElem_cons_succ, List.setIfInBounds_toArray, List.set_cons_succ, List.set_cons_zero]
    replace hX := hX.later hHeld
    replace hV := hV.later hHeld
    replace hZ := hZ.later hHeld
    replace hB := hB.trans (hHeld.mono hB.size)
    clear hHeld hb4
    have hHeld : Below xc.heap.size xc xc := Below.refl _ _
    refine wpAnyH_take (i := 12) (v := ?_) rfl (by kernel_rfl) (by kernel_rfl) (by kernel_rfl) (fun _ _ _ h => h) (Or.inl ⟨by kernel_rfl, ?_⟩) hHeld ?_
    rotate_left
    · intro W hW; go_simp; first | done | with_reducible rfl | rfl
    try simp only [Act.put, List.getElem_toArray, List.getElem_cons_zero, List.getElem_cons_succ, List.setIfInBounds_toArray, List.set_cons_succ, List.set_cons_zero]
    refine wpAnyH_take (i := 13) (v := ?_) rfl (by kernel_rfl) (by kernel_rfl) (by kernel_rfl) (fun _ _ _ h => h) (Or.inl ⟨by kernel_rfl, ?_⟩) hHeld ?_
    rotate_left
    · intro W hW; go_simp; first | done | with_reducible rfl | rfl
    try simp only [Act.put, List.getElem_toArray, List.getElem_cons_zero, List.getElem_cons_succ, List.setIfInBounds_toArray, List.set_cons_succ, List.set_cons_zero]
    refine wpAnyH_take (i := 14) (v := .agg (cv z)) rfl (by kernel_rfl) (by kernel_rfl) (by kernel_rfl) (fun _ _ _ h => h) (yields_bx (by kernel_rfl) _ _ _ rfl _ rfl (cv z) (fun W hW => hZ.later hW) tyC rfl) hHeld ?_
    try simp only [Act.put, List.getElem_toArray, List.getElem_cons_zero, List.getElem_cons_succ, List.setIfInBounds_toArray, List.set_cons_succ, List.set_cons_zero]
    refine wpAnyH_take (i := 16) (v := ?_) rfl (by kernel_rfl) (by kernel_rfl) (by kernel_rfl) (fun _ _ _ h => h) (Or.inl ⟨by kernel_rfl, ?_⟩) hHeld ?_
    rotate_left
    · intro W hW; go_simp; first | done | with_reducible rfl | rfl
    try simp only [Act.put, List.getElem_toArray, List.getElem_cons_zero, List.getElem_cons_succ, List.setIfInBounds_toArray, List.set_cons_succ, List.set_cons_zero]
    refine wpAnyH_take (i := 17) (v := .agg (va (d).V)) rfl (by kernel_rfl) (by kernel_rfl) (by kernel_rfl) (fun _ _ _ h => h) (yields_part1 (by kernel_rfl) _ rfl _ rfl (fun W hW => hX.later hW)) hHeld ?_
    try simp only [Act.put, List.getElem_toArray, List.getElem_cons_zero, List.getElem_cons_succ, List.setIfInBounds_toArray, List.set_cons_succ, List.set_cons_zero]
    refine wpAnyH_callB (i := 15) rfl (by kernel_rfl) (by kernel_rfl) (by kernel_rfl) (see_cell z 0 _) hHeld ?_
    intro xc hb4 hHeld
    rw [HS3.out]
    try simp only [Act.put, List.getElem_toArray, List.getElem_cons_zero, List.getElem_cons_succ, List.setIfInBounds_toArray, List.set_cons_succ, List.set_cons_zero]
    replace hX := hX.later hHeld
    replace hV := hV.later hHeld
    replace hZ := hZ.later hHeld
    replace hB := hB.trans (hHeld.mono hB.size)
    clear hHeld hb4
    have hHeld : Below xc.heap.size xc xc := Below.refl _ _
    refine wpAnyH_callB (i := 18) rfl (by kernel_rfl) (by kernel_rfl) (by kernel_rfl) (refEq_va d.V d.V _ HD.out.v HD.out.v) hHeld ?_
    intro xc hb4 hHeld
    rw [Va.eq_refl]
    try simp only [Act.put, List.getElem_toArray, List.getElem_cons_zero, List.getElem_cons_succ, List.setIfInBounds_toArray, List.set_cons_succ, List.set_cons_zero]
    replace hX := hX.later hHeld
    replace hV := hV.later hHeld
    replace hZ := hZ.later hHeld
    replace hB := hB.trans (hHeld.mono hB.size)
    clear hHeld hb4
    have hHeld : Below xc.heap.size xc xc := Below.refl _ _
    refine wpAnyH_take (i := 19) (v := ?_) rfl (by kernel_rfl) (by kernel_rfl) (by kernel_rfl) (fun _ _ _ h => h) (Or.inl ⟨by kernel_rfl, ?_⟩) hHeld ?_
    rotate_left
    · intro W hW; go_simp; first | done | with_reducible rfl | rfl
    try simp only [Act.put, List.getElem_toArray, List.getElem_cons_zero, List.getElem_cons_succ, List.setIfInBounds_toArray, List.set_cons_succ, List.set_cons_zero]
    refine wpAnyH_take (i := 20) (v := ?_) rfl (by kernel_rfl) (by kernel_rfl) (by kernel_rfl) (fun _ _ _ h => h) (Or.inl ⟨by kernel_rfl, ?_⟩) hHeld ?_
    rotate_left
    · intro W hW; go_simp; first | done | with_reducible rfl | rfl
    try simp only [Act.put, List.getElem_toArray, List.getElem_cons_zero, List.getElem_cons_succ, List.setIfInBounds_toArray, List.set_cons_succ, List.set_cons_zero]
    refine wpAnyH_take (i := 21) (v := .agg (cv z)) rfl (by kernel_rfl) (by kernel_rfl) (by kernel_rfl) (fun _ _ _ h => h) (yields_bx (by kernel_rfl) _ _ _ rfl _ rfl (cv z) (fun W hW => hZ.later hW) tyC rfl) hHeld ?_
    try simp only [Act.put, List.getElem_toArray, List.getElem_cons_zero, List.getElem_cons_succ, List.setIfInBounds_toArray, List.set_cons_succ, List.set_cons_zero]
    refine wpAnyH_callB (i := 22) rfl (by kernel_rfl) (by kernel_rfl) (by kernel_rfl) (may_cell z _ HZ.out) hHeld ?_
    intro xc hb4 hHeld
    rw [HZM.out]
    try simp only [Act.put, List.getElem_toArray, List.getElem_cons_zero, List.getElem_cons_succ, List.setIfInBounds_toArray, List.set_cons_succ, List.set_cons_zero]
    replace hX := hX.later hHeld
    replace hV := hV.later hHeld
    replace hZ := hZ.later hHeld
    replace hB := hB.trans (hHeld.mono hB.size)
    clear hHeld hb4
    have hHeld : Below xc.heap.size xc xc := Below.refl _ _
    refine wpAnyH_take (i := 23) (v := ?_) rfl (by kernel_rfl) (by kernel_rfl) (by kernel_rfl) (fun _ _ _ h => h) (Or.inl ⟨by kernel_rfl, ?_⟩) hHeld ?_
    rotate_left
    · intro W hW; go_simp; first | done | with_reducible rfl | rfl
    try simp only [Act.put, List.getElem_toArray, List.getElem_cons_zero, List.getElem_cons_succ, List.setIfInBounds_toArray, List.set_cons_succ, List.set_cons_zero]
    refine wpAnyH_take (i := 24) (v := ?_) rfl (by kernel_rfl) (by kernel_rfl) (by kernel_rfl) (fun _ _ _ h => h) (Or.inl ⟨by kernel_rfl, ?_⟩) hHeld ?_
    rotate_left
    · intro W hW; go_simp; first | done | with_reducible rfl | rfl
    try simp only [Act.put, List.getElem_toArray, List.getElem_cons_zero, List.getElem_cons_succ, List.setIfInBounds_toArray, List.set_cons_succ, List.set_cons_zero]
    refine wpAnyH_take (i := 25) (v := .agg (cv z)) rfl (by kernel_rfl) (by kernel_rfl) (by kernel_rfl) (fun _ _ _ h => h) (yields_bx (by kernel_rfl) _ _ _ rfl _ rfl (cv z) (fun W hW => hZ.later hW) tyC rfl) hHeld ?_
    try simp only [Act.put, List.getElem_toArray, List.getElem_cons_zero, List.getElem_cons_succ, List.setIfInBounds_toArray, List.set_cons_succ, List.set_cons_zero]
    refine wpAnyH_take (i := 26) (v := .agg (cv d)) rfl (by kernel_rfl) (by kernel_rfl) (by kernel_rfl) (fun _ _ _ h => h) (yields_bx (by kernel_rfl) _ _ _ rfl _ rfl (cv d) (fun W hW => hX.later hW) tyR rfl) hHeld ?_
    try simp only [Act.put, List.getElem_toArray, List.getElem_cons_zero, List.getElem_cons_succ, List.setIfInBounds_toArray, List.set_cons_succ, List.set_cons_zero]
    refine wpAnyH_take (i := 28) (v := ?_) rfl (by kernel_rfl) (by kernel_rfl) (by kernel_rfl) (fun _ _ _ h => h) (Or.inl ⟨by kernel_rfl, ?_⟩) hHeld ?_
    rotate_left
    · intro W hW; go_simp; first | done | with_reducible rfl | rfl
    try simp only [Act.put, List.getElem_toArray, List.getElem_cons_zero, List.getElem_cons_succ, List.setIfInBounds_toArray, List.set_cons_succ, List.set_cons_zero]
    refine wpAnyH_take (i := 29) (v := .agg (va u)) rfl (by kernel_rfl) (by kernel_rfl) (by kernel_rfl) (fun _ _ _ h => h) (yields_bx (by kernel_rfl) _ _ _ rfl _ rfl (va u) (fun W hW => hV.later hW) tyV rfl) hHeld ?_
    try simp only [Act.put, List.getElem_toArray, List.getElem_cons_zero, List.getElem_cons_succ, List.setIfInBounds_toArray, List.set_cons_succ, List.set_cons_zero]
    refine wpAnyH_callB (i := 27) rfl (by kernel_rfl) (by kernel_rfl) (by kernel_rfl) (of_cell d _) hHeld ?_
    intro xc hb4 hHeld
    try simp only [Act.put, List.getElem_toArray, List.getElem_cons_zero, List.getElem_cons_succ, List.setIfInBounds_toArray, List.set_cons_succ, List.set_cons_zero]
    replace hX := hX.later hHeld
    replace hV := hV.later hHeld
    replace hZ := hZ.later hHeld
    replace hB := hB.trans (hHeld.mono hB.size)
    clear hHeld hb4
    have hHeld : Below xc.heap.size xc xc := Below.refl _ _
    refine wpAnyH_callB (i := 30) rfl (by kernel_rfl) (by kernel_rfl) (by kernel_rfl) (write_cell d a1 u _) hHeld ?_
    intro xc hb4 hHeld
    rw [Hz.out]
    try simp only [Act.put, List.getElem_toArray, List.getElem_cons_zero, List.getElem_cons_succ, List.setIfInBounds_toArray, List.set_cons_succ, List.set_cons_zero]
    replace hX := hX.later hHeld
    replace hV := hV.later hHeld
    replace hZ := hZ.later hHeld
    replace hB := hB.trans (hHeld.mono hB.size)
    clear hHeld hb4
    have hHeld : Below xc.heap.size xc xc := Below.refl _ _
    refine wpAnyH_callB (i := 31) rfl (by kernel_rfl) (by kernel_rfl) (by kernel_rfl) (eq_cell z z _ HZ.out HZ.out) hHeld ?_
    intro xc hb4 hHeld
    rw [Ce.eq_refl]
    try simp only [Act.put, List.getElem_toArray, List.getElem_cons_zero, List.getElem_cons_succ, List.setIfInBounds_toArray, List.set_cons_succ, List.set_cons_zero]
    replace hX := hX.later hHeld
    replace hV := hV.later hHeld
    replace hZ := hZ.later hHeld
    replace hB := hB.trans (hHeld.mono hB.size)
    clear hHeld hb4
    have hHeld : Below xc.heap.size xc xc := Below.refl _ _
    refine wpAnyH_take (i := 32) (v := ?_) rfl (by kernel_rfl) (by kernel_rfl) (by kernel_rfl) (fun _ _ _ h => h) (Or.inl ⟨by kernel_rfl, ?_⟩) hHeld ?_
    rotate_left
    · intro W hW; go_simp; first | done | with_reducible rfl | rfl
    try simp only [Act.put, List.getElem_toArray, List.getElem_cons_zero, List.getElem_cons_succ, List.setIfInBounds_toArray, List.set_cons_succ, List.set_cons_zero]
    refine wpAnyH_take (i := 33) (v := ?_) rfl (by kernel_rfl) (by kernel_rfl) (by kernel_rfl) (fun _ _ _ h => h) (Or.inl ⟨by kernel_rfl, ?_⟩) hHeld ?_
    rotate_left
    · intro W hW; go_simp; first | done | with_reducible rfl | rfl
    try simp only [Act.put, List.getElem_toArray, List.getElem_cons_zero, List.getElem_cons_succ, List.setIfInBounds_toArray, List.set_cons_succ, List.set_cons_zero]
    refine wpAnyH_done (by kernel_rfl) ?_ _
    refine NoPanic.normal ?_
    go_simp
    go_wp2_with fail
    go_ret
    exact ⟨rfl, hB⟩


set_option maxRecDepth 100000 in
theorem lifted (os : Os) (started : os.Started) (H : Type) (enc : TypeId × Value → H) :
    ReturnsInHanded {} Try.checked os 7 .any (Rows.cellWhoSpec.pre6 enc Try.prog Try.f7 Rows.cellWhoRow.domain false) (Rows.cellWhoSpec.post enc Try.prog Try.f7 false true false false) := by
  refine returnsInHanded_of_change (C := Try.checked) own started (by kernel_rfl) Try.func7
    (ChangeSpec.witness6 (enc := enc) (C := Try.checked) false ⟨#[], #[.agg (cv Ce.zero), .int .i64 0, .int .i64 0, .agg (va Va.zero)], []⟩ 8 (by kernel_rfl) (by kernel_rfl) (by kernel_rfl) (by kernel_rfl)) ?_
  intro W base args ds gs before hval0 hW hcnd _
  have hval : ∀ (j : Nat) t v, Try.f7.params[j]? = some t → args[j]? = some v → Value.okWide Try.prog W .any base t v := hval0
  have hW' := hW
  obtain ⟨p, q, hA0, hV, rfl, hfz, hnd⟩ := hW
  have hA : DataW.TrodAll enc Try.prog W 0 (fun _ => true) true Try.f7.params.toList args.toList ds p := hA0
  rw [Try.params7] at hA hval
  obtain ⟨v0, vs0, d0, ds0, p0, q0, hargs, rfl, rfl, h0, r0⟩ := trodAll_cons hA
  obtain ⟨v1, vs1, d1, ds1, p1, q1, rfl, rfl, rfl, h1, r1⟩ := trodAll_cons r0
  obtain ⟨v2, vs2, d2, ds2, p2, q2, rfl, rfl, rfl, h2, r2⟩ := trodAll_cons r1
  obtain ⟨v3, vs3, d3, ds3, p3, q3, rfl, rfl, rfl, h3, r3⟩ := trodAll_cons r2
  obtain ⟨rfl, rfl, rfl⟩ := trodAll_nil r3
  obtain rfl : args = #[v0, v1, v2, v3] := by cases args; simp_all
  obtain ⟨rfl, rfl⟩ := trodVars_none hV
  have k0 := h0
  have lt0 : ∀ x ∈ p0, x.block < W.heap.size := by obtain ⟨m, hm⟩ := k0; exact DataW.trod_lt m _ _ _ hm
  obtain ⟨a0, rfl, w0⟩ := open_cell (hval 0 26 v0 rfl rfl) h0
  obtain ⟨a1, rfl, rfl, rfl, w1⟩ := open_int Try.underlying2 (hval 1 2 v1 rfl rfl) h1
  obtain ⟨a2, rfl, rfl, rfl, w2⟩ := open_int Try.underlying2 (hval 2 2 v2 rfl rfl) h2
  have k3 := h3
  have lt3 : ∀ x ∈ p3, x.block < W.heap.size := by obtain ⟨m, hm⟩ := k3; exact DataW.trod_lt m _ _ _ hm
  obtain ⟨a3, rfl, w3⟩ := open_val (hval 3 24 v3 rfl rfl) h3
  clear hA0 hval0
  refine (walk a0 a1 a2 a3 W w0 w1 w2 w3).mono fun e W' ⟨he, bel⟩ => ?_
  subst he
  exact ⟨_, rfl, _, _, _, [], _, [], hW', trodAll_mk1 (shut_bool Try.underlying4 _), (trodAll_cons_mk (Below.trod laidOut (by kernel_rfl) (of_decide_eq_true (by kernel_rfl)) k0 bel lt0) (trodAll_cons_mk (shut_int Try.underlying2 w1) (trodAll_cons_mk (shut_int Try.underlying2 w2) (trodAll_cons_mk (Below.trod laidOut (by kernel_rfl) (of_decide_eq_true (by kernel_rfl)) k3 bel lt3) trodAll_mk0)))), rfl, bel.frame _, fun h => by cases h⟩

theorem over : Rows.cellWhoRow.holds Try.pinned (OpenSpec.ofChange Rows.cellWhoSpec) :=
  OpenClaim.holds_of_wide 7 Try.f7 rfl rfl rfl rfl rfl rfl rfl ⟨rfl, rfl, rfl, rfl, rfl⟩ rfl rfl rfl rfl rfl (by kernel_rfl) Try.func7 (by kernel_rfl)
    (of_decide_eq_true (by kernel_rfl)) (by unfold Func.isWrapper; first | (rw [if_pos (by decide +kernel)]; kernel_rfl) | (rw [if_neg (by decide +kernel)]; exact ⟨rfl, rfl⟩))
    (fun os started H enc _ => lifted os started H enc)

theorem proved : Rows.CellWhoSaid := over
#print axioms proved
end Go.Proofs.Ytlefhhmggaaiiaa.cellWho
