/-
  For every two cells c and d, every int64 txn and every value v CellAll returns true: which cells may be is what the document says; of a cell that may be See, Eq (with one that may be), Commit and Undo answer as the document says, and Write by a txn of 1 to 2^40 with a value that may be gives its key, what all see, txn and that value. No condition.
-/
import Derived.Test.YtlefhhmggaaiiaaRows
import Derived.WalkKit
import Derived.ProofKit
import Derived.OpenShut
import Derived.ShutString
import Derived.ChangeOld
import Derived.Below
import Derived.Test.YtlefhhmggaaiiaaCelL
import Derived.Test.YtlefhhmggaaiiaaCelH
import Derived.Test.YtlefhhmggaaiiaaCelO
import Derived.Test.YtlefhhmggaaiiaaCelS
import Derived.Test.YtlefhhmggaaiiaaOrw
import Derived.Test.YtlefhhmggaaiiaaOrx
namespace Go.Proofs.Ytlefhhmggaaiiaa.cellAll
open Go.ChangeShapes Go.WideShapes Go.ChangeAt Go.RowKit
open Go.ChangeMaps (open_string shut_string)
set_option linter.unusedVariables false

theorem own : ownKnob Try.prog.godebug = none := by kernel_rfl
theorem laidOut : laidOutB Try.prog = true := by kernel_rfl

set_option maxRecDepth 100000 in
set_option maxHeartbeats 16000000 in
theorem walk (a0 a1 : Ce) (a2 : Int) (a3 : Va) (w : World) (w0 : a0.Ok) (w1 : a1.Ok) (w2 : (Lit.int .i64 a2).wf = true) (w3 : a3.Ok) :
    Calls Try.prog 3 #[.agg (cv a0), .agg (cv a1), .int .i64 a2, .agg (va a3)] w fun e w' => e = .returned (.bool true) ∧ Below w.heap.size w w' := by
  obtain ⟨l1, l2⟩ := bounds_i64 w2
  clear w2
  have H0 := hide w0
  have H1 := hide w1
  have H3 := hide w3
  clear w0 w1 w3
  go_enter Try.func3, Try.ntmps3
  go_wp2_with (first
    | (refine wpList_box 26 (.tmp 0) (cv a0) rfl rfl rfl ?_; intro W1 hB hX)
    | (refine wpList_box 26 (.tmp 1) (cv a1) rfl rfl rfl ?_; intro W2 hBx hY; have nhXhY := Nat.ne_of_lt hX.lt; replace hX := hX.later hBx; have lhY := hB.size; replace hB := hB.trans (hBx.mono hB.size); clear hBx)
    | (refine wpList_box 24 (.tmp 3) (va a3) rfl rfl rfl ?_; intro W3 hBx hV; have nhXhV := Nat.ne_of_lt hX.lt; replace hX := hX.later hBx; have nhYhV := Nat.ne_of_lt hY.lt; replace hY := hY.later hBx; have lhV := hB.size; replace hB := hB.trans (hBx.mono hB.size); clear hBx))
  refine (begun_any _).mono ?_
  rintro e X ⟨rfl, hb⟩
  replace hX := hX.later hb
  replace hY := hY.later hb
  replace hV := hV.later hb
  replace hB := hB.trans (hb.mono hB.size)
  clear hb
  go_wp2_with fail
  refine wp_region_noPanic ?_
  refine wp_region_P 6 (fun W => Below X.heap.size X W) (by kernel_rfl) (Below.refl _ _).drew (fun hHeld => ?_)
  refine wpAnyP_take (i := 0) (v := .agg (cv a0)) rfl (by kernel_rfl) (by kernel_rfl) (by kernel_rfl) (by kernel_rfl) (by kernel_rfl) (by decide) (fun _ _ _ h => h) (yields_bx (by kernel_rfl) _ _ _ rfl _ rfl (cv a0) (fun W hW => hX.later hW) tyR rfl) hHeld ?_
  try simp only [Act.put, List.getElem_toArray, List.getElem_cons_zero, List.setIfInBounds_toArray, List.set_cons_succ, List.set_cons_zero]
  refine wpAnyP_takeD [3,5,6] (i := 2) (v := .agg (cv a1)) rfl (by kernel_rfl) (by kernel_rfl) (by kernel_rfl) (by kernel_rfl) (by kernel_rfl) (by kernel_rfl) (fun _ _ _ h => h) (yields_bx (by kernel_rfl) _ _ _ rfl _ rfl (cv a1) (fun W hW => hY.later hW) tyR rfl) hHeld ?_
  try simp only [Act.put, List.getElem_toArray, List.getElem_cons_zero, List.getElem_cons_succ, List.setIfInBounds_toArray, List.set_cons_succ, List.set_cons_zero]
  refine wpAnyP_takeD [5,6] (i := 4) (v := .agg (va a3)) rfl (by kernel_rfl) (by kernel_rfl) (by kernel_rfl) (by kernel_rfl) (by kernel_rfl) (by kernel_rfl) (fun _ _ _ h => h) (yields_bx (by kernel_rfl) _ _ _ rfl _ rfl (va a3) (fun W hW => hV.later hW) tyV rfl) hHeld ?_
  try simp only [Act.put, List.getElem_toArray, List.getElem_cons_zero, List.getElem_cons_succ, List.setIfInBounds_toArray, List.set_cons_succ, List.set_cons_zero]
  refine wpAnyP_ready (rs := [1]) (by kernel_rfl) (by simp) ?_
  refine AllReadyP.cons (o := _) rfl (fun K hK => ?_) AllReadyP.nil
  rw [if_pos (by kernel_rfl)]
  go_simp
  refine (cut_cell a0 _ H0.out).mono ?_
  rintro e xc ⟨c, rfl, hdc, h20c, h25c, h26c, hb⟩
  dsimp only
  have hHeldN := hHeld.trans (hb.mono hHeld.size)
  refine hK.out _ _ hHeldN ?_
  clear hK K hb hHeld
  have hHeld := hHeldN
  clear hHeldN
  try simp only [Act.put, List.getElem_toArray, List.getElem_cons_zero, List.getElem_cons_succ, List.setIfInBounds_toArray, List.set_cons_succ, List.set_cons_zero]
  have Hc := hide hdc
  have Fc := hide (show c.N.size + c.V.S.size + c.W.S.size ≤ 70 by omega)
  clear hdc h20c h25c h26c
  refine wpAnyP_ready (rs := [3]) (by kernel_rfl) (by simp) ?_
  refine AllReadyP.cons (o := _) rfl (fun K hK => ?_) AllReadyP.nil
  rw [if_pos (by kernel_rfl)]
  go_simp
  refine (cut_cell a1 _ H1.out).mono ?_
  rintro e xc ⟨d, rfl, hdd, h20d, h25d, h26d, hb⟩
  dsimp only
  have hHeldN := hHeld.trans (hb.mono hHeld.size)
  refine hK.out _ _ hHeldN ?_
  clear hK K hb hHeld
  have hHeld := hHeldN
  clear hHeldN
  try simp only [Act.put, List.getElem_toArray, List.getElem_cons_zero, List.getElem_cons_succ, List.setIfInBounds_toArray, List.set_cons_succ, List.set_cons_zero]
  have Hd := hide hdd
  have Fd := hide (show d.N.size + d.V.S.size + d.W.S.size ≤ 70 by omega)
  clear hdd h20d h25d h26d
  refine wpAnyP_ready (rs := [5]) (by kernel_rfl) (by simp) ?_
  refine AllReadyP.cons (o := _) rfl (fun K hK => ?_) AllReadyP.nil
  rw [if_pos (by kernel_rfl)]
  go_simp
  refine (val_cell a3 _ H3.out.s).mono ?_
  rintro e xc ⟨sv, rfl, hsv, hb⟩
  dsimp only
  have hHeldN := hHeld.trans (hb.mono hHeld.size)
  refine hK.out _ _ hHeldN ?_
  clear hK K hb hHeld
  have hHeld := hHeldN
  clear hHeldN
  try simp only [Act.put, List.getElem_toArray, List.getElem_cons_zero, List.getElem_cons_succ, List.setIfInBounds_toArray, List.set_cons_succ, List.set_cons_zero]
  have huv : (⟨a3.K, a3.X, sv⟩ : Va).Ok := ⟨H3.out.k0, H3.out.k1, H3.out.x, by show sv.size ≤ maxLen; unfold maxLen; omega⟩
  generalize hqv : (⟨a3.K, a3.X, sv⟩ : Va) = v at *
  have Hv := hide huv
  clear huv hqv hsv
  replace hX := hX.later hHeld
  replace hY := hY.later hHeld
  replace hV := hV.later hHeld
  replace hB := hB.trans (hHeld.mono hB.size)
  clear hHeld
  refine wpAnyP_ready (rs := [6]) (by kernel_rfl) (by simp) ?_
  refine AllReadyP.late (o := _) rfl (by kernel_rfl) (fun K hK => ?_)
  rw [if_pos (by kernel_rfl)]
  refine wp_put 26 _ (.tmp 4) (.tmp 23) _ (cv c) _ rfl rfl rfl hX tyR rfl rfl (cv_one _) ?_
  intro Wp hbp hzp hNp
  refine hK.out _ _ ?_
  clear hK K
  try simp only [Act.put, List.getElem_toArray, List.getElem_cons_zero, List.getElem_cons_succ]
  replace hY := hY.but hbp (fun e => nhXhY e.symm)
  replace hV := hV.but hbp (fun e => nhXhV e.symm)
  replace hB := Below.but hB hB.size hbp (fun k e => by omega)
  clear hX hbp hzp
  have hX := hNp
  clear hNp
  refine wpAnyP_ready (rs := [7]) (by kernel_rfl) (by simp) ?_
  refine AllReadyP.late (o := _) rfl (by kernel_rfl) (fun K hK => ?_)
  rw [if_pos (by kernel_rfl)]
  refine wp_put 26 _ (.tmp 5) (.tmp 25) _ (cv d) _ rfl rfl rfl hY tyR rfl rfl (cv_one _) ?_
  intro Wp hbp hzp hNp
  refine hK.out _ _ ?_
  clear hK K
  try simp only [Act.put, List.getElem_toArray, List.getElem_cons_zero, List.getElem_cons_succ]
  replace hX := hX.but hbp nhXhY
  replace hV := hV.but hbp (fun e => nhYhV e.symm)
  replace hB := Below.but hB hB.size hbp (fun k e => by omega)
  clear hY hbp hzp
  have hY := hNp
  clear hNp
  refine wpAnyP_ready (rs := [8]) (by kernel_rfl) (by simp) ?_
  refine AllReadyP.late (o := _) rfl (by kernel_rfl) (fun K hK => ?_)
  rw [if_pos (by kernel_rfl)]
  refine wp_put 24 _ (.tmp 7) (.tmp 27) _ (va v) _ rfl rfl rfl hV tyV rfl rfl (va_one _) ?_
  intro Wp hbp hzp hNp
  refine hK.out _ _ ?_
  clear hK K
  try simp only [Act.put, List.getElem_toArray, List.getElem_cons_zero, List.getElem_cons_succ]
  replace hX := hX.but hbp nhXhV
  replace hY := hY.but hbp nhYhV
  replace hB := Below.but hB hB.size hbp (fun k e => by omega)
  clear hV hbp hzp
  have hV := hNp
  clear hNp
  refine wpAnyP_done (by kernel_rfl) ?_ _
  refine NoPanic.normal ?_
  go_simp
  obtain ⟨m, hm⟩ : ∃ m, c.may = m := ⟨_, rfl⟩
  obtain ⟨n, hn⟩ : ∃ n, d.may = n := ⟨_, rfl⟩
  have HM := hide hm
  have HN := hide hn
  clear hm hn
  go_wp2_with fail
  refine wp_region_noPanic ?_
  refine wp_region_held_drew (S := fun W => Below Wp.heap.size Wp W) (by kernel_rfl) ?_ (fun hHeld => ?_)
  · exact (Below.refl _ _).drew
  refine wpAnyH_take (i := 0) (v := .agg (cv c)) rfl (by kernel_rfl) (by kernel_rfl) (by kernel_rfl) (fun _ _ _ h => h) (yields_bx (by kernel_rfl) _ _ _ rfl _ rfl (cv c) (fun W hW => hX.later hW) tyR rfl) hHeld ?_
  try simp only [Act.put, List.getElem_toArray, List.getElem_cons_zero, List.setIfInBounds_toArray, List.set_cons_succ, List.set_cons_zero]
  refine wpAnyH_take (i := 3) (v := .agg (cv c)) rfl (by kernel_rfl) (by kernel_rfl) (by kernel_rfl) (fun _ _ _ h => h) (yields_bx (by kernel_rfl) _ _ _ rfl _ rfl (cv c) (fun W hW => hX.later hW) tyR rfl) hHeld ?_
  try simp only [Act.put, List.getElem_toArray, List.getElem_cons_zero, List.getElem_cons_succ, List.setIfInBounds_toArray, List.set_cons_succ, List.set_cons_zero]
  refine wpAnyH_callB (i := 1) rfl (by kernel_rfl) (by kernel_rfl) (by kernel_rfl) (of_cell c _) hHeld ?_
  intro xc hb4 hHeld
  try simp only [Act.put, List.getElem_toArray, List.getElem_cons_zero, List.getElem_cons_succ, List.setIfInBounds_toArray, List.set_cons_succ, List.set_cons_zero]
  replace hX := hX.later hHeld
  replace hY := hY.later hHeld
  replace hV := hV.later hHeld
  replace hB := hB.trans (hHeld.mono hB.size)
  clear hHeld hb4
  have hHeld : Below xc.heap.size xc xc := Below.refl _ _
  refine wpAnyH_callB (i := 2) rfl (by kernel_rfl) (by kernel_rfl) (by kernel_rfl) (may_cell c _ Hc.out) hHeld ?_
  intro xc hb4 hHeld
  rw [HM.out]
  try simp only [Act.put, List.getElem_toArray, List.getElem_cons_zero, List.getElem_cons_succ, List.setIfInBounds_toArray, List.set_cons_succ, List.set_cons_zero]
  replace hX := hX.later hHeld
  replace hY := hY.later hHeld
  replace hV := hV.later hHeld
  replace hB := hB.trans (hHeld.mono hB.size)
  clear hHeld hb4
  have hHeld : Below xc.heap.size xc xc := Below.refl _ _
  refine wpAnyH_callB (i := 4) rfl (by kernel_rfl) (by kernel_rfl) (by kernel_rfl) (refMay_cell c _ Hc.out) hHeld ?_
  intro xc hb4 hHeld
  rw [HM.out]
  try simp only [Act.put, List.getElem_toArray, List.getElem_cons_zero, List.getElem_cons_succ, List.setIfInBounds_toArray, List.set_cons_succ, List.set_cons_zero]
  replace hX := hX.later hHeld
  replace hY := hY.later hHeld
  replace hV := hV.later hHeld
  replace hB := hB.trans (hHeld.mono hB.size)
  clear hHeld hb4
  have hHeld : Below xc.heap.size xc xc := Below.refl _ _
  refine wpAnyH_take (i := 5) (v := .bool false) rfl (by kernel_rfl) (by kernel_rfl) (by kernel_rfl) (fun _ _ _ h => h) (Or.inl ⟨by kernel_rfl, ?_⟩) hHeld ?_
  · intro W hW; go_simp; first | done | with_reducible rfl | rfl
  try simp only [Act.put, List.getElem_toArray, List.getElem_cons_zero, List.getElem_cons_succ, List.setIfInBounds_toArray, List.set_cons_succ, List.set_cons_zero]
  refine wpAnyH_take (i := 6) (v := ?_) rfl (by kernel_rfl) (by kernel_rfl) (by kernel_rfl) (fun _ _ _ h => h) (Or.inl ⟨by kernel_rfl, ?_⟩) hHeld ?_
  rotate_left
  · intro W hW; go_simp; first | done | with_reducible rfl | rfl
  try simp only [Act.put, List.getElem_toArray, List.getElem_cons_zero, List.getElem_cons_succ, List.setIfInBounds_toArray, List.set_cons_succ, List.set_cons_zero]
  refine wpAnyH_take (i := 7) (v := .agg (cv d)) rfl (by kernel_rfl) (by kernel_rfl) (by kernel_rfl) (fun _ _ _ h => h) (yields_bx (by kernel_rfl) _ _ _ rfl _ rfl (cv d) (fun W hW => hY.later hW) tyR rfl) hHeld ?_
  try simp only [Act.put, List.getElem_toArray, List.getElem_cons_zero, List.getElem_cons_succ, List.setIfInBounds_toArray, List.set_cons_succ, List.set_cons_zero]
  refine wpAnyH_take (i := 10) (v := .agg (cv d)) rfl (by kernel_rfl) (by kernel_rfl) (by kernel_rfl) (fun _ _ _ h => h) (yields_bx (by kernel_rfl) _ _ _ rfl _ rfl (cv d) (fun W hW => hY.later hW) tyR rfl) hHeld ?_
  try simp only [Act.put, List.getElem_toArray, List.getElem_cons_zero, List.getElem_cons_succ, List.setIfInBounds_toArray, List.set_cons_succ, List.set_cons_zero]
  refine wpAnyH_callB (i := 8) rfl (by kernel_rfl) (by kernel_rfl) (by kernel_rfl) (of_cell d _) hHeld ?_
  intro xc hb4 hHeld
  try simp only [Act.put, List.getElem_toArray, List.getElem_cons_zero, List.getElem_cons_succ, List.setIfInBounds_toArray, List.set_cons_succ, List.set_cons_zero]
  replace hX := hX.later hHeld
  replace hY := hY.later hHeld
  replace hV := hV.later hHeld
  replace hB := hB.trans (hHeld.mono hB.size)
  clear hHeld hb4
  have hHeld : Below xc.heap.size xc xc := Below.refl _ _
  refine wpAnyH_callB (i := 9) rfl (by kernel_rfl) (by kernel_rfl) (by kernel_rfl) (may_cell d _ Hd.out) hHeld ?_
  intro xc hb4 hHeld
  rw [HN.out]
  try simp only [Act.put, List.getElem_toArray, List.getElem_cons_zero, List.getElem_cons_succ, List.setIfInBounds_toArray, List.set_cons_succ, List.set_cons_zero]
  replace hX := hX.later hHeld
  replace hY := hY.later hHeld
  replace hV := hV.later hHeld
  replace hB := hB.trans (hHeld.mono hB.size)
  clear hHeld hb4
  have hHeld : Below xc.heap.size xc xc := Below.refl _ _
  refine wpAnyH_callB (i := 11) rfl (by kernel_rfl) (by kernel_rfl) (by kernel_rfl) (refMay_cell d _ Hd.out) hHeld ?_
  intro xc hb4 hHeld
  rw [HN.out]
  try simp only [Act.put, List.getElem_toArray, List.getElem_cons_zero, List.getElem_cons_succ, List.setIfInBounds_toArray, List.set_cons_succ, List.set_cons_zero]
  replace hX := hX.later hHeld
  replace hY := hY.later hHeld
  replace hV := hV.later hHeld
  replace hB := hB.trans (hHeld.mono hB.size)
  clear hHeld hb4
  have hHeld : Below xc.heap.size xc xc := Below.refl _ _
  refine wpAnyH_take (i := 12) (v := .bool false) rfl (by kernel_rfl) (by kernel_rfl) (by kernel_rfl) (fun _ _ _ h => h) (Or.inl ⟨by kernel_rfl, ?_⟩) hHeld ?_
  · intro W hW; go_simp; first | done | with_reducible rfl | rfl
  try simp only [Act.put, List.getElem_toArray, List.getElem_cons_zero, List.getElem_cons_succ, List.setIfInBounds_toArray, List.set_cons_succ, List.set_cons_zero]
  refine wpAnyH_take (i := 13) (v := ?_) rfl (by kernel_rfl) (by kernel_rfl) (by kernel_rfl) (fun _ _ _ h => h) (Or.inl ⟨by kernel_rfl, ?_⟩) hHeld ?_
  rotate_left
  · intro W hW; go_simp; first | done | with_reducible rfl | rfl
  try simp only [Act.put, List.getElem_toArray, List.getElem_cons_zero, List.getElem_cons_succ, List.setIfInBounds_toArray, List.set_cons_succ, List.set_cons_zero]
  refine wpAnyH_done (by kernel_rfl) ?_ _
  refine NoPanic.normal ?_
  go_simp
  clear hHeld
  go_wp2_with (first
    | (refine wpList_get 26 _ (.tmp 4) _ (cv c) rfl rfl rfl hX tyR rfl ?_))
  refine (refMay_cell c _ Hc.out).mono ?_
  rintro e W7 ⟨rfl, hb⟩
  rw [HM.out]
  replace hX := hX.later hb
  replace hY := hY.later hb
  replace hV := hV.later hb
  replace hB := hB.trans (hb.mono hB.size)
  clear hb
  cases m
  · go_wp2_with fail
    go_ret
    exact ⟨rfl, hB⟩
  have HS := hide (Ce.see_ok Hc.out a2)
  go_wp2_with fail
  obtain ⟨Q0, HQ0⟩ : ∃ Q0 : Exit → Act → World → Prop, Hid (Q0 = fun e a' w' => e = Exit.normal ∧ ∃ x : Nat → Value, a' = ({ tmps := #[x 0, x 1, .int .i64 a2, x 3, .pointer (some ⟨w.heap.size, 0, none⟩), x 5, x 6, .pointer (some ⟨W2.heap.size, 0, none⟩), x 8, x 9, x 10, x 11, x 12, x 13, x 14, x 15, x 16, x 17, x 18, x 19, x 20, x 21, x 22, x 23, x 24, x 25, x 26, x 27, x 28, x 29, x 30, x 31, x 32, x 33, x 34, x 35, x 36, x 37, x 38, x 39, x 40, x 41, x 42, x 43, x 44, x 45, x 46, x 47, x 48, x 49, x 50, x 51, x 52, x 53, x 54, x 55, x 56, x 57, x 58, x 59, x 60, x 61, x 62, x 63, x 64, x 65, x 66, x 67, .bool false, x 69, x 70, x 71, x 72, x 73, x 74, x 75, x 76, x 77, x 78, x 79, x 80, x 81, x 82, x 83, x 84, x 85, x 86, x 87, x 88, x 89, x 90, x 91, x 92, x 93, x 94, x 95, x 96, x 97, x 98, x 99, x 100, x 101, x 102, x 103, x 104, x 105, x 106, x 107, x 108, x 109, x 110, x 111, x 112, x 113, x 114, x 115, x 116, x 117, x 118, x 119, x 120, x 121, x 122, x 123, x 124, x 125, x 126, x 127, x 128, x 129, x 130, x 131, x 132, x 133, x 134, x 135, x 136, x 137, x 138, x 139, x 140, x 141, x 142, x 143, x 144, x 145, x 146, x 147, x 148, x 149, x 150, x 151, x 152, x 153], defers := [] } : Act) ∧ Below W7.heap.size W7 w') := ⟨_, rfl⟩
  refine Code.wp_mono (Q := Q0) ?cont ?_
  rotate_left
  · skip
    cases n
    · skip
      have hG : Below W7.heap.size W7 W7 := Below.refl _ _
      refine wp_region_noPanic ?_
      refine wp_region_held_drew (S := fun W => Below W7.heap.size W7 W) (by kernel_rfl) ?_ (fun hHeld => ?_)
      · exact (Below.refl _ _).drew
      refine wpAnyH_take (i := 0) (v := .agg (cv c)) rfl (by kernel_rfl) (by kernel_rfl) (by kernel_rfl) (fun _ _ _ h => h) (yields_bx (by kernel_rfl) _ _ _ rfl _ rfl (cv c) (fun W hW => hX.later hW) tyR rfl) hHeld ?_
      try simp only [Act.put, List.getElem_toArray, List.getElem_cons_zero, List.setIfInBounds_toArray, List.set_cons_succ, List.set_cons_zero]
      refine wpAnyH_take (i := 2) (v := ?_) rfl (by kernel_rfl) (by kernel_rfl) (by kernel_rfl) (fun _ _ _ h => h) (Or.inl ⟨by kernel_rfl, ?_⟩) hHeld ?_
      rotate_left
      · intro W hW; go_simp; first | done | with_reducible rfl | rfl
      try simp only [Act.put, List.getElem_toArray, List.getElem_cons_zero, List.getElem_cons_succ, List.setIfInBounds_toArray, List.set_cons_succ, List.set_cons_zero]
      refine wpAnyH_take (i := 4) (v := .agg (cv c)) rfl (by kernel_rfl) (by kernel_rfl) (by kernel_rfl) (fun _ _ _ h => h) (yields_bx (by kernel_rfl) _ _ _ rfl _ rfl (cv c) (fun W hW => hX.later hW) tyR rfl) hHeld ?_
      try simp only [Act.put, List.getElem_toArray, List.getElem_cons_zero, List.getElem_cons_succ, List.setIfInBounds_toArray, List.set_cons_succ, List.set_cons_zero]
      refine wpAnyH_take (i := 5) (v := ?_) rfl (by kernel_rfl) (by kernel_rfl) (by kernel_rfl) (fun _ _ _ h => h) (Or.inl ⟨by kernel_rfl, ?_⟩) hHeld ?_
      rotate_left
      · intro W hW; go_simp; first | done | with_reducible rfl | rfl
      try simp only [Act.put, List.getElem_toArray, List.getElem_cons_zero, List.getElem_cons_succ, List.setIfInBounds_toArray, List.set_cons_succ, List.set_cons_zero]
      refine wpAnyH_callB (i := 1) rfl (by kernel_rfl) (by kernel_rfl) (by kernel_rfl) (of_cell c _) hHeld ?_
      intro xc hb4 hHeld
      try simp only [Act.put, List.getElem_toArray, List.getElem_cons_zero, List.getElem_cons_succ, List.setIfInBounds_toArray, List.set_cons_succ, List.set_cons_zero]
      replace hX := hX.later hHeld
      replace hY := hY.later hHeld
      replace hG := hG.trans (hHeld.mono hG.size)
      clear hHeld hb4
      have hHeld : Below xc.heap.size xc xc := Below.refl _ _
      refine wpAnyH_callB (i := 3) rfl (by kernel_rfl) (by kernel_rfl) (by kernel_rfl) (see_cell c a2 _) hHeld ?_
      intro xc hb4 hHeld
      try simp only [Act.put, List.getElem_toArray, List.getElem_cons_zero, List.getElem_cons_succ, List.setIfInBounds_toArray, List.set_cons_succ, List.set_cons_zero]
      replace hX := hX.later hHeld
      replace hY := hY.later hHeld
      replace hG := hG.trans (hHeld.mono hG.size)
      clear hHeld hb4
      have hHeld : Below xc.heap.size xc xc := Below.refl _ _
      refine wpAnyH_callB (i := 6) rfl (by kernel_rfl) (by kernel_rfl) (by kernel_rfl) (refSee_cell c a2 _) hHeld ?_
      intro xc hb4 hHeld
      try simp only [Act.put, List.getElem_toArray, List.getElem_cons_zero, List.getElem_cons_succ, List.setIfInBounds_toArray, List.set_cons_succ, List.set_cons_zero]
      replace hX := hX.later hHeld
      replace hY := hY.later hHeld
      replace hG := hG.trans (hHeld.mono hG.size)
      clear hHeld hb4
      have hHeld : Below xc.heap.size xc xc := Below.refl _ _
      refine wpAnyH_callB (i := 7) rfl (by kernel_rfl) (by kernel_rfl) (by kernel_rfl) (refEq_va (Ce.see c a2) (Ce.see c a2) _ HS.out HS.out) hHeld ?_
      intro xc hb4 hHeld
      rw [Va.eq_refl]
      try simp only [Act.put, List.getElem_toArray, List.getElem_cons_zero, List.getElem_cons_succ, List.setIfInBounds_toArray, List.set_cons_succ, List.set_cons_zero]
      replace hX := hX.later hHeld
      replace hY := hY.later hHeld
      replace hG := hG.trans (hHeld.mono hG.size)
      clear hHeld hb4
      have hHeld : Below xc.heap.size xc xc := Below.refl _ _
      refine wpAnyH_take (i := 8) (v := .bool false) rfl (by kernel_rfl) (by kernel_rfl) (by kernel_rfl) (fun _ _ _ h => h) (Or.inl ⟨by kernel_rfl, ?_⟩) hHeld ?_
      · intro W hW; go_simp; first | done | with_reducible rfl | rfl
      try simp only [Act.put, List.getElem_toArray, List.getElem_cons_zero, List.getElem_cons_succ, List.setIfInBounds_toArray, List.set_cons_succ, List.set_cons_zero]
      refine wpAnyH_take (i := 9) (v := ?_) rfl (by kernel_rfl) (by kernel_rfl) (by kernel_rfl) (fun _ _ _ h => h) (Or.inl ⟨by kernel_rfl, ?_⟩) hHeld ?_
      rotate_left
      · intro W hW; go_simp; first | done | with_reducible rfl | rfl
      try simp only [Act.put, List.getElem_toArray, List.getElem_cons_zero, List.getElem_cons_succ, List.setIfInBounds_toArray, List.set_cons_succ, List.set_cons_zero]
      refine wpAnyH_take (i := 10) (v := .agg (cv d)) rfl (by kernel_rfl) (by kernel_rfl) (by kernel_rfl) (fun _ _ _ h => h) (yields_bx (by kernel_rfl) _ _ _ rfl _ rfl (cv d) (fun W hW => hY.later hW) tyR rfl) hHeld ?_
      try simp only [Act.put, List.getElem_toArray, List.getElem_cons_zero, List.getElem_cons_succ, List.setIfInBounds_toArray, List.set_cons_succ, List.set_cons_zero]
      refine wpAnyH_callB (i := 11) rfl (by kernel_rfl) (by kernel_rfl) (by kernel_rfl) (refMay_cell d _ Hd.out) hHeld ?_
      intro xc hb4 hHeld
      rw [HN.out]
      try simp only [Act.put, List.getElem_toArray, List.getElem_cons_zero, List.getElem_cons_succ, List.setIfInBounds_toArray, List.set_cons_succ, List.set_cons_zero]
      replace hX := hX.later hHeld
      replace hY := hY.later hHeld
      replace hG := hG.trans (hHeld.mono hG.size)
      clear hHeld hb4
      have hHeld : Below xc.heap.size xc xc := Below.refl _ _
      refine wpAnyH_take (i := 12) (v := ?_) rfl (by kernel_rfl) (by kernel_rfl) (by kernel_rfl) (fun _ _ _ h => h) (Or.inl ⟨by kernel_rfl, ?_⟩) hHeld ?_
      rotate_left
      · intro W hW; go_simp; first | done | with_reducible rfl | rfl
      try simp only [Act.put, List.getElem_toArray, List.getElem_cons_zero, List.getElem_cons_succ, List.setIfInBounds_toArray, List.set_cons_succ, List.set_cons_zero]
      refine wpAnyH_take (i := 13) (v := undef) rfl (by kernel_rfl) (by kernel_rfl) (by kernel_rfl) (fun _ _ _ h => h) (Or.inr ⟨by kernel_rfl, rfl⟩) hHeld ?_
      try simp only [Act.put, List.getElem_toArray, List.getElem_cons_zero, List.getElem_cons_succ, List.setIfInBounds_toArray, List.set_cons_succ, List.set_cons_zero]
      refine wpAnyH_take (i := 15) (v := undef) rfl (by kernel_rfl) (by kernel_rfl) (by kernel_rfl) (fun _ _ _ h => h) (Or.inr ⟨by kernel_rfl, rfl⟩) hHeld ?_
      try simp only [Act.put, List.getElem_toArray, List.getElem_cons_zero, List.getElem_cons_succ, List.setIfInBounds_toArray, List.set_cons_succ, List.set_cons_zero]
      refine wpAnyH_take (i := 18) (v := undef) rfl (by kernel_rfl) (by kernel_rfl) (by kernel_rfl) (fun _ _ _ h => h) (Or.inr ⟨by kernel_rfl, rfl⟩) hHeld ?_
      try simp only [Act.put, List.getElem_toArray, List.getElem_cons_zero, List.getElem_cons_succ, List.setIfInBounds_toArray, List.set_cons_succ, List.set_cons_zero]
      refine wpAnyH_take (i := 19) (v := undef) rfl (by kernel_rfl) (by kernel_rfl) (by kernel_rfl) (fun _ _ _ h => h) (Or.inr ⟨by kernel_rfl, rfl⟩) hHeld ?_
      try simp only [Act.put, List.getElem_toArray, List.getElem_cons_zero, List.getElem_cons_succ, List.setIfInBounds_toArray, List.set_cons_succ, List.set_cons_zero]
      refine wpAnyH_off (i := 14) rfl (by kernel_rfl) (by kernel_rfl) hHeld ?_
      try simp only [Act.put, List.getElem_toArray, List.getElem_cons_zero, List.getElem_cons_succ, List.setIfInBounds_toArray, List.set_cons_succ, List.set_cons_zero]
      refine wpAnyH_off (i := 16) rfl (by kernel_rfl) (by kernel_rfl) hHeld ?_
      try simp only [Act.put, List.getElem_toArray, List.getElem_cons_zero, List.getElem_cons_succ, List.setIfInBounds_toArray, List.set_cons_succ, List.set_cons_zero]
      refine wpAnyH_off (i := 17) rfl (by kernel_rfl) (by kernel_rfl) hHeld ?_
      try simp only [Act.put, List.getElem_toArray, List.getElem_cons_zero, List.getElem_cons_succ, List.setIfInBounds_toArray, List.set_cons_succ, List.set_cons_zero]
      refine wpAnyH_off (i := 20) rfl (by kernel_rfl) (by kernel_rfl) hHeld ?_
      try simp only [Act.put, List.getElem_toArray, List.getElem_cons_zero, List.getElem_cons_succ, List.setIfInBounds_toArray, List.set_cons_succ, List.set_cons_zero]
      refine wpAnyH_take (i := 21) (v := undef) rfl (by kernel_rfl) (by kernel_rfl) (by kernel_rfl) (fun _ _ _ h => h) (Or.inr ⟨by kernel_rfl, rfl⟩) hHeld ?_
      try simp only [Act.put, List.getElem_toArray, List.getElem_cons_zero, List.getElem_cons_succ, List.setIfInBounds_toArray, List.set_cons_succ, List.set_cons_zero]
      refine wpAnyH_take (i := 22) (v := ?_) rfl (by kernel_rfl) (by kernel_rfl) (by kernel_rfl) (fun _ _ _ h => h) (Or.inl ⟨by kernel_rfl, ?_⟩) hHeld ?_
      rotate_left
      · intro W hW; go_simp; first | done | with_reducible rfl | rfl
      try simp only [Act.put, List.getElem_toArray, List.getElem_cons_zero, List.getElem_cons_succ, List.setIfInBounds_toArray, List.set_cons_succ, List.set_cons_zero]
      refine wpAnyH_take (i := 23) (v := ?_) rfl (by kernel_rfl) (by kernel_rfl) (by kernel_rfl) (fun _ _ _ h => h) (Or.inl ⟨by kernel_rfl, ?_⟩) hHeld ?_
      rotate_left
      · intro W hW; go_simp; first | done | with_reducible rfl | rfl
      try simp only [Act.put, List.getElem_toArray, List.getElem_cons_zero, List.getElem_cons_succ, List.setIfInBounds_toArray, List.set_cons_succ, List.set_cons_zero]
      refine wpAnyH_done (by kernel_rfl) ?_ _
      refine NoPanic.normal ?_
      generalize hA : ({ tmps := _, defers := [] } : Act) = A
      rw [HQ0.out]
      exact ⟨rfl, fun k => A.tmps.getD k undef, (by subst hA; kernel_rfl), hG⟩
    · skip
      have hG : Below W7.heap.size W7 W7 := Below.refl _ _
      refine wp_region_noPanic ?_
      refine wp_region_held_drew (S := fun W => Below W7.heap.size W7 W) (by kernel_rfl) ?_ (fun hHeld => ?_)
      · exact (Below.refl _ _).drew
      refine wpAnyH_take (i := 0) (v := .agg (cv c)) rfl (by kernel_rfl) (by kernel_rfl) (by kernel_rfl) (fun _ _ _ h => h) (yields_bx (by kernel_rfl) _ _ _ rfl _ rfl (cv c) (fun W hW => hX.later hW) tyR rfl) hHeld ?_
      try simp only [Act.put, List.getElem_toArray, List.getElem_cons_zero, List.setIfInBounds_toArray, List.set_cons_succ, List.set_cons_zero]
      refine wpAnyH_take (i := 2) (v := ?_) rfl (by kernel_rfl) (by kernel_rfl) (by kernel_rfl) (fun _ _ _ h => h) (Or.inl ⟨by kernel_rfl, ?_⟩) hHeld ?_
      rotate_left
      · intro W hW; go_simp; first | done | with_reducible rfl | rfl
      try simp only [Act.put, List.getElem_toArray, List.getElem_cons_zero, List.getElem_cons_succ, List.setIfInBounds_toArray, List.set_cons_succ, List.set_cons_zero]
      refine wpAnyH_take (i := 4) (v := .agg (cv c)) rfl (by kernel_rfl) (by kernel_rfl) (by kernel_rfl) (fun _ _ _ h => h) (yields_bx (by kernel_rfl) _ _ _ rfl _ rfl (cv c) (fun W hW => hX.later hW) tyR rfl) hHeld ?_
      try simp only [Act.put, List.getElem_toArray, List.getElem_cons_zero, List.getElem_cons_succ, List.setIfInBounds_toArray, List.set_cons_succ, List.set_cons_zero]
      refine wpAnyH_take (i := 5) (v := ?_) rfl (by kernel_rfl) (by kernel_rfl) (by kernel_rfl) (fun _ _ _ h => h) (Or.inl ⟨by kernel_rfl, ?_⟩) hHeld ?_
      rotate_left
      · intro W hW; go_simp; first | done | with_reducible rfl | rfl
      try simp only [Act.put, List.getElem_toArray, List.getElem_cons_zero, List.getElem_cons_succ, List.setIfInBounds_toArray, List.set_cons_succ, List.set_cons_zero]
      refine wpAnyH_callB (i := 1) rfl (by kernel_rfl) (by kernel_rfl) (by kernel_rfl) (of_cell c _) hHeld ?_
      intro xc hb4 hHeld
      try simp only [Act.put, List.getElem_toArray, List.getElem_cons_zero, List.getElem_cons_succ, List.setIfInBounds_toArray, List.set_cons_succ, List.set_cons_zero]
      replace hX := hX.later hHeld
      replace hY := hY.later hHeld
      replace hG := hG.trans (hHeld.mono hG.size)
      clear hHeld hb4
      have hHeld : Below xc.heap.size xc xc := Below.refl _ _
      refine wpAnyH_callB (i := 3) rfl (by kernel_rfl) (by kernel_rfl) (by kernel_rfl) (see_cell c a2 _) hHeld ?_
      intro xc hb4 hHeld
      try simp only [Act.put, List.getElem_toArray, List.getElem_cons_zero, List.getElem_cons_succ, List.setIfInBounds_toArray, List.set_cons_succ, List.set_cons_zero]
      replace hX := hX.later hHeld
      replace hY := hY.later hHeld
      replace hG := hG.trans (hHeld.mono hG.size)
      clear hHeld hb4
      have hHeld : Below xc.heap.size xc xc := Below.refl _ _
      refine wpAnyH_callB (i := 6) rfl (by kernel_rfl) (by kernel_rfl) (by kernel_rfl) (refSee_cell c a2 _) hHeld ?_
      intro xc hb4 hHeld
      try simp only [Act.put, List.getElem_toArray, List.getElem_cons_zero, List.getElem_cons_succ, List.setIfInBounds_toArray, List.set_cons_succ, List.set_cons_zero]
      replace hX := hX.later hHeld
      replace hY := hY.later hHeld
      replace hG := hG.trans (hHeld.mono hG.size)
      clear hHeld hb4
      have hHeld : Below xc.heap.size xc xc := Below.refl _ _
      refine wpAnyH_callB (i := 7) rfl (by kernel_rfl) (by kernel_rfl) (by kernel_rfl) (refEq_va (Ce.see c a2) (Ce.see c a2) _ HS.out HS.out) hHeld ?_
      intro xc hb4 hHeld
      rw [Va.eq_refl]
      try simp only [Act.put, List.getElem_toArray, List.getElem_cons_zero, List.getElem_cons_succ, List.setIfInBounds_toArray, List.set_cons_succ, List.set_cons_zero]
      replace hX := hX.later hHeld
      replace hY := hY.later hHeld
      replace hG := hG.trans (hHeld.mono hG.size)
      clear hHeld hb4
      have hHeld : Below xc.heap.size xc xc := Below.refl _ _
      refine wpAnyH_take (i := 8) (v := .bool false) rfl (by kernel_rfl) (by kernel_rfl) (by kernel_rfl) (fun _ _ _ h => h) (Or.inl ⟨by kernel_rfl, ?_⟩) hHeld ?_
      · intro W hW; go_simp; first | done | with_reducible rfl | rfl
      try simp only [Act.put, List.getElem_toArray, List.getElem_cons_zero, List.getElem_cons_succ, List.setIfInBounds_toArray, List.set_cons_succ, List.set_cons_zero]
      refine wpAnyH_take (i := 9) (v := ?_) rfl (by kernel_rfl) (by kernel_rfl) (by kernel_rfl) (fun _ _ _ h => h) (Or.inl ⟨by kernel_rfl, ?_⟩) hHeld ?_
      rotate_left
      · intro W hW; go_simp; first | done | with_reducible rfl | rfl
      try simp only [Act.put, List.getElem_toArray, List.getElem_cons_zero, List.getElem_cons_succ, List.setIfInBounds_toArray, List.set_cons_succ, List.set_cons_zero]
      refine wpAnyH_take (i := 10) (v := .agg (cv d)) rfl (by kernel_rfl) (by kernel_rfl) (by kernel_rfl) (fun _ _ _ h => h) (yields_bx (by kernel_rfl) _ _ _ rfl _ rfl (cv d) (fun W hW => hY.later hW) tyR rfl) hHeld ?_
      try simp only [Act.put, List.getElem_toArray, List.getElem_cons_zero, List.getElem_cons_succ, List.setIfInBounds_toArray, List.set_cons_succ, List.set_cons_zero]
      refine wpAnyH_callB (i := 11) rfl (by kernel_rfl) (by kernel_rfl) (by kernel_rfl) (refMay_cell d _ Hd.out) hHeld ?_
      intro xc hb4 hHeld
      rw [HN.out]
      try simp only [Act.put, List.getElem_toArray, List.getElem_cons_zero, List.getElem_cons_succ, List.setIfInBounds_toArray, List.set_cons_succ, List.set_cons_zero]
      replace hX := hX.later hHeld
      replace hY := hY.later hHeld
      replace hG := hG.trans (hHeld.mono hG.size)
      clear hHeld hb4
      have hHeld : Below xc.heap.size xc xc := Below.refl _ _
      refine wpAnyH_take (i := 12) (v := ?_) rfl (by kernel_rfl) (by kernel_rfl) (by kernel_rfl) (fun _ _ _ h => h) (Or.inl ⟨by kernel_rfl, ?_⟩) hHeld ?_
      rotate_left
      · intro W hW; go_simp; first | done | with_reducible rfl | rfl
      try simp only [Act.put, List.getElem_toArray, List.getElem_cons_zero, List.getElem_cons_succ, List.setIfInBounds_toArray, List.set_cons_succ, List.set_cons_zero]
      refine wpAnyH_take (i := 13) (v := .agg (cv c)) rfl (by kernel_rfl) (by kernel_rfl) (by kernel_rfl) (fun _ _ _ h => h) (yields_bx (by kernel_rfl) _ _ _ rfl _ rfl (cv c) (fun W hW => hX.later hW) tyR rfl) hHeld ?_
      try simp only [Act.put, List.getElem_toArray, List.getElem_cons_zero, List.getElem_cons_succ, List.setIfInBounds_toArray, List.set_cons_succ, List.set_cons_zero]
      refine wpAnyH_take (i := 15) (v := .agg (cv d)) rfl (by kernel_rfl) (by kernel_rfl) (by kernel_rfl) (fun _ _ _ h => h) (yields_bx (by kernel_rfl) _ _ _ rfl _ rfl (cv d) (fun W hW => hY.later hW) tyR rfl) hHeld ?_
      try simp only [Act.put, List.getElem_toArray, List.getElem_cons_zero, List.getElem_cons_succ, List.setIfInBounds_toArray, List.set_cons_succ, List.set_cons_zero]
      refine wpAnyH_take (i := 18) (v := .agg (cv c)) rfl (by kernel_rfl) (by kernel_rfl) (by kernel_rfl) (fun _ _ _ h => h) (yields_bx (by kernel_rfl) _ _ _ rfl _ rfl (cv c) (fun W hW => hX.later hW) tyR rfl) hHeld ?_
      try simp only [Act.put, List.getElem_toArray, List.getElem_cons_zero, List.getElem_cons_succ, List.setIfInBounds_toArray, List.set_cons_succ, List.set_cons_zero]
      refine wpAnyH_take (i := 19) (v := .agg (cv d)) rfl (by kernel_rfl) (by kernel_rfl) (by kernel_rfl) (fun _ _ _ h => h) (yields_bx (by kernel_rfl) _ _ _ rfl _ rfl (cv d) (fun W hW => hY.later hW) tyR rfl) hHeld ?_
      try simp only [Act.put, List.getElem_toArray, List.getElem_cons_zero, List.getElem_cons_succ, List.setIfInBounds_toArray, List.set_cons_succ, List.set_cons_zero]
      refine wpAnyH_callB (i := 14) rfl (by kernel_rfl) (by kernel_rfl) (by kernel_rfl) (of_cell c _) hHeld ?_
      intro xc hb4 hHeld
      try simp only [Act.put, List.getElem_toArray, List.getElem_cons_zero, List.getElem_cons_succ, List.setIfInBounds_toArray, List.set_cons_succ, List.set_cons_zero]
      replace hX := hX.later hHeld
      replace hY := hY.later hHeld
      replace hG := hG.trans (hHeld.mono hG.size)
      clear hHeld hb4
      have hHeld : Below xc.heap.size xc xc := Below.refl _ _
      refine wpAnyH_callB (i := 16) rfl (by kernel_rfl) (by kernel_rfl) (by kernel_rfl) (of_cell d _) hHeld ?_
      intro xc hb4 hHeld
      try simp only [Act.put, List.getElem_toArray, List.getElem_cons_zero, List.getElem_cons_succ, List.setIfInBounds_toArray, List.set_cons_succ, List.set_cons_zero]
      replace hX := hX.later hHeld
      replace hY := hY.later hHeld
      replace hG := hG.trans (hHeld.mono hG.size)
      clear hHeld hb4
      have hHeld : Below xc.heap.size xc xc := Below.refl _ _
      refine wpAnyH_callB (i := 17) rfl (by kernel_rfl) (by kernel_rfl) (by kernel_rfl) (eq_cell c d _ Hc.out Hd.out) hHeld ?_
      intro xc hb4 hHeld
      try simp only [Act.put, List.getElem_toArray, List.getElem_cons_zero, List.getElem_cons_succ, List.setIfInBounds_toArray, List.set_cons_succ, List.set_cons_zero]
      replace hX := hX.later hHeld
      replace hY := hY.later hHeld
      replace hG := hG.trans (hHeld.mono hG.size)
      clear hHeld hb4
      have hHeld : Below xc.heap.size xc xc := Below.refl _ _
      refine wpAnyH_callB (i := 20) rfl (by kernel_rfl) (by kernel_rfl) (by kernel_rfl) (refEq_cell c d _ Hc.out Hd.out) hHeld ?_
      intro xc hb4 hHeld
      try simp only [Act.put, List.getElem_toArray, List.getElem_cons_zero, List.getElem_cons_succ, List.setIfInBounds_toArray, List.set_cons_succ, List.set_cons_zero]
      replace hX := hX.later hHeld
      replace hY := hY.later hHeld
      replace hG := hG.trans (hHeld.mono hG.size)
      clear hHeld hb4
      have hHeld : Below xc.heap.size xc xc := Below.refl _ _
      refine wpAnyH_take (i := 21) (v := .bool false) rfl (by kernel_rfl) (by kernel_rfl) (by kernel_rfl) (fun _ _ _ h => h) (Or.inl ⟨by kernel_rfl, ?_⟩) hHeld ?_
      · intro W hW; go_simp; first | done | with_reducible rfl | rfl
      try simp only [Act.put, List.getElem_toArray, List.getElem_cons_zero, List.getElem_cons_succ, List.setIfInBounds_toArray, List.set_cons_succ, List.set_cons_zero]
      refine wpAnyH_take (i := 22) (v := ?_) rfl (by kernel_rfl) (by kernel_rfl) (by kernel_rfl) (fun _ _ _ h => h) (Or.inl ⟨by kernel_rfl, ?_⟩) hHeld ?_
      rotate_left
      · intro W hW; go_simp; first | done | with_reducible rfl | rfl
      try simp only [Act.put, List.getElem_toArray, List.getElem_cons_zero, List.getElem_cons_succ, List.setIfInBounds_toArray, List.set_cons_succ, List.set_cons_zero]
      refine wpAnyH_take (i := 23) (v := ?_) rfl (by kernel_rfl) (by kernel_rfl) (by kernel_rfl) (fun _ _ _ h => h) (Or.inl ⟨by kernel_rfl, ?_⟩) hHeld ?_
      rotate_left
      · intro W hW; go_simp; first | done | with_reducible rfl | rfl
      try simp only [Act.put, List.getElem_toArray, List.getElem_cons_zero, List.getElem_cons_succ, List.setIfInBounds_toArray, List.set_cons_succ, List.set_cons_zero]
      refine wpAnyH_done (by kernel_rfl) ?_ _
      refine NoPanic.normal ?_
      generalize hA : ({ tmps := _, defers := [] } : Act) = A
      rw [HQ0.out]
      exact ⟨rfl, fun k => A.tmps.getD k undef, (by subst hA; kernel_rfl), hG⟩
  case cont =>
    intro e a' Y hq
    rw [HQ0.out] at hq
    obtain ⟨rfl, x, rfl, hb⟩ := hq
    clear HQ0 Q0
    replace hX := hX.later hb
    replace hY := hY.later hb
    replace hV := hV.later hb
    replace hB := hB.trans (hb.mono hB.size)
    clear hb hY HN Hd Fd
    have H0c := hide (Ce.tm_bd (Ce.may_parts HM.out).2.2.2).1
    have HCO := hide (Ce.commit_ok Hc.out)
    have HUO := hide (Ce.undo_ok Hc.out)
    go_simp
    go_wp2_with (first
      | (refine wpList_get 26 _ (.tmp 4) _ (cv c) rfl rfl rfl hX tyR rfl ?_))
    refine (of_cell c _).mono ?_
    rintro e W8 ⟨rfl, hb⟩
    replace hX := hX.later hb
    replace hV := hV.later hb
    replace hB := hB.trans (hb.mono hB.size)
    clear hb
    go_wp2_with fail
    refine (commit_cell c _).mono ?_
    rintro e W9 ⟨rfl, hb⟩
    replace hX := hX.later hb
    replace hV := hV.later hb
    replace hB := hB.trans (hb.mono hB.size)
    clear hb
    go_wp2_with (first
      | (refine wpList_new 31 _ rfl rfl tyC ?_; intro Wn hBn hN)
      | (refine wpList_put 31 _ (.tmp 10) (.tmp 73) _ (cv (Ce.commit c)) _ rfl rfl rfl rfl hN tyC rfl rfl (cv_one _) ?_; intro Wp hbp hsp hQ; have hBp := newput hBn hbp; replace hX := hX.later hBp; replace hV := hV.later hBp; replace hB := hB.trans (hBp.mono hB.size); clear hBn hN hbp hsp hBp)
      | (refine wpList_get 26 _ (.tmp 4) _ (cv c) rfl rfl rfl hX tyR rfl ?_))
    refine (refCommit_cell c _ H0c.out).mono ?_
    rintro e W10 ⟨rfl, hb⟩
    replace hX := hX.later hb
    replace hV := hV.later hb
    replace hQ := hQ.later hb
    replace hB := hB.trans (hb.mono hB.size)
    clear hb
    go_wp2_with (first
      | (refine wpList_new 26 _ rfl rfl tyR ?_; intro Wn hBn hN)
      | (refine wpList_put 26 _ (.tmp 12) (.tmp 78) _ (cv (Ce.commit c)) _ rfl rfl rfl rfl hN tyR rfl rfl (cv_one _) ?_; intro Wp hbp hsp hR; have hBp := newput hBn hbp; replace hX := hX.later hBp; replace hV := hV.later hBp; replace hQ := hQ.later hBp; replace hB := hB.trans (hBp.mono hB.size); clear hBn hN hbp hsp hBp)
      | (refine wpList_get 26 _ (.tmp 4) _ (cv c) rfl rfl rfl hX tyR rfl ?_))
    refine (of_cell c _).mono ?_
    rintro e W11 ⟨rfl, hb⟩
    replace hX := hX.later hb
    replace hV := hV.later hb
    replace hQ := hQ.later hb
    replace hR := hR.later hb
    replace hB := hB.trans (hb.mono hB.size)
    clear hb
    go_wp2_with fail
    refine (undo_cell c _).mono ?_
    rintro e W12 ⟨rfl, hb⟩
    replace hX := hX.later hb
    replace hV := hV.later hb
    replace hQ := hQ.later hb
    replace hR := hR.later hb
    replace hB := hB.trans (hb.mono hB.size)
    clear hb
    go_wp2_with (first
      | (refine wpList_new 31 _ rfl rfl tyC ?_; intro Wn hBn hN)
      | (refine wpList_put 31 _ (.tmp 14) (.tmp 84) _ (cv (Ce.undo c)) _ rfl rfl rfl rfl hN tyC rfl rfl (cv_one _) ?_; intro Wp hbp hsp hS; have hBp := newput hBn hbp; replace hX := hX.later hBp; replace hV := hV.later hBp; replace hQ := hQ.later hBp; replace hR := hR.later hBp; replace hB := hB.trans (hBp.mono hB.size); clear hBn hN hbp hsp hBp)
      | (refine wpList_get 26 _ (.tmp 4) _ (cv c) rfl rfl rfl hX tyR rfl ?_))
    refine (refUndo_cell c _).mono ?_
    rintro e W13 ⟨rfl, hb⟩
    replace hX := hX.later hb
    replace hV := hV.later hb
    replace hQ := hQ.later hb
    replace hR := hR.later hb
    replace hS := hS.later hb
    replace hB := hB.trans (hb.mono hB.size)
    clear hb
    generalize Ce.commit c = q at *
    generalize Ce.undo c = t at *
    generalize Ce.left c = l at *
    generalize (!decide (c.V.K = 0)) = k at *
    go_wp2_with (first
      | (refine wpList_new 26 _ rfl rfl tyR ?_; intro Wn hBn hN)
      | (refine wpList_put 26 _ (.tmp 16) (.tmp 89) _ (cv t) _ rfl rfl rfl rfl hN tyR rfl rfl (cv_one _) ?_; intro Z hbp hsp hT; have hBp := newput hBn hbp; replace hX := hX.later hBp; replace hV := hV.later hBp; replace hQ := hQ.later hBp; replace hR := hR.later hBp; replace hS := hS.later hBp; replace hB := hB.trans (hBp.mono hB.size); clear hBn hN hbp hsp hBp))
    refine wp_region_noPanic ?_
    refine wp_region_held_drew (S := fun W => Below Z.heap.size Z W) (by kernel_rfl) ?_ (fun hHeld => ?_)
    · exact (Below.refl _ _).drew
    refine wpAnyH_take (i := 0) (v := ?_) rfl (by kernel_rfl) (by kernel_rfl) (by kernel_rfl) (fun _ _ _ h => h) (Or.inl ⟨by kernel_rfl, ?_⟩) hHeld ?_
    rotate_left
    · intro W hW; go_simp; first | done | with_reducible rfl | rfl
    try simp only [Act.put, List.getElem_toArray, List.getElem_cons_zero, List.setIfInBounds_toArray, List.set_cons_succ, List.set_cons_zero]
    refine wpAnyH_take (i := 1) (v := ?_) rfl (by kernel_rfl) (by kernel_rfl) (by kernel_rfl) (fun _ _ _ h => h) (Or.inl ⟨by kernel_rfl, ?_⟩) hHeld ?_
    rotate_left
    · intro W hW; go_simp; first | done | with_reducible rfl | rfl
    try simp only [Act.put, List.getElem_toArray, List.getElem_cons_zero, List.getElem_cons_succ, List.setIfInBounds_toArray, List.set_cons_succ, List.set_cons_zero]
    refine wpAnyH_take (i := 2) (v := .bool false) rfl (by kernel_rfl) (by kernel_rfl) (by kernel_rfl) (fun _ _ _ h => h) (Or.inl ⟨by kernel_rfl, ?_⟩) hHeld ?_
    · intro W hW; go_simp; first | done | with_reducible rfl | rfl
    try simp only [Act.put, List.getElem_toArray, List.getElem_cons_zero, List.getElem_cons_succ, List.setIfInBounds_toArray, List.set_cons_succ, List.set_cons_zero]
    refine wpAnyH_take (i := 3) (v := ?_) rfl (by kernel_rfl) (by kernel_rfl) (by kernel_rfl) (fun _ _ _ h => h) (Or.inl ⟨by kernel_rfl, ?_⟩) hHeld ?_
    rotate_left
    · intro W hW; go_simp; first | done | with_reducible rfl | rfl
    try simp only [Act.put, List.getElem_toArray, List.getElem_cons_zero, List.getElem_cons_succ, List.setIfInBounds_toArray, List.set_cons_succ, List.set_cons_zero]
    refine wpAnyH_take (i := 4) (v := ?_) rfl (by kernel_rfl) (by kernel_rfl) (by kernel_rfl) (fun _ _ _ h => h) (Or.inl ⟨by kernel_rfl, ?_⟩) hHeld ?_
    rotate_left
    · intro W hW; go_simp; first | done | with_reducible rfl | rfl
    try simp only [Act.put, List.getElem_toArray, List.getElem_cons_zero, List.getElem_cons_succ, List.setIfInBounds_toArray, List.set_cons_succ, List.set_cons_zero]
    refine wpAnyH_take (i := 5) (v := ?_) rfl (by kernel_rfl) (by kernel_rfl) (by kernel_rfl) (fun _ _ _ h => h) (Or.inl ⟨by kernel_rfl, ?_⟩) hHeld ?_
    rotate_left
    · intro W hW; go_simp; first | done | with_reducible rfl | rfl
    try simp only [Act.put, List.getElem_toArray, List.getElem_cons_zero, List.getElem_cons_succ, List.setIfInBounds_toArray, List.set_cons_succ, List.set_cons_zero]
    refine wpAnyH_take (i := 6) (v := .bool false) rfl (by kernel_rfl) (by kernel_rfl) (by kernel_rfl) (fun _ _ _ h => h) (Or.inl ⟨by kernel_rfl, ?_⟩) hHeld ?_
    · intro W hW; go_simp; first | done | with_reducible rfl | rfl
    try simp only [Act.put, List.getElem_toArray, List.getElem_cons_zero, List.getElem_cons_succ, List.setIfInBounds_toArray, List.set_cons_succ, List.set_cons_zero]
    refine wpAnyH_take (i := 7) (v := ?_) rfl (by kernel_rfl) (by kernel_rfl) (by kernel_rfl) (fun _ _ _ h => h) (Or.inl ⟨by kernel_rfl, ?_⟩) hHeld ?_
    rotate_left
    · intro W hW; go_simp; first | done | with_reducible rfl | rfl
    try simp only [Act.put, List.getElem_toArray, List.getElem_cons_zero, List.getElem_cons_succ, List.setIfInBounds_toArray, List.set_cons_succ, List.set_cons_zero]
    refine wpAnyH_take (i := 8) (v := ?_) rfl (by kernel_rfl) (by kernel_rfl) (by kernel_rfl) (fun _ _ _ h => h) (Or.inl ⟨by kernel_rfl, ?_⟩) hHeld ?_
    rotate_left
    · intro W hW; go_simp; first | done | with_reducible rfl | rfl
    try simp only [Act.put, List.getElem_toArray, List.getElem_cons_zero, List.getElem_cons_succ, List.setIfInBounds_toArray, List.set_cons_succ, List.set_cons_zero]
    refine wpAnyH_take (i := 9) (v := .agg (cv q)) rfl (by kernel_rfl) (by kernel_rfl) (by kernel_rfl) (fun _ _ _ h => h) (yields_bx (by kernel_rfl) _ _ _ rfl _ rfl (cv q) (fun W hW => hQ.later hW) tyC rfl) hHeld ?_
    try simp only [Act.put, List.getElem_toArray, List.getElem_cons_zero, List.getElem_cons_succ, List.setIfInBounds_toArray, List.set_cons_succ, List.set_cons_zero]
    refine wpAnyH_take (i := 11) (v := .agg (cv q)) rfl (by kernel_rfl) (by kernel_rfl) (by kernel_rfl) (fun _ _ _ h => h) (yields_bx (by kernel_rfl) _ _ _ rfl _ rfl (cv q) (fun W hW => hR.later hW) tyR rfl) hHeld ?_
    try simp only [Act.put, List.getElem_toArray, List.getElem_cons_zero, List.getElem_cons_succ, List.setIfInBounds_toArray, List.set_cons_succ, List.set_cons_zero]
    refine wpAnyH_callB (i := 10) rfl (by kernel_rfl) (by kernel_rfl) (by kernel_rfl) (back_cell q _) hHeld ?_
    intro xc hb4 hHeld
    try simp only [Act.put, List.getElem_toArray, List.getElem_cons_zero, List.getElem_cons_succ, List.setIfInBounds_toArray, List.set_cons_succ, List.set_cons_zero]
    replace hX := hX.later hHeld
    replace hV := hV.later hHeld
    replace hQ := hQ.later hHeld
    replace hR := hR.later hHeld
    replace hS := hS.later hHeld
    replace hT := hT.later hHeld
    replace hB := hB.trans (hHeld.mono hB.size)
    clear hHeld hb4
    have hHeld : Below xc.heap.size xc xc := Below.refl _ _
    refine wpAnyH_callB (i := 12) rfl (by kernel_rfl) (by kernel_rfl) (by kernel_rfl) (refEq_cell q q _ HCO.out HCO.out) hHeld ?_
    intro xc hb4 hHeld
    rw [Ce.eq_refl]
    try simp only [Act.put, List.getElem_toArray, List.getElem_cons_zero, List.getElem_cons_succ, List.setIfInBounds_toArray, List.set_cons_succ, List.set_cons_zero]
    replace hX := hX.later hHeld
    replace hV := hV.later hHeld
    replace hQ := hQ.later hHeld
    replace hR := hR.later hHeld
    replace hS := hS.later hHeld
    replace hT := hT.later hHeld
    replace hB := hB.trans (hHeld.mono hB.size)
    clear hHeld hb4
    have hHeld : Below xc.heap.size xc xc := Below.refl _ _
    refine wpAnyH_take (i := 13) (v := .bool false) rfl (by kernel_rfl) (by kernel_rfl) (by kernel_rfl) (fun _ _ _ h => h) (Or.inl ⟨by kernel_rfl, ?_⟩) hHeld ?_
    · intro W hW; go_simp; first | done | with_reducible rfl | rfl
    try simp only [Act.put, List.getElem_toArray, List.getElem_cons_zero, List.getElem_cons_succ, List.setIfInBounds_toArray, List.set_cons_succ, List.set_cons_zero]
    refine wpAnyH_take (i := 14) (v := ?_) rfl (by kernel_rfl) (by kernel_rfl) (by kernel_rfl) (fun _ _ _ h => h) (Or.inl ⟨by kernel_rfl, ?_⟩) hHeld ?_
    rotate_left
    · intro W hW; go_simp; first | done | with_reducible rfl | rfl
    try simp only [Act.put, List.getElem_toArray, List.getElem_cons_zero, List.getElem_cons_succ, List.setIfInBounds_toArray, List.set_cons_succ, List.set_cons_zero]
    refine wpAnyH_take (i := 15) (v := ?_) rfl (by kernel_rfl) (by kernel_rfl) (by kernel_rfl) (fun _ _ _ h => h) (Or.inl ⟨by kernel_rfl, ?_⟩) hHeld ?_
    rotate_left
    · intro W hW; go_simp; first | done | with_reducible rfl | rfl
    try simp only [Act.put, List.getElem_toArray, List.getElem_cons_zero, List.getElem_cons_succ, List.setIfInBounds_toArray, List.set_cons_succ, List.set_cons_zero]
    refine wpAnyH_take (i := 16) (v := .agg (cv t)) rfl (by kernel_rfl) (by kernel_rfl) (by kernel_rfl) (fun _ _ _ h => h) (yields_bx (by kernel_rfl) _ _ _ rfl _ rfl (cv t) (fun W hW => hS.later hW) tyC rfl) hHeld ?_
    try simp only [Act.put, List.getElem_toArray, List.getElem_cons_zero, List.getElem_cons_succ, List.setIfInBounds_toArray, List.set_cons_succ, List.set_cons_zero]
    refine wpAnyH_take (i := 18) (v := .agg (cv t)) rfl (by kernel_rfl) (by kernel_rfl) (by kernel_rfl) (fun _ _ _ h => h) (yields_bx (by kernel_rfl) _ _ _ rfl _ rfl (cv t) (fun W hW => hT.later hW) tyR rfl) hHeld ?_
    try simp only [Act.put, List.getElem_toArray, List.getElem_cons_zero, List.getElem_cons_succ, List.setIfInBounds_toArray, List.set_cons_succ, List.set_cons_zero]
    refine wpAnyH_callB (i := 17) rfl (by kernel_rfl) (by kernel_rfl) (by kernel_rfl) (back_cell t _) hHeld ?_
    intro xc hb4 hHeld
    try simp only [Act.put, List.getElem_toArray, List.getElem_cons_zero, List.getElem_cons_succ, List.setIfInBounds_toArray, List.set_cons_succ, List.set_cons_zero]
    replace hX := hX.later hHeld
    replace hV := hV.later hHeld
    replace hQ := hQ.later hHeld
    replace hR := hR.later hHeld
    replace hS := hS.later hHeld
    replace hT := hT.later hHeld
    replace hB := hB.trans (hHeld.mono hB.size)
    clear hHeld hb4
    have hHeld : Below xc.heap.size xc xc := Below.refl _ _
    refine wpAnyH_callB (i := 19) rfl (by kernel_rfl) (by kernel_rfl) (by kernel_rfl) (refEq_cell t t _ HUO.out HUO.out) hHeld ?_
    intro xc hb4 hHeld
    rw [Ce.eq_refl]
    try simp only [Act.put, List.getElem_toArray, List.getElem_cons_zero, List.getElem_cons_succ, List.setIfInBounds_toArray, List.set_cons_succ, List.set_cons_zero]
    replace hX := hX.later hHeld
    replace hV := hV.later hHeld
    replace hQ := hQ.later hHeld
    replace hR := hR.later hHeld
    replace hS := hS.later hHeld
    replace hT := hT.later hHeld
    replace hB := hB.trans (hHeld.mono hB.size)
    clear hHeld hb4
    have hHeld : Below xc.heap.size xc xc := Below.refl _ _
    refine wpAnyH_take (i := 20) (v := .bool false) rfl (by kernel_rfl) (by kernel_rfl) (by kernel_rfl) (fun _ _ _ h => h) (Or.inl ⟨by kernel_rfl, ?_⟩) hHeld ?_
    · intro W hW; go_simp; first | done | with_reducible rfl | rfl
    try simp only [Act.put, List.getElem_toArray, List.getElem_cons_zero, List.getElem_cons_succ, List.setIfInBounds_toArray, List.set_cons_succ, List.set_cons_zero]
    refine wpAnyH_take (i := 21) (v := ?_) rfl (by kernel_rfl) (by kernel_rfl) (by kernel_rfl) (fun _ _ _ h => h) (Or.inl ⟨by kernel_rfl, ?_⟩) hHeld ?_
    rotate_left
    · intro W hW; go_simp; first | done | with_reducible rfl | rfl
    try simp only [Act.put, List.getElem_toArray, List.getElem_cons_zero, List.getElem_cons_succ, List.setIfInBounds_toArray, List.set_cons_succ, List.set_cons_zero]
    refine wpAnyH_done (by kernel_rfl) ?_ _
    refine NoPanic.normal ?_
    go_simp
    clear hHeld hQ hR hS hT HCO HUO
    cases h1 : decide (a2 < 1)
    rotate_left
    · go_wp2_with fail
      go_ret
      exact ⟨rfl, hB⟩
    cases h2 : decide (1099511627776 < a2)
    rotate_left
    · go_wp2_with fail
      go_ret
      exact ⟨rfl, hB⟩
    go_wp2_with (first
      | (refine wpList_getG 24 _ (.tmp 7) _ (va v) rfl rfl rfl rfl rfl hV tyV rfl ?_))
    refine (refMay_va v _ Hv.out).mono ?_
    rintro e W14 ⟨rfl, hb⟩
    replace hX := hX.later hb
    replace hV := hV.later hb
    replace hB := hB.trans (hb.mono hB.size)
    clear hb
    cases hmv : v.may
    · go_wp2_with fail
      go_ret
      exact ⟨rfl, hB⟩
    clear hmv h1 h2
    go_wp2_with fail
    obtain ⟨Q0, HQ0⟩ : ∃ Q0 : Exit → Act → World → Prop, Hid (Q0 = fun e a' w' => e = Exit.normal ∧ ∃ b, ∃ x : Nat → Value, a' = ({ tmps := #[x 0, x 1, .int .i64 a2, x 3, .pointer (some ⟨w.heap.size, 0, none⟩), x 5, x 6, .pointer (some ⟨W2.heap.size, 0, none⟩), x 8, x 9, x 10, x 11, x 12, x 13, x 14, x 15, x 16, x 17, .pointer (some ⟨b, 0, none⟩), x 19, x 20, x 21, x 22, x 23, x 24, x 25, x 26, x 27, x 28, x 29, x 30, x 31, x 32, x 33, x 34, x 35, x 36, x 37, x 38, x 39, x 40, x 41, x 42, x 43, x 44, x 45, x 46, x 47, x 48, x 49, x 50, x 51, x 52, x 53, x 54, x 55, x 56, x 57, x 58, x 59, x 60, x 61, x 62, x 63, x 64, x 65, x 66, x 67, x 68, x 69, x 70, x 71, x 72, x 73, x 74, x 75, x 76, x 77, x 78, x 79, x 80, x 81, x 82, x 83, x 84, x 85, x 86, x 87, x 88, x 89, x 90, x 91, x 92, x 93, x 94, x 95, x 96, x 97, x 98, x 99, x 100, x 101, x 102, x 103, x 104, x 105, x 106, x 107, x 108, x 109, x 110, x 111, x 112, x 113, x 114, x 115, x 116, x 117, x 118, x 119, x 120, x 121, x 122, x 123, x 124, x 125, x 126, x 127, x 128, x 129, x 130, x 131, x 132, x 133, x 134, x 135, x 136, x 137, x 138, x 139, x 140, x 141, x 142, x 143, x 144, x 145, x 146, x 147, x 148, x 149, x 150, x 151, x 152, x 153], defers := [] } : Act) ∧ Bx w' b (cv (Ce.wr c a2 v)) ∧ Below W14.heap.size W14 w') := ⟨_, rfl⟩
    refine Code.wp_mono (Q := Q0) ?cont ?_
    rotate_left
    · skip
      refine wp_region_noPanic ?_
      refine wp_region_held_drew (S := fun W => Below W14.heap.size W14 W) (by kernel_rfl) ?_ (fun hHeld => ?_)
      · exact (Below.refl _ _).drew
      refine wpAnyH_take (i := 0) (v := .agg (cv c)) rfl (by kernel_rfl) (by kernel_rfl) (by kernel_rfl) (fun _ _ _ h => h) (yields_bx (by kernel_rfl) _ _ _ rfl _ rfl (cv c) (fun W hW => hX.later hW) tyR rfl) hHeld ?_
      try simp only [Act.put, List.getElem_toArray, List.getElem_cons_zero, List.setIfInBounds_toArray, List.set_cons_succ, List.set_cons_zero]
      refine wpAnyH_take (i := 2) (v := ?_) rfl (by kernel_rfl) (by kernel_rfl) (by kernel_rfl) (fun _ _ _ h => h) (Or.inl ⟨by kernel_rfl, ?_⟩) hHeld ?_
      rotate_left
      · intro W hW; go_simp; first | done | with_reducible rfl | rfl
      try simp only [Act.put, List.getElem_toArray, List.getElem_cons_zero, List.getElem_cons_succ, List.setIfInBounds_toArray, List.set_cons_succ, List.set_cons_zero]
      refine wpAnyH_take (i := 3) (v := .agg (va v)) rfl (by kernel_rfl) (by kernel_rfl) (by kernel_rfl) (fun _ _ _ h => h) (yields_bx (by kernel_rfl) _ _ _ rfl _ rfl (va v) (fun W hW => hV.later hW) tyV rfl) hHeld ?_
      try simp only [Act.put, List.getElem_toArray, List.getElem_cons_zero, List.getElem_cons_succ, List.setIfInBounds_toArray, List.set_cons_succ, List.set_cons_zero]
      refine wpAnyH_ready (rs := [1, 6]) (by kernel_rfl) (by simp) ?_
      refine allReady2 ?_ (AllReadyH.cons (o := _) rfl (fun K hK => ?_) AllReadyH.nil)
      · skip
        refine wpAnyH_callS rfl (by kernel_rfl) (by kernel_rfl) (of_cell c _) hHeld ?_
        intro xc hb hHeld
        try simp only [Act.put, List.getElem_toArray, List.getElem_cons_zero, List.getElem_cons_succ, List.setIfInBounds_toArray, List.set_cons_succ, List.set_cons_zero]
        clear hb
        refine wpAnyH_ready (rs := [4, 6]) (by kernel_rfl) (by simp) ?_
        refine allReady2 ?_ (AllReadyH.cons (o := _) rfl (fun K hK => ?_) AllReadyH.nil)
        · skip
          refine wpAnyH_callS rfl (by kernel_rfl) (by kernel_rfl) (write_cell c a2 v _) hHeld ?_
          intro xc hb hHeld
          try simp only [Act.put, List.getElem_toArray, List.getElem_cons_zero, List.getElem_cons_succ, List.setIfInBounds_toArray, List.set_cons_succ, List.set_cons_zero]
          clear hb
          refine wpAnyH_ready (rs := [5, 6]) (by kernel_rfl) (by simp) ?_
          refine allReady2 ?_ (AllReadyH.cons (o := _) rfl (fun K hK => ?_) AllReadyH.nil)
          · skip
            refine wpAnyH_callS rfl (by kernel_rfl) (by kernel_rfl) (back_cell (Ce.wr c a2 v) _) hHeld ?_
            intro xc hb hHeld
            try simp only [Act.put, List.getElem_toArray, List.getElem_cons_zero, List.getElem_cons_succ, List.setIfInBounds_toArray, List.set_cons_succ, List.set_cons_zero]
            clear hb
            refine wpAnyH_ready (rs := [6]) (by kernel_rfl) (by simp) ?_
            refine AllReadyH.cons (o := _) rfl (fun K hK => ?_) AllReadyH.nil
            rw [if_pos (by kernel_rfl)]
            refine wp_new 26 _ rfl tyR ?_
            intro Wa hBa hN
            have lb := hHeld.size
            refine hK.out _ _ (hHeld.trans (hBa.mono hHeld.size)) (fun hHeld => ?_)
            clear hK K hBa
            try simp only [Act.put, List.getElem_toArray, List.getElem_cons_zero, List.getElem_cons_succ, List.setIfInBounds_toArray, List.set_cons_succ, List.set_cons_zero]
            refine wpAnyH_ready (rs := [7]) (by kernel_rfl) (by simp) ?_
            refine AllReadyH.cons (o := _) rfl (fun K hK => ?_) AllReadyH.nil
            rw [if_pos (by kernel_rfl)]
            refine wp_put 26 _ (.tmp 18) (.tmp 129) _ (cv (Ce.wr c a2 v)) _ rfl rfl rfl hN tyR rfl rfl (cv_one _) ?_
            intro Ws hbs hss hNs
            refine hK.out _ _ (Below.but hHeld hHeld.size hbs (fun k e => by rw [e]; exact lb)) (fun hHeld => ?_)
            clear hK K hN hbs hss
            have hN := hNs
            clear hNs
            try simp only [Act.put, List.getElem_toArray, List.getElem_cons_zero, List.getElem_cons_succ]
            refine wpAnyH_done (by kernel_rfl) ?_ _
            refine NoPanic.normal ?_
            generalize hA : ({ tmps := _, defers := [] } : Act) = A
            rw [HQ0.out]
            exact ⟨rfl, _, fun k => A.tmps.getD k undef, (by subst hA; kernel_rfl), hN, hHeld⟩
          · skip
            rw [if_pos (by kernel_rfl)]
            refine wp_new 26 _ rfl tyR ?_
            intro Wa hBa hN
            have lb := hHeld.size
            refine hK.out _ _ (hHeld.trans (hBa.mono hHeld.size)) (fun hHeld => ?_)
            clear hK K hBa
            try simp only [Act.put, List.getElem_toArray, List.getElem_cons_zero, List.getElem_cons_succ, List.setIfInBounds_toArray, List.set_cons_succ, List.set_cons_zero]
            refine wpAnyH_ready (rs := [5]) (by kernel_rfl) (by simp) ?_
            intro j hj
            rw [List.mem_singleton] at hj
            subst hj
            refine wpAnyH_callS rfl (by kernel_rfl) (by kernel_rfl) (back_cell (Ce.wr c a2 v) _) hHeld ?_
            intro xc hb hHeld
            try simp only [Act.put, List.getElem_toArray, List.getElem_cons_zero, List.getElem_cons_succ, List.setIfInBounds_toArray, List.set_cons_succ, List.set_cons_zero]
            replace hN := hN.later hb
            clear hb
            refine wpAnyH_ready (rs := [7]) (by kernel_rfl) (by simp) ?_
            refine AllReadyH.cons (o := _) rfl (fun K hK => ?_) AllReadyH.nil
            rw [if_pos (by kernel_rfl)]
            refine wp_put 26 _ (.tmp 18) (.tmp 129) _ (cv (Ce.wr c a2 v)) _ rfl rfl rfl hN tyR rfl rfl (cv_one _) ?_
            intro Ws hbs hss hNs
            refine hK.out _ _ (Below.but hHeld hHeld.size hbs (fun k e => by rw [e]; exact lb)) (fun hHeld => ?_)
            clear hK K hN hbs hss
            have hN := hNs
            clear hNs
            try simp only [Act.put, List.getElem_toArray, List.getElem_cons_zero, List.getElem_cons_succ]
            refine wpAnyH_done (by kernel_rfl) ?_ _
            refine NoPanic.normal ?_
            generalize hA : ({ tmps := _, defers := [] } : Act) = A
            rw [HQ0.out]
            exact ⟨rfl, _, fun k => A.tmps.getD k undef, (by subst hA; kernel_rfl), hN, hHeld⟩
        · skip
          rw [if_pos (by kernel_rfl)]
          refine wp_new 26 _ rfl tyR ?_
          intro Wa hBa hN
          have lb := hHeld.size
          refine hK.out _ _ (hHeld.trans (hBa.mono hHeld.size)) (fun hHeld => ?_)
          clear hK K hBa
          try simp only [Act.put, List.getElem_toArray, List.getElem_cons_zero, List.getElem_cons_succ, List.setIfInBounds_toArray, List.set_cons_succ, List.set_cons_zero]
          refine wpAnyH_ready (rs := [4]) (by kernel_rfl) (by simp) ?_
          intro j hj
          rw [List.mem_singleton] at hj
          subst hj
          refine wpAnyH_callS rfl (by kernel_rfl) (by kernel_rfl) (write_cell c a2 v _) hHeld ?_
          intro xc hb hHeld
          try simp only [Act.put, List.getElem_toArray, List.getElem_cons_zero, List.getElem_cons_succ, List.setIfInBounds_toArray, List.set_cons_succ, List.set_cons_zero]
          replace hN := hN.later hb
          clear hb
          refine wpAnyH_ready (rs := [5]) (by kernel_rfl) (by simp) ?_
          intro j hj
          rw [List.mem_singleton] at hj
          subst hj
          refine wpAnyH_callS rfl (by kernel_rfl) (by kernel_rfl) (back_cell (Ce.wr c a2 v) _) hHeld ?_
          intro xc hb hHeld
          try simp only [Act.put, List.getElem_toArray, List.getElem_cons_zero, List.getElem_cons_succ, List.setIfInBounds_toArray, List.set_cons_succ, List.set_cons_zero]
          replace hN := hN.later hb
          clear hb
          refine wpAnyH_ready (rs := [7]) (by kernel_rfl) (by simp) ?_
          refine AllReadyH.cons (o := _) rfl (fun K hK => ?_) AllReadyH.nil
          rw [if_pos (by kernel_rfl)]
          refine wp_put 26 _ (.tmp 18) (.tmp 129) _ (cv (Ce.wr c a2 v)) _ rfl rfl rfl hN tyR rfl rfl (cv_one _) ?_
          intro Ws hbs hss hNs
          refine hK.out _ _ (Below.but hHeld hHeld.size hbs (fun k e => by rw [e]; exact lb)) (fun hHeld => ?_)
          clear hK K hN hbs hss
          have hN := hNs
          clear hNs
          try simp only [Act.put, List.getElem_toArray, List.getElem_cons_zero, List.getElem_cons_succ]
          refine wpAnyH_done (by kernel_rfl) ?_ _
          refine NoPanic.normal ?_
          generalize hA : ({ tmps := _, defers := [] } : Act) = A
          rw [HQ0.out]
          exact ⟨rfl, _, fun k => A.tmps.getD k undef, (by subst hA; kernel_rfl), hN, hHeld⟩
      · skip
        rw [if_pos (by kernel_rfl)]
        refine wp_new 26 _ rfl tyR ?_
        intro Wa hBa hN
        have lb := hHeld.size
        refine hK.out _ _ (hHeld.trans (hBa.mono hHeld.size)) (fun hHeld => ?_)
        clear hK K hBa
        try simp only [Act.put, List.getElem_toArray, List.getElem_cons_zero, List.getElem_cons_succ, List.setIfInBounds_toArray, List.set_cons_succ, List.set_cons_zero]
        refine wpAnyH_ready (rs := [1]) (by kernel_rfl) (by simp) ?_
        intro j hj
        rw [List.mem_singleton] at hj
        subst hj
        refine wpAnyH_callS rfl (by kernel_rfl) (by kernel_rfl) (of_cell c _) hHeld ?_
        intro xc hb hHeld
        try simp only [Act.put, List.getElem_toArray, List.getElem_cons_zero, List.getElem_cons_succ, List.setIfInBounds_toArray, List.set_cons_succ, List.set_cons_zero]
        replace hN := hN.later hb
        clear hb
        refine wpAnyH_ready (rs := [4]) (by kernel_rfl) (by simp) ?_
        intro j hj
        rw [List.mem_singleton] at hj
        subst hj
        refine wpAnyH_callS rfl (by kernel_rfl) (by kernel_rfl) (write_cell c a2 v _) hHeld ?_
        intro xc hb hHeld
        try simp only [Act.put, List.getElem_toArray, List.getElem_cons_zero, List.getElem_cons_succ, List.setIfInBounds_toArray, List.set_cons_succ, List.set_cons_zero]
        replace hN := hN.later hb
        clear hb
        refine wpAnyH_ready (rs := [5]) (by kernel_rfl) (by simp) ?_
        intro j hj
        rw [List.mem_singleton] at hj
        subst hj
        refine wpAnyH_callS rfl (by kernel_rfl) (by kernel_rfl) (back_cell (Ce.wr c a2 v) _) hHeld ?_
        intro xc hb hHeld
        try simp only [Act.put, List.getElem_toArray, List.getElem_cons_zero, List.getElem_cons_succ, List.setIfInBounds_toArray, List.set_cons_succ, List.set_cons_zero]
        replace hN := hN.later hb
        clear hb
        refine wpAnyH_ready (rs := [7]) (by kernel_rfl) (by simp) ?_
        refine AllReadyH.cons (o := _) rfl (fun K hK => ?_) AllReadyH.nil
        rw [if_pos (by kernel_rfl)]
        refine wp_put 26 _ (.tmp 18) (.tmp 129) _ (cv (Ce.wr c a2 v)) _ rfl rfl rfl hN tyR rfl rfl (cv_one _) ?_
        intro Ws hbs hss hNs
        refine hK.out _ _ (Below.but hHeld hHeld.size hbs (fun k e => by rw [e]; exact lb)) (fun hHeld => ?_)
        clear hK K hN hbs hss
        have hN := hNs
        clear hNs
        try simp only [Act.put, List.getElem_toArray, List.getElem_cons_zero, List.getElem_cons_succ]
        refine wpAnyH_done (by kernel_rfl) ?_ _
        refine NoPanic.normal ?_
        generalize hA : ({ tmps := _, defers := [] } : Act) = A
        rw [HQ0.out]
        exact ⟨rfl, _, fun k => A.tmps.getD k undef, (by subst hA; kernel_rfl), hN, hHeld⟩
    case cont =>
      intro e a' U hq
      rw [HQ0.out] at hq
      obtain ⟨rfl, b, x, rfl, hZ, hb⟩ := hq
      clear HQ0 Q0
      replace hX := hX.later hb
      replace hV := hV.later hb
      replace hB := hB.trans (hb.mono hB.size)
      clear hb
      have hZ2 : Bx U b (cv ⟨c.N, c.V, a2, v⟩) := hZ
      clear hZ
      obtain ⟨c0, c1, c2, c3, -, -, -, -⟩ := hX.cells
      obtain ⟨z0, z1, z2, z3, z4, z5, z6, z7⟩ := hZ2.cells
      go_simp
      go_wp2_with fail
      refine (refEq_va c.V c.V _ Hc.out.v Hc.out.v).mono ?_
      rintro e W15 ⟨rfl, hb⟩
      rw [Va.eq_refl]
      replace hZ2 := hZ2.later hb
      replace hV := hV.later hb
      replace hB := hB.trans (hb.mono hB.size)
      clear hb
      clear c0 c1 c2 c3 z0 z1 z2 z3 z4 z5 z6 z7
      obtain ⟨z0, z1, z2, z3, z4, z5, z6, z7⟩ := hZ2.cells
      obtain ⟨v0, v1, v2⟩ := hV.vals
      go_wp2_with fail
      refine (refEq_va v v _ Hv.out Hv.out).mono ?_
      rintro e W16 ⟨rfl, hb⟩
      rw [Va.eq_refl]
      replace hB := hB.trans (hb.mono hB.size)
      clear hb
      go_wp2_with fail
      go_ret
      exact ⟨rfl, hB⟩


set_option maxRecDepth 100000 in
theorem lifted (os : Os) (started : os.Started) (H : Type) (enc : TypeId × Value → H) :
    ReturnsInHanded {} Try.checked os 3 .any (Rows.cellAllSpec.pre6 enc Try.prog Try.f3 Rows.cellAllRow.domain false) (Rows.cellAllSpec.post enc Try.prog Try.f3 false true false false) := by
  refine returnsInHanded_of_change (C := Try.checked) own started (by kernel_rfl) Try.func3
    (ChangeSpec.witness6 (enc := enc) (C := Try.checked) false ⟨#[], #[.agg (cv Ce.zero), .agg (cv Ce.zero), .int .i64 0, .agg (va Va.zero)], []⟩ 8 (by kernel_rfl) (by kernel_rfl) (by kernel_rfl) (by kernel_rfl)) ?_
  intro W base args ds gs before hval0 hW hcnd _
  have hval : ∀ (j : Nat) t v, Try.f3.params[j]? = some t → args[j]? = some v → Value.okWide Try.prog W .any base t v := hval0
  have hW' := hW
  obtain ⟨p, q, hA0, hV, rfl, hfz, hnd⟩ := hW
  have hA : DataW.TrodAll enc Try.prog W 0 (fun _ => true) true Try.f3.params.toList args.toList ds p := hA0
  rw [Try.params3] at hA hval
  obtain ⟨v0, vs0, d0, ds0, p0, q0, hargs, rfl, rfl, h0, r0⟩ := trodAll_cons hA
  obtain ⟨v1, vs1, d1, ds1, p1, q1, rfl, rfl, rfl, h1, r1⟩ := trodAll_cons r0
  obtain ⟨v2, vs2, d2, ds2, p2, q2, rfl, rfl, rfl, h2, r2⟩ := trodAll_cons r1
  obtain ⟨v3, vs3, d3, ds3, p3, q3, rfl, rfl, rfl, h3, r3⟩ := trodAll_cons r2
  obtain ⟨rfl, rfl, rfl⟩ := trodAll_nil r3
  obtain rfl : args = #[v0, v1, v2, v3] := by cases args; simp_all
  obtain ⟨rfl, rfl⟩ := trodVars_none hV
  have k0 := h0
  have lt0 : ∀ x ∈ p0, x.block < W.heap.size := by obtain ⟨m, hm⟩ := k0; exact DataW.trod_lt m _ _ _ hm
  obtain ⟨a0, rfl, w0⟩ := open_cell (hval 0 26 v0 rfl rfl) h0
  have k1 := h1
  have lt1 : ∀ x ∈ p1, x.block < W.heap.size := by obtain ⟨m, hm⟩ := k1; exact DataW.trod_lt m _ _ _ hm
  obtain ⟨a1, rfl, w1⟩ := open_cell (hval 1 26 v1 rfl rfl) h1
  obtain ⟨a2, rfl, rfl, rfl, w2⟩ := open_int Try.underlying2 (hval 2 2 v2 rfl rfl) h2
  have k3 := h3
  have lt3 : ∀ x ∈ p3, x.block < W.heap.size := by obtain ⟨m, hm⟩ := k3; exact DataW.trod_lt m _ _ _ hm
  obtain ⟨a3, rfl, w3⟩ := open_val (hval 3 24 v3 rfl rfl) h3
  clear hA0 hval0
  refine (walk a0 a1 a2 a3 W w0 w1 w2 w3).mono fun e W' ⟨he, bel⟩ => ?_
  subst he
  exact ⟨_, rfl, _, _, _, [], _, [], hW', trodAll_mk1 (shut_bool Try.underlying4 _), (trodAll_cons_mk (Below.trod laidOut (by kernel_rfl) (of_decide_eq_true (by kernel_rfl)) k0 bel lt0) (trodAll_cons_mk (Below.trod laidOut (by kernel_rfl) (of_decide_eq_true (by kernel_rfl)) k1 bel lt1) (trodAll_cons_mk (shut_int Try.underlying2 w2) (trodAll_cons_mk (Below.trod laidOut (by kernel_rfl) (of_decide_eq_true (by kernel_rfl)) k3 bel lt3) trodAll_mk0)))), rfl, bel.frame _, fun h => by cases h⟩

theorem over : Rows.cellAllRow.holds Try.pinned (OpenSpec.ofChange Rows.cellAllSpec) :=
  OpenClaim.holds_of_wide 3 Try.f3 rfl rfl rfl rfl rfl rfl rfl ⟨rfl, rfl, rfl, rfl, rfl⟩ rfl rfl rfl rfl rfl (by kernel_rfl) Try.func3 (by kernel_rfl)
    (of_decide_eq_true (by kernel_rfl)) (by unfold Func.isWrapper; first | (rw [if_pos (by decide +kernel)]; kernel_rfl) | (rw [if_neg (by decide +kernel)]; exact ⟨rfl, rfl⟩))
    (fun os started H enc _ => lifted os started H enc)

theorem proved : Rows.CellAllSaid := over
#print axioms proved
end Go.Proofs.Ytlefhhmggaaiiaa.cellAll
