/-
  For every two cells c and d and every two slices of bytes ahead and rest CellBytes returns true: of a cell that may be Put lays the document's bytes behind at most 10 bytes ahead, Get gives the cell back whatever 10 bytes follow, and another one that may be has the same bytes just if it is the same cell. No condition.
-/
import Derived.Test.YtlefhhmggaaiiaaRows
import Derived.WalkKit
import Derived.ProofKit
import Derived.OpenShut
import Derived.ShutString
import Derived.ChangeOld
import Derived.Below
import Derived.Test.YtlefhhmggaaiiaaCelL
import Derived.Test.YtlefhhmggaaiiaaCelH
import Derived.Test.YtlefhhmggaaiiaaCelO
import Derived.Test.YtlefhhmggaaiiaaCelS
import Derived.Test.YtlefhhmggaaiiaaOrw
import Derived.Test.YtlefhhmggaaiiaaOrx
import Derived.Test.YtlefhhmggaaiiaaCelQ
import Derived.Test.YtlefhhmggaaiiaaOpn
namespace Go.Proofs.Ytlefhhmggaaiiaa.cellBytes
open Go.ChangeShapes Go.WideShapes Go.ChangeAt Go.RowKit
open Go.ChangeMaps (open_string shut_string)
set_option linter.unusedVariables false

theorem own : ownKnob Try.prog.godebug = none := by kernel_rfl
theorem laidOut : laidOutB Try.prog = true := by kernel_rfl

set_option maxRecDepth 100000 in
set_option maxHeartbeats 16000000 in
theorem walk (a0 a1 : Ce) (a2 : Option Addr) (len2 cap2 : Nat) (z2 : List Int) (a3 : Option Addr) (len3 cap3 : Nat) (z3 : List Int) (w : World) (w0 : a0.Ok) (w1 : a1.Ok) (w2 : Sl w (.slice a2 len2 cap2) z2) (w3 : Sl w (.slice a3 len3 cap3) z3) :
    Calls Try.prog 4 #[.agg (cv a0), .agg (cv a1), .slice a2 len2 cap2, .slice a3 len3 cap3] w fun e w' => e = .returned (.bool true) ∧ Below w.heap.size w w' := by
  have H0 := hide w0
  have H1 := hide w1
  have H2 := hide w2
  have H3 := hide w3
  clear w0 w1 w2 w3
  go_enter Try.func4, Try.ntmps4
  go_wp2_with (first
    | (refine wpList_box 26 (.tmp 0) (cv a0) rfl rfl rfl ?_; intro W1 hB hX)
    | (refine wpList_box 26 (.tmp 1) (cv a1) rfl rfl rfl ?_; intro W2 hBx hY; have nhXhY := Nat.ne_of_lt hX.lt; replace hX := hX.later hBx; have lhY := hB.size; replace hB := hB.trans (hBx.mono hB.size); clear hBx))
  refine (begun_any _).mono ?_
  rintro e X ⟨rfl, hb⟩
  replace hX := hX.later hb
  replace hY := hY.later hb
  replace hB := hB.trans (hb.mono hB.size)
  clear hb
  go_wp2_with fail
  refine wp_region_noPanic ?_
  refine wp_region_P 8 (fun W => Below X.heap.size X W) (by kernel_rfl) (Below.refl _ _).drew (fun hHeld => ?_)
  refine wpAnyP_take (i := 0) (v := .agg (cv a0)) rfl (by kernel_rfl) (by kernel_rfl) (by kernel_rfl) (by kernel_rfl) (by kernel_rfl) (by decide) (fun _ _ _ h => h) (yields_bx (by kernel_rfl) _ _ _ rfl _ rfl (cv a0) (fun W hW => hX.later hW) tyR rfl) hHeld ?_
  try simp only [Act.put, List.getElem_toArray, List.getElem_cons_zero, List.setIfInBounds_toArray, List.set_cons_succ, List.set_cons_zero]
  refine wpAnyP_takeD [3,5,7,8] (i := 2) (v := .agg (cv a1)) rfl (by kernel_rfl) (by kernel_rfl) (by kernel_rfl) (by kernel_rfl) (by kernel_rfl) (by kernel_rfl) (fun _ _ _ h => h) (yields_bx (by kernel_rfl) _ _ _ rfl _ rfl (cv a1) (fun W hW => hY.later hW) tyR rfl) hHeld ?_
  try simp only [Act.put, List.getElem_toArray, List.getElem_cons_zero, List.getElem_cons_succ, List.setIfInBounds_toArray, List.set_cons_succ, List.set_cons_zero]
  refine wpAnyP_takeU (i := 4) (v := ?_) rfl (by kernel_rfl) (by kernel_rfl) (by kernel_rfl) (by decide) (fun _ _ _ h => h) (Or.inl ⟨by kernel_rfl, ?_⟩) hHeld ?_
  rotate_left
  · intro W hW; clear hW; go_simp; first | done | with_reducible rfl | rfl
  try simp only [Act.put, List.getElem_toArray, List.getElem_cons_zero, List.getElem_cons_succ, List.setIfInBounds_toArray, List.set_cons_succ, List.set_cons_zero]
  refine wpAnyP_takeU (i := 6) (v := ?_) rfl (by kernel_rfl) (by kernel_rfl) (by kernel_rfl) (by decide) (fun _ _ _ h => h) (Or.inl ⟨by kernel_rfl, ?_⟩) hHeld ?_
  rotate_left
  · intro W hW; clear hW; go_simp; first | done | with_reducible rfl | rfl
  try simp only [Act.put, List.getElem_toArray, List.getElem_cons_zero, List.getElem_cons_succ, List.setIfInBounds_toArray, List.set_cons_succ, List.set_cons_zero]
  refine wpAnyP_ready (rs := [1]) (by kernel_rfl) (by simp) ?_
  refine AllReadyP.cons (o := _) rfl (fun K hK => ?_) AllReadyP.nil
  rw [if_pos (by kernel_rfl)]
  go_simp
  refine (cut_cell a0 _ H0.out).mono ?_
  rintro e xc ⟨c, rfl, hdc, h20c, h25c, h26c, hb⟩
  dsimp only
  have hHeldN := hHeld.trans (hb.mono hHeld.size)
  refine hK.out _ _ hHeldN ?_
  clear hK K hb hHeld
  have hHeld := hHeldN
  clear hHeldN
  try simp only [Act.put, List.getElem_toArray, List.getElem_cons_zero, List.getElem_cons_succ, List.setIfInBounds_toArray, List.set_cons_succ, List.set_cons_zero]
  have Hc := hide hdc
  have Fc := hide (show c.N.size + c.V.S.size + c.W.S.size ≤ 70 by omega)
  clear hdc h20c h25c h26c
  refine wpAnyP_ready (rs := [3]) (by kernel_rfl) (by simp) ?_
  refine AllReadyP.cons (o := _) rfl (fun K hK => ?_) AllReadyP.nil
  rw [if_pos (by kernel_rfl)]
  go_simp
  refine (cut_cell a1 _ H1.out).mono ?_
  rintro e xc ⟨d, rfl, hdd, h20d, h25d, h26d, hb⟩
  dsimp only
  have hHeldN := hHeld.trans (hb.mono hHeld.size)
  refine hK.out _ _ hHeldN ?_
  clear hK K hb hHeld
  have hHeld := hHeldN
  clear hHeldN
  try simp only [Act.put, List.getElem_toArray, List.getElem_cons_zero, List.getElem_cons_succ, List.setIfInBounds_toArray, List.set_cons_succ, List.set_cons_zero]
  have Hd := hide hdd
  have Fd := hide (show d.N.size + d.V.S.size + d.W.S.size ≤ 70 by omega)
  clear hdd h20d h25d h26d
  refine wpAnyP_ready (rs := [5]) (by kernel_rfl) (by simp) ?_
  refine AllReadyP.cons (o := _) rfl (fun K hK => ?_) AllReadyP.nil
  rw [if_pos (by kernel_rfl)]
  go_simp
  refine (short_low _ _ 10 w _ H2.out).mono ?_
  rintro e xc ⟨vP, rfl, hvP, rfl⟩
  dsimp only
  refine hK.out _ _ hHeld ?_
  clear hK K
  try simp only [Act.put, List.getElem_toArray, List.getElem_cons_zero, List.getElem_cons_succ, List.setIfInBounds_toArray, List.set_cons_succ, List.set_cons_zero]
  refine wpAnyP_ready (rs := [7]) (by kernel_rfl) (by simp) ?_
  refine AllReadyP.cons (o := _) rfl (fun K hK => ?_) AllReadyP.nil
  rw [if_pos (by kernel_rfl)]
  go_simp
  refine (short_low _ _ 10 w _ H3.out).mono ?_
  rintro e xc ⟨vR, rfl, hvR, rfl⟩
  dsimp only
  refine hK.out _ _ hHeld ?_
  clear hK K
  try simp only [Act.put, List.getElem_toArray, List.getElem_cons_zero, List.getElem_cons_succ, List.setIfInBounds_toArray, List.set_cons_succ, List.set_cons_zero]
  replace hX := hX.later hHeld
  replace hY := hY.later hHeld
  replace hB := hB.trans (hHeld.mono hB.size)
  clear hHeld
  refine wpAnyP_ready (rs := [8]) (by kernel_rfl) (by simp) ?_
  refine AllReadyP.late (o := _) rfl (by kernel_rfl) (fun K hK => ?_)
  rw [if_pos (by kernel_rfl)]
  refine wp_put 26 _ (.tmp 4) (.tmp 18) _ (cv c) _ rfl rfl rfl hX tyR rfl rfl (cv_one _) ?_
  intro Wp hbp hzp hNp
  refine hK.out _ _ ?_
  clear hK K
  try simp only [Act.put, List.getElem_toArray, List.getElem_cons_zero, List.getElem_cons_succ]
  replace hY := hY.but hbp (fun e => nhXhY e.symm)
  replace hB := Below.but hB hB.size hbp (fun k e => by omega)
  clear hX hbp hzp
  have hX := hNp
  clear hNp
  refine wpAnyP_ready (rs := [9]) (by kernel_rfl) (by simp) ?_
  refine AllReadyP.late (o := _) rfl (by kernel_rfl) (fun K hK => ?_)
  rw [if_pos (by kernel_rfl)]
  refine wp_put 26 _ (.tmp 5) (.tmp 20) _ (cv d) _ rfl rfl rfl hY tyR rfl rfl (cv_one _) ?_
  intro Wp hbp hzp hNp
  refine hK.out _ _ ?_
  clear hK K
  try simp only [Act.put, List.getElem_toArray, List.getElem_cons_zero, List.getElem_cons_succ]
  replace hX := hX.but hbp nhXhY
  replace hB := Below.but hB hB.size hbp (fun k e => by omega)
  clear hY hbp hzp
  have hY := hNp
  clear hNp
  refine wpAnyP_ready (rs := [10]) (by kernel_rfl) (by simp) ?_
  refine AllReadyP.late (o := _) rfl (by kernel_rfl) (fun K hK => ?_)
  rw [if_pos (by kernel_rfl)]
  go_simp
  refine hK.out _ _ ?_
  clear hK K
  try simp only [Act.put, List.getElem_toArray, List.getElem_cons_zero, List.getElem_cons_succ, List.setIfInBounds_toArray, List.set_cons_succ, List.set_cons_zero]
  refine wpAnyP_ready (rs := [11]) (by kernel_rfl) (by simp) ?_
  refine AllReadyP.late (o := _) rfl (by kernel_rfl) (fun K hK => ?_)
  rw [if_pos (by kernel_rfl)]
  go_simp
  refine hK.out _ _ ?_
  clear hK K
  try simp only [Act.put, List.getElem_toArray, List.getElem_cons_zero, List.getElem_cons_succ, List.setIfInBounds_toArray, List.set_cons_succ, List.set_cons_zero]
  refine wpAnyP_done (by kernel_rfl) ?_ _
  refine NoPanic.normal ?_
  go_simp
  have hPl : (z2.take 10).length ≤ 10 := List.length_take_le _ _
  have hRl : (z3.take 10).length ≤ 10 := List.length_take_le _ _
  generalize z2.take 10 = P at *
  generalize z3.take 10 = R at *
  have HPB := hide hvP.bd
  have HRB := hide hvR.bd
  replace hvP := hvP.later hB
  replace hvR := hvR.later hB
  clear H2 H3
  go_wp2_with (first
    | (refine wpList_get 26 _ (.tmp 4) _ (cv c) rfl rfl rfl hX tyR rfl ?_))
  refine (refMay_cell c _ Hc.out).mono ?_
  rintro e W7 ⟨rfl, hb⟩
  replace hX := hX.later hb
  replace hY := hY.later hb
  replace hvP := hvP.later hb
  replace hvR := hvR.later hb
  replace hB := hB.trans (hb.mono hB.size)
  clear hb
  cases hm : c.may
  · go_wp2_with fail
    go_ret
    exact ⟨rfl, hB⟩
  have HM := hide hm
  clear hm
  have HCB := hide (Ce.put_bd HM.out)
  have hpl := Ce.put_len c
  have hlc : 1 ≤ (Ce.put c).length ∧ (Ce.put c).length ≤ 200 := by
    have h1 := (Ce.km_size (Ce.may_parts HM.out).1).1
    rw [if_pos h1] at hpl
    have := Fc.out
    omega
  clear hpl
  obtain ⟨hlc1, hlc2⟩ := hlc
  go_wp2_with fail
  refine wp_region_noPanic ?_
  refine wp_region_held_drew (S := fun W => Below W7.heap.size W7 W) (by kernel_rfl) ?_ (fun hHeld => ?_)
  · exact (Below.refl _ _).drew
  refine wpAnyH_take (i := 0) (v := ?_) rfl (by kernel_rfl) (by kernel_rfl) (by kernel_rfl) (fun _ _ _ h => h) (Or.inl ⟨by kernel_rfl, ?_⟩) hHeld ?_
  rotate_left
  · intro W hW; go_simp; first | done | with_reducible rfl | rfl
  try simp only [Act.put, List.getElem_toArray, List.getElem_cons_zero, List.setIfInBounds_toArray, List.set_cons_succ, List.set_cons_zero]
  refine wpAnyH_take (i := 2) (v := .agg (cv c)) rfl (by kernel_rfl) (by kernel_rfl) (by kernel_rfl) (fun _ _ _ h => h) (yields_bx (by kernel_rfl) _ _ _ rfl _ rfl (cv c) (fun W hW => hX.later hW) tyR rfl) hHeld ?_
  try simp only [Act.put, List.getElem_toArray, List.getElem_cons_zero, List.getElem_cons_succ, List.setIfInBounds_toArray, List.set_cons_succ, List.set_cons_zero]
  refine wpAnyH_ready (rs := [1]) (by kernel_rfl) (by simp) ?_
  refine AllReadyH.cons (o := _) rfl (fun K hK => ?_) AllReadyH.nil
  rw [if_pos (by kernel_rfl)]
  refine wp_append_sl (.const (.slice none 0 0)) (.tmp 28) 47 rfl _ 5 Try.underlying47 Try.info5 _ 0 [] rfl (World.ownsRow_nil _ _ _ _) _ (P) rfl (hvP.later hHeld) (by omega) (Nat.le_refl _) ?_
  intro VA xc ho4 hg4
  refine hK.out _ _ ?_ (fun hHeld => ?_)
  · exact hHeld.trans ((below_new hg4).mono hHeld.size)
  clear hK K
  try simp only [Act.put, List.getElem_toArray, List.getElem_cons_zero, List.getElem_cons_succ, List.setIfInBounds_toArray, List.set_cons_succ, List.set_cons_zero]
  refine held_mono (S' := fun W => Below xc.heap.size xc W) (fun W h => hHeld.trans (h.mono hHeld.size)) _ _ _ _ ?_
  replace hX := hX.later hHeld
  replace hY := hY.later hHeld
  replace hvP := hvP.later hHeld
  replace hvR := hvR.later hHeld
  replace hB := hB.trans (hHeld.mono hB.size)
  have hVA : Sl xc VA (P) := Sl.own (by simpa using ho4) hvP.bd
  clear hHeld hg4 ho4
  have hHeld : Below xc.heap.size xc xc := Below.refl _ _
  refine wpAnyH_callB (i := 3) rfl (by kernel_rfl) (by kernel_rfl) (by kernel_rfl) (of_cell c _) hHeld ?_
  intro xc hb4 hHeld
  try simp only [Act.put, List.getElem_toArray, List.getElem_cons_zero, List.getElem_cons_succ, List.setIfInBounds_toArray, List.set_cons_succ, List.set_cons_zero]
  replace hX := hX.later hHeld
  replace hY := hY.later hHeld
  replace hvP := hvP.later hHeld
  replace hvR := hvR.later hHeld
  replace hVA := hVA.later hHeld
  replace hB := hB.trans (hHeld.mono hB.size)
  clear hHeld hb4
  have hHeld : Below xc.heap.size xc xc := Below.refl _ _
  refine wpAnyH_ready (rs := [4]) (by kernel_rfl) (by simp) ?_
  refine AllReadyH.cons (o := _) rfl (fun K hK => ?_) AllReadyH.nil
  rw [if_pos (by kernel_rfl)]; go_simp
  refine (put_cell VA P c _ hVA (by have := Fc.out; omega) Hc.out).mono ?_
  rintro e xc ⟨VB, rfl, ho4, hb4⟩
  dsimp only
  refine hK.out _ _ ?_ (fun hHeld => ?_)
  · exact hHeld.trans (hb4.mono hHeld.size)
  clear hK K
  try simp only [Act.put, List.getElem_toArray, List.getElem_cons_zero, List.getElem_cons_succ, List.setIfInBounds_toArray, List.set_cons_succ, List.set_cons_zero]
  refine held_mono (S' := fun W => Below xc.heap.size xc W) (fun W h => hHeld.trans (h.mono hHeld.size)) _ _ _ _ ?_
  replace hX := hX.later hHeld
  replace hY := hY.later hHeld
  replace hvP := hvP.later hHeld
  replace hvR := hvR.later hHeld
  replace hVA := hVA.later hHeld
  replace hB := hB.trans (hHeld.mono hB.size)
  have hVB : Sl xc VB (P ++ Ce.put c) := Sl.own (by simpa using ho4) (bd_app HPB.out HCB.out)
  clear hHeld hb4 ho4
  have hHeld : Below xc.heap.size xc xc := Below.refl _ _
  refine wpAnyH_take (i := 5) (v := ?_) rfl (by kernel_rfl) (by kernel_rfl) (by kernel_rfl) (fun _ _ _ h => h) (Or.inl ⟨by kernel_rfl, ?_⟩) hHeld ?_
  rotate_left
  · intro W hW; go_simp; first | done | with_reducible rfl | rfl
  try simp only [Act.put, List.getElem_toArray, List.getElem_cons_zero, List.getElem_cons_succ, List.setIfInBounds_toArray, List.set_cons_succ, List.set_cons_zero]
  refine wpAnyH_done (by kernel_rfl) ?_ _
  refine NoPanic.normal ?_
  clear hHeld hVA
  go_simp
  go_wp2_with fail
  refine wp_region_noPanic ?_
  refine wp_region_held_drew (S := fun W => Below xc.heap.size xc W) (by kernel_rfl) ?_ (fun hHeld => ?_)
  · exact (Below.refl _ _).drew
  have hcat := nums_app P (Ce.put c)
  have hsz : ¬ 9223372036854775807 < (strOfNums P).size + (strOfNums (Ce.put c)).size := by rw [strOfNums_size, strOfNums_size]; omega
  refine wpAnyH_take (i := 0) (v := ?_) rfl (by kernel_rfl) (by kernel_rfl) (by kernel_rfl) (fun _ _ _ h => h) (Or.inl ⟨by kernel_rfl, ?_⟩) hHeld ?_
  rotate_left
  · intro W hW; go_simp; first | done | with_reducible rfl | rfl
  try simp only [Act.put, List.getElem_toArray, List.getElem_cons_zero, List.setIfInBounds_toArray, List.set_cons_succ, List.set_cons_zero]
  refine wpAnyH_take (i := 1) (v := .string (strOfNums (P ++ Ce.put c))) rfl (by kernel_rfl) (by kernel_rfl) (by kernel_rfl) (fun _ _ _ h => h) (Or.inl ⟨by kernel_rfl, ?_⟩) hHeld ?_
  · intro W hW; have hcv := (hVB.later hW).conv (P := Try.prog) 47 9 5 Try.underlying47 Try.underlying5 Try.underlying9; go_simp
  try simp only [Act.put, List.getElem_toArray, List.getElem_cons_zero, List.getElem_cons_succ, List.setIfInBounds_toArray, List.set_cons_succ, List.set_cons_zero]
  refine wpAnyH_take (i := 2) (v := ?_) rfl (by kernel_rfl) (by kernel_rfl) (by kernel_rfl) (fun _ _ _ h => h) (Or.inl ⟨by kernel_rfl, ?_⟩) hHeld ?_
  rotate_left
  · intro W hW; go_simp; first | done | with_reducible rfl | rfl
  try simp only [Act.put, List.getElem_toArray, List.getElem_cons_zero, List.getElem_cons_succ, List.setIfInBounds_toArray, List.set_cons_succ, List.set_cons_zero]
  refine wpAnyH_take (i := 3) (v := .string (strOfNums (P))) rfl (by kernel_rfl) (by kernel_rfl) (by kernel_rfl) (fun _ _ _ h => h) (Or.inl ⟨by kernel_rfl, ?_⟩) hHeld ?_
  · intro W hW; have hcv := (hvP.later hW).conv (P := Try.prog) 47 9 5 Try.underlying47 Try.underlying5 Try.underlying9; go_simp
  try simp only [Act.put, List.getElem_toArray, List.getElem_cons_zero, List.getElem_cons_succ, List.setIfInBounds_toArray, List.set_cons_succ, List.set_cons_zero]
  refine wpAnyH_take (i := 4) (v := .agg (cv c)) rfl (by kernel_rfl) (by kernel_rfl) (by kernel_rfl) (fun _ _ _ h => h) (yields_bx (by kernel_rfl) _ _ _ rfl _ rfl (cv c) (fun W hW => hX.later hW) tyR rfl) hHeld ?_
  try simp only [Act.put, List.getElem_toArray, List.getElem_cons_zero, List.getElem_cons_succ, List.setIfInBounds_toArray, List.set_cons_succ, List.set_cons_zero]
  refine wpAnyH_ready (rs := [5]) (by kernel_rfl) (by simp) ?_
  refine AllReadyH.cons (o := _) rfl (fun K hK => ?_) AllReadyH.nil
  rw [if_pos (by kernel_rfl)]; go_simp
  refine (refBytes_cell c _ (by have := Fc.out; omega) Hc.out).mono ?_
  rintro e xc ⟨VP, rfl, ho4, hb4⟩
  dsimp only
  refine hK.out _ _ ?_ (fun hHeld => ?_)
  · exact hHeld.trans (hb4.mono hHeld.size)
  clear hK K
  try simp only [Act.put, List.getElem_toArray, List.getElem_cons_zero, List.getElem_cons_succ, List.setIfInBounds_toArray, List.set_cons_succ, List.set_cons_zero]
  refine held_mono (S' := fun W => Below xc.heap.size xc W) (fun W h => hHeld.trans (h.mono hHeld.size)) _ _ _ _ ?_
  replace hX := hX.later hHeld
  replace hY := hY.later hHeld
  replace hvP := hvP.later hHeld
  replace hvR := hvR.later hHeld
  replace hVB := hVB.later hHeld
  replace hB := hB.trans (hHeld.mono hB.size)
  have hVP : Sl xc VP (Ce.put c) := Sl.own (by simpa using ho4) HCB.out
  clear hHeld hb4 ho4
  have hHeld : Below xc.heap.size xc xc := Below.refl _ _
  refine wpAnyH_take (i := 6) (v := .string (strOfNums (Ce.put c))) rfl (by kernel_rfl) (by kernel_rfl) (by kernel_rfl) (fun _ _ _ h => h) (Or.inl ⟨by kernel_rfl, ?_⟩) hHeld ?_
  · intro W hW; have hcv := (hVP.later hW).conv (P := Try.prog) 47 9 5 Try.underlying47 Try.underlying5 Try.underlying9; go_simp
  try simp only [Act.put, List.getElem_toArray, List.getElem_cons_zero, List.getElem_cons_succ, List.setIfInBounds_toArray, List.set_cons_succ, List.set_cons_zero]
  refine wpAnyH_take (i := 7) (v := .string (strOfNums (P ++ Ce.put c))) rfl (by kernel_rfl) (by kernel_rfl) (by kernel_rfl) (fun _ _ _ h => h) (Or.inl ⟨by kernel_rfl, ?_⟩) hHeld ?_
  · intro W hW; go_simp; first | done | with_reducible rfl | rfl
  try simp only [Act.put, List.getElem_toArray, List.getElem_cons_zero, List.getElem_cons_succ, List.setIfInBounds_toArray, List.set_cons_succ, List.set_cons_zero]
  refine wpAnyH_take (i := 8) (v := .bool false) rfl (by kernel_rfl) (by kernel_rfl) (by kernel_rfl) (fun _ _ _ h => h) (Or.inl ⟨by kernel_rfl, ?_⟩) hHeld ?_
  · intro W hW; go_simp; first | done | with_reducible rfl | rfl
  try simp only [Act.put, List.getElem_toArray, List.getElem_cons_zero, List.getElem_cons_succ, List.setIfInBounds_toArray, List.set_cons_succ, List.set_cons_zero]
  refine wpAnyH_done (by kernel_rfl) ?_ _
  refine NoPanic.normal ?_
  clear hHeld hcat hsz hVP
  go_simp
  obtain ⟨pa, na, ca, rfl, hna, hca, Hna, HPa⟩ := hvP.opens
  obtain ⟨pb, nb, cb, rfl, hnb, hcb, Hnb, HBb⟩ := hVB.opens
  have hab : na ≤ nb := by rw [Hna.out, Hnb.out]; simp
  have hlb : nb - na = (Ce.put c).length := by rw [Hna.out, Hnb.out]; simp
  have hneb : ¬ cb = na := by omega
  have hQb : Sl xc (.slice (pb.map (·.add na)) (nb - na) (cb - na)) (Ce.put c) := by
    have := HBb.out.rest (l := na) (by rw [Hna.out]; simp) _ rfl
    rw [if_neg hneb, Hna.out, List.drop_left, ← Hna.out] at this
    exact this
  have HQb := hide hQb
  have HLb := hide hlb
  have HGP := hide (Ce.get_put Hc.out.v.x Hc.out.w.x HM.out R)
  have HLC := hide hlc2
  clear hQb hlb hVB hvP hlc1 hlc2 HPa HBb
  go_wp2_with (first
    | (refine wpList_append_sl rfl (.const (.slice none 0 0)) (.tmp 46) 47 rfl xc.heap.size 5 Try.underlying47 Try.info5 _ 0 [] rfl (World.ownsRow_nil _ _ _ _) _ (Ce.put c) rfl HQb.out (by have := HLC.out; omega) (Nat.le_refl _) ?_; intro v11 x11 ho11 hg11)
    | (refine wpList_append_sl rfl (.tmp 47) (.tmp 48) 47 rfl xc.heap.size 5 Try.underlying47 Try.info5 v11 (0 + (Ce.put c).length) ([] ++ Ce.put c) rfl ho11 _ R rfl (hvR.later (below_new hg11)) (by have := HLC.out; omega) hg11.size ?_; intro v12 x12 ho12 hg12))
  have hb12 : Below xc.heap.size xc x12 := (below_new hg11).grown hg12 hg11.size (fun k hk => (ho11.lt k hk).1)
  have hS12 : Sl x12 v12 (Ce.put c ++ R) := Sl.own (by simpa using ho12) (bd_app HCB.out HRB.out)
  have hQ12 := hide (HQb.out.later hb12)
  replace hB := hB.trans (hb12.mono hB.size)
  replace hX := hX.later hb12
  replace hY := hY.later hb12
  clear ho11 hg11 ho12 hg12 hb12 HQb
  refine (get_cell_at hS12 HGP.out).mono ?_
  rintro e x13 ⟨rfl, hb⟩
  replace hB := hB.trans (hb.mono hB.size)
  replace hX := hX.later hb
  replace hY := hY.later hb
  have hQ13 := hide (hQ12.out.later hb)
  clear hb hS12 hQ12 hvR
  have e2 : ((Ce.put c).length : Int) = (nb : Int) - (na : Int) := by have := HLb.out; omega
  rw [e2]
  clear e2
  go_wp2_with (first
    | (refine wpList_new 31 _ rfl rfl tyC ?_; intro Wn hBn hN)
    | (refine wpList_put 31 _ (.tmp 11) (.tmp 51) _ (cv c) _ rfl rfl rfl rfl hN tyC rfl rfl (cv_one _) ?_; intro Z hbp hsp hZ; have hBp := newput hBn hbp; replace hX := hX.later hBp; replace hY := hY.later hBp; have hQ14 := hide (hQ13.out.later hBp); clear hQ13; replace hB := hB.trans (hBp.mono hB.size); clear hBn hN hbp hsp hBp))
  refine wp_region_noPanic ?_
  refine wp_region_held_drew (S := fun W => Below Z.heap.size Z W) (by kernel_rfl) ?_ (fun hHeld => ?_)
  · exact (Below.refl _ _).drew
  refine wpAnyH_take (i := 0) (v := ?_) rfl (by kernel_rfl) (by kernel_rfl) (by kernel_rfl) (fun _ _ _ h => h) (Or.inl ⟨by kernel_rfl, ?_⟩) hHeld ?_
  rotate_left
  · intro W hW; go_simp; first | done | with_reducible rfl | rfl
  try simp only [Act.put, List.getElem_toArray, List.getElem_cons_zero, List.setIfInBounds_toArray, List.set_cons_succ, List.set_cons_zero]
  refine wpAnyH_take (i := 1) (v := .bool false) rfl (by kernel_rfl) (by kernel_rfl) (by kernel_rfl) (fun _ _ _ h => h) (Or.inl ⟨by kernel_rfl, ?_⟩) hHeld ?_
  · intro W hW; go_simp; first | done | with_reducible rfl | rfl
  try simp only [Act.put, List.getElem_toArray, List.getElem_cons_zero, List.getElem_cons_succ, List.setIfInBounds_toArray, List.set_cons_succ, List.set_cons_zero]
  refine wpAnyH_take (i := 2) (v := ?_) rfl (by kernel_rfl) (by kernel_rfl) (by kernel_rfl) (fun _ _ _ h => h) (Or.inl ⟨by kernel_rfl, ?_⟩) hHeld ?_
  rotate_left
  · intro W hW; go_simp; first | done | with_reducible rfl | rfl
  try simp only [Act.put, List.getElem_toArray, List.getElem_cons_zero, List.getElem_cons_succ, List.setIfInBounds_toArray, List.set_cons_succ, List.set_cons_zero]
  refine wpAnyH_take (i := 3) (v := ?_) rfl (by kernel_rfl) (by kernel_rfl) (by kernel_rfl) (fun _ _ _ h => h) (Or.inl ⟨by kernel_rfl, ?_⟩) hHeld ?_
  rotate_left
  · intro W hW; go_simp; first | done | with_reducible rfl | rfl
  try simp only [Act.put, List.getElem_toArray, List.getElem_cons_zero, List.getElem_cons_succ, List.setIfInBounds_toArray, List.set_cons_succ, List.set_cons_zero]
  refine wpAnyH_take (i := 4) (v := ?_) rfl (by kernel_rfl) (by kernel_rfl) (by kernel_rfl) (fun _ _ _ h => h) (Or.inl ⟨by kernel_rfl, ?_⟩) hHeld ?_
  rotate_left
  · intro W hW; go_simp; first | done | with_reducible rfl | rfl
  try simp only [Act.put, List.getElem_toArray, List.getElem_cons_zero, List.getElem_cons_succ, List.setIfInBounds_toArray, List.set_cons_succ, List.set_cons_zero]
  refine wpAnyH_take (i := 5) (v := ?_) rfl (by kernel_rfl) (by kernel_rfl) (by kernel_rfl) (fun _ _ _ h => h) (Or.inl ⟨by kernel_rfl, ?_⟩) hHeld ?_
  rotate_left
  · intro W hW; go_simp; first | done | with_reducible rfl | rfl
  try simp only [Act.put, List.getElem_toArray, List.getElem_cons_zero, List.getElem_cons_succ, List.setIfInBounds_toArray, List.set_cons_succ, List.set_cons_zero]
  refine wpAnyH_take (i := 6) (v := ?_) rfl (by kernel_rfl) (by kernel_rfl) (by kernel_rfl) (fun _ _ _ h => h) (Or.inl ⟨by kernel_rfl, ?_⟩) hHeld ?_
  rotate_left
  · intro W hW; go_simp; first | done | with_reducible rfl | rfl
  try simp only [Act.put, List.getElem_toArray, List.getElem_cons_zero, List.getElem_cons_succ, List.setIfInBounds_toArray, List.set_cons_succ, List.set_cons_zero]
  refine wpAnyH_take (i := 7) (v := ?_) rfl (by kernel_rfl) (by kernel_rfl) (by kernel_rfl) (fun _ _ _ h => h) (Or.inl ⟨by kernel_rfl, ?_⟩) hHeld ?_
  rotate_left
  · intro W hW; go_simp; first | done | with_reducible rfl | rfl
  try simp only [Act.put, List.getElem_toArray, List.getElem_cons_zero, List.getElem_cons_succ, List.setIfInBounds_toArray, List.set_cons_succ, List.set_cons_zero]
  have hsub : IntKind.i64.wrap ((nb : Int) - (na : Int)) = (nb : Int) - (na : Int) := by simp [IntKind.wrap, IntKind.bits, IntKind.signed]; omega
  refine wpAnyH_take (i := 8) (v := .int .i64 ((nb : Int) - (na : Int))) rfl (by kernel_rfl) (by kernel_rfl) (by kernel_rfl) (fun _ _ _ h => h) (Or.inl ⟨by kernel_rfl, ?_⟩) hHeld ?_
  · intro W hW; go_simp; first | done | with_reducible rfl | rfl
  try simp only [Act.put, List.getElem_toArray, List.getElem_cons_zero, List.getElem_cons_succ, List.setIfInBounds_toArray, List.set_cons_succ, List.set_cons_zero]
  clear hsub
  refine wpAnyH_take (i := 9) (v := .bool false) rfl (by kernel_rfl) (by kernel_rfl) (by kernel_rfl) (fun _ _ _ h => h) (Or.inl ⟨by kernel_rfl, ?_⟩) hHeld ?_
  · intro W hW; go_simp; first | done | with_reducible rfl | rfl
  try simp only [Act.put, List.getElem_toArray, List.getElem_cons_zero, List.getElem_cons_succ, List.setIfInBounds_toArray, List.set_cons_succ, List.set_cons_zero]
  refine wpAnyH_take (i := 10) (v := .bool false) rfl (by kernel_rfl) (by kernel_rfl) (by kernel_rfl) (fun _ _ _ h => h) (Or.inl ⟨by kernel_rfl, ?_⟩) hHeld ?_
  · intro W hW; go_simp; first | done | with_reducible rfl | rfl
  try simp only [Act.put, List.getElem_toArray, List.getElem_cons_zero, List.getElem_cons_succ, List.setIfInBounds_toArray, List.set_cons_succ, List.set_cons_zero]
  refine wpAnyH_take (i := 11) (v := ?_) rfl (by kernel_rfl) (by kernel_rfl) (by kernel_rfl) (fun _ _ _ h => h) (Or.inl ⟨by kernel_rfl, ?_⟩) hHeld ?_
  rotate_left
  · intro W hW; go_simp; first | done | with_reducible rfl | rfl
  try simp only [Act.put, List.getElem_toArray, List.getElem_cons_zero, List.getElem_cons_succ, List.setIfInBounds_toArray, List.set_cons_succ, List.set_cons_zero]
  refine wpAnyH_take (i := 12) (v := .agg (cv c)) rfl (by kernel_rfl) (by kernel_rfl) (by kernel_rfl) (fun _ _ _ h => h) (yields_bx (by kernel_rfl) _ _ _ rfl _ rfl (cv c) (fun W hW => hZ.later hW) tyC rfl) hHeld ?_
  try simp only [Act.put, List.getElem_toArray, List.getElem_cons_zero, List.getElem_cons_succ, List.setIfInBounds_toArray, List.set_cons_succ, List.set_cons_zero]
  refine wpAnyH_take (i := 14) (v := .agg (cv c)) rfl (by kernel_rfl) (by kernel_rfl) (by kernel_rfl) (fun _ _ _ h => h) (yields_bx (by kernel_rfl) _ _ _ rfl _ rfl (cv c) (fun W hW => hX.later hW) tyR rfl) hHeld ?_
  try simp only [Act.put, List.getElem_toArray, List.getElem_cons_zero, List.getElem_cons_succ, List.setIfInBounds_toArray, List.set_cons_succ, List.set_cons_zero]
  have hQ15 := hQ14.out
  refine wpAnyH_callB (i := 13) rfl (by kernel_rfl) (by kernel_rfl) (by kernel_rfl) (back_cell c _) hHeld ?_
  intro xc hb4 hHeld
  try simp only [Act.put, List.getElem_toArray, List.getElem_cons_zero, List.getElem_cons_succ, List.setIfInBounds_toArray, List.set_cons_succ, List.set_cons_zero]
  replace hX := hX.later hHeld
  replace hY := hY.later hHeld
  replace hZ := hZ.later hHeld
  replace hQ15 := hQ15.later hHeld
  replace hB := hB.trans (hHeld.mono hB.size)
  clear hHeld hb4
  have hHeld : Below xc.heap.size xc xc := Below.refl _ _
  refine wpAnyH_callB (i := 15) rfl (by kernel_rfl) (by kernel_rfl) (by kernel_rfl) (refEq_cell c c _ Hc.out Hc.out) hHeld ?_
  intro xc hb4 hHeld
  rw [Ce.eq_refl]
  try simp only [Act.put, List.getElem_toArray, List.getElem_cons_zero, List.getElem_cons_succ, List.setIfInBounds_toArray, List.set_cons_succ, List.set_cons_zero]
  replace hX := hX.later hHeld
  replace hY := hY.later hHeld
  replace hZ := hZ.later hHeld
  replace hQ15 := hQ15.later hHeld
  replace hB := hB.trans (hHeld.mono hB.size)
  clear hHeld hb4
  have hHeld : Below xc.heap.size xc xc := Below.refl _ _
  refine wpAnyH_take (i := 16) (v := .bool false) rfl (by kernel_rfl) (by kernel_rfl) (by kernel_rfl) (fun _ _ _ h => h) (Or.inl ⟨by kernel_rfl, ?_⟩) hHeld ?_
  · intro W hW; go_simp; first | done | with_reducible rfl | rfl
  try simp only [Act.put, List.getElem_toArray, List.getElem_cons_zero, List.getElem_cons_succ, List.setIfInBounds_toArray, List.set_cons_succ, List.set_cons_zero]
  refine wpAnyH_take (i := 17) (v := ?_) rfl (by kernel_rfl) (by kernel_rfl) (by kernel_rfl) (fun _ _ _ h => h) (Or.inl ⟨by kernel_rfl, ?_⟩) hHeld ?_
  rotate_left
  · intro W hW; go_simp; first | done | with_reducible rfl | rfl
  try simp only [Act.put, List.getElem_toArray, List.getElem_cons_zero, List.getElem_cons_succ, List.setIfInBounds_toArray, List.set_cons_succ, List.set_cons_zero]
  refine wpAnyH_done (by kernel_rfl) ?_ _
  refine NoPanic.normal ?_
  go_simp
  clear hHeld hZ
  go_wp2_with fail
  cases hn : d.may
  · have HN := hide hn
    clear hn
    refine wp_region_noPanic ?_
    refine wp_region_held_drew (S := fun W => Below xc.heap.size xc W) (by kernel_rfl) ?_ (fun hHeld => ?_)
    · exact (Below.refl _ _).drew
    refine wpAnyH_take (i := 0) (v := .agg (cv d)) rfl (by kernel_rfl) (by kernel_rfl) (by kernel_rfl) (fun _ _ _ h => h) (yields_bx (by kernel_rfl) _ _ _ rfl _ rfl (cv d) (fun W hW => hY.later hW) tyR rfl) hHeld ?_
    try simp only [Act.put, List.getElem_toArray, List.getElem_cons_zero, List.setIfInBounds_toArray, List.set_cons_succ, List.set_cons_zero]
    refine wpAnyH_callB (i := 1) rfl (by kernel_rfl) (by kernel_rfl) (by kernel_rfl) (refMay_cell d _ Hd.out) hHeld ?_
    intro xc hb4 hHeld
    rw [HN.out]
    try simp only [Act.put, List.getElem_toArray, List.getElem_cons_zero, List.getElem_cons_succ, List.setIfInBounds_toArray, List.set_cons_succ, List.set_cons_zero]
    replace hX := hX.later hHeld
    replace hY := hY.later hHeld
    replace hQ15 := hQ15.later hHeld
    replace hB := hB.trans (hHeld.mono hB.size)
    clear hHeld hb4
    have hHeld : Below xc.heap.size xc xc := Below.refl _ _
    refine wpAnyH_take (i := 2) (v := .bool true) rfl (by kernel_rfl) (by kernel_rfl) (by kernel_rfl) (fun _ _ _ h => h) (Or.inl ⟨by kernel_rfl, ?_⟩) hHeld ?_
    · intro W hW; go_simp; first | done | with_reducible rfl | rfl
    try simp only [Act.put, List.getElem_toArray, List.getElem_cons_zero, List.getElem_cons_succ, List.setIfInBounds_toArray, List.set_cons_succ, List.set_cons_zero]
    refine wpAnyH_take (i := 3) (v := ?_) rfl (by kernel_rfl) (by kernel_rfl) (by kernel_rfl) (fun _ _ _ h => h) (Or.inl ⟨by kernel_rfl, ?_⟩) hHeld ?_
    rotate_left
    · intro W hW; go_simp; first | done | with_reducible rfl | rfl
    try simp only [Act.put, List.getElem_toArray, List.getElem_cons_zero, List.getElem_cons_succ, List.setIfInBounds_toArray, List.set_cons_succ, List.set_cons_zero]
    refine wpAnyH_take (i := 4) (v := undef) rfl (by kernel_rfl) (by kernel_rfl) (by kernel_rfl) (fun _ _ _ h => h) (Or.inr ⟨by kernel_rfl, rfl⟩) hHeld ?_
    try simp only [Act.put, List.getElem_toArray, List.getElem_cons_zero, List.getElem_cons_succ, List.setIfInBounds_toArray, List.set_cons_succ, List.set_cons_zero]
    refine wpAnyH_take (i := 8) (v := undef) rfl (by kernel_rfl) (by kernel_rfl) (by kernel_rfl) (fun _ _ _ h => h) (Or.inr ⟨by kernel_rfl, rfl⟩) hHeld ?_
    try simp only [Act.put, List.getElem_toArray, List.getElem_cons_zero, List.getElem_cons_succ, List.setIfInBounds_toArray, List.set_cons_succ, List.set_cons_zero]
    refine wpAnyH_take (i := 9) (v := undef) rfl (by kernel_rfl) (by kernel_rfl) (by kernel_rfl) (fun _ _ _ h => h) (Or.inr ⟨by kernel_rfl, rfl⟩) hHeld ?_
    try simp only [Act.put, List.getElem_toArray, List.getElem_cons_zero, List.getElem_cons_succ, List.setIfInBounds_toArray, List.set_cons_succ, List.set_cons_zero]
    refine wpAnyH_take (i := 10) (v := undef) rfl (by kernel_rfl) (by kernel_rfl) (by kernel_rfl) (fun _ _ _ h => h) (Or.inr ⟨by kernel_rfl, rfl⟩) hHeld ?_
    try simp only [Act.put, List.getElem_toArray, List.getElem_cons_zero, List.getElem_cons_succ, List.setIfInBounds_toArray, List.set_cons_succ, List.set_cons_zero]
    refine wpAnyH_take (i := 11) (v := undef) rfl (by kernel_rfl) (by kernel_rfl) (by kernel_rfl) (fun _ _ _ h => h) (Or.inr ⟨by kernel_rfl, rfl⟩) hHeld ?_
    try simp only [Act.put, List.getElem_toArray, List.getElem_cons_zero, List.getElem_cons_succ, List.setIfInBounds_toArray, List.set_cons_succ, List.set_cons_zero]
    refine wpAnyH_take (i := 12) (v := undef) rfl (by kernel_rfl) (by kernel_rfl) (by kernel_rfl) (fun _ _ _ h => h) (Or.inr ⟨by kernel_rfl, rfl⟩) hHeld ?_
    try simp only [Act.put, List.getElem_toArray, List.getElem_cons_zero, List.getElem_cons_succ, List.setIfInBounds_toArray, List.set_cons_succ, List.set_cons_zero]
    refine wpAnyH_take (i := 14) (v := undef) rfl (by kernel_rfl) (by kernel_rfl) (by kernel_rfl) (fun _ _ _ h => h) (Or.inr ⟨by kernel_rfl, rfl⟩) hHeld ?_
    try simp only [Act.put, List.getElem_toArray, List.getElem_cons_zero, List.getElem_cons_succ, List.setIfInBounds_toArray, List.set_cons_succ, List.set_cons_zero]
    refine wpAnyH_take (i := 15) (v := undef) rfl (by kernel_rfl) (by kernel_rfl) (by kernel_rfl) (fun _ _ _ h => h) (Or.inr ⟨by kernel_rfl, rfl⟩) hHeld ?_
    try simp only [Act.put, List.getElem_toArray, List.getElem_cons_zero, List.getElem_cons_succ, List.setIfInBounds_toArray, List.set_cons_succ, List.set_cons_zero]
    refine wpAnyH_off (i := 5) rfl (by kernel_rfl) (by kernel_rfl) hHeld ?_
    try simp only [Act.put, List.getElem_toArray, List.getElem_cons_zero, List.getElem_cons_succ, List.setIfInBounds_toArray, List.set_cons_succ, List.set_cons_zero]
    refine wpAnyH_off (i := 6) rfl (by kernel_rfl) (by kernel_rfl) hHeld ?_
    try simp only [Act.put, List.getElem_toArray, List.getElem_cons_zero, List.getElem_cons_succ, List.setIfInBounds_toArray, List.set_cons_succ, List.set_cons_zero]
    refine wpAnyH_take (i := 7) (v := undef) rfl (by kernel_rfl) (by kernel_rfl) (by kernel_rfl) (fun _ _ _ h => h) (Or.inr ⟨by kernel_rfl, rfl⟩) hHeld ?_
    try simp only [Act.put, List.getElem_toArray, List.getElem_cons_zero, List.getElem_cons_succ, List.setIfInBounds_toArray, List.set_cons_succ, List.set_cons_zero]
    refine wpAnyH_take (i := 13) (v := undef) rfl (by kernel_rfl) (by kernel_rfl) (by kernel_rfl) (fun _ _ _ h => h) (Or.inr ⟨by kernel_rfl, rfl⟩) hHeld ?_
    try simp only [Act.put, List.getElem_toArray, List.getElem_cons_zero, List.getElem_cons_succ, List.setIfInBounds_toArray, List.set_cons_succ, List.set_cons_zero]
    refine wpAnyH_off (i := 16) rfl (by kernel_rfl) (by kernel_rfl) hHeld ?_
    try simp only [Act.put, List.getElem_toArray, List.getElem_cons_zero, List.getElem_cons_succ, List.setIfInBounds_toArray, List.set_cons_succ, List.set_cons_zero]
    refine wpAnyH_take (i := 17) (v := undef) rfl (by kernel_rfl) (by kernel_rfl) (by kernel_rfl) (fun _ _ _ h => h) (Or.inr ⟨by kernel_rfl, rfl⟩) hHeld ?_
    try simp only [Act.put, List.getElem_toArray, List.getElem_cons_zero, List.getElem_cons_succ, List.setIfInBounds_toArray, List.set_cons_succ, List.set_cons_zero]
    refine wpAnyH_take (i := 18) (v := .bool true) rfl (by kernel_rfl) (by kernel_rfl) (by kernel_rfl) (fun _ _ _ h => h) (Or.inl ⟨by kernel_rfl, ?_⟩) hHeld ?_
    · intro W hW; go_simp; first | done | with_reducible rfl | rfl
    try simp only [Act.put, List.getElem_toArray, List.getElem_cons_zero, List.getElem_cons_succ, List.setIfInBounds_toArray, List.set_cons_succ, List.set_cons_zero]
    refine wpAnyH_take (i := 19) (v := ?_) rfl (by kernel_rfl) (by kernel_rfl) (by kernel_rfl) (fun _ _ _ h => h) (Or.inl ⟨by kernel_rfl, ?_⟩) hHeld ?_
    rotate_left
    · intro W hW; go_simp; first | done | with_reducible rfl | rfl
    try simp only [Act.put, List.getElem_toArray, List.getElem_cons_zero, List.getElem_cons_succ, List.setIfInBounds_toArray, List.set_cons_succ, List.set_cons_zero]
    refine wpAnyH_done (by kernel_rfl) ?_ _
    refine NoPanic.normal ?_
    go_simp
    go_wp2_with fail
    go_ret
    exact ⟨rfl, hB⟩
  · have HN := hide hn
    clear hn
    have HDB := hide (Ce.put_bd HN.out)
    obtain ⟨l, hl⟩ : ∃ l, Ce.eq c d = l := ⟨_, rfl⟩
    have HL := hide hl
    have HPE := hide ((Ce.put_eq Hc.out Hd.out HM.out HN.out).trans hl)
    clear hl
    refine wp_region_noPanic ?_
    refine wp_region_held_drew (S := fun W => Below xc.heap.size xc W) (by kernel_rfl) ?_ (fun hHeld => ?_)
    · exact (Below.refl _ _).drew
    refine wpAnyH_take (i := 0) (v := .agg (cv d)) rfl (by kernel_rfl) (by kernel_rfl) (by kernel_rfl) (fun _ _ _ h => h) (yields_bx (by kernel_rfl) _ _ _ rfl _ rfl (cv d) (fun W hW => hY.later hW) tyR rfl) hHeld ?_
    try simp only [Act.put, List.getElem_toArray, List.getElem_cons_zero, List.setIfInBounds_toArray, List.set_cons_succ, List.set_cons_zero]
    refine wpAnyH_callB (i := 1) rfl (by kernel_rfl) (by kernel_rfl) (by kernel_rfl) (refMay_cell d _ Hd.out) hHeld ?_
    intro xc hb4 hHeld
    rw [HN.out]
    try simp only [Act.put, List.getElem_toArray, List.getElem_cons_zero, List.getElem_cons_succ, List.setIfInBounds_toArray, List.set_cons_succ, List.set_cons_zero]
    replace hX := hX.later hHeld
    replace hY := hY.later hHeld
    replace hQ15 := hQ15.later hHeld
    replace hB := hB.trans (hHeld.mono hB.size)
    clear hHeld hb4
    have hHeld : Below xc.heap.size xc xc := Below.refl _ _
    refine wpAnyH_take (i := 2) (v := .bool false) rfl (by kernel_rfl) (by kernel_rfl) (by kernel_rfl) (fun _ _ _ h => h) (Or.inl ⟨by kernel_rfl, ?_⟩) hHeld ?_
    · intro W hW; go_simp; first | done | with_reducible rfl | rfl
    try simp only [Act.put, List.getElem_toArray, List.getElem_cons_zero, List.getElem_cons_succ, List.setIfInBounds_toArray, List.set_cons_succ, List.set_cons_zero]
    refine wpAnyH_take (i := 3) (v := ?_) rfl (by kernel_rfl) (by kernel_rfl) (by kernel_rfl) (fun _ _ _ h => h) (Or.inl ⟨by kernel_rfl, ?_⟩) hHeld ?_
    rotate_left
    · intro W hW; go_simp; first | done | with_reducible rfl | rfl
    try simp only [Act.put, List.getElem_toArray, List.getElem_cons_zero, List.getElem_cons_succ, List.setIfInBounds_toArray, List.set_cons_succ, List.set_cons_zero]
    refine wpAnyH_take (i := 4) (v := .agg (cv d)) rfl (by kernel_rfl) (by kernel_rfl) (by kernel_rfl) (fun _ _ _ h => h) (yields_bx (by kernel_rfl) _ _ _ rfl _ rfl (cv d) (fun W hW => hY.later hW) tyR rfl) hHeld ?_
    try simp only [Act.put, List.getElem_toArray, List.getElem_cons_zero, List.getElem_cons_succ, List.setIfInBounds_toArray, List.set_cons_succ, List.set_cons_zero]
    refine wpAnyH_take (i := 8) (v := ?_) rfl (by kernel_rfl) (by kernel_rfl) (by kernel_rfl) (fun _ _ _ h => h) (Or.inl ⟨by kernel_rfl, ?_⟩) hHeld ?_
    rotate_left
    · intro W hW; go_simp; first | done | with_reducible rfl | rfl
    try simp only [Act.put, List.getElem_toArray, List.getElem_cons_zero, List.getElem_cons_succ, List.setIfInBounds_toArray, List.set_cons_succ, List.set_cons_zero]
    refine wpAnyH_take (i := 9) (v := ?_) rfl (by kernel_rfl) (by kernel_rfl) (by kernel_rfl) (fun _ _ _ h => h) (Or.inl ⟨by kernel_rfl, ?_⟩) hHeld ?_
    rotate_left
    · intro W hW; go_simp; first | done | with_reducible rfl | rfl
    try simp only [Act.put, List.getElem_toArray, List.getElem_cons_zero, List.getElem_cons_succ, List.setIfInBounds_toArray, List.set_cons_succ, List.set_cons_zero]
    refine wpAnyH_take (i := 10) (v := ?_) rfl (by kernel_rfl) (by kernel_rfl) (by kernel_rfl) (fun _ _ _ h => h) (Or.inl ⟨by kernel_rfl, ?_⟩) hHeld ?_
    rotate_left
    · intro W hW; go_simp; first | done | with_reducible rfl | rfl
    try simp only [Act.put, List.getElem_toArray, List.getElem_cons_zero, List.getElem_cons_succ, List.setIfInBounds_toArray, List.set_cons_succ, List.set_cons_zero]
    refine wpAnyH_take (i := 11) (v := ?_) rfl (by kernel_rfl) (by kernel_rfl) (by kernel_rfl) (fun _ _ _ h => h) (Or.inl ⟨by kernel_rfl, ?_⟩) hHeld ?_
    rotate_left
    · intro W hW; go_simp; first | done | with_reducible rfl | rfl
    try simp only [Act.put, List.getElem_toArray, List.getElem_cons_zero, List.getElem_cons_succ, List.setIfInBounds_toArray, List.set_cons_succ, List.set_cons_zero]
    refine wpAnyH_take (i := 12) (v := .string (strOfNums (Ce.put c))) rfl (by kernel_rfl) (by kernel_rfl) (by kernel_rfl) (fun _ _ _ h => h) (Or.inl ⟨by kernel_rfl, ?_⟩) hHeld ?_
    · intro W hW; have hcv := (hQ15.later hW).conv (P := Try.prog) 47 9 5 Try.underlying47 Try.underlying5 Try.underlying9; go_simp
    try simp only [Act.put, List.getElem_toArray, List.getElem_cons_zero, List.getElem_cons_succ, List.setIfInBounds_toArray, List.set_cons_succ, List.set_cons_zero]
    refine wpAnyH_take (i := 14) (v := .agg (cv c)) rfl (by kernel_rfl) (by kernel_rfl) (by kernel_rfl) (fun _ _ _ h => h) (yields_bx (by kernel_rfl) _ _ _ rfl _ rfl (cv c) (fun W hW => hX.later hW) tyR rfl) hHeld ?_
    try simp only [Act.put, List.getElem_toArray, List.getElem_cons_zero, List.getElem_cons_succ, List.setIfInBounds_toArray, List.set_cons_succ, List.set_cons_zero]
    refine wpAnyH_take (i := 15) (v := .agg (cv d)) rfl (by kernel_rfl) (by kernel_rfl) (by kernel_rfl) (fun _ _ _ h => h) (yields_bx (by kernel_rfl) _ _ _ rfl _ rfl (cv d) (fun W hW => hY.later hW) tyR rfl) hHeld ?_
    try simp only [Act.put, List.getElem_toArray, List.getElem_cons_zero, List.getElem_cons_succ, List.setIfInBounds_toArray, List.set_cons_succ, List.set_cons_zero]
    refine wpAnyH_callB (i := 5) rfl (by kernel_rfl) (by kernel_rfl) (by kernel_rfl) (of_cell d _) hHeld ?_
    intro xc hb4 hHeld
    try simp only [Act.put, List.getElem_toArray, List.getElem_cons_zero, List.getElem_cons_succ, List.setIfInBounds_toArray, List.set_cons_succ, List.set_cons_zero]
    replace hX := hX.later hHeld
    replace hY := hY.later hHeld
    replace hQ15 := hQ15.later hHeld
    replace hB := hB.trans (hHeld.mono hB.size)
    clear hHeld hb4
    have hHeld : Below xc.heap.size xc xc := Below.refl _ _
    refine wpAnyH_ready (rs := [6]) (by kernel_rfl) (by simp) ?_
    refine AllReadyH.cons (o := _) rfl (fun K hK => ?_) AllReadyH.nil
    rw [if_pos (by kernel_rfl)]; go_simp
    refine (put_cell _ [] d _ (Sl.nil _) (by have := Fd.out; simp; omega) Hd.out).mono ?_
    rintro e xc ⟨VD, rfl, ho4, hb4⟩
    dsimp only
    refine hK.out _ _ ?_ (fun hHeld => ?_)
    · exact hHeld.trans (hb4.mono hHeld.size)
    clear hK K
    try simp only [Act.put, List.getElem_toArray, List.getElem_cons_zero, List.getElem_cons_succ, List.setIfInBounds_toArray, List.set_cons_succ, List.set_cons_zero]
    refine held_mono (S' := fun W => Below xc.heap.size xc W) (fun W h => hHeld.trans (h.mono hHeld.size)) _ _ _ _ ?_
    replace hX := hX.later hHeld
    replace hY := hY.later hHeld
    replace hQ15 := hQ15.later hHeld
    replace hB := hB.trans (hHeld.mono hB.size)
    have hVD : Sl xc VD (Ce.put d) := Sl.own (by simpa using ho4) HDB.out
    clear hHeld hb4 ho4
    have hHeld : Below xc.heap.size xc xc := Below.refl _ _
    refine wpAnyH_take (i := 7) (v := .string (strOfNums (Ce.put d))) rfl (by kernel_rfl) (by kernel_rfl) (by kernel_rfl) (fun _ _ _ h => h) (Or.inl ⟨by kernel_rfl, ?_⟩) hHeld ?_
    · intro W hW; have hcv := (hVD.later hW).conv (P := Try.prog) 47 9 5 Try.underlying47 Try.underlying5 Try.underlying9; go_simp
    try simp only [Act.put, List.getElem_toArray, List.getElem_cons_zero, List.getElem_cons_succ, List.setIfInBounds_toArray, List.set_cons_succ, List.set_cons_zero]
    refine wpAnyH_take (i := 13) (v := .bool l) rfl (by kernel_rfl) (by kernel_rfl) (by kernel_rfl) (fun _ _ _ h => h) (Or.inl ⟨by kernel_rfl, ?_⟩) hHeld ?_
    · intro W hW; have hpe := HPE.out; clear hW; go_simp; first | done | with_reducible rfl | rfl
    try simp only [Act.put, List.getElem_toArray, List.getElem_cons_zero, List.getElem_cons_succ, List.setIfInBounds_toArray, List.set_cons_succ, List.set_cons_zero]
    refine wpAnyH_callB (i := 16) rfl (by kernel_rfl) (by kernel_rfl) (by kernel_rfl) (refEq_cell c d _ Hc.out Hd.out) hHeld ?_
    intro xc hb4 hHeld
    rw [HL.out]
    try simp only [Act.put, List.getElem_toArray, List.getElem_cons_zero, List.getElem_cons_succ, List.setIfInBounds_toArray, List.set_cons_succ, List.set_cons_zero]
    replace hX := hX.later hHeld
    replace hY := hY.later hHeld
    replace hQ15 := hQ15.later hHeld
    replace hVD := hVD.later hHeld
    replace hB := hB.trans (hHeld.mono hB.size)
    clear hHeld hb4
    have hHeld : Below xc.heap.size xc xc := Below.refl _ _
    refine wpAnyH_take (i := 17) (v := .bool true) rfl (by kernel_rfl) (by kernel_rfl) (by kernel_rfl) (fun _ _ _ h => h) (Or.inl ⟨by kernel_rfl, ?_⟩) hHeld ?_
    · intro W hW; go_simp; first | done | with_reducible rfl | rfl
    try simp only [Act.put, List.getElem_toArray, List.getElem_cons_zero, List.getElem_cons_succ, List.setIfInBounds_toArray, List.set_cons_succ, List.set_cons_zero]
    refine wpAnyH_take (i := 18) (v := .bool true) rfl (by kernel_rfl) (by kernel_rfl) (by kernel_rfl) (fun _ _ _ h => h) (Or.inl ⟨by kernel_rfl, ?_⟩) hHeld ?_
    · intro W hW; go_simp; first | done | with_reducible rfl | rfl
    try simp only [Act.put, List.getElem_toArray, List.getElem_cons_zero, List.getElem_cons_succ, List.setIfInBounds_toArray, List.set_cons_succ, List.set_cons_zero]
    refine wpAnyH_take (i := 19) (v := ?_) rfl (by kernel_rfl) (by kernel_rfl) (by kernel_rfl) (fun _ _ _ h => h) (Or.inl ⟨by kernel_rfl, ?_⟩) hHeld ?_
    rotate_left
    · intro W hW; go_simp; first | done | with_reducible rfl | rfl
    try simp only [Act.put, List.getElem_toArray, List.getElem_cons_zero, List.getElem_cons_succ, List.setIfInBounds_toArray, List.set_cons_succ, List.set_cons_zero]
    refine wpAnyH_done (by kernel_rfl) ?_ _
    refine NoPanic.normal ?_
    go_simp
    go_wp2_with fail
    go_ret
    exact ⟨rfl, hB⟩


set_option maxRecDepth 100000 in
theorem lifted (os : Os) (started : os.Started) (H : Type) (enc : TypeId × Value → H) :
    ReturnsInHanded {} Try.checked os 4 .any (Rows.cellBytesSpec.pre6 enc Try.prog Try.f4 Rows.cellBytesRow.domain false) (Rows.cellBytesSpec.post enc Try.prog Try.f4 false true false false) := by
  refine returnsInHanded_of_change (C := Try.checked) own started (by kernel_rfl) Try.func4
    (ChangeSpec.witness6 (enc := enc) (C := Try.checked) false ⟨#[], #[.agg (cv Ce.zero), .agg (cv Ce.zero), .slice none 0 0, .slice none 0 0], []⟩ 8 (by kernel_rfl) (by kernel_rfl) (by kernel_rfl) (by kernel_rfl)) ?_
  intro W base args ds gs before hval0 hW hcnd _
  have hval : ∀ (j : Nat) t v, Try.f4.params[j]? = some t → args[j]? = some v → Value.okWide Try.prog W .any base t v := hval0
  have hW' := hW
  obtain ⟨p, q, hA0, hV, rfl, hfz, hnd⟩ := hW
  have hA : DataW.TrodAll enc Try.prog W 0 (fun _ => true) true Try.f4.params.toList args.toList ds p := hA0
  rw [Try.params4] at hA hval
  obtain ⟨v0, vs0, d0, ds0, p0, q0, hargs, rfl, rfl, h0, r0⟩ := trodAll_cons hA
  obtain ⟨v1, vs1, d1, ds1, p1, q1, rfl, rfl, rfl, h1, r1⟩ := trodAll_cons r0
  obtain ⟨v2, vs2, d2, ds2, p2, q2, rfl, rfl, rfl, h2, r2⟩ := trodAll_cons r1
  obtain ⟨v3, vs3, d3, ds3, p3, q3, rfl, rfl, rfl, h3, r3⟩ := trodAll_cons r2
  obtain ⟨rfl, rfl, rfl⟩ := trodAll_nil r3
  obtain rfl : args = #[v0, v1, v2, v3] := by cases args; simp_all
  obtain ⟨rfl, rfl⟩ := trodVars_none hV
  have k0 := h0
  have lt0 : ∀ x ∈ p0, x.block < W.heap.size := by obtain ⟨m, hm⟩ := k0; exact DataW.trod_lt m _ _ _ hm
  obtain ⟨a0, rfl, w0⟩ := open_cell (hval 0 26 v0 rfl rfl) h0
  have k1 := h1
  have lt1 : ∀ x ∈ p1, x.block < W.heap.size := by obtain ⟨m, hm⟩ := k1; exact DataW.trod_lt m _ _ _ hm
  obtain ⟨a1, rfl, w1⟩ := open_cell (hval 1 26 v1 rfl rfl) h1
  obtain ⟨a2, len2, cap2, rfl⟩ := okWide_slice Try.underlying47 (hval 2 47 v2 rfl rfl)
  have k2 := h2
  have lt2 : ∀ x ∈ p2, x.block < W.heap.size := by obtain ⟨m, hm⟩ := k2; exact DataW.trod_lt m _ _ _ hm
  obtain ⟨z2, w2⟩ : ∃ zs, Sl W (.slice a2 len2 cap2) zs := by
    obtain ⟨fuel, hf⟩ := h2
    obtain ⟨a, len, cap, zs, hcs, hz⟩ := open_bytes Try.underlying47 Try.underlying5 (by kernel_rfl) hf
    simp [Value.cells] at hcs
    obtain ⟨rfl, rfl, rfl⟩ := hcs
    exact ⟨zs, hz⟩
  obtain ⟨a3, len3, cap3, rfl⟩ := okWide_slice Try.underlying47 (hval 3 47 v3 rfl rfl)
  have k3 := h3
  have lt3 : ∀ x ∈ p3, x.block < W.heap.size := by obtain ⟨m, hm⟩ := k3; exact DataW.trod_lt m _ _ _ hm
  obtain ⟨z3, w3⟩ : ∃ zs, Sl W (.slice a3 len3 cap3) zs := by
    obtain ⟨fuel, hf⟩ := h3
    obtain ⟨a, len, cap, zs, hcs, hz⟩ := open_bytes Try.underlying47 Try.underlying5 (by kernel_rfl) hf
    simp [Value.cells] at hcs
    obtain ⟨rfl, rfl, rfl⟩ := hcs
    exact ⟨zs, hz⟩
  clear hA0 hval0
  refine (walk a0 a1 a2 len2 cap2 z2 a3 len3 cap3 z3 W w0 w1 w2 w3).mono fun e W' ⟨he, bel⟩ => ?_
  subst he
  exact ⟨_, rfl, _, _, _, [], _, [], hW', trodAll_mk1 (shut_bool Try.underlying4 _), (trodAll_cons_mk (Below.trod laidOut (by kernel_rfl) (of_decide_eq_true (by kernel_rfl)) k0 bel lt0) (trodAll_cons_mk (Below.trod laidOut (by kernel_rfl) (of_decide_eq_true (by kernel_rfl)) k1 bel lt1) (trodAll_cons_mk (Below.trod laidOut (by kernel_rfl) (of_decide_eq_true (by kernel_rfl)) k2 bel lt2) (trodAll_cons_mk (Below.trod laidOut (by kernel_rfl) (of_decide_eq_true (by kernel_rfl)) k3 bel lt3) trodAll_mk0)))), rfl, bel.frame _, fun h => by cases h⟩

theorem over : Rows.cellBytesRow.holds Try.pinned (OpenSpec.ofChange Rows.cellBytesSpec) :=
  OpenClaim.holds_of_wide 4 Try.f4 rfl rfl rfl rfl rfl rfl rfl ⟨rfl, rfl, rfl, rfl, rfl⟩ rfl rfl rfl rfl rfl (by kernel_rfl) Try.func4 (by kernel_rfl)
    (of_decide_eq_true (by kernel_rfl)) (by unfold Func.isWrapper; first | (rw [if_pos (by decide +kernel)]; kernel_rfl) | (rw [if_neg (by decide +kernel)]; exact ⟨rfl, rfl⟩))
    (fun os started H enc _ => lifted os started H enc)

theorem proved : Rows.CellBytesSaid := over
#print axioms proved
end Go.Proofs.Ytlefhhmggaaiiaa.cellBytes
