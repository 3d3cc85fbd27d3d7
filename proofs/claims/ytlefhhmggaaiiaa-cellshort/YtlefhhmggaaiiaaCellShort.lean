/-
  For every cell c CellShort returns true: of a cell that may be (its key cut to 20 bytes, its texts to 25) what Commit and Undo leave has no more bytes than it had. No condition.
-/
import Derived.Test.YtlefhhmggaaiiaaRows
import Derived.WalkKit
import Derived.ProofKit
import Derived.OpenShut
import Derived.ShutString
import Derived.ChangeOld
import Derived.Below
import Derived.Test.YtlefhhmggaaiiaaCelL
import Derived.Test.YtlefhhmggaaiiaaCelH
import Derived.Test.YtlefhhmggaaiiaaCelO
namespace Go.Proofs.Ytlefhhmggaaiiaa.cellShort
open Go.ChangeShapes Go.WideShapes Go.ChangeAt Go.RowKit
open Go.ChangeMaps (open_string shut_string)
set_option linter.unusedVariables false

theorem own : ownKnob Try.prog.godebug = none := by kernel_rfl
theorem laidOut : laidOutB Try.prog = true := by kernel_rfl

set_option maxRecDepth 100000 in
set_option maxHeartbeats 8000000 in
theorem walk (a0 : Ce) (w : World) (w0 : a0.Ok) :
    Calls Try.prog 6 #[.agg (cv a0)] w fun e w' => e = .returned (.bool true) ∧ Below w.heap.size w w' := by
  go_enter Try.func6, Try.ntmps6
  go_wp2_with (refine wpList_box 26 (.tmp 0) (cv a0) rfl rfl rfl ?_; intro W1 hB hX)
  refine (begun_any _).mono ?_
  rintro e W2 ⟨rfl, hb⟩
  replace hX := hX.later hb
  replace hB := hB.trans (hb.mono hB.size)
  clear hb
  go_wp2_with (refine wpList_get 26 _ (.tmp 1) _ (cv a0) rfl rfl rfl hX tyR rfl ?_)
  refine (cut_cell a0 _ w0).mono ?_
  rintro e W3 ⟨d, rfl, hd, h20, h25, h26, hb⟩
  replace hX := hX.later hb
  replace hB := hB.trans (hb.mono hB.size)
  have HD := hide hd
  have HF := hide (show d.N.size + d.V.S.size + d.W.S.size ≤ 70 by omega)
  clear hb w0 hd h20 h25 h26
  go_wp2_with (first
    | (refine wpList_put 26 _ (.tmp 1) (.tmp 13) _ (cv d) _ rfl rfl rfl rfl hX tyR rfl rfl (cv_one _) ?_; intro W4 hb4 hs4 hX4; have hB4 := Below.but hB hB.size hb4 (fun k e => by omega); clear hB hX hb4 hs4; have hB := hB4; have hX := hX4; clear hB4 hX4)
    | (refine wpList_get 26 _ (.tmp 1) _ (cv d) rfl rfl rfl hX tyR rfl ?_))
  refine (refMay_cell d _ HD.out).mono ?_
  rintro e W5 ⟨rfl, hb⟩
  replace hX := hX.later hb
  replace hB := hB.trans (hb.mono hB.size)
  clear hb
  cases hm : d.may
  · go_wp2_with fail
    go_ret
    exact ⟨rfl, hB⟩
  have HM := hide hm
  clear hm
  go_wp2_with (refine wpList_get 26 _ (.tmp 1) _ (cv d) rfl rfl rfl hX tyR rfl ?_)
  refine (of_cell d _).mono ?_
  rintro e W6 ⟨rfl, hb⟩
  replace hX := hX.later hb
  replace hB := hB.trans (hb.mono hB.size)
  clear hb
  go_wp2_with fail
  refine (put_cell _ [] d _ (Sl.nil _) (by have := HF.out; simp; omega) HD.out).mono ?_
  rintro e W7 ⟨v1, rfl, ho1, hb⟩
  rw [List.nil_append] at ho1
  replace hX := hX.later hb
  replace hB := hB.trans (hb.mono hB.size)
  clear hb
  obtain ⟨p1, n1, q1, rfl, hn1, hq1, Hn1, -⟩ := (Sl.own ho1 (Ce.put_bd HM.out)).opens
  clear ho1
  go_wp2_with (refine wpList_get 26 _ (.tmp 1) _ (cv d) rfl rfl rfl hX tyR rfl ?_)
  refine (of_cell d _).mono ?_
  rintro e W8 ⟨rfl, hb⟩
  replace hX := hX.later hb
  replace hB := hB.trans (hb.mono hB.size)
  clear hb
  go_wp2_with fail
  refine (commit_cell d _).mono ?_
  rintro e W9 ⟨rfl, hb⟩
  replace hX := hX.later hb
  replace hB := hB.trans (hb.mono hB.size)
  clear hb
  have HL1 := hide (Ce.commit_len d)
  have HO1 := hide (Ce.commit_ok HD.out)
  have HF1 := hide (Ce.commit_fit d)
  generalize hc1 : Ce.commit d = c1 at *
  generalize hl1 : Ce.left d = l1 at *
  clear hc1 hl1
  go_wp2_with (first
    | (refine wpList_new 31 _ rfl rfl tyC ?_; intro W10 hB10 hY)
    | (refine wpList_put 31 _ (.tmp 5) (.tmp 25) _ (cv c1) _ rfl rfl rfl rfl hY tyC rfl rfl (cv_one _) ?_; intro W11 hb11 hs11 hY11; have hB11 := newput hB10 hb11; replace hX := hX.later hB11; replace hB := hB.trans (hB11.mono hB.size); clear hB10 hY hb11 hs11 hB11)
    | (refine wpList_get 26 _ (.tmp 1) _ (cv d) rfl rfl rfl hX tyR rfl ?_))
  refine (of_cell d _).mono ?_
  rintro e W12 ⟨rfl, hb⟩
  replace hX := hX.later hb
  replace hY11 := hY11.later hb
  replace hB := hB.trans (hb.mono hB.size)
  clear hb
  go_wp2_with fail
  refine (undo_cell d _).mono ?_
  rintro e W13 ⟨rfl, hb⟩
  replace hY11 := hY11.later hb
  replace hB := hB.trans (hb.mono hB.size)
  clear hb hX
  have HL2 := hide (fun h => Ce.undo_len d (of_decide_eq_false h))
  have HO2 := hide (Ce.undo_ok HD.out)
  have HF2 := hide (Ce.undo_fit d)
  generalize hc2 : Ce.undo d = c2 at *
  generalize hl2 : decide (d.V.K = 0) = l2 at *
  clear hc2 hl2
  cases l1
  · cases l2
    · skip
      go_wp2_with (first
        | (refine wpList_new 31 _ rfl rfl tyC ?_; intro W14 hB14 hZ)
        | (refine wpList_put 31 _ (.tmp 7) (.tmp 31) _ (cv c2) _ rfl rfl rfl rfl hZ tyC rfl rfl (cv_one _) ?_; intro W15 hb15 hs15 hZ15; have hB15 := newput hB14 hb15; replace hY11 := hY11.later hB15; replace hB := hB.trans (hB15.mono hB.size); clear hB14 hZ hb15 hs15 hB15)
        | (refine wpList_getG 31 _ (.tmp 5) _ (cv c1) rfl rfl rfl rfl rfl hY11 tyC rfl ?_)
        | (refine wpList_getG 31 _ (.tmp 7) _ (cv c2) rfl rfl rfl rfl rfl hZ15 tyC rfl ?_))
      refine (put_cell _ [] c2 _ (Sl.nil _) (by have := HF.out; have := HF2.out; simp; omega) HO2.out).mono ?_
      rintro e W7 ⟨v1, rfl, ho1, hb⟩
      replace hZ15 := hZ15.later hb
      replace hB := hB.trans (hb.mono hB.size)
      obtain ⟨p3, q3, rfl, hn3, hq3⟩ := own_opens ho1
      clear hb ho1
      have hle2 : ((([] : List Int).length + (Ce.put c2).length : Nat) : Int) ≤ (n1 : Int) := by
        have := HL2.out (by simp)
        have := Hn1.out
        simp
        omega
      generalize ([] : List Int).length + (Ce.put c2).length = m2 at *
      go_wp2_with (refine wpList_getG 31 _ (.tmp 7) _ (cv c2) rfl rfl rfl rfl rfl hZ15 tyC rfl ?_)
      go_ret
      exact ⟨rfl, hB⟩
    · skip
      go_wp2_with (first
        | (refine wpList_new 31 _ rfl rfl tyC ?_; intro W14 hB14 hZ)
        | (refine wpList_put 31 _ (.tmp 7) (.tmp 31) _ (cv c2) _ rfl rfl rfl rfl hZ tyC rfl rfl (cv_one _) ?_; intro W15 hb15 hs15 hZ15; have hB15 := newput hB14 hb15; replace hY11 := hY11.later hB15; replace hB := hB.trans (hB15.mono hB.size); clear hB14 hZ hb15 hs15 hB15)
        | (refine wpList_getG 31 _ (.tmp 5) _ (cv c1) rfl rfl rfl rfl rfl hY11 tyC rfl ?_)
        | (refine wpList_getG 31 _ (.tmp 7) _ (cv c2) rfl rfl rfl rfl rfl hZ15 tyC rfl ?_))
      go_ret
      exact ⟨rfl, hB⟩
  · cases l2
    · skip
      go_wp2_with (first
        | (refine wpList_new 31 _ rfl rfl tyC ?_; intro W14 hB14 hZ)
        | (refine wpList_put 31 _ (.tmp 7) (.tmp 31) _ (cv c2) _ rfl rfl rfl rfl hZ tyC rfl rfl (cv_one _) ?_; intro W15 hb15 hs15 hZ15; have hB15 := newput hB14 hb15; replace hY11 := hY11.later hB15; replace hB := hB.trans (hB15.mono hB.size); clear hB14 hZ hb15 hs15 hB15)
        | (refine wpList_getG 31 _ (.tmp 5) _ (cv c1) rfl rfl rfl rfl rfl hY11 tyC rfl ?_)
        | (refine wpList_getG 31 _ (.tmp 7) _ (cv c2) rfl rfl rfl rfl rfl hZ15 tyC rfl ?_))
      refine (put_cell _ [] c1 _ (Sl.nil _) (by have := HF.out; have := HF1.out; simp; omega) HO1.out).mono ?_
      rintro e W7 ⟨v1, rfl, ho1, hb⟩
      replace hZ15 := hZ15.later hb
      replace hB := hB.trans (hb.mono hB.size)
      obtain ⟨p2, q2, rfl, hn2, hq2⟩ := own_opens ho1
      clear hb ho1
      have hle1 : ((([] : List Int).length + (Ce.put c1).length : Nat) : Int) ≤ (n1 : Int) := by
        have := HL1.out (by simp)
        have := Hn1.out
        simp
        omega
      generalize ([] : List Int).length + (Ce.put c1).length = m1 at *
      go_wp2_with (refine wpList_getG 31 _ (.tmp 7) _ (cv c2) rfl rfl rfl rfl rfl hZ15 tyC rfl ?_)
      refine (put_cell _ [] c2 _ (Sl.nil _) (by have := HF.out; have := HF2.out; simp; omega) HO2.out).mono ?_
      rintro e W7 ⟨v1, rfl, ho1, hb⟩
      replace hZ15 := hZ15.later hb
      replace hB := hB.trans (hb.mono hB.size)
      obtain ⟨p3, q3, rfl, hn3, hq3⟩ := own_opens ho1
      clear hb ho1
      have hle2 : ((([] : List Int).length + (Ce.put c2).length : Nat) : Int) ≤ (n1 : Int) := by
        have := HL2.out (by simp)
        have := Hn1.out
        simp
        omega
      generalize ([] : List Int).length + (Ce.put c2).length = m2 at *
      go_wp2_with (refine wpList_getG 31 _ (.tmp 7) _ (cv c2) rfl rfl rfl rfl rfl hZ15 tyC rfl ?_)
      go_ret
      exact ⟨rfl, hB⟩
    · skip
      go_wp2_with (first
        | (refine wpList_new 31 _ rfl rfl tyC ?_; intro W14 hB14 hZ)
        | (refine wpList_put 31 _ (.tmp 7) (.tmp 31) _ (cv c2) _ rfl rfl rfl rfl hZ tyC rfl rfl (cv_one _) ?_; intro W15 hb15 hs15 hZ15; have hB15 := newput hB14 hb15; replace hY11 := hY11.later hB15; replace hB := hB.trans (hB15.mono hB.size); clear hB14 hZ hb15 hs15 hB15)
        | (refine wpList_getG 31 _ (.tmp 5) _ (cv c1) rfl rfl rfl rfl rfl hY11 tyC rfl ?_)
        | (refine wpList_getG 31 _ (.tmp 7) _ (cv c2) rfl rfl rfl rfl rfl hZ15 tyC rfl ?_))
      refine (put_cell _ [] c1 _ (Sl.nil _) (by have := HF.out; have := HF1.out; simp; omega) HO1.out).mono ?_
      rintro e W7 ⟨v1, rfl, ho1, hb⟩
      replace hZ15 := hZ15.later hb
      replace hB := hB.trans (hb.mono hB.size)
      obtain ⟨p2, q2, rfl, hn2, hq2⟩ := own_opens ho1
      clear hb ho1
      have hle1 : ((([] : List Int).length + (Ce.put c1).length : Nat) : Int) ≤ (n1 : Int) := by
        have := HL1.out (by simp)
        have := Hn1.out
        simp
        omega
      generalize ([] : List Int).length + (Ce.put c1).length = m1 at *
      go_wp2_with (refine wpList_getG 31 _ (.tmp 7) _ (cv c2) rfl rfl rfl rfl rfl hZ15 tyC rfl ?_)
      go_ret
      exact ⟨rfl, hB⟩

set_option maxRecDepth 100000 in
theorem lifted (os : Os) (started : os.Started) (H : Type) (enc : TypeId × Value → H) :
    ReturnsInHanded {} Try.checked os 6 .any (Rows.cellShortSpec.pre6 enc Try.prog Try.f6 Rows.cellShortRow.domain false) (Rows.cellShortSpec.post enc Try.prog Try.f6 false true false false) := by
  refine returnsInHanded_of_change (C := Try.checked) own started (by kernel_rfl) Try.func6
    (ChangeSpec.witness6 (enc := enc) (C := Try.checked) false ⟨#[], #[.agg (cv Ce.zero)], []⟩ 8 (by kernel_rfl) (by kernel_rfl) (by kernel_rfl) (by kernel_rfl)) ?_
  intro W base args ds gs before hval0 hW hcnd _
  have hval : ∀ (j : Nat) t v, Try.f6.params[j]? = some t → args[j]? = some v → Value.okWide Try.prog W .any base t v := hval0
  have hW' := hW
  obtain ⟨p, q, hA0, hV, rfl, hfz, hnd⟩ := hW
  have hA : DataW.TrodAll enc Try.prog W 0 (fun _ => true) true Try.f6.params.toList args.toList ds p := hA0
  rw [Try.params6] at hA hval
  obtain ⟨v0, vs0, d0, ds0, p0, q0, hargs, rfl, rfl, h0, r0⟩ := trodAll_cons hA
  obtain ⟨rfl, rfl, rfl⟩ := trodAll_nil r0
  obtain rfl : args = #[v0] := by cases args; simp_all
  obtain ⟨rfl, rfl⟩ := trodVars_none hV
  have k0 := h0
  have lt0 : ∀ x ∈ p0, x.block < W.heap.size := by obtain ⟨m, hm⟩ := k0; exact DataW.trod_lt m _ _ _ hm
  obtain ⟨a0, rfl, w0⟩ := open_cell (hval 0 26 v0 rfl rfl) h0
  clear hA0 hval0
  refine (walk a0 W w0).mono fun e W' ⟨he, bel⟩ => ?_
  subst he
  exact ⟨_, rfl, _, _, _, [], _, [], hW', trodAll_mk1 (shut_bool Try.underlying4 _), (trodAll_cons_mk (Below.trod laidOut (by kernel_rfl) (of_decide_eq_true (by kernel_rfl)) k0 bel lt0) trodAll_mk0), rfl, bel.frame _, fun h => by cases h⟩

theorem over : Rows.cellShortRow.holds Try.pinned (OpenSpec.ofChange Rows.cellShortSpec) :=
  OpenClaim.holds_of_wide 6 Try.f6 rfl rfl rfl rfl rfl rfl rfl ⟨rfl, rfl, rfl, rfl, rfl⟩ rfl rfl rfl rfl rfl (by kernel_rfl) Try.func6 (by kernel_rfl)
    (of_decide_eq_true (by kernel_rfl)) (by unfold Func.isWrapper; first | (rw [if_pos (by decide +kernel)]; kernel_rfl) | (rw [if_neg (by decide +kernel)]; exact ⟨rfl, rfl⟩))
    (fun os started H enc _ => lifted os started H enc)

theorem proved : Rows.CellShortSaid := over
#print axioms proved
end Go.Proofs.Ytlefhhmggaaiiaa.cellShort
