/-
  For every slice of uint64s and all bools nan, up and down FloatEdges returns true: a sum of small floats (the first 20) with a NaN is the one NaN, with both infinities too, with one of them that one, else it lies between -1 and 1. No condition.
-/
import Derived.Test.YtnkmfaddgodefaaRows
import Derived.WalkKit
import Derived.ProofKit
import Derived.OpenShut
import Derived.ShutString
import Derived.ChangeOld
import Derived.Below
import Derived.Test.YtnkmfaddgodefaaFltC
namespace Go.Proofs.Ytnkmfaddgodefaa.floatEdges
open Go.ChangeShapes Go.WideShapes Go.ChangeAt Go.RowKit
open Go.ChangeMaps (open_string shut_string)
set_option linter.unusedVariables false

theorem own : ownKnob Try.prog.godebug = none := by kernel_rfl
theorem laidOut : laidOutB Try.prog = true := by kernel_rfl

/-- WHAT THE WALK IS TOLD OF A SLICE OF INTEGERS THAT CAME IN: it is nil; or it leads to a row of 'cap' cells, the numbers 'zs' (the first 'len' are its elements, the rest its spare room), each fitting its kind. -/
def IsRow (k : IntKind) (w : World) (a : Option Addr) (len cap : Nat) (zs : List Int) : Prop :=
  (a = none ∧ len = 0 ∧ cap = 0 ∧ zs = []) ∨
  ∃ x, a = some x ∧ len ≤ cap ∧ cap ≤ maxLen ∧ zs.length = cap ∧ (∀ i, i < zs.length → w.cell? (x.add i) = some (.int k (zs.getD i 0))) ∧ ∀ n ∈ zs, (Lit.int k n).wf = true

/-- A slice of uint64s that came in, as natural numbers. -/
theorem row_u64 {w : World} {a0 : Option Addr} {len0 cap0 : Nat} {z0 : List Int} (w0 : IsRow .u64 w a0 len0 cap0 z0) :
    len0 ≤ cap0 ∧ cap0 ≤ 9223372036854775807 ∧ ∃ L : List Nat, L.length = len0 ∧ (∀ x ∈ L, x < 18446744073709551616) ∧
      ∀ i, i < len0 → ∃ b off, a0 = some ⟨b, off, none⟩ ∧ w.cell? ⟨b, off + i, none⟩ = some (.int .u64 ((L.getD i 0 : Nat) : Int)) := by
  rcases w0 with ⟨rfl, rfl, rfl, rfl⟩ | ⟨x, rfl, hl, hm, hz, hcell, hwz⟩
  · exact ⟨by omega, by omega, [], rfl, by simp, fun i hi => by omega⟩
  · unfold maxLen at hm
    refine ⟨hl, by omega, (z0.take len0).map Int.toNat, by simp; omega, ?_, fun i hi => ?_⟩
    · intro y hy
      simp only [List.mem_map] at hy
      obtain ⟨n, hn, rfl⟩ := hy
      have := bounds_u64 (hwz n (List.mem_of_mem_take hn))
      omega
    · have hc := hcell i (by omega)
      have hc0 := hcell 0 (by omega)
      have hiz : i < z0.length := by omega
      have hb := bounds_u64 (hwz z0[i] (List.getElem_mem hiz))
      have e : (((z0.take len0).map Int.toNat).getD i 0 : Nat) = z0[i].toNat := by
        simp [List.getD, List.getElem?_take_of_lt hi, List.getElem?_eq_getElem hiz]
      rw [e]
      rw [getD_at hiz] at hc
      have e2 : ((z0[i].toNat : Nat) : Int) = z0[i] := by omega
      rw [e2]
      obtain ⟨b, off, spot⟩ := x
      have hspot : spot = none := by simpa [Addr.add] using World.cell?_spot hc0
      subst hspot
      rw [add_plain] at hc
      exact ⟨b, off, rfl, hc⟩

theorem sm_up {M : List Nat} (h : Fl.rg (Fl.sm M) < 9218868437227405312) : Fl.sm (M ++ [9218868437227405312]) = 9218868437227405312 := by
  rw [Fl.sm_app]
  exact Fl.ad_inf (by decide) h (by decide)
theorem sm_down {M : List Nat} (h : Fl.rg (Fl.sm M) < 9218868437227405312) : Fl.sm (M ++ [18442240474082181120]) = 18442240474082181120 := by
  rw [Fl.sm_app]
  exact Fl.ad_inf (by decide) h (by decide)
theorem sm_both {M : List Nat} (h : Fl.rg (Fl.sm M) < 9218868437227405312) : Fl.sm ((M ++ [9218868437227405312]) ++ [18442240474082181120]) = 9221120237041090560 := by
  rw [Fl.sm_app, sm_up h]
  decide
theorem sm_nan (M : List Nat) : Fl.sm (M ++ [9218868437227405319]) = 9221120237041090560 := by
  rw [Fl.sm_app]
  exact Fl.ad_nan (.inr (by decide))
theorem small_is {S : Nat} (h : Fl.rg S ≤ 41 * 4503599627370496) : Fl.nan S = false ∧ FloatKind.f64.format.order S 4607182418800017408 = some .lt ∧ FloatKind.f64.format.order S 13830554455654793216 = some .gt := by
  have n : Fl.nan S = false := by unfold Fl.nan; simp; omega
  have v : Fl.val (Fl.rg S) < Fl.val 4607182418800017408 := Fl.val_lt (by omega)
  have b := @Fl.V_bd S
  have e1 : Fl.V 4607182418800017408 = (Fl.val 4607182418800017408 : Int) := rfl
  have e2 : Fl.V 13830554455654793216 = -(Fl.val 4607182418800017408 : Int) := rfl
  have o1 : FloatKind.f64.format.order S 4607182418800017408 = some (compare (Fl.V S) (Fl.V 4607182418800017408)) := Fl.ord_eq n (by decide)
  have o2 : FloatKind.f64.format.order S 13830554455654793216 = some (compare (Fl.V S) (Fl.V 13830554455654793216)) := Fl.ord_eq n (by decide)
  generalize Fl.val 4607182418800017408 = q at *
  rw [e1, Fl.cmp_lt (by omega)] at o1
  rw [e2, Fl.cmp_gt (by omega)] at o2
  exact ⟨n, o1, o2⟩

set_option maxRecDepth 100000 in
set_option maxHeartbeats 4000000 in
theorem walk (a0 : Option Addr) (len0 cap0 : Nat) (z0 : List Int) (a1 : Bool) (a2 : Bool) (a3 : Bool) (w : World) (w0 : IsRow .u64 w a0 len0 cap0 z0) :
    Calls Try.prog 8 #[.slice a0 len0 cap0, .bool a1, .bool a2, .bool a3] w fun e w' => e = .returned (.bool true) ∧ Below w.heap.size w w' := by
  obtain ⟨hl, hm, L, hLn, hLb, hcell⟩ := row_u64 w0
  obtain ⟨i0, hi, hz0, hz1, hz2⟩ := info_parts Try.infoF
  have HC := hide hcell
  have HLn := hide hLn
  have HLb := hide hLb
  clear w0 hcell hLn hLb
  by_cases hcmp : 20 < len0
  · have hN0 : 20 ≤ len0 := by omega
    have hNK : 20 ≤ 20 := by omega
    have hdec : decide ((20 : Int) < (len0 : Int)) = true := by simp; omega
    clear hcmp
    go_enter Try.func8, Try.ntmps8
    go_wp2_with fail
    refine (begun_any _).mono ?_
    rintro e x1 ⟨rfl, hb1⟩
    go_wp2_with fail
    go_loopw [10, 11] (fun v i wr => ∃ k : Nat, k ≤ 20 ∧ i = .int .i64 k ∧ Hid (wr.ownsRow w.heap.size 24 1 v k (fv ((L.map (· &&& 9227875636482146303)).take k))) ∧ Hid (Below w.heap.size w wr)) (fun _ i _ => 20 - (intOf i).toNat)
    case atStart => exact ⟨0, by omega, rfl, by show World.ownsRow _ _ _ _ _ _ _; simpa [fv] using World.ownsRow_nil _ _ _ _, hide hb1⟩
    case round =>
      obtain ⟨k, hk, rfl, HO, HBel⟩ := hrel
      clear hb1
      by_cases hlt : k < 20
      · obtain ⟨b, off, rfl, hcell0⟩ := HC.out k (by omega)
        have hcell : wr.cell? ⟨b, off + k, none⟩ = some (.int .u64 ((L.getD k 0 : Nat) : Int)) := by rw [HBel.out.cell (p := ⟨b, off + k, none⟩) (cell_lt hcell0)]; exact hcell0
        have HT : Hid (fv ((L.map (· &&& 9227875636482146303)).take (k + 1)) = fv ((L.map (· &&& 9227875636482146303)).take k) ++ [.float .f64 (L.getD k 0 &&& 9227875636482146303)]) := by
          show _ = _
          have hkl : k < L.length := by rw [HLn.out]; omega
          have hkl2 : k < (L.map (· &&& 9227875636482146303)).length := by rw [List.length_map]; exact hkl
          have e : L.getD k 0 = L[k] := by simp [List.getD, List.getElem?_eq_getElem hkl]
          rw [List.take_succ_eq_append_getElem hkl2, fv_app, e, List.getElem_map]
          rfl
        have hx : L.getD k 0 < 18446744073709551616 := by
          have hkl : k < L.length := by rw [HLn.out]; omega
          have e : L.getD k 0 = L[k] := by simp [List.getD, List.getElem?_eq_getElem hkl]
          rw [e]
          exact HLb.out _ (List.getElem_mem hkl)
        have hlit := Fl.w_little _ hx
        generalize L.getD k 0 = Y at *
        generalize Y &&& 9227875636482146303 = X at *
        have hbs := HBel.out.size
        clear hcell0 hx
        go_wp2_with fail
        with_reducible refine (of_any X _).mono ?_
        rintro e x ⟨rfl, rfl⟩
        have hbs2 : w.heap.size ≤ x.heap.size := hbs
        go_wp2_with (first
          | (at_builtin; refine wpList_append_own _ rfl _ _ 39 rfl w.heap.size 24 i0 (.float .f64 0) 1 8 Try.underlying39 hi hz0 hz1 hz2 rfl (by decide) _ k _ rfl (HO.out.alloc _) ⟨x.heap.size, 0, none⟩ 1 1 [.float .f64 X] rfl rfl (cell_one_new _ _ _) (by intro q hq; simp at hq; subst hq; rfl) (by unfold maxLen; omega) (by omega) (by simp; omega) ?_)
          | fail)
        intro v' w1 hown' hgrow _
        have HO2 : Hid (w1.ownsRow w.heap.size 24 1 v' (k + 1) (fv ((L.map (· &&& 9227875636482146303)).take (k + 1)))) := by
          show World.ownsRow _ _ _ _ _ _ _
          rw [HT.out]
          exact hown'
        have HBel2 : Hid (Below w.heap.size w w1) := (HBel.out.alloc hbs2 _).grown hgrow (by simp; omega) (fun j hj => (HO.out.lt j hj).1)
        clear hown' hgrow HO HBel HT
        go_wp2_with fail
        go_roundw
        case rel => exact ⟨k + 1, by omega, by go_num, HO2, HBel2⟩
        case measure => simp [intOf]; omega
      · have hsm : Fl.rg (Fl.sm ((L.map (· &&& 9227875636482146303)).take k)) ≤ 41 * 4503599627370496 := by
          have hlen : ((L.map (· &&& 9227875636482146303)).take k).length ≤ 20 := by rw [List.length_take]; omega
          have := Fl.sm_small ((L.map (· &&& 9227875636482146303)).take k) (fun x hx => by
            have h2 := List.mem_of_mem_take hx
            rw [List.mem_map] at h2
            obtain ⟨y, -, rfl⟩ := h2
            exact Fl.rg_little y) (by omega)
          exact Nat.le_trans this (Nat.mul_le_mul_right _ (by omega))
        generalize (L.map (· &&& 9227875636482146303)).take k = M at *
        have hsi : Fl.rg (Fl.sm M) < 9218868437227405312 := by omega
        obtain ⟨hn, ho1, ho2⟩ := small_is hsm
        have hbs := HBel.out.size
        have HSM := hide hsi
        have HNN := hide hn
        have hS := Fl.sm_lt M
        clear hsm hsi hn
        cases a1 <;> cases a2 <;> cases a3
        · go_wp2_with fail
          have hFs := Fs.own HO.out
          clear HO
          with_reducible refine (sum_any _ M _ hFs).mono ?_
          rintro e x ⟨rfl, m, rfl⟩
          generalize Fl.sm M = S at *
          go_wp2_with fail
          with_reducible refine (refNaN_any S _ hS).mono ?_
          rintro e x ⟨rfl, rfl⟩
          rw [HNN.out]
          go_wp2_with fail
          go_ret
          exact ⟨rfl, below_drewN HBel.out _⟩
        · go_wp2_with fail
          with_reducible refine (ofc_any 18442240474082181120 18442240474082181120 rfl _).mono ?_
          rintro e x ⟨rfl, rfl⟩
          have hbx1 := HBel.out.size
          go_wp2_with (first
            | (at_builtin; refine wpList_append_own _ rfl _ _ 39 rfl w.heap.size 24 i0 (.float .f64 0) 1 8 Try.underlying39 hi hz0 hz1 hz2 rfl (by decide) _ (k) _ rfl (HO.out.alloc _) ⟨x.heap.size, 0, none⟩ 1 1 [.float .f64 18442240474082181120] rfl rfl (cell_one_new _ _ _) (by intro q hq; simp at hq; subst hq; rfl) (by unfold maxLen; omega) (by omega) (by simp; omega) ?_)
            | fail)
          intro v1 y1 hown hgrow _
          have HO1 : Hid (y1.ownsRow w.heap.size 24 1 v1 (k + 1) (fv (M ++ [18442240474082181120]))) := by
            show World.ownsRow _ _ _ _ _ _ _
            first
              | (rw [fv_app]; exact hown)
              | (simp [fv] at hown ⊢; exact hown)
          have HBel1 : Hid (Below w.heap.size w y1) := (HBel.out.alloc hbx1 _).grown hgrow (by simp; omega) (fun j hj => (HO.out.lt j hj).1)
          clear hown hgrow HO HBel
          have HO := HO1
          have HBel := HBel1
          clear HO1 HBel1
          go_wp2_with fail
          have hFs := Fs.own HO.out
          clear HO
          with_reducible refine (sum_any _ (M ++ [18442240474082181120]) _ hFs).mono ?_
          rintro e x ⟨rfl, m, rfl⟩
          rw [show Fl.sm (M ++ [18442240474082181120]) = 18442240474082181120 from sm_down HSM.out]
          go_wp2_with fail
          with_reducible refine (ofc_any 18442240474082181120 18442240474082181120 rfl _).mono ?_
          rintro e x ⟨rfl, rfl⟩
          go_wp2_with fail
          with_reducible refine (eq_any 18442240474082181120 18442240474082181120 _).mono ?_
          rintro e x ⟨rfl, rfl⟩
          rw [show decide ((18442240474082181120 : Nat) = 18442240474082181120) = true by decide]
          go_wp2_with fail
          go_ret
          exact ⟨rfl, below_drewN HBel.out _⟩
        · go_wp2_with fail
          with_reducible refine (ofc_any 9218868437227405312 9218868437227405312 rfl _).mono ?_
          rintro e x ⟨rfl, rfl⟩
          have hbx1 := HBel.out.size
          go_wp2_with (first
            | (at_builtin; refine wpList_append_own _ rfl _ _ 39 rfl w.heap.size 24 i0 (.float .f64 0) 1 8 Try.underlying39 hi hz0 hz1 hz2 rfl (by decide) _ (k) _ rfl (HO.out.alloc _) ⟨x.heap.size, 0, none⟩ 1 1 [.float .f64 9218868437227405312] rfl rfl (cell_one_new _ _ _) (by intro q hq; simp at hq; subst hq; rfl) (by unfold maxLen; omega) (by omega) (by simp; omega) ?_)
            | fail)
          intro v1 y1 hown hgrow _
          have HO1 : Hid (y1.ownsRow w.heap.size 24 1 v1 (k + 1) (fv (M ++ [9218868437227405312]))) := by
            show World.ownsRow _ _ _ _ _ _ _
            first
              | (rw [fv_app]; exact hown)
              | (simp [fv] at hown ⊢; exact hown)
          have HBel1 : Hid (Below w.heap.size w y1) := (HBel.out.alloc hbx1 _).grown hgrow (by simp; omega) (fun j hj => (HO.out.lt j hj).1)
          clear hown hgrow HO HBel
          have HO := HO1
          have HBel := HBel1
          clear HO1 HBel1
          go_wp2_with fail
          have hFs := Fs.own HO.out
          clear HO
          with_reducible refine (sum_any _ (M ++ [9218868437227405312]) _ hFs).mono ?_
          rintro e x ⟨rfl, m, rfl⟩
          rw [show Fl.sm (M ++ [9218868437227405312]) = 9218868437227405312 from sm_up HSM.out]
          go_wp2_with fail
          with_reducible refine (ofc_any 9218868437227405312 9218868437227405312 rfl _).mono ?_
          rintro e x ⟨rfl, rfl⟩
          go_wp2_with fail
          with_reducible refine (eq_any 9218868437227405312 9218868437227405312 _).mono ?_
          rintro e x ⟨rfl, rfl⟩
          rw [show decide ((9218868437227405312 : Nat) = 9218868437227405312) = true by decide]
          go_wp2_with fail
          go_ret
          exact ⟨rfl, below_drewN HBel.out _⟩
        · go_wp2_with fail
          with_reducible refine (ofc_any 9218868437227405312 9218868437227405312 rfl _).mono ?_
          rintro e x ⟨rfl, rfl⟩
          have hbx1 := HBel.out.size
          go_wp2_with (first
            | (at_builtin; refine wpList_append_own _ rfl _ _ 39 rfl w.heap.size 24 i0 (.float .f64 0) 1 8 Try.underlying39 hi hz0 hz1 hz2 rfl (by decide) _ (k) _ rfl (HO.out.alloc _) ⟨x.heap.size, 0, none⟩ 1 1 [.float .f64 9218868437227405312] rfl rfl (cell_one_new _ _ _) (by intro q hq; simp at hq; subst hq; rfl) (by unfold maxLen; omega) (by omega) (by simp; omega) ?_)
            | fail)
          intro v1 y1 hown hgrow _
          have HO1 : Hid (y1.ownsRow w.heap.size 24 1 v1 (k + 1) (fv (M ++ [9218868437227405312]))) := by
            show World.ownsRow _ _ _ _ _ _ _
            first
              | (rw [fv_app]; exact hown)
              | (simp [fv] at hown ⊢; exact hown)
          have HBel1 : Hid (Below w.heap.size w y1) := (HBel.out.alloc hbx1 _).grown hgrow (by simp; omega) (fun j hj => (HO.out.lt j hj).1)
          clear hown hgrow HO HBel
          have HO := HO1
          have HBel := HBel1
          clear HO1 HBel1
          go_wp2_with fail
          with_reducible refine (ofc_any 18442240474082181120 18442240474082181120 rfl _).mono ?_
          rintro e x ⟨rfl, rfl⟩
          have hbx2 := HBel.out.size
          go_wp2_with (first
            | (at_builtin; refine wpList_append_own _ rfl _ _ 39 rfl w.heap.size 24 i0 (.float .f64 0) 1 8 Try.underlying39 hi hz0 hz1 hz2 rfl (by decide) _ (k + 1) _ rfl (HO.out.alloc _) ⟨x.heap.size, 0, none⟩ 1 1 [.float .f64 18442240474082181120] rfl rfl (cell_one_new _ _ _) (by intro q hq; simp at hq; subst hq; rfl) (by unfold maxLen; omega) (by omega) (by simp; omega) ?_)
            | fail)
          intro v2 y2 hown hgrow _
          have HO2 : Hid (y2.ownsRow w.heap.size 24 1 v2 (k + 1 + 1) (fv ((M ++ [9218868437227405312]) ++ [18442240474082181120]))) := by
            show World.ownsRow _ _ _ _ _ _ _
            first
              | (rw [fv_app]; exact hown)
              | (simp [fv] at hown ⊢; exact hown)
          have HBel2 : Hid (Below w.heap.size w y2) := (HBel.out.alloc hbx2 _).grown hgrow (by simp; omega) (fun j hj => (HO.out.lt j hj).1)
          clear hown hgrow HO HBel
          have HO := HO2
          have HBel := HBel2
          clear HO2 HBel2
          go_wp2_with fail
          have hFs := Fs.own HO.out
          clear HO
          with_reducible refine (sum_any _ ((M ++ [9218868437227405312]) ++ [18442240474082181120]) _ hFs).mono ?_
          rintro e x ⟨rfl, m, rfl⟩
          rw [show Fl.sm ((M ++ [9218868437227405312]) ++ [18442240474082181120]) = 9221120237041090560 from sm_both HSM.out]
          go_wp2_with fail
          with_reducible refine (ofc_any 9221120237041090560 9221120237041090560 rfl _).mono ?_
          rintro e x ⟨rfl, rfl⟩
          go_wp2_with fail
          with_reducible refine (eq_any 9221120237041090560 9221120237041090560 _).mono ?_
          rintro e x ⟨rfl, rfl⟩
          rw [show decide ((9221120237041090560 : Nat) = 9221120237041090560) = true by decide]
          go_wp2_with fail
          go_ret
          exact ⟨rfl, below_drewN HBel.out _⟩
        · go_wp2_with fail
          with_reducible refine (ofc_any 9218868437227405319 9218868437227405319 rfl _).mono ?_
          rintro e x ⟨rfl, rfl⟩
          have hbx1 := HBel.out.size
          go_wp2_with (first
            | (at_builtin; refine wpList_append_own _ rfl _ _ 39 rfl w.heap.size 24 i0 (.float .f64 0) 1 8 Try.underlying39 hi hz0 hz1 hz2 rfl (by decide) _ (k) _ rfl (HO.out.alloc _) ⟨x.heap.size, 0, none⟩ 1 1 [.float .f64 9218868437227405319] rfl rfl (cell_one_new _ _ _) (by intro q hq; simp at hq; subst hq; rfl) (by unfold maxLen; omega) (by omega) (by simp; omega) ?_)
            | fail)
          intro v1 y1 hown hgrow _
          have HO1 : Hid (y1.ownsRow w.heap.size 24 1 v1 (k + 1) (fv (M ++ [9218868437227405319]))) := by
            show World.ownsRow _ _ _ _ _ _ _
            first
              | (rw [fv_app]; exact hown)
              | (simp [fv] at hown ⊢; exact hown)
          have HBel1 : Hid (Below w.heap.size w y1) := (HBel.out.alloc hbx1 _).grown hgrow (by simp; omega) (fun j hj => (HO.out.lt j hj).1)
          clear hown hgrow HO HBel
          have HO := HO1
          have HBel := HBel1
          clear HO1 HBel1
          go_wp2_with fail
          have hFs := Fs.own HO.out
          clear HO
          with_reducible refine (sum_any _ (M ++ [9218868437227405319]) _ hFs).mono ?_
          rintro e x ⟨rfl, m, rfl⟩
          rw [show Fl.sm (M ++ [9218868437227405319]) = 9221120237041090560 from sm_nan _]
          go_wp2_with fail
          with_reducible refine (ofc_any 9221120237041090560 9221120237041090560 rfl _).mono ?_
          rintro e x ⟨rfl, rfl⟩
          go_wp2_with fail
          with_reducible refine (eq_any 9221120237041090560 9221120237041090560 _).mono ?_
          rintro e x ⟨rfl, rfl⟩
          rw [show decide ((9221120237041090560 : Nat) = 9221120237041090560) = true by decide]
          go_wp2_with fail
          go_ret
          exact ⟨rfl, below_drewN HBel.out _⟩
        · go_wp2_with fail
          with_reducible refine (ofc_any 18442240474082181120 18442240474082181120 rfl _).mono ?_
          rintro e x ⟨rfl, rfl⟩
          have hbx1 := HBel.out.size
          go_wp2_with (first
            | (at_builtin; refine wpList_append_own _ rfl _ _ 39 rfl w.heap.size 24 i0 (.float .f64 0) 1 8 Try.underlying39 hi hz0 hz1 hz2 rfl (by decide) _ (k) _ rfl (HO.out.alloc _) ⟨x.heap.size, 0, none⟩ 1 1 [.float .f64 18442240474082181120] rfl rfl (cell_one_new _ _ _) (by intro q hq; simp at hq; subst hq; rfl) (by unfold maxLen; omega) (by omega) (by simp; omega) ?_)
            | fail)
          intro v1 y1 hown hgrow _
          have HO1 : Hid (y1.ownsRow w.heap.size 24 1 v1 (k + 1) (fv (M ++ [18442240474082181120]))) := by
            show World.ownsRow _ _ _ _ _ _ _
            first
              | (rw [fv_app]; exact hown)
              | (simp [fv] at hown ⊢; exact hown)
          have HBel1 : Hid (Below w.heap.size w y1) := (HBel.out.alloc hbx1 _).grown hgrow (by simp; omega) (fun j hj => (HO.out.lt j hj).1)
          clear hown hgrow HO HBel
          have HO := HO1
          have HBel := HBel1
          clear HO1 HBel1
          go_wp2_with fail
          with_reducible refine (ofc_any 9218868437227405319 9218868437227405319 rfl _).mono ?_
          rintro e x ⟨rfl, rfl⟩
          have hbx2 := HBel.out.size
          go_wp2_with (first
            | (at_builtin; refine wpList_append_own _ rfl _ _ 39 rfl w.heap.size 24 i0 (.float .f64 0) 1 8 Try.underlying39 hi hz0 hz1 hz2 rfl (by decide) _ (k + 1) _ rfl (HO.out.alloc _) ⟨x.heap.size, 0, none⟩ 1 1 [.float .f64 9218868437227405319] rfl rfl (cell_one_new _ _ _) (by intro q hq; simp at hq; subst hq; rfl) (by unfold maxLen; omega) (by omega) (by simp; omega) ?_)
            | fail)
          intro v2 y2 hown hgrow _
          have HO2 : Hid (y2.ownsRow w.heap.size 24 1 v2 (k + 1 + 1) (fv ((M ++ [18442240474082181120]) ++ [9218868437227405319]))) := by
            show World.ownsRow _ _ _ _ _ _ _
            first
              | (rw [fv_app]; exact hown)
              | (simp [fv] at hown ⊢; exact hown)
          have HBel2 : Hid (Below w.heap.size w y2) := (HBel.out.alloc hbx2 _).grown hgrow (by simp; omega) (fun j hj => (HO.out.lt j hj).1)
          clear hown hgrow HO HBel
          have HO := HO2
          have HBel := HBel2
          clear HO2 HBel2
          go_wp2_with fail
          have hFs := Fs.own HO.out
          clear HO
          with_reducible refine (sum_any _ ((M ++ [18442240474082181120]) ++ [9218868437227405319]) _ hFs).mono ?_
          rintro e x ⟨rfl, m, rfl⟩
          rw [show Fl.sm ((M ++ [18442240474082181120]) ++ [9218868437227405319]) = 9221120237041090560 from sm_nan _]
          go_wp2_with fail
          with_reducible refine (ofc_any 9221120237041090560 9221120237041090560 rfl _).mono ?_
          rintro e x ⟨rfl, rfl⟩
          go_wp2_with fail
          with_reducible refine (eq_any 9221120237041090560 9221120237041090560 _).mono ?_
          rintro e x ⟨rfl, rfl⟩
          rw [show decide ((9221120237041090560 : Nat) = 9221120237041090560) = true by decide]
          go_wp2_with fail
          go_ret
          exact ⟨rfl, below_drewN HBel.out _⟩
        · go_wp2_with fail
          with_reducible refine (ofc_any 9218868437227405312 9218868437227405312 rfl _).mono ?_
          rintro e x ⟨rfl, rfl⟩
          have hbx1 := HBel.out.size
          go_wp2_with (first
            | (at_builtin; refine wpList_append_own _ rfl _ _ 39 rfl w.heap.size 24 i0 (.float .f64 0) 1 8 Try.underlying39 hi hz0 hz1 hz2 rfl (by decide) _ (k) _ rfl (HO.out.alloc _) ⟨x.heap.size, 0, none⟩ 1 1 [.float .f64 9218868437227405312] rfl rfl (cell_one_new _ _ _) (by intro q hq; simp at hq; subst hq; rfl) (by unfold maxLen; omega) (by omega) (by simp; omega) ?_)
            | fail)
          intro v1 y1 hown hgrow _
          have HO1 : Hid (y1.ownsRow w.heap.size 24 1 v1 (k + 1) (fv (M ++ [9218868437227405312]))) := by
            show World.ownsRow _ _ _ _ _ _ _
            first
              | (rw [fv_app]; exact hown)
              | (simp [fv] at hown ⊢; exact hown)
          have HBel1 : Hid (Below w.heap.size w y1) := (HBel.out.alloc hbx1 _).grown hgrow (by simp; omega) (fun j hj => (HO.out.lt j hj).1)
          clear hown hgrow HO HBel
          have HO := HO1
          have HBel := HBel1
          clear HO1 HBel1
          go_wp2_with fail
          with_reducible refine (ofc_any 9218868437227405319 9218868437227405319 rfl _).mono ?_
          rintro e x ⟨rfl, rfl⟩
          have hbx2 := HBel.out.size
          go_wp2_with (first
            | (at_builtin; refine wpList_append_own _ rfl _ _ 39 rfl w.heap.size 24 i0 (.float .f64 0) 1 8 Try.underlying39 hi hz0 hz1 hz2 rfl (by decide) _ (k + 1) _ rfl (HO.out.alloc _) ⟨x.heap.size, 0, none⟩ 1 1 [.float .f64 9218868437227405319] rfl rfl (cell_one_new _ _ _) (by intro q hq; simp at hq; subst hq; rfl) (by unfold maxLen; omega) (by omega) (by simp; omega) ?_)
            | fail)
          intro v2 y2 hown hgrow _
          have HO2 : Hid (y2.ownsRow w.heap.size 24 1 v2 (k + 1 + 1) (fv ((M ++ [9218868437227405312]) ++ [9218868437227405319]))) := by
            show World.ownsRow _ _ _ _ _ _ _
            first
              | (rw [fv_app]; exact hown)
              | (simp [fv] at hown ⊢; exact hown)
          have HBel2 : Hid (Below w.heap.size w y2) := (HBel.out.alloc hbx2 _).grown hgrow (by simp; omega) (fun j hj => (HO.out.lt j hj).1)
          clear hown hgrow HO HBel
          have HO := HO2
          have HBel := HBel2
          clear HO2 HBel2
          go_wp2_with fail
          have hFs := Fs.own HO.out
          clear HO
          with_reducible refine (sum_any _ ((M ++ [9218868437227405312]) ++ [9218868437227405319]) _ hFs).mono ?_
          rintro e x ⟨rfl, m, rfl⟩
          rw [show Fl.sm ((M ++ [9218868437227405312]) ++ [9218868437227405319]) = 9221120237041090560 from sm_nan _]
          go_wp2_with fail
          with_reducible refine (ofc_any 9221120237041090560 9221120237041090560 rfl _).mono ?_
          rintro e x ⟨rfl, rfl⟩
          go_wp2_with fail
          with_reducible refine (eq_any 9221120237041090560 9221120237041090560 _).mono ?_
          rintro e x ⟨rfl, rfl⟩
          rw [show decide ((9221120237041090560 : Nat) = 9221120237041090560) = true by decide]
          go_wp2_with fail
          go_ret
          exact ⟨rfl, below_drewN HBel.out _⟩
        · go_wp2_with fail
          with_reducible refine (ofc_any 9218868437227405312 9218868437227405312 rfl _).mono ?_
          rintro e x ⟨rfl, rfl⟩
          have hbx1 := HBel.out.size
          go_wp2_with (first
            | (at_builtin; refine wpList_append_own _ rfl _ _ 39 rfl w.heap.size 24 i0 (.float .f64 0) 1 8 Try.underlying39 hi hz0 hz1 hz2 rfl (by decide) _ (k) _ rfl (HO.out.alloc _) ⟨x.heap.size, 0, none⟩ 1 1 [.float .f64 9218868437227405312] rfl rfl (cell_one_new _ _ _) (by intro q hq; simp at hq; subst hq; rfl) (by unfold maxLen; omega) (by omega) (by simp; omega) ?_)
            | fail)
          intro v1 y1 hown hgrow _
          have HO1 : Hid (y1.ownsRow w.heap.size 24 1 v1 (k + 1) (fv (M ++ [9218868437227405312]))) := by
            show World.ownsRow _ _ _ _ _ _ _
            first
              | (rw [fv_app]; exact hown)
              | (simp [fv] at hown ⊢; exact hown)
          have HBel1 : Hid (Below w.heap.size w y1) := (HBel.out.alloc hbx1 _).grown hgrow (by simp; omega) (fun j hj => (HO.out.lt j hj).1)
          clear hown hgrow HO HBel
          have HO := HO1
          have HBel := HBel1
          clear HO1 HBel1
          go_wp2_with fail
          with_reducible refine (ofc_any 18442240474082181120 18442240474082181120 rfl _).mono ?_
          rintro e x ⟨rfl, rfl⟩
          have hbx2 := HBel.out.size
          go_wp2_with (first
            | (at_builtin; refine wpList_append_own _ rfl _ _ 39 rfl w.heap.size 24 i0 (.float .f64 0) 1 8 Try.underlying39 hi hz0 hz1 hz2 rfl (by decide) _ (k + 1) _ rfl (HO.out.alloc _) ⟨x.heap.size, 0, none⟩ 1 1 [.float .f64 18442240474082181120] rfl rfl (cell_one_new _ _ _) (by intro q hq; simp at hq; subst hq; rfl) (by unfold maxLen; omega) (by omega) (by simp; omega) ?_)
            | fail)
          intro v2 y2 hown hgrow _
          have HO2 : Hid (y2.ownsRow w.heap.size 24 1 v2 (k + 1 + 1) (fv ((M ++ [9218868437227405312]) ++ [18442240474082181120]))) := by
            show World.ownsRow _ _ _ _ _ _ _
            first
              | (rw [fv_app]; exact hown)
              | (simp [fv] at hown ⊢; exact hown)
          have HBel2 : Hid (Below w.heap.size w y2) := (HBel.out.alloc hbx2 _).grown hgrow (by simp; omega) (fun j hj => (HO.out.lt j hj).1)
          clear hown hgrow HO HBel
          have HO := HO2
          have HBel := HBel2
          clear HO2 HBel2
          go_wp2_with fail
          with_reducible refine (ofc_any 9218868437227405319 9218868437227405319 rfl _).mono ?_
          rintro e x ⟨rfl, rfl⟩
          have hbx3 := HBel.out.size
          go_wp2_with (first
            | (at_builtin; refine wpList_append_own _ rfl _ _ 39 rfl w.heap.size 24 i0 (.float .f64 0) 1 8 Try.underlying39 hi hz0 hz1 hz2 rfl (by decide) _ (k + 1 + 1) _ rfl (HO.out.alloc _) ⟨x.heap.size, 0, none⟩ 1 1 [.float .f64 9218868437227405319] rfl rfl (cell_one_new _ _ _) (by intro q hq; simp at hq; subst hq; rfl) (by unfold maxLen; omega) (by omega) (by simp; omega) ?_)
            | fail)
          intro v3 y3 hown hgrow _
          have HO3 : Hid (y3.ownsRow w.heap.size 24 1 v3 (k + 1 + 1 + 1) (fv (((M ++ [9218868437227405312]) ++ [18442240474082181120]) ++ [9218868437227405319]))) := by
            show World.ownsRow _ _ _ _ _ _ _
            first
              | (rw [fv_app]; exact hown)
              | (simp [fv] at hown ⊢; exact hown)
          have HBel3 : Hid (Below w.heap.size w y3) := (HBel.out.alloc hbx3 _).grown hgrow (by simp; omega) (fun j hj => (HO.out.lt j hj).1)
          clear hown hgrow HO HBel
          have HO := HO3
          have HBel := HBel3
          clear HO3 HBel3
          go_wp2_with fail
          have hFs := Fs.own HO.out
          clear HO
          with_reducible refine (sum_any _ (((M ++ [9218868437227405312]) ++ [18442240474082181120]) ++ [9218868437227405319]) _ hFs).mono ?_
          rintro e x ⟨rfl, m, rfl⟩
          rw [show Fl.sm (((M ++ [9218868437227405312]) ++ [18442240474082181120]) ++ [9218868437227405319]) = 9221120237041090560 from sm_nan _]
          go_wp2_with fail
          with_reducible refine (ofc_any 9221120237041090560 9221120237041090560 rfl _).mono ?_
          rintro e x ⟨rfl, rfl⟩
          go_wp2_with fail
          with_reducible refine (eq_any 9221120237041090560 9221120237041090560 _).mono ?_
          rintro e x ⟨rfl, rfl⟩
          rw [show decide ((9221120237041090560 : Nat) = 9221120237041090560) = true by decide]
          go_wp2_with fail
          go_ret
          exact ⟨rfl, below_drewN HBel.out _⟩
  · have hN0 : len0 ≤ len0 := by omega
    have hNK : len0 ≤ 20 := by omega
    have hdec : decide ((20 : Int) < (len0 : Int)) = false := by simp; omega
    clear hcmp
    go_enter Try.func8, Try.ntmps8
    go_wp2_with fail
    refine (begun_any _).mono ?_
    rintro e x1 ⟨rfl, hb1⟩
    go_wp2_with fail
    go_loopw [10, 11] (fun v i wr => ∃ k : Nat, k ≤ len0 ∧ i = .int .i64 k ∧ Hid (wr.ownsRow w.heap.size 24 1 v k (fv ((L.map (· &&& 9227875636482146303)).take k))) ∧ Hid (Below w.heap.size w wr)) (fun _ i _ => len0 - (intOf i).toNat)
    case atStart => exact ⟨0, by omega, rfl, by show World.ownsRow _ _ _ _ _ _ _; simpa [fv] using World.ownsRow_nil _ _ _ _, hide hb1⟩
    case round =>
      obtain ⟨k, hk, rfl, HO, HBel⟩ := hrel
      clear hb1
      by_cases hlt : k < len0
      · obtain ⟨b, off, rfl, hcell0⟩ := HC.out k (by omega)
        have hcell : wr.cell? ⟨b, off + k, none⟩ = some (.int .u64 ((L.getD k 0 : Nat) : Int)) := by rw [HBel.out.cell (p := ⟨b, off + k, none⟩) (cell_lt hcell0)]; exact hcell0
        have HT : Hid (fv ((L.map (· &&& 9227875636482146303)).take (k + 1)) = fv ((L.map (· &&& 9227875636482146303)).take k) ++ [.float .f64 (L.getD k 0 &&& 9227875636482146303)]) := by
          show _ = _
          have hkl : k < L.length := by rw [HLn.out]; omega
          have hkl2 : k < (L.map (· &&& 9227875636482146303)).length := by rw [List.length_map]; exact hkl
          have e : L.getD k 0 = L[k] := by simp [List.getD, List.getElem?_eq_getElem hkl]
          rw [List.take_succ_eq_append_getElem hkl2, fv_app, e, List.getElem_map]
          rfl
        have hx : L.getD k 0 < 18446744073709551616 := by
          have hkl : k < L.length := by rw [HLn.out]; omega
          have e : L.getD k 0 = L[k] := by simp [List.getD, List.getElem?_eq_getElem hkl]
          rw [e]
          exact HLb.out _ (List.getElem_mem hkl)
        have hlit := Fl.w_little _ hx
        generalize L.getD k 0 = Y at *
        generalize Y &&& 9227875636482146303 = X at *
        have hbs := HBel.out.size
        clear hcell0 hx
        go_wp2_with fail
        with_reducible refine (of_any X _).mono ?_
        rintro e x ⟨rfl, rfl⟩
        have hbs2 : w.heap.size ≤ x.heap.size := hbs
        go_wp2_with (first
          | (at_builtin; refine wpList_append_own _ rfl _ _ 39 rfl w.heap.size 24 i0 (.float .f64 0) 1 8 Try.underlying39 hi hz0 hz1 hz2 rfl (by decide) _ k _ rfl (HO.out.alloc _) ⟨x.heap.size, 0, none⟩ 1 1 [.float .f64 X] rfl rfl (cell_one_new _ _ _) (by intro q hq; simp at hq; subst hq; rfl) (by unfold maxLen; omega) (by omega) (by simp; omega) ?_)
          | fail)
        intro v' w1 hown' hgrow _
        have HO2 : Hid (w1.ownsRow w.heap.size 24 1 v' (k + 1) (fv ((L.map (· &&& 9227875636482146303)).take (k + 1)))) := by
          show World.ownsRow _ _ _ _ _ _ _
          rw [HT.out]
          exact hown'
        have HBel2 : Hid (Below w.heap.size w w1) := (HBel.out.alloc hbs2 _).grown hgrow (by simp; omega) (fun j hj => (HO.out.lt j hj).1)
        clear hown' hgrow HO HBel HT
        go_wp2_with fail
        go_roundw
        case rel => exact ⟨k + 1, by omega, by go_num, HO2, HBel2⟩
        case measure => simp [intOf]; omega
      · have hsm : Fl.rg (Fl.sm ((L.map (· &&& 9227875636482146303)).take k)) ≤ 41 * 4503599627370496 := by
          have hlen : ((L.map (· &&& 9227875636482146303)).take k).length ≤ 20 := by rw [List.length_take]; omega
          have := Fl.sm_small ((L.map (· &&& 9227875636482146303)).take k) (fun x hx => by
            have h2 := List.mem_of_mem_take hx
            rw [List.mem_map] at h2
            obtain ⟨y, -, rfl⟩ := h2
            exact Fl.rg_little y) (by omega)
          exact Nat.le_trans this (Nat.mul_le_mul_right _ (by omega))
        generalize (L.map (· &&& 9227875636482146303)).take k = M at *
        have hsi : Fl.rg (Fl.sm M) < 9218868437227405312 := by omega
        obtain ⟨hn, ho1, ho2⟩ := small_is hsm
        have hbs := HBel.out.size
        have HSM := hide hsi
        have HNN := hide hn
        have hS := Fl.sm_lt M
        clear hsm hsi hn
        cases a1 <;> cases a2 <;> cases a3
        · go_wp2_with fail
          have hFs := Fs.own HO.out
          clear HO
          with_reducible refine (sum_any _ M _ hFs).mono ?_
          rintro e x ⟨rfl, m, rfl⟩
          generalize Fl.sm M = S at *
          go_wp2_with fail
          with_reducible refine (refNaN_any S _ hS).mono ?_
          rintro e x ⟨rfl, rfl⟩
          rw [HNN.out]
          go_wp2_with fail
          go_ret
          exact ⟨rfl, below_drewN HBel.out _⟩
        · go_wp2_with fail
          with_reducible refine (ofc_any 18442240474082181120 18442240474082181120 rfl _).mono ?_
          rintro e x ⟨rfl, rfl⟩
          have hbx1 := HBel.out.size
          go_wp2_with (first
            | (at_builtin; refine wpList_append_own _ rfl _ _ 39 rfl w.heap.size 24 i0 (.float .f64 0) 1 8 Try.underlying39 hi hz0 hz1 hz2 rfl (by decide) _ (k) _ rfl (HO.out.alloc _) ⟨x.heap.size, 0, none⟩ 1 1 [.float .f64 18442240474082181120] rfl rfl (cell_one_new _ _ _) (by intro q hq; simp at hq; subst hq; rfl) (by unfold maxLen; omega) (by omega) (by simp; omega) ?_)
            | fail)
          intro v1 y1 hown hgrow _
          have HO1 : Hid (y1.ownsRow w.heap.size 24 1 v1 (k + 1) (fv (M ++ [18442240474082181120]))) := by
            show World.ownsRow _ _ _ _ _ _ _
            first
              | (rw [fv_app]; exact hown)
              | (simp [fv] at hown ⊢; exact hown)
          have HBel1 : Hid (Below w.heap.size w y1) := (HBel.out.alloc hbx1 _).grown hgrow (by simp; omega) (fun j hj => (HO.out.lt j hj).1)
          clear hown hgrow HO HBel
          have HO := HO1
          have HBel := HBel1
          clear HO1 HBel1
          go_wp2_with fail
          have hFs := Fs.own HO.out
          clear HO
          with_reducible refine (sum_any _ (M ++ [18442240474082181120]) _ hFs).mono ?_
          rintro e x ⟨rfl, m, rfl⟩
          rw [show Fl.sm (M ++ [18442240474082181120]) = 18442240474082181120 from sm_down HSM.out]
          go_wp2_with fail
          with_reducible refine (ofc_any 18442240474082181120 18442240474082181120 rfl _).mono ?_
          rintro e x ⟨rfl, rfl⟩
          go_wp2_with fail
          with_reducible refine (eq_any 18442240474082181120 18442240474082181120 _).mono ?_
          rintro e x ⟨rfl, rfl⟩
          rw [show decide ((18442240474082181120 : Nat) = 18442240474082181120) = true by decide]
          go_wp2_with fail
          go_ret
          exact ⟨rfl, below_drewN HBel.out _⟩
        · go_wp2_with fail
          with_reducible refine (ofc_any 9218868437227405312 9218868437227405312 rfl _).mono ?_
          rintro e x ⟨rfl, rfl⟩
          have hbx1 := HBel.out.size
          go_wp2_with (first
            | (at_builtin; refine wpList_append_own _ rfl _ _ 39 rfl w.heap.size 24 i0 (.float .f64 0) 1 8 Try.underlying39 hi hz0 hz1 hz2 rfl (by decide) _ (k) _ rfl (HO.out.alloc _) ⟨x.heap.size, 0, none⟩ 1 1 [.float .f64 9218868437227405312] rfl rfl (cell_one_new _ _ _) (by intro q hq; simp at hq; subst hq; rfl) (by unfold maxLen; omega) (by omega) (by simp; omega) ?_)
            | fail)
          intro v1 y1 hown hgrow _
          have HO1 : Hid (y1.ownsRow w.heap.size 24 1 v1 (k + 1) (fv (M ++ [9218868437227405312]))) := by
            show World.ownsRow _ _ _ _ _ _ _
            first
              | (rw [fv_app]; exact hown)
              | (simp [fv] at hown ⊢; exact hown)
          have HBel1 : Hid (Below w.heap.size w y1) := (HBel.out.alloc hbx1 _).grown hgrow (by simp; omega) (fun j hj => (HO.out.lt j hj).1)
          clear hown hgrow HO HBel
          have HO := HO1
          have HBel := HBel1
          clear HO1 HBel1
          go_wp2_with fail
          have hFs := Fs.own HO.out
          clear HO
          with_reducible refine (sum_any _ (M ++ [9218868437227405312]) _ hFs).mono ?_
          rintro e x ⟨rfl, m, rfl⟩
          rw [show Fl.sm (M ++ [9218868437227405312]) = 9218868437227405312 from sm_up HSM.out]
          go_wp2_with fail
          with_reducible refine (ofc_any 9218868437227405312 9218868437227405312 rfl _).mono ?_
          rintro e x ⟨rfl, rfl⟩
          go_wp2_with fail
          with_reducible refine (eq_any 9218868437227405312 9218868437227405312 _).mono ?_
          rintro e x ⟨rfl, rfl⟩
          rw [show decide ((9218868437227405312 : Nat) = 9218868437227405312) = true by decide]
          go_wp2_with fail
          go_ret
          exact ⟨rfl, below_drewN HBel.out _⟩
        · go_wp2_with fail
          with_reducible refine (ofc_any 9218868437227405312 9218868437227405312 rfl _).mono ?_
          rintro e x ⟨rfl, rfl⟩
          have hbx1 := HBel.out.size
          go_wp2_with (first
            | (at_builtin; refine wpList_append_own _ rfl _ _ 39 rfl w.heap.size 24 i0 (.float .f64 0) 1 8 Try.underlying39 hi hz0 hz1 hz2 rfl (by decide) _ (k) _ rfl (HO.out.alloc _) ⟨x.heap.size, 0, none⟩ 1 1 [.float .f64 9218868437227405312] rfl rfl (cell_one_new _ _ _) (by intro q hq; simp at hq; subst hq; rfl) (by unfold maxLen; omega) (by omega) (by simp; omega) ?_)
            | fail)
          intro v1 y1 hown hgrow _
          have HO1 : Hid (y1.ownsRow w.heap.size 24 1 v1 (k + 1) (fv (M ++ [9218868437227405312]))) := by
            show World.ownsRow _ _ _ _ _ _ _
            first
              | (rw [fv_app]; exact hown)
              | (simp [fv] at hown ⊢; exact hown)
          have HBel1 : Hid (Below w.heap.size w y1) := (HBel.out.alloc hbx1 _).grown hgrow (by simp; omega) (fun j hj => (HO.out.lt j hj).1)
          clear hown hgrow HO HBel
          have HO := HO1
          have HBel := HBel1
          clear HO1 HBel1
          go_wp2_with fail
          with_reducible refine (ofc_any 18442240474082181120 18442240474082181120 rfl _).mono ?_
          rintro e x ⟨rfl, rfl⟩
          have hbx2 := HBel.out.size
          go_wp2_with (first
            | (at_builtin; refine wpList_append_own _ rfl _ _ 39 rfl w.heap.size 24 i0 (.float .f64 0) 1 8 Try.underlying39 hi hz0 hz1 hz2 rfl (by decide) _ (k + 1) _ rfl (HO.out.alloc _) ⟨x.heap.size, 0, none⟩ 1 1 [.float .f64 18442240474082181120] rfl rfl (cell_one_new _ _ _) (by intro q hq; simp at hq; subst hq; rfl) (by unfold maxLen; omega) (by omega) (by simp; omega) ?_)
            | fail)
          intro v2 y2 hown hgrow _
          have HO2 : Hid (y2.ownsRow w.heap.size 24 1 v2 (k + 1 + 1) (fv ((M ++ [9218868437227405312]) ++ [18442240474082181120]))) := by
            show World.ownsRow _ _ _ _ _ _ _
            first
              | (rw [fv_app]; exact hown)
              | (simp [fv] at hown ⊢; exact hown)
          have HBel2 : Hid (Below w.heap.size w y2) := (HBel.out.alloc hbx2 _).grown hgrow (by simp; omega) (fun j hj => (HO.out.lt j hj).1)
          clear hown hgrow HO HBel
          have HO := HO2
          have HBel := HBel2
          clear HO2 HBel2
          go_wp2_with fail
          have hFs := Fs.own HO.out
          clear HO
          with_reducible refine (sum_any _ ((M ++ [9218868437227405312]) ++ [18442240474082181120]) _ hFs).mono ?_
          rintro e x ⟨rfl, m, rfl⟩
          rw [show Fl.sm ((M ++ [9218868437227405312]) ++ [18442240474082181120]) = 9221120237041090560 from sm_both HSM.out]
          go_wp2_with fail
          with_reducible refine (ofc_any 9221120237041090560 9221120237041090560 rfl _).mono ?_
          rintro e x ⟨rfl, rfl⟩
          go_wp2_with fail
          with_reducible refine (eq_any 9221120237041090560 9221120237041090560 _).mono ?_
          rintro e x ⟨rfl, rfl⟩
          rw [show decide ((9221120237041090560 : Nat) = 9221120237041090560) = true by decide]
          go_wp2_with fail
          go_ret
          exact ⟨rfl, below_drewN HBel.out _⟩
        · go_wp2_with fail
          with_reducible refine (ofc_any 9218868437227405319 9218868437227405319 rfl _).mono ?_
          rintro e x ⟨rfl, rfl⟩
          have hbx1 := HBel.out.size
          go_wp2_with (first
            | (at_builtin; refine wpList_append_own _ rfl _ _ 39 rfl w.heap.size 24 i0 (.float .f64 0) 1 8 Try.underlying39 hi hz0 hz1 hz2 rfl (by decide) _ (k) _ rfl (HO.out.alloc _) ⟨x.heap.size, 0, none⟩ 1 1 [.float .f64 9218868437227405319] rfl rfl (cell_one_new _ _ _) (by intro q hq; simp at hq; subst hq; rfl) (by unfold maxLen; omega) (by omega) (by simp; omega) ?_)
            | fail)
          intro v1 y1 hown hgrow _
          have HO1 : Hid (y1.ownsRow w.heap.size 24 1 v1 (k + 1) (fv (M ++ [9218868437227405319]))) := by
            show World.ownsRow _ _ _ _ _ _ _
            first
              | (rw [fv_app]; exact hown)
              | (simp [fv] at hown ⊢; exact hown)
          have HBel1 : Hid (Below w.heap.size w y1) := (HBel.out.alloc hbx1 _).grown hgrow (by simp; omega) (fun j hj => (HO.out.lt j hj).1)
          clear hown hgrow HO HBel
          have HO := HO1
          have HBel := HBel1
          clear HO1 HBel1
          go_wp2_with fail
          have hFs := Fs.own HO.out
          clear HO
          with_reducible refine (sum_any _ (M ++ [9218868437227405319]) _ hFs).mono ?_
          rintro e x ⟨rfl, m, rfl⟩
          rw [show Fl.sm (M ++ [9218868437227405319]) = 9221120237041090560 from sm_nan _]
          go_wp2_with fail
          with_reducible refine (ofc_any 9221120237041090560 9221120237041090560 rfl _).mono ?_
          rintro e x ⟨rfl, rfl⟩
          go_wp2_with fail
          with_reducible refine (eq_any 9221120237041090560 9221120237041090560 _).mono ?_
          rintro e x ⟨rfl, rfl⟩
          rw [show decide ((9221120237041090560 : Nat) = 9221120237041090560) = true by decide]
          go_wp2_with fail
          go_ret
          exact ⟨rfl, below_drewN HBel.out _⟩
        · go_wp2_with fail
          with_reducible refine (ofc_any 18442240474082181120 18442240474082181120 rfl _).mono ?_
          rintro e x ⟨rfl, rfl⟩
          have hbx1 := HBel.out.size
          go_wp2_with (first
            | (at_builtin; refine wpList_append_own _ rfl _ _ 39 rfl w.heap.size 24 i0 (.float .f64 0) 1 8 Try.underlying39 hi hz0 hz1 hz2 rfl (by decide) _ (k) _ rfl (HO.out.alloc _) ⟨x.heap.size, 0, none⟩ 1 1 [.float .f64 18442240474082181120] rfl rfl (cell_one_new _ _ _) (by intro q hq; simp at hq; subst hq; rfl) (by unfold maxLen; omega) (by omega) (by simp; omega) ?_)
            | fail)
          intro v1 y1 hown hgrow _
          have HO1 : Hid (y1.ownsRow w.heap.size 24 1 v1 (k + 1) (fv (M ++ [18442240474082181120]))) := by
            show World.ownsRow _ _ _ _ _ _ _
            first
              | (rw [fv_app]; exact hown)
              | (simp [fv] at hown ⊢; exact hown)
          have HBel1 : Hid (Below w.heap.size w y1) := (HBel.out.alloc hbx1 _).grown hgrow (by simp; omega) (fun j hj => (HO.out.lt j hj).1)
          clear hown hgrow HO HBel
          have HO := HO1
          have HBel := HBel1
          clear HO1 HBel1
          go_wp2_with fail
          with_reducible refine (ofc_any 9218868437227405319 9218868437227405319 rfl _).mono ?_
          rintro e x ⟨rfl, rfl⟩
          have hbx2 := HBel.out.size
          go_wp2_with (first
            | (at_builtin; refine wpList_append_own _ rfl _ _ 39 rfl w.heap.size 24 i0 (.float .f64 0) 1 8 Try.underlying39 hi hz0 hz1 hz2 rfl (by decide) _ (k + 1) _ rfl (HO.out.alloc _) ⟨x.heap.size, 0, none⟩ 1 1 [.float .f64 9218868437227405319] rfl rfl (cell_one_new _ _ _) (by intro q hq; simp at hq; subst hq; rfl) (by unfold maxLen; omega) (by omega) (by simp; omega) ?_)
            | fail)
          intro v2 y2 hown hgrow _
          have HO2 : Hid (y2.ownsRow w.heap.size 24 1 v2 (k + 1 + 1) (fv ((M ++ [18442240474082181120]) ++ [9218868437227405319]))) := by
            show World.ownsRow _ _ _ _ _ _ _
            first
              | (rw [fv_app]; exact hown)
              | (simp [fv] at hown ⊢; exact hown)
          have HBel2 : Hid (Below w.heap.size w y2) := (HBel.out.alloc hbx2 _).grown hgrow (by simp; omega) (fun j hj => (HO.out.lt j hj).1)
          clear hown hgrow HO HBel
          have HO := HO2
          have HBel := HBel2
          clear HO2 HBel2
          go_wp2_with fail
          have hFs := Fs.own HO.out
          clear HO
          with_reducible refine (sum_any _ ((M ++ [18442240474082181120]) ++ [9218868437227405319]) _ hFs).mono ?_
          rintro e x ⟨rfl, m, rfl⟩
          rw [show Fl.sm ((M ++ [18442240474082181120]) ++ [9218868437227405319]) = 9221120237041090560 from sm_nan _]
          go_wp2_with fail
          with_reducible refine (ofc_any 9221120237041090560 9221120237041090560 rfl _).mono ?_
          rintro e x ⟨rfl, rfl⟩
          go_wp2_with fail
          with_reducible refine (eq_any 9221120237041090560 9221120237041090560 _).mono ?_
          rintro e x ⟨rfl, rfl⟩
          rw [show decide ((9221120237041090560 : Nat) = 9221120237041090560) = true by decide]
          go_wp2_with fail
          go_ret
          exact ⟨rfl, below_drewN HBel.out _⟩
        · go_wp2_with fail
          with_reducible refine (ofc_any 9218868437227405312 9218868437227405312 rfl _).mono ?_
          rintro e x ⟨rfl, rfl⟩
          have hbx1 := HBel.out.size
          go_wp2_with (first
            | (at_builtin; refine wpList_append_own _ rfl _ _ 39 rfl w.heap.size 24 i0 (.float .f64 0) 1 8 Try.underlying39 hi hz0 hz1 hz2 rfl (by decide) _ (k) _ rfl (HO.out.alloc _) ⟨x.heap.size, 0, none⟩ 1 1 [.float .f64 9218868437227405312] rfl rfl (cell_one_new _ _ _) (by intro q hq; simp at hq; subst hq; rfl) (by unfold maxLen; omega) (by omega) (by simp; omega) ?_)
            | fail)
          intro v1 y1 hown hgrow _
          have HO1 : Hid (y1.ownsRow w.heap.size 24 1 v1 (k + 1) (fv (M ++ [9218868437227405312]))) := by
            show World.ownsRow _ _ _ _ _ _ _
            first
              | (rw [fv_app]; exact hown)
              | (simp [fv] at hown ⊢; exact hown)
          have HBel1 : Hid (Below w.heap.size w y1) := (HBel.out.alloc hbx1 _).grown hgrow (by simp; omega) (fun j hj => (HO.out.lt j hj).1)
          clear hown hgrow HO HBel
          have HO := HO1
          have HBel := HBel1
          clear HO1 HBel1
          go_wp2_with fail
          with_reducible refine (ofc_any 9218868437227405319 9218868437227405319 rfl _).mono ?_
          rintro e x ⟨rfl, rfl⟩
          have hbx2 := HBel.out.size
          go_wp2_with (first
            | (at_builtin; refine wpList_append_own _ rfl _ _ 39 rfl w.heap.size 24 i0 (.float .f64 0) 1 8 Try.underlying39 hi hz0 hz1 hz2 rfl (by decide) _ (k + 1) _ rfl (HO.out.alloc _) ⟨x.heap.size, 0, none⟩ 1 1 [.float .f64 9218868437227405319] rfl rfl (cell_one_new _ _ _) (by intro q hq; simp at hq; subst hq; rfl) (by unfold maxLen; omega) (by omega) (by simp; omega) ?_)
            | fail)
          intro v2 y2 hown hgrow _
          have HO2 : Hid (y2.ownsRow w.heap.size 24 1 v2 (k + 1 + 1) (fv ((M ++ [9218868437227405312]) ++ [9218868437227405319]))) := by
            show World.ownsRow _ _ _ _ _ _ _
            first
              | (rw [fv_app]; exact hown)
              | (simp [fv] at hown ⊢; exact hown)
          have HBel2 : Hid (Below w.heap.size w y2) := (HBel.out.alloc hbx2 _).grown hgrow (by simp; omega) (fun j hj => (HO.out.lt j hj).1)
          clear hown hgrow HO HBel
          have HO := HO2
          have HBel := HBel2
          clear HO2 HBel2
          go_wp2_with fail
          have hFs := Fs.own HO.out
          clear HO
          with_reducible refine (sum_any _ ((M ++ [9218868437227405312]) ++ [9218868437227405319]) _ hFs).mono ?_
          rintro e x ⟨rfl, m, rfl⟩
          rw [show Fl.sm ((M ++ [9218868437227405312]) ++ [9218868437227405319]) = 9221120237041090560 from sm_nan _]
          go_wp2_with fail
          with_reducible refine (ofc_any 9221120237041090560 9221120237041090560 rfl _).mono ?_
          rintro e x ⟨rfl, rfl⟩
          go_wp2_with fail
          with_reducible refine (eq_any 9221120237041090560 9221120237041090560 _).mono ?_
          rintro e x ⟨rfl, rfl⟩
          rw [show decide ((9221120237041090560 : Nat) = 9221120237041090560) = true by decide]
          go_wp2_with fail
          go_ret
          exact ⟨rfl, below_drewN HBel.out _⟩
        · go_wp2_with fail
          with_reducible refine (ofc_any 9218868437227405312 9218868437227405312 rfl _).mono ?_
          rintro e x ⟨rfl, rfl⟩
          have hbx1 := HBel.out.size
          go_wp2_with (first
            | (at_builtin; refine wpList_append_own _ rfl _ _ 39 rfl w.heap.size 24 i0 (.float .f64 0) 1 8 Try.underlying39 hi hz0 hz1 hz2 rfl (by decide) _ (k) _ rfl (HO.out.alloc _) ⟨x.heap.size, 0, none⟩ 1 1 [.float .f64 9218868437227405312] rfl rfl (cell_one_new _ _ _) (by intro q hq; simp at hq; subst hq; rfl) (by unfold maxLen; omega) (by omega) (by simp; omega) ?_)
            | fail)
          intro v1 y1 hown hgrow _
          have HO1 : Hid (y1.ownsRow w.heap.size 24 1 v1 (k + 1) (fv (M ++ [9218868437227405312]))) := by
            show World.ownsRow _ _ _ _ _ _ _
            first
              | (rw [fv_app]; exact hown)
              | (simp [fv] at hown ⊢; exact hown)
          have HBel1 : Hid (Below w.heap.size w y1) := (HBel.out.alloc hbx1 _).grown hgrow (by simp; omega) (fun j hj => (HO.out.lt j hj).1)
          clear hown hgrow HO HBel
          have HO := HO1
          have HBel := HBel1
          clear HO1 HBel1
          go_wp2_with fail
          with_reducible refine (ofc_any 18442240474082181120 18442240474082181120 rfl _).mono ?_
          rintro e x ⟨rfl, rfl⟩
          have hbx2 := HBel.out.size
          go_wp2_with (first
            | (at_builtin; refine wpList_append_own _ rfl _ _ 39 rfl w.heap.size 24 i0 (.float .f64 0) 1 8 Try.underlying39 hi hz0 hz1 hz2 rfl (by decide) _ (k + 1) _ rfl (HO.out.alloc _) ⟨x.heap.size, 0, none⟩ 1 1 [.float .f64 18442240474082181120] rfl rfl (cell_one_new _ _ _) (by intro q hq; simp at hq; subst hq; rfl) (by unfold maxLen; omega) (by omega) (by simp; omega) ?_)
            | fail)
          intro v2 y2 hown hgrow _
          have HO2 : Hid (y2.ownsRow w.heap.size 24 1 v2 (k + 1 + 1) (fv ((M ++ [9218868437227405312]) ++ [18442240474082181120]))) := by
            show World.ownsRow _ _ _ _ _ _ _
            first
              | (rw [fv_app]; exact hown)
              | (simp [fv] at hown ⊢; exact hown)
          have HBel2 : Hid (Below w.heap.size w y2) := (HBel.out.alloc hbx2 _).grown hgrow (by simp; omega) (fun j hj => (HO.out.lt j hj).1)
          clear hown hgrow HO HBel
          have HO := HO2
          have HBel := HBel2
          clear HO2 HBel2
          go_wp2_with fail
          with_reducible refine (ofc_any 9218868437227405319 9218868437227405319 rfl _).mono ?_
          rintro e x ⟨rfl, rfl⟩
          have hbx3 := HBel.out.size
          go_wp2_with (first
            | (at_builtin; refine wpList_append_own _ rfl _ _ 39 rfl w.heap.size 24 i0 (.float .f64 0) 1 8 Try.underlying39 hi hz0 hz1 hz2 rfl (by decide) _ (k + 1 + 1) _ rfl (HO.out.alloc _) ⟨x.heap.size, 0, none⟩ 1 1 [.float .f64 9218868437227405319] rfl rfl (cell_one_new _ _ _) (by intro q hq; simp at hq; subst hq; rfl) (by unfold maxLen; omega) (by omega) (by simp; omega) ?_)
            | fail)
          intro v3 y3 hown hgrow _
          have HO3 : Hid (y3.ownsRow w.heap.size 24 1 v3 (k + 1 + 1 + 1) (fv (((M ++ [9218868437227405312]) ++ [18442240474082181120]) ++ [9218868437227405319]))) := by
            show World.ownsRow _ _ _ _ _ _ _
            first
              | (rw [fv_app]; exact hown)
              | (simp [fv] at hown ⊢; exact hown)
          have HBel3 : Hid (Below w.heap.size w y3) := (HBel.out.alloc hbx3 _).grown hgrow (by simp; omega) (fun j hj => (HO.out.lt j hj).1)
          clear hown hgrow HO HBel
          have HO := HO3
          have HBel := HBel3
          clear HO3 HBel3
          go_wp2_with fail
          have hFs := Fs.own HO.out
          clear HO
          with_reducible refine (sum_any _ (((M ++ [9218868437227405312]) ++ [18442240474082181120]) ++ [9218868437227405319]) _ hFs).mono ?_
          rintro e x ⟨rfl, m, rfl⟩
          rw [show Fl.sm (((M ++ [9218868437227405312]) ++ [18442240474082181120]) ++ [9218868437227405319]) = 9221120237041090560 from sm_nan _]
          go_wp2_with fail
          with_reducible refine (ofc_any 9221120237041090560 9221120237041090560 rfl _).mono ?_
          rintro e x ⟨rfl, rfl⟩
          go_wp2_with fail
          with_reducible refine (eq_any 9221120237041090560 9221120237041090560 _).mono ?_
          rintro e x ⟨rfl, rfl⟩
          rw [show decide ((9221120237041090560 : Nat) = 9221120237041090560) = true by decide]
          go_wp2_with fail
          go_ret
          exact ⟨rfl, below_drewN HBel.out _⟩

set_option maxRecDepth 100000 in
theorem lifted (os : Os) (started : os.Started) (H : Type) (enc : TypeId × Value → H) :
    ReturnsInHanded {} Try.checked os 8 .any (Rows.floatEdgesSpec.pre6 enc Try.prog Try.f8 Rows.floatEdgesRow.domain false) (Rows.floatEdgesSpec.post enc Try.prog Try.f8 false true false false) := by
  refine returnsInHanded_of_change (C := Try.checked) own started (by kernel_rfl) Try.func8
    (ChangeSpec.witness6 (enc := enc) (C := Try.checked) false ⟨#[], #[.slice none 0 0, .bool false, .bool false, .bool false], []⟩ 8 (by kernel_rfl) (by kernel_rfl) (by kernel_rfl) (by kernel_rfl)) ?_
  intro W base args ds gs before hval0 hW hcnd _
  have hval : ∀ (j : Nat) t v, Try.f8.params[j]? = some t → args[j]? = some v → Value.okWide Try.prog W .any base t v := hval0
  have hW' := hW
  obtain ⟨p, q, hA0, hV, rfl, hfz, hnd⟩ := hW
  have hA : DataW.TrodAll enc Try.prog W 0 (fun _ => true) true Try.f8.params.toList args.toList ds p := hA0
  rw [Try.params8] at hA hval
  obtain ⟨v0, vs0, d0, ds0, p0, q0, hargs, rfl, rfl, h0, r0⟩ := trodAll_cons hA
  obtain ⟨v1, vs1, d1, ds1, p1, q1, rfl, rfl, rfl, h1, r1⟩ := trodAll_cons r0
  obtain ⟨v2, vs2, d2, ds2, p2, q2, rfl, rfl, rfl, h2, r2⟩ := trodAll_cons r1
  obtain ⟨v3, vs3, d3, ds3, p3, q3, rfl, rfl, rfl, h3, r3⟩ := trodAll_cons r2
  obtain ⟨rfl, rfl, rfl⟩ := trodAll_nil r3
  obtain rfl : args = #[v0, v1, v2, v3] := by cases args; simp_all
  obtain ⟨rfl, rfl⟩ := trodVars_none hV
  obtain ⟨a0, len0, cap0, rfl⟩ := okWide_slice Try.underlying38 (hval 0 38 v0 rfl rfl)
  have k0 := h0
  have lt0 : ∀ x ∈ p0, x.block < W.heap.size := by obtain ⟨m, hm⟩ := k0; exact DataW.trod_lt m _ _ _ hm
  obtain ⟨z0, w0⟩ : ∃ zs, IsRow .u64 W a0 len0 cap0 zs := by
    obtain ⟨fuel, hf⟩ := h0
    rcases open_ints Try.underlying38 Try.underlying22 (by kernel_rfl) hf with ⟨hcs, _⟩ | ⟨x, l, c, zs, hcs, _, hl, hm, hz, _, hcell, hwz⟩
    · simp [Value.cells] at hcs
      obtain ⟨rfl, rfl, rfl⟩ := hcs
      exact ⟨[], .inl ⟨rfl, rfl, rfl, rfl⟩⟩
    · simp [Value.cells] at hcs
      obtain ⟨rfl, rfl, rfl⟩ := hcs
      exact ⟨zs, .inr ⟨_, rfl, hl, hm, by simpa using hz, hcell, hwz⟩⟩
  obtain ⟨a1, rfl, rfl, rfl⟩ := open_bool Try.underlying4 (hval 1 4 v1 rfl rfl) h1
  obtain ⟨a2, rfl, rfl, rfl⟩ := open_bool Try.underlying4 (hval 2 4 v2 rfl rfl) h2
  obtain ⟨a3, rfl, rfl, rfl⟩ := open_bool Try.underlying4 (hval 3 4 v3 rfl rfl) h3
  clear hA0 hval0
  refine (walk a0 len0 cap0 z0 a1 a2 a3 W w0).mono fun e W' ⟨he, bel⟩ => ?_
  subst he
  exact ⟨_, rfl, _, _, _, [], _, [], hW', trodAll_mk1 (shut_bool Try.underlying4 _), (trodAll_cons_mk (Below.trod laidOut (by kernel_rfl) (of_decide_eq_true (by kernel_rfl)) k0 bel lt0) (trodAll_cons_mk (shut_bool Try.underlying4 _) (trodAll_cons_mk (shut_bool Try.underlying4 _) (trodAll_cons_mk (shut_bool Try.underlying4 _) trodAll_mk0)))), rfl, bel.frame _, fun h => by cases h⟩

theorem over : Rows.floatEdgesRow.holds Try.pinned (OpenSpec.ofChange Rows.floatEdgesSpec) :=
  OpenClaim.holds_of_wide 8 Try.f8 rfl rfl rfl rfl rfl rfl rfl ⟨rfl, rfl, rfl, rfl, rfl⟩ rfl rfl rfl rfl rfl (by kernel_rfl) Try.func8 (by kernel_rfl)
    (of_decide_eq_true (by kernel_rfl)) (by unfold Func.isWrapper; first | (rw [if_pos (by decide +kernel)]; kernel_rfl) | (rw [if_neg (by decide +kernel)]; exact ⟨rfl, rfl⟩))
    (fun os started H enc _ => lifted os started H enc)

theorem proved : Rows.FloatEdgesSaid := over
#print axioms proved
end Go.Proofs.Ytnkmfaddgodefaa.floatEdges
