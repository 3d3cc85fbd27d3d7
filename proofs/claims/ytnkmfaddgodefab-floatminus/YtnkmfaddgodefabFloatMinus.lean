/-
  For all uint64s x and y FloatMinus returns true: of two floats that are no NaN (by their bits x and y) float.Less and float.Same say of their negatives the same the other way about. No condition.
-/
import Derived.Test.YtnkmfaddgodefabRows
import Derived.WalkKit
import Derived.ProofKit
import Derived.OpenShut
import Derived.ShutString
import Derived.Test.YtnkmfaddgodefabFltG
import Derived.ChangeOld
import Derived.Below
namespace Go.Proofs.Ytnkmfaddgodefab.floatMinus
open Go.ChangeShapes Go.WideShapes Go.ChangeAt Go.RowKit
open Go.ChangeMaps (open_string shut_string)
set_option linter.unusedVariables false

theorem own : ownKnob Try.prog.godebug = none := by kernel_rfl

def fl (x : Nat) : Nat := if x < 9223372036854775808 then x + 9223372036854775808 else x - 9223372036854775808
theorem fl_lt {x : Nat} (h : x < 18446744073709551616) : fl x < 18446744073709551616 := by unfold fl; split <;> omega
theorem w_fl {x : Nat} (h : x < 18446744073709551616) : bits .xor .u64 (x : Int) 9223372036854775808 = ((fl x : Nat) : Int) := Fl.w_flip x h
theorem rk_fl {x : Nat} (h : x < 18446744073709551616) (nx : Fl.nan x = false) : Fl.rk (fl x) + Fl.rk x = 18446744073709551615 := by
  have n2 : Fl.nan (fl x) = false := by
    unfold Fl.nan Fl.rg at *
    unfold fl
    simp at nx ⊢
    split <;> omega
  unfold Fl.rk
  rw [nx, n2]
  simp only [Bool.false_eq_true, if_false]
  unfold fl
  split <;> split <;> omega

set_option maxRecDepth 100000 in
set_option maxHeartbeats 1000000 in
theorem walk (a0 : Int) (a1 : Int) (w0 : (Lit.int .u64 a0).wf = true) (w1 : (Lit.int .u64 a1).wf = true) (w : World) :
    Calls Try.prog 7 #[.int .u64 a0, .int .u64 a1] w fun e w' => e = .returned (.bool true) ∧ Below w.heap.size w w' := by
  obtain ⟨h0, h1⟩ := bounds_u64 w0
  obtain ⟨g0, g1⟩ := bounds_u64 w1
  obtain ⟨X, rfl⟩ := Int.eq_ofNat_of_zero_le h0
  obtain ⟨Y, rfl⟩ := Int.eq_ofNat_of_zero_le g0
  have hX : X < 18446744073709551616 := by omega
  have hY : Y < 18446744073709551616 := by omega
  clear w0 w1 h0 h1 g0 g1
  have kx := w_fl hX
  have ky := w_fl hY
  have hc := fl_lt hX
  have hd := fl_lt hY
  cases nx : Fl.nan X
  · cases ny : Fl.nan Y
    · have NX := hide nx
      have NY := hide ny
      have e1 := rk_fl hX nx
      have e2 := rk_fl hY ny
      have HL : Hid (decide (Fl.rk (fl Y) < Fl.rk (fl X)) = decide (Fl.rk X < Fl.rk Y)) := by show _ = _; rw [decide_eq_decide]; omega
      have HE : Hid (decide (Fl.rk (fl X) = Fl.rk (fl Y)) = decide (Fl.rk X = Fl.rk Y)) := by show _ = _; rw [decide_eq_decide]; omega
      generalize fl X = C at *
      generalize fl Y = D at *
      clear nx ny e1 e2
      cases hL : decide (Fl.rk X < Fl.rk Y) <;> cases hE : decide (Fl.rk X = Fl.rk Y)
      all_goals
        have HL1 := hide hL
        have HE1 := hide hE
        clear hL hE
        go_enter Try.func7, Try.ntmps7
        go_wp2_with fail
        refine (begun_any _).mono ?_
        rintro e x1 ⟨rfl, hb1⟩
        go_wp2_with fail
        refine (of_any X _).mono ?_
        rintro e x2 ⟨rfl, rfl⟩
        go_wp2_with fail
        refine (of_any Y _).mono ?_
        rintro e x3 ⟨rfl, rfl⟩
        go_wp2_with fail
        refine (refNaN_any X _ hX).mono ?_
        rintro e x4 ⟨rfl, rfl⟩
        rw [NX.out]
        go_wp2_with fail
        refine (refNaN_any Y _ hY).mono ?_
        rintro e x5 ⟨rfl, rfl⟩
        rw [NY.out]
        go_wp2_with fail
        refine (of_any C _).mono ?_
        rintro e x6 ⟨rfl, rfl⟩
        go_wp2_with fail
        refine (of_any D _).mono ?_
        rintro e x7 ⟨rfl, rfl⟩
        go_wp2_with fail
        refine (less_any X Y _ hX hY).mono ?_
        rintro e x8 ⟨rfl, rfl⟩
        rw [HL1.out]
        go_wp2_with fail
        refine (less_any D C _ hd hc).mono ?_
        rintro e x9 ⟨rfl, rfl⟩
        rw [HL.out, HL1.out]
        go_wp2_with fail
        refine (same_any X Y _ hX hY).mono ?_
        rintro e x10 ⟨rfl, rfl⟩
        rw [HE1.out]
        go_wp2_with fail
        refine (same_any C D _ hc hd).mono ?_
        rintro e x11 ⟨rfl, rfl⟩
        rw [HE.out, HE1.out]
        go_wp2_with fail
        go_ret
        exact ⟨rfl, hb1⟩
    · have NX := hide nx
      have NY := hide ny
      clear nx ny
      go_enter Try.func7, Try.ntmps7
      go_wp2_with fail
      refine (begun_any _).mono ?_
      rintro e x1 ⟨rfl, hb1⟩
      go_wp2_with fail
      refine (of_any X _).mono ?_
      rintro e x2 ⟨rfl, rfl⟩
      go_wp2_with fail
      refine (of_any Y _).mono ?_
      rintro e x3 ⟨rfl, rfl⟩
      go_wp2_with fail
      refine (refNaN_any X _ hX).mono ?_
      rintro e x4 ⟨rfl, rfl⟩
      rw [NX.out]
      go_wp2_with fail
      refine (refNaN_any Y _ hY).mono ?_
      rintro e x5 ⟨rfl, rfl⟩
      rw [NY.out]
      go_wp2_with fail
      go_ret
      exact ⟨rfl, hb1⟩
  · have NX := hide nx
    clear nx
    go_enter Try.func7, Try.ntmps7
    go_wp2_with fail
    refine (begun_any _).mono ?_
    rintro e x1 ⟨rfl, hb1⟩
    go_wp2_with fail
    refine (of_any X _).mono ?_
    rintro e x2 ⟨rfl, rfl⟩
    go_wp2_with fail
    refine (of_any Y _).mono ?_
    rintro e x3 ⟨rfl, rfl⟩
    go_wp2_with fail
    refine (refNaN_any X _ hX).mono ?_
    rintro e x4 ⟨rfl, rfl⟩
    rw [NX.out]
    go_wp2_with fail
    go_ret
    exact ⟨rfl, hb1⟩

set_option maxRecDepth 100000 in
theorem lifted (os : Os) (started : os.Started) (H : Type) (enc : TypeId × Value → H) :
    ReturnsInHanded {} Try.checked os 7 .any (Rows.floatMinusSpec.pre6 enc Try.prog Try.f7 Rows.floatMinusRow.domain false) (Rows.floatMinusSpec.post enc Try.prog Try.f7 false true false false) := by
  refine returnsInHanded_of_change (C := Try.checked) own started (by kernel_rfl) Try.func7
    (ChangeSpec.witness6 (enc := enc) (C := Try.checked) false ⟨#[], #[.int .u64 0, .int .u64 0], []⟩ 8 (by kernel_rfl) (by kernel_rfl) (by kernel_rfl) (by kernel_rfl)) ?_
  intro W base args ds gs before hval0 hW hcnd _
  have hval : ∀ (j : Nat) t v, Try.f7.params[j]? = some t → args[j]? = some v → Value.okWide Try.prog W .any base t v := hval0
  have hW' := hW
  obtain ⟨p, q, hA0, hV, rfl, hfz, hnd⟩ := hW
  have hA : DataW.TrodAll enc Try.prog W 0 (fun _ => true) true Try.f7.params.toList args.toList ds p := hA0
  rw [Try.params7] at hA hval
  obtain ⟨v0, vs0, d0, ds0, p0, q0, hargs, rfl, rfl, h0, r0⟩ := trodAll_cons hA
  obtain ⟨v1, vs1, d1, ds1, p1, q1, rfl, rfl, rfl, h1, r1⟩ := trodAll_cons r0
  obtain ⟨rfl, rfl, rfl⟩ := trodAll_nil r1
  obtain rfl : args = #[v0, v1] := by cases args; simp_all
  obtain ⟨rfl, rfl⟩ := trodVars_none hV
  obtain ⟨a0, rfl, rfl, rfl, w0⟩ := open_int Try.underlying29 (hval 0 29 v0 rfl rfl) h0
  obtain ⟨a1, rfl, rfl, rfl, w1⟩ := open_int Try.underlying29 (hval 1 29 v1 rfl rfl) h1
  clear hA0 hval0
  refine (walk a0 a1 w0 w1 W).mono fun e W' ⟨he, bel⟩ => ?_
  subst he
  exact ⟨_, rfl, _, _, _, [], _, [], hW', trodAll_mk1 (shut_bool Try.underlying4 _), (trodAll_cons_mk (shut_int Try.underlying29 w0) (trodAll_cons_mk (shut_int Try.underlying29 w1) trodAll_mk0)), rfl, bel.frame _, fun h => by cases h⟩

theorem over : Rows.floatMinusRow.holds Try.pinned (OpenSpec.ofChange Rows.floatMinusSpec) :=
  OpenClaim.holds_of_wide 7 Try.f7 rfl rfl rfl rfl rfl rfl rfl ⟨rfl, rfl, rfl, rfl, rfl⟩ rfl rfl rfl rfl rfl (by kernel_rfl) Try.func7 (by kernel_rfl)
    (of_decide_eq_true (by kernel_rfl)) (by unfold Func.isWrapper; first | (rw [if_pos (by decide +kernel)]; kernel_rfl) | (rw [if_neg (by decide +kernel)]; exact ⟨rfl, rfl⟩))
    (fun os started H enc _ => lifted os started H enc)

theorem proved : Rows.FloatMinusSaid :=
  over
#print axioms proved
end Go.Proofs.Ytnkmfaddgodefab.floatMinus
