/-
  For all uint64s x, y and z FloatThree returns true: float.Less of any three floats (by their bits) is an order, and float.Same goes on from one to the next. No condition.
-/
import Derived.Test.YtnkmfaddgodefaaRows
import Derived.WalkKit
import Derived.ProofKit
import Derived.OpenShut
import Derived.ShutString
import Derived.Test.YtnkmfaddgodefaaFltG
import Derived.ChangeOld
import Derived.Below
namespace Go.Proofs.Ytnkmfaddgodefaa.floatThree
open Go.ChangeShapes Go.WideShapes Go.ChangeAt Go.RowKit
open Go.ChangeMaps (open_string shut_string)
set_option linter.unusedVariables false

theorem own : ownKnob Try.prog.godebug = none := by kernel_rfl

set_option maxRecDepth 100000 in
set_option maxHeartbeats 4000000 in
theorem walk (a0 : Int) (a1 : Int) (a2 : Int) (w0 : (Lit.int .u64 a0).wf = true) (w1 : (Lit.int .u64 a1).wf = true) (w2 : (Lit.int .u64 a2).wf = true) (w : World) :
    Calls Try.prog 5 #[.int .u64 a0, .int .u64 a1, .int .u64 a2] w fun e w' => e = .returned (.bool true) ∧ Below w.heap.size w w' := by
  obtain ⟨h0, h1⟩ := bounds_u64 w0
  obtain ⟨g0, g1⟩ := bounds_u64 w1
  obtain ⟨k0, k1⟩ := bounds_u64 w2
  obtain ⟨X, rfl⟩ := Int.eq_ofNat_of_zero_le h0
  obtain ⟨Y, rfl⟩ := Int.eq_ofNat_of_zero_le g0
  obtain ⟨Z, rfl⟩ := Int.eq_ofNat_of_zero_le k0
  have hX : X < 18446744073709551616 := by omega
  have hY : Y < 18446744073709551616 := by omega
  have hZ : Z < 18446744073709551616 := by omega
  clear w0 w1 w2 h0 h1 g0 g1 k0 k1
  have HXX : Hid (decide (Fl.rk X < Fl.rk X) = false) := by show _ = _; simp
  have T1 : decide (Fl.rk X < Fl.rk Y) = true → decide (Fl.rk Y < Fl.rk X) = false := by simp; omega
  have T2 : decide (Fl.rk X < Fl.rk Y) = true → decide (Fl.rk Y < Fl.rk Z) = true → decide (Fl.rk X < Fl.rk Z) = true := by simp; omega
  have T3 : decide (Fl.rk X = Fl.rk Y) = true → decide (Fl.rk Y = Fl.rk Z) = true → decide (Fl.rk X = Fl.rk Z) = true := by simp; omega
  cases pXY : decide (Fl.rk X < Fl.rk Y) <;> cases pYZ : decide (Fl.rk Y < Fl.rk Z) <;> cases sXY : decide (Fl.rk X = Fl.rk Y) <;> cases sYZ : decide (Fl.rk Y = Fl.rk Z)
  all_goals
    have HXY := hide pXY
    have HYZ := hide pYZ
    have SXY := hide sXY
    have SYZ := hide sYZ
    have U1 := hide T1
    have U2 := hide T2
    have U3 := hide T3
    clear T1 T2 T3 pXY pYZ sXY sYZ
    go_enter Try.func5, Try.ntmps5
    go_wp2_with fail
    refine (begun_any _).mono ?_
    rintro e x1 ⟨rfl, hb1⟩
    go_wp2_with fail
    repeat (first | (with_reducible refine (of_any X _).mono ?_; rintro e x ⟨rfl, rfl⟩; go_wp2_with fail) | (with_reducible refine (of_any Y _).mono ?_; rintro e x ⟨rfl, rfl⟩; go_wp2_with fail) | (with_reducible refine (of_any Z _).mono ?_; rintro e x ⟨rfl, rfl⟩; go_wp2_with fail) | (with_reducible refine (less_any X X _ hX hX).mono ?_; rintro e x ⟨rfl, rfl⟩; rw [HXX.out]; go_wp2_with fail) | (with_reducible refine (less_any X Y _ hX hY).mono ?_; rintro e x ⟨rfl, rfl⟩; rw [HXY.out]; go_wp2_with fail) | (with_reducible refine (less_any Y X _ hY hX).mono ?_; rintro e x ⟨rfl, rfl⟩; rw [U1.out HXY.out]; go_wp2_with fail) | (with_reducible refine (less_any Y Z _ hY hZ).mono ?_; rintro e x ⟨rfl, rfl⟩; rw [HYZ.out]; go_wp2_with fail) | (with_reducible refine (less_any X Z _ hX hZ).mono ?_; rintro e x ⟨rfl, rfl⟩; rw [U2.out HXY.out HYZ.out]; go_wp2_with fail) | (with_reducible refine (same_any X Y _ hX hY).mono ?_; rintro e x ⟨rfl, rfl⟩; rw [SXY.out]; go_wp2_with fail) | (with_reducible refine (same_any Y Z _ hY hZ).mono ?_; rintro e x ⟨rfl, rfl⟩; rw [SYZ.out]; go_wp2_with fail) | (with_reducible refine (same_any X Z _ hX hZ).mono ?_; rintro e x ⟨rfl, rfl⟩; rw [U3.out SXY.out SYZ.out]; go_wp2_with fail))
    go_ret
    exact ⟨rfl, hb1⟩

set_option maxRecDepth 100000 in
theorem lifted (os : Os) (started : os.Started) (H : Type) (enc : TypeId × Value → H) :
    ReturnsInHanded {} Try.checked os 5 .any (Rows.floatThreeSpec.pre6 enc Try.prog Try.f5 Rows.floatThreeRow.domain false) (Rows.floatThreeSpec.post enc Try.prog Try.f5 false true false false) := by
  refine returnsInHanded_of_change (C := Try.checked) own started (by kernel_rfl) Try.func5
    (ChangeSpec.witness6 (enc := enc) (C := Try.checked) false ⟨#[], #[.int .u64 0, .int .u64 0, .int .u64 0], []⟩ 8 (by kernel_rfl) (by kernel_rfl) (by kernel_rfl) (by kernel_rfl)) ?_
  intro W base args ds gs before hval0 hW hcnd _
  have hval : ∀ (j : Nat) t v, Try.f5.params[j]? = some t → args[j]? = some v → Value.okWide Try.prog W .any base t v := hval0
  have hW' := hW
  obtain ⟨p, q, hA0, hV, rfl, hfz, hnd⟩ := hW
  have hA : DataW.TrodAll enc Try.prog W 0 (fun _ => true) true Try.f5.params.toList args.toList ds p := hA0
  rw [Try.params5] at hA hval
  obtain ⟨v0, vs0, d0, ds0, p0, q0, hargs, rfl, rfl, h0, r0⟩ := trodAll_cons hA
  obtain ⟨v1, vs1, d1, ds1, p1, q1, rfl, rfl, rfl, h1, r1⟩ := trodAll_cons r0
  obtain ⟨v2, vs2, d2, ds2, p2, q2, rfl, rfl, rfl, h2, r2⟩ := trodAll_cons r1
  obtain ⟨rfl, rfl, rfl⟩ := trodAll_nil r2
  obtain rfl : args = #[v0, v1, v2] := by cases args; simp_all
  obtain ⟨rfl, rfl⟩ := trodVars_none hV
  obtain ⟨a0, rfl, rfl, rfl, w0⟩ := open_int Try.underlying22 (hval 0 22 v0 rfl rfl) h0
  obtain ⟨a1, rfl, rfl, rfl, w1⟩ := open_int Try.underlying22 (hval 1 22 v1 rfl rfl) h1
  obtain ⟨a2, rfl, rfl, rfl, w2⟩ := open_int Try.underlying22 (hval 2 22 v2 rfl rfl) h2
  clear hA0 hval0
  refine (walk a0 a1 a2 w0 w1 w2 W).mono fun e W' ⟨he, bel⟩ => ?_
  subst he
  exact ⟨_, rfl, _, _, _, [], _, [], hW', trodAll_mk1 (shut_bool Try.underlying4 _), (trodAll_cons_mk (shut_int Try.underlying22 w0) (trodAll_cons_mk (shut_int Try.underlying22 w1) (trodAll_cons_mk (shut_int Try.underlying22 w2) trodAll_mk0))), rfl, bel.frame _, fun h => by cases h⟩

theorem over : Rows.floatThreeRow.holds Try.pinned (OpenSpec.ofChange Rows.floatThreeSpec) :=
  OpenClaim.holds_of_wide 5 Try.f5 rfl rfl rfl rfl rfl rfl rfl ⟨rfl, rfl, rfl, rfl, rfl⟩ rfl rfl rfl rfl rfl (by kernel_rfl) Try.func5 (by kernel_rfl)
    (of_decide_eq_true (by kernel_rfl)) (by unfold Func.isWrapper; first | (rw [if_pos (by decide +kernel)]; kernel_rfl) | (rw [if_neg (by decide +kernel)]; exact ⟨rfl, rfl⟩))
    (fun os started H enc _ => lifted os started H enc)

theorem proved : Rows.FloatThreeSaid :=
  over
#print axioms proved
end Go.Proofs.Ytnkmfaddgodefaa.floatThree
