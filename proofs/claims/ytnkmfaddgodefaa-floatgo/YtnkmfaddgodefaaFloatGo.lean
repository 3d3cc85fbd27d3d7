/-
  For all uint64s x and y FloatGo returns true: where Go's own order says something of two floats (by their bits), float.Less says the same; NaNs stand ahead of all others, and the two noughts are apart. No condition.
-/
import Derived.Test.YtnkmfaddgodefaaRows
import Derived.WalkKit
import Derived.ProofKit
import Derived.OpenShut
import Derived.ShutString
import Derived.Test.YtnkmfaddgodefaaFltG
import Derived.ChangeOld
import Derived.Below
namespace Go.Proofs.Ytnkmfaddgodefaa.floatGo
open Go.ChangeShapes Go.WideShapes Go.ChangeAt Go.RowKit
open Go.ChangeMaps (open_string shut_string)
set_option linter.unusedVariables false

theorem own : ownKnob Try.prog.godebug = none := by kernel_rfl

theorem go_ways {X Y : Nat} (hX : X < 18446744073709551616) (hY : Y < 18446744073709551616) (nx : Fl.nan X = false) (ny : Fl.nan Y = false) :
    (FloatKind.f64.format.order X Y = some .lt ∧ Fl.rk X < Fl.rk Y) ∨ (FloatKind.f64.format.order X Y = some .gt ∧ Fl.rk Y < Fl.rk X) ∨
    (FloatKind.f64.format.order X Y = some .eq ∧ (Fl.rk X = Fl.rk Y ∨ (FloatKind.f64.format.order X 0 = some .eq ∧ Fl.rk X ≠ Fl.rk Y))) := by
  have ho : FloatKind.f64.format.order X Y = some (compare (Fl.V X) (Fl.V Y)) := Fl.ord_eq nx ny
  rcases Int.lt_trichotomy (Fl.V X) (Fl.V Y) with h | h | h
  · rw [Fl.cmp_lt h] at ho
    exact .inl ⟨ho, Fl.rk_lt_V hX hY nx ny h⟩
  · rw [h, Fl.cmp_eq] at ho
    refine .inr (.inr ⟨ho, ?_⟩)
    by_cases he : Fl.rk X = Fl.rk Y
    · exact .inl he
    · refine .inr ⟨?_, he⟩
      obtain ⟨h1, h2⟩ := Fl.V_eq_rg h
      rcases h2 with h2 | h2
      · have hv : Fl.V X = 0 := by unfold Fl.V; rw [h2, Fl.val_zero]; split <;> rfl
        have h0 : FloatKind.f64.format.order X 0 = some (compare (Fl.V X) (Fl.V 0)) := Fl.ord_eq nx (by decide)
        rw [hv, show Fl.V 0 = 0 by decide, Fl.cmp_eq] at h0
        exact h0
      · exfalso
        apply he
        rw [Fl.word_of hX, Fl.word_of hY, h1, h2]
  · rw [Fl.cmp_gt h] at ho
    exact .inr (.inl ⟨ho, Fl.rk_lt_V hY hX ny nx h⟩)

set_option maxRecDepth 100000 in
set_option maxHeartbeats 4000000 in
theorem walk (a0 : Int) (a1 : Int) (w0 : (Lit.int .u64 a0).wf = true) (w1 : (Lit.int .u64 a1).wf = true) (w : World) :
    Calls Try.prog 6 #[.int .u64 a0, .int .u64 a1] w fun e w' => e = .returned (.bool true) ∧ Below w.heap.size w w' := by
  obtain ⟨h0, h1⟩ := bounds_u64 w0
  obtain ⟨g0, g1⟩ := bounds_u64 w1
  obtain ⟨X, rfl⟩ := Int.eq_ofNat_of_zero_le h0
  obtain ⟨Y, rfl⟩ := Int.eq_ofNat_of_zero_le g0
  have hX : X < 18446744073709551616 := by omega
  have hY : Y < 18446744073709551616 := by omega
  clear w0 w1 h0 h1 g0 g1
  cases nx : Fl.nan X
  · cases ny : Fl.nan Y
    · have NX := hide nx
      have NY := hide ny
      rcases go_ways hX hY nx ny with ⟨ho, hr⟩ | ⟨ho, hr⟩ | ⟨ho, hr | ⟨hz, hr⟩⟩
      · have HXY : Hid (decide (Fl.rk X < Fl.rk Y) = true) := by show _ = _; simp; exact hr
        have HYX : Hid (decide (Fl.rk Y < Fl.rk X) = false) := by show _ = _; simp; omega
        clear nx ny hr
        go_enter Try.func6, Try.ntmps6
        go_wp2_with fail
        refine (begun_any _).mono ?_
        rintro e x1 ⟨rfl, hb1⟩
        go_wp2_with fail
        repeat (first | (with_reducible refine (of_any X _).mono ?_; rintro e x ⟨rfl, rfl⟩; go_wp2_with fail) | (with_reducible refine (of_any Y _).mono ?_; rintro e x ⟨rfl, rfl⟩; go_wp2_with fail) | (with_reducible refine (refNaN_any X _ hX).mono ?_; rintro e x ⟨rfl, rfl⟩; rw [NX.out]; go_wp2_with fail) | (with_reducible refine (refNaN_any Y _ hY).mono ?_; rintro e x ⟨rfl, rfl⟩; rw [NY.out]; go_wp2_with fail) | (with_reducible refine (less_any X Y _ hX hY).mono ?_; rintro e x ⟨rfl, rfl⟩; rw [HXY.out]; go_wp2_with fail) | (with_reducible refine (less_any Y X _ hY hX).mono ?_; rintro e x ⟨rfl, rfl⟩; rw [HYX.out]; go_wp2_with fail))
        go_ret
        exact ⟨rfl, hb1⟩
      · have HXY : Hid (decide (Fl.rk X < Fl.rk Y) = false) := by show _ = _; simp; omega
        have HYX : Hid (decide (Fl.rk Y < Fl.rk X) = true) := by show _ = _; simp; omega
        clear nx ny hr
        go_enter Try.func6, Try.ntmps6
        go_wp2_with fail
        refine (begun_any _).mono ?_
        rintro e x1 ⟨rfl, hb1⟩
        go_wp2_with fail
        repeat (first | (with_reducible refine (of_any X _).mono ?_; rintro e x ⟨rfl, rfl⟩; go_wp2_with fail) | (with_reducible refine (of_any Y _).mono ?_; rintro e x ⟨rfl, rfl⟩; go_wp2_with fail) | (with_reducible refine (refNaN_any X _ hX).mono ?_; rintro e x ⟨rfl, rfl⟩; rw [NX.out]; go_wp2_with fail) | (with_reducible refine (refNaN_any Y _ hY).mono ?_; rintro e x ⟨rfl, rfl⟩; rw [NY.out]; go_wp2_with fail) | (with_reducible refine (less_any X Y _ hX hY).mono ?_; rintro e x ⟨rfl, rfl⟩; rw [HXY.out]; go_wp2_with fail) | (with_reducible refine (less_any Y X _ hY hX).mono ?_; rintro e x ⟨rfl, rfl⟩; rw [HYX.out]; go_wp2_with fail))
        go_ret
        exact ⟨rfl, hb1⟩
      · have HS : Hid (decide (Fl.rk X = Fl.rk Y) = true) := by show _ = _; simp; exact hr
        clear nx ny hr
        go_enter Try.func6, Try.ntmps6
        go_wp2_with fail
        refine (begun_any _).mono ?_
        rintro e x1 ⟨rfl, hb1⟩
        go_wp2_with fail
        repeat (first | (with_reducible refine (of_any X _).mono ?_; rintro e x ⟨rfl, rfl⟩; go_wp2_with fail) | (with_reducible refine (of_any Y _).mono ?_; rintro e x ⟨rfl, rfl⟩; go_wp2_with fail) | (with_reducible refine (refNaN_any X _ hX).mono ?_; rintro e x ⟨rfl, rfl⟩; rw [NX.out]; go_wp2_with fail) | (with_reducible refine (refNaN_any Y _ hY).mono ?_; rintro e x ⟨rfl, rfl⟩; rw [NY.out]; go_wp2_with fail) | (with_reducible refine (same_any X Y _ hX hY).mono ?_; rintro e x ⟨rfl, rfl⟩; rw [HS.out]; go_wp2_with fail))
        go_ret
        exact ⟨rfl, hb1⟩
      · have HS : Hid (decide (Fl.rk X = Fl.rk Y) = false) := by show _ = _; simp; exact hr
        have HYX : Hid (decide (Fl.rk Y < Fl.rk X) = !decide (Fl.rk X < Fl.rk Y)) := by show _ = _; rw [Bool.eq_iff_iff]; simp; omega
        cases hL : decide (Fl.rk X < Fl.rk Y)
        all_goals
          have HXY := hide hL
          rw [hL] at HYX
          clear nx ny hr hL
          go_enter Try.func6, Try.ntmps6
          go_wp2_with fail
          refine (begun_any _).mono ?_
          rintro e x1 ⟨rfl, hb1⟩
          go_wp2_with fail
          repeat (first | (with_reducible refine (of_any X _).mono ?_; rintro e x ⟨rfl, rfl⟩; go_wp2_with fail) | (with_reducible refine (of_any Y _).mono ?_; rintro e x ⟨rfl, rfl⟩; go_wp2_with fail) | (with_reducible refine (refNaN_any X _ hX).mono ?_; rintro e x ⟨rfl, rfl⟩; rw [NX.out]; go_wp2_with fail) | (with_reducible refine (refNaN_any Y _ hY).mono ?_; rintro e x ⟨rfl, rfl⟩; rw [NY.out]; go_wp2_with fail) | (with_reducible refine (same_any X Y _ hX hY).mono ?_; rintro e x ⟨rfl, rfl⟩; rw [HS.out]; go_wp2_with fail) | (with_reducible refine (less_any X Y _ hX hY).mono ?_; rintro e x ⟨rfl, rfl⟩; rw [HXY.out]; go_wp2_with fail) | (with_reducible refine (less_any Y X _ hY hX).mono ?_; rintro e x ⟨rfl, rfl⟩; rw [HYX.out]; go_wp2_with fail))
          go_ret
          exact ⟨rfl, hb1⟩
    · have HXY : Hid (decide (Fl.rk X < Fl.rk Y) = false) := by show _ = _; rw [Fl.rk_nan ny]; simp
      have NX := hide nx
      have NY := hide ny
      clear nx ny
      go_enter Try.func6, Try.ntmps6
      go_wp2_with fail
      refine (begun_any _).mono ?_
      rintro e x1 ⟨rfl, hb1⟩
      go_wp2_with fail
      repeat (first | (with_reducible refine (of_any X _).mono ?_; rintro e x ⟨rfl, rfl⟩; go_wp2_with fail) | (with_reducible refine (of_any Y _).mono ?_; rintro e x ⟨rfl, rfl⟩; go_wp2_with fail) | (with_reducible refine (refNaN_any X _ hX).mono ?_; rintro e x ⟨rfl, rfl⟩; rw [NX.out]; go_wp2_with fail) | (with_reducible refine (refNaN_any Y _ hY).mono ?_; rintro e x ⟨rfl, rfl⟩; rw [NY.out]; go_wp2_with fail) | (with_reducible refine (less_any X Y _ hX hY).mono ?_; rintro e x ⟨rfl, rfl⟩; rw [HXY.out]; go_wp2_with fail))
      go_ret
      exact ⟨rfl, hb1⟩
  · cases ny : Fl.nan Y
    · have HXY : Hid (decide (Fl.rk X < Fl.rk Y) = true) := by show _ = _; rw [Fl.rk_nan nx]; simp; exact Fl.rk_pos hY ny
      have NX := hide nx
      have NY := hide ny
      clear nx ny
      go_enter Try.func6, Try.ntmps6
      go_wp2_with fail
      refine (begun_any _).mono ?_
      rintro e x1 ⟨rfl, hb1⟩
      go_wp2_with fail
      repeat (first | (with_reducible refine (of_any X _).mono ?_; rintro e x ⟨rfl, rfl⟩; go_wp2_with fail) | (with_reducible refine (of_any Y _).mono ?_; rintro e x ⟨rfl, rfl⟩; go_wp2_with fail) | (with_reducible refine (refNaN_any X _ hX).mono ?_; rintro e x ⟨rfl, rfl⟩; rw [NX.out]; go_wp2_with fail) | (with_reducible refine (refNaN_any Y _ hY).mono ?_; rintro e x ⟨rfl, rfl⟩; rw [NY.out]; go_wp2_with fail) | (with_reducible refine (less_any X Y _ hX hY).mono ?_; rintro e x ⟨rfl, rfl⟩; rw [HXY.out]; go_wp2_with fail))
      go_ret
      exact ⟨rfl, hb1⟩
    · have HXY : Hid (decide (Fl.rk X < Fl.rk Y) = false) := by show _ = _; rw [Fl.rk_nan ny]; simp
      have NX := hide nx
      have NY := hide ny
      clear nx ny
      go_enter Try.func6, Try.ntmps6
      go_wp2_with fail
      refine (begun_any _).mono ?_
      rintro e x1 ⟨rfl, hb1⟩
      go_wp2_with fail
      repeat (first | (with_reducible refine (of_any X _).mono ?_; rintro e x ⟨rfl, rfl⟩; go_wp2_with fail) | (with_reducible refine (of_any Y _).mono ?_; rintro e x ⟨rfl, rfl⟩; go_wp2_with fail) | (with_reducible refine (refNaN_any X _ hX).mono ?_; rintro e x ⟨rfl, rfl⟩; rw [NX.out]; go_wp2_with fail) | (with_reducible refine (refNaN_any Y _ hY).mono ?_; rintro e x ⟨rfl, rfl⟩; rw [NY.out]; go_wp2_with fail) | (with_reducible refine (less_any X Y _ hX hY).mono ?_; rintro e x ⟨rfl, rfl⟩; rw [HXY.out]; go_wp2_with fail))
      go_ret
      exact ⟨rfl, hb1⟩

set_option maxRecDepth 100000 in
theorem lifted (os : Os) (started : os.Started) (H : Type) (enc : TypeId × Value → H) :
    ReturnsInHanded {} Try.checked os 6 .any (Rows.floatGoSpec.pre6 enc Try.prog Try.f6 Rows.floatGoRow.domain false) (Rows.floatGoSpec.post enc Try.prog Try.f6 false true false false) := by
  refine returnsInHanded_of_change (C := Try.checked) own started (by kernel_rfl) Try.func6
    (ChangeSpec.witness6 (enc := enc) (C := Try.checked) false ⟨#[], #[.int .u64 0, .int .u64 0], []⟩ 8 (by kernel_rfl) (by kernel_rfl) (by kernel_rfl) (by kernel_rfl)) ?_
  intro W base args ds gs before hval0 hW hcnd _
  have hval : ∀ (j : Nat) t v, Try.f6.params[j]? = some t → args[j]? = some v → Value.okWide Try.prog W .any base t v := hval0
  have hW' := hW
  obtain ⟨p, q, hA0, hV, rfl, hfz, hnd⟩ := hW
  have hA : DataW.TrodAll enc Try.prog W 0 (fun _ => true) true Try.f6.params.toList args.toList ds p := hA0
  rw [Try.params6] at hA hval
  obtain ⟨v0, vs0, d0, ds0, p0, q0, hargs, rfl, rfl, h0, r0⟩ := trodAll_cons hA
  obtain ⟨v1, vs1, d1, ds1, p1, q1, rfl, rfl, rfl, h1, r1⟩ := trodAll_cons r0
  obtain ⟨rfl, rfl, rfl⟩ := trodAll_nil r1
  obtain rfl : args = #[v0, v1] := by cases args; simp_all
  obtain ⟨rfl, rfl⟩ := trodVars_none hV
  obtain ⟨a0, rfl, rfl, rfl, w0⟩ := open_int Try.underlying22 (hval 0 22 v0 rfl rfl) h0
  obtain ⟨a1, rfl, rfl, rfl, w1⟩ := open_int Try.underlying22 (hval 1 22 v1 rfl rfl) h1
  clear hA0 hval0
  refine (walk a0 a1 w0 w1 W).mono fun e W' ⟨he, bel⟩ => ?_
  subst he
  exact ⟨_, rfl, _, _, _, [], _, [], hW', trodAll_mk1 (shut_bool Try.underlying4 _), (trodAll_cons_mk (shut_int Try.underlying22 w0) (trodAll_cons_mk (shut_int Try.underlying22 w1) trodAll_mk0)), rfl, bel.frame _, fun h => by cases h⟩

theorem over : Rows.floatGoRow.holds Try.pinned (OpenSpec.ofChange Rows.floatGoSpec) :=
  OpenClaim.holds_of_wide 6 Try.f6 rfl rfl rfl rfl rfl rfl rfl ⟨rfl, rfl, rfl, rfl, rfl⟩ rfl rfl rfl rfl rfl (by kernel_rfl) Try.func6 (by kernel_rfl)
    (of_decide_eq_true (by kernel_rfl)) (by unfold Func.isWrapper; first | (rw [if_pos (by decide +kernel)]; kernel_rfl) | (rw [if_neg (by decide +kernel)]; exact ⟨rfl, rfl⟩))
    (fun os started H enc _ => lifted os started H enc)

theorem proved : Rows.FloatGoSaid :=
  over
#print axioms proved
end Go.Proofs.Ytnkmfaddgodefaa.floatGo
