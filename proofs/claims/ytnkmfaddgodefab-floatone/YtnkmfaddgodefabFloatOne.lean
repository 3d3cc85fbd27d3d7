/-
  For every uint64 x FloatOne returns true: float.Sum of the one float of these bits is that float, of minus nought it is nought, of a NaN the one NaN; of none it is nought. No condition.
-/
import Derived.Test.YtnkmfaddgodefabRows
import Derived.WalkKit
import Derived.ProofKit
import Derived.OpenShut
import Derived.ShutString
import Derived.Test.YtnkmfaddgodefabFltC
import Derived.ChangeOld
import Derived.Below
namespace Go.Proofs.Ytnkmfaddgodefab.floatOne
open Go.ChangeShapes Go.WideShapes Go.ChangeAt Go.RowKit
open Go.ChangeMaps (open_string shut_string)
set_option linter.unusedVariables false

theorem own : ownKnob Try.prog.godebug = none := by kernel_rfl

set_option maxRecDepth 100000 in
set_option maxHeartbeats 1000000 in
theorem walk (a0 : Int) (w0 : (Lit.int .u64 a0).wf = true) (w : World) :
    Calls Try.prog 4 #[.int .u64 a0] w fun e w' => e = .returned (.bool true) ∧ Below w.heap.size w w' := by
  obtain ⟨h0, h1⟩ := bounds_u64 w0
  obtain ⟨X, rfl⟩ := Int.eq_ofNat_of_zero_le h0
  have hX : X < 18446744073709551616 := by omega
  clear w0 h0 h1
  cases nx : Fl.nan X
  · by_cases hz : X = 9223372036854775808
    · have HS : Hid (Fl.sm [X] = 0) := by show _ = _; rw [hz]; exact sm_minus
      have HZ : ((X : Int) == 9223372036854775808) = true := by simp; omega
      have NX := hide nx
      clear nx hz
      go_enter Try.func4, Try.ntmps4
      go_wp2_with fail
      refine (begun_any _).mono ?_
      rintro e x1 ⟨rfl, hb1⟩
      go_wp2_with fail
      with_reducible refine (of_any X _).mono ?_
      rintro e x ⟨rfl, rfl⟩
      go_wp2_with fail
      with_reducible refine (sum_any _ [X] _ (one_sl _ (0, 0) _)).mono ?_
      rintro e w4 ⟨rfl, m, rfl⟩
      rw [HS.out]
      go_wp2_with fail
      with_reducible refine (refNaN_any X _ hX).mono ?_
      rintro e x ⟨rfl, rfl⟩
      rw [NX.out]
      go_wp2_with fail
      with_reducible refine (eq_any 0 0 _).mono ?_
      rintro e x ⟨rfl, rfl⟩
      rw [show decide ((0 : Nat) = 0) = true by decide]
      go_wp2_with fail
      go_ret
      exact ⟨rfl, below_drewN (hb1.alloc hb1.size _) m⟩
    · have HS : Hid (Fl.sm [X] = X) := by show _ = _; exact Fl.ad_nought hX nx hz
      have HZ : ((X : Int) == 9223372036854775808) = false := by simp; omega
      have NX := hide nx
      clear nx hz
      go_enter Try.func4, Try.ntmps4
      go_wp2_with fail
      refine (begun_any _).mono ?_
      rintro e x1 ⟨rfl, hb1⟩
      go_wp2_with fail
      with_reducible refine (of_any X _).mono ?_
      rintro e x ⟨rfl, rfl⟩
      go_wp2_with fail
      with_reducible refine (sum_any _ [X] _ (one_sl _ (0, 0) _)).mono ?_
      rintro e w4 ⟨rfl, m, rfl⟩
      rw [HS.out]
      go_wp2_with fail
      with_reducible refine (refNaN_any X _ hX).mono ?_
      rintro e x ⟨rfl, rfl⟩
      rw [NX.out]
      go_wp2_with fail
      with_reducible refine (eq_any X X _).mono ?_
      rintro e x ⟨rfl, rfl⟩
      rw [show decide (X = X) = true by simp]
      go_wp2_with fail
      with_reducible refine (sum_any _ [] _ (Fs.nil _)).mono ?_
      rintro e w5 ⟨rfl, m2, rfl⟩
      rw [show Fl.sm [] = 0 from rfl]
      go_wp2_with fail
      with_reducible refine (eq_any 0 0 _).mono ?_
      rintro e x ⟨rfl, rfl⟩
      rw [show decide ((0 : Nat) = 0) = true by decide]
      go_wp2_with fail
      go_ret
      exact ⟨rfl, below_drewN (hb1.alloc hb1.size _) _⟩
  · have HS : Hid (Fl.sm [X] = 9221120237041090560) := by show _ = _; exact Fl.ad_nan (.inr nx)
    have NX := hide nx
    clear nx
    go_enter Try.func4, Try.ntmps4
    go_wp2_with fail
    refine (begun_any _).mono ?_
    rintro e x1 ⟨rfl, hb1⟩
    go_wp2_with fail
    with_reducible refine (of_any X _).mono ?_
    rintro e x ⟨rfl, rfl⟩
    go_wp2_with fail
    with_reducible refine (sum_any _ [X] _ (one_sl _ (0, 0) _)).mono ?_
    rintro e w4 ⟨rfl, m, rfl⟩
    rw [HS.out]
    go_wp2_with fail
    with_reducible refine (refNaN_any X _ hX).mono ?_
    rintro e x ⟨rfl, rfl⟩
    rw [NX.out]
    go_wp2_with fail
    with_reducible refine (ofc_any 9221120237041090560 9221120237041090560 rfl _).mono ?_
    rintro e x ⟨rfl, rfl⟩
    go_wp2_with fail
    with_reducible refine (eq_any 9221120237041090560 9221120237041090560 _).mono ?_
    rintro e x ⟨rfl, rfl⟩
    rw [show decide ((9221120237041090560 : Nat) = 9221120237041090560) = true by decide]
    go_wp2_with fail
    go_ret
    exact ⟨rfl, below_drewN (hb1.alloc hb1.size _) m⟩

set_option maxRecDepth 100000 in
theorem lifted (os : Os) (started : os.Started) (H : Type) (enc : TypeId × Value → H) :
    ReturnsInHanded {} Try.checked os 4 .any (Rows.floatOneSpec.pre6 enc Try.prog Try.f4 Rows.floatOneRow.domain false) (Rows.floatOneSpec.post enc Try.prog Try.f4 false true false false) := by
  refine returnsInHanded_of_change (C := Try.checked) own started (by kernel_rfl) Try.func4
    (ChangeSpec.witness6 (enc := enc) (C := Try.checked) false ⟨#[], #[.int .u64 0], []⟩ 8 (by kernel_rfl) (by kernel_rfl) (by kernel_rfl) (by kernel_rfl)) ?_
  intro W base args ds gs before hval0 hW hcnd _
  have hval : ∀ (j : Nat) t v, Try.f4.params[j]? = some t → args[j]? = some v → Value.okWide Try.prog W .any base t v := hval0
  have hW' := hW
  obtain ⟨p, q, hA0, hV, rfl, hfz, hnd⟩ := hW
  have hA : DataW.TrodAll enc Try.prog W 0 (fun _ => true) true Try.f4.params.toList args.toList ds p := hA0
  rw [Try.params4] at hA hval
  obtain ⟨v0, vs0, d0, ds0, p0, q0, hargs, rfl, rfl, h0, r0⟩ := trodAll_cons hA
  obtain ⟨rfl, rfl, rfl⟩ := trodAll_nil r0
  obtain rfl : args = #[v0] := by cases args; simp_all
  obtain ⟨rfl, rfl⟩ := trodVars_none hV
  obtain ⟨a0, rfl, rfl, rfl, w0⟩ := open_int Try.underlying29 (hval 0 29 v0 rfl rfl) h0
  clear hA0 hval0
  refine (walk a0 w0 W).mono fun e W' ⟨he, bel⟩ => ?_
  subst he
  exact ⟨_, rfl, _, _, _, [], _, [], hW', trodAll_mk1 (shut_bool Try.underlying4 _), (trodAll_cons_mk (shut_int Try.underlying29 w0) trodAll_mk0), rfl, bel.frame _, fun h => by cases h⟩

theorem over : Rows.floatOneRow.holds Try.pinned (OpenSpec.ofChange Rows.floatOneSpec) :=
  OpenClaim.holds_of_wide 4 Try.f4 rfl rfl rfl rfl rfl rfl rfl ⟨rfl, rfl, rfl, rfl, rfl⟩ rfl rfl rfl rfl rfl (by kernel_rfl) Try.func4 (by kernel_rfl)
    (of_decide_eq_true (by kernel_rfl)) (by unfold Func.isWrapper; first | (rw [if_pos (by decide +kernel)]; kernel_rfl) | (rw [if_neg (by decide +kernel)]; exact ⟨rfl, rfl⟩))
    (fun os started H enc _ => lifted os started H enc)

theorem proved : Rows.FloatOneSaid :=
  over
#print axioms proved
end Go.Proofs.Ytnkmfaddgodefab.floatOne
