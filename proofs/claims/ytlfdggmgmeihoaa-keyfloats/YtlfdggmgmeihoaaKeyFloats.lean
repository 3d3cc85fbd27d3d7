/-
  For all uint64s x and y KeyFloats returns true: of the float of these bits key.Float leads back from key.Of (cleaned), keys of two floats stand in the floats' order and are the same just where the floats stand at one place, and such a key may be. No condition.
-/
import Derived.Test.YtlfdggmgmeihoaaRows
import Derived.WalkKit
import Derived.ProofKit
import Derived.OpenShut
import Derived.ShutString
import Derived.Test.YtlfdggmgmeihoaaKeyB
import Derived.Test.YtlfdggmgmeihoaaKeyF
import Derived.ChangeOld
import Derived.Below
namespace Go.Proofs.Ytlfdggmgmeihoaa.keyFloats
open Go.ChangeShapes Go.WideShapes Go.ChangeAt Go.RowKit
open Go.ChangeMaps (open_string shut_string)
set_option linter.unusedVariables false

theorem own : ownKnob Try.prog.godebug = none := by kernel_rfl

set_option maxRecDepth 100000 in
set_option maxHeartbeats 2000000 in
theorem walk (a0 : Int) (a1 : Int) (w0 : (Lit.int .u64 a0).wf = true) (w1 : (Lit.int .u64 a1).wf = true) (w : World) :
    Calls Try.prog 4 #[.int .u64 a0, .int .u64 a1] w fun e w' => e = .returned (.bool true) ∧ Below w.heap.size w w' := by
  obtain ⟨h0, h1⟩ := bounds_u64 w0
  obtain ⟨g0, g1⟩ := bounds_u64 w1
  obtain ⟨X, rfl⟩ := Int.eq_ofNat_of_zero_le h0
  obtain ⟨Y, rfl⟩ := Int.eq_ofNat_of_zero_le g0
  have hX : X < 18446744073709551616 := by omega
  have hY : Y < 18446744073709551616 := by omega
  clear w0 w1 h0 h1 g0 g1
  have kf := run_frombits
  have hl := key_less hX hY
  have he := key_same hX hY
  have pl1 := pl_less X Y
  have pe1 := pl_same X Y
  have HSX := hide (of_size X)
  have HKF := hide (kf_of hX)
  generalize hkx : strOfNums (Ky.key X) = kx at *
  generalize hky : strOfNums (Ky.key Y) = ky at *
  have HKX := hide hkx
  have HKY := hide hky
  clear hkx hky
  generalize decide (Fl.rk X < Fl.rk Y) = L at *
  generalize decide (Fl.rk X = Fl.rk Y) = E at *
  go_enter Try.func4, Try.ntmps4
  go_wp2_with fail
  refine (begun_any _).mono ?_
  rintro e x1 ⟨rfl, hb1⟩
  go_wp2_with fail
  refine (kof_any X _ hX).mono ?_
  rintro e x ⟨rfl, hb⟩
  rw [HKX.out]
  have hB := hb1.trans (hb.mono hb1.size)
  clear hb hb1
  go_wp2_with fail
  refine (float_any kx _ (by rw [HSX.out]; decide)).mono ?_
  rintro e x ⟨rfl, hb⟩
  rw [HKF.out]
  replace hB := hB.trans (hb.mono hB.size)
  clear hb
  go_wp2_with fail
  with_reducible refine (place_pl X _ hX).mono ?_
  rintro e x ⟨rfl, rfl⟩
  go_wp2_with fail
  with_reducible refine (place_pl Y _ hY).mono ?_
  rintro e x ⟨rfl, rfl⟩
  go_wp2_with fail
  with_reducible refine (refClean_any X _ hX).mono ?_
  rintro e x ⟨rfl, rfl⟩
  go_wp2_with fail
  with_reducible refine (eq_any (Fl.cl X) (Fl.cl X) _).mono ?_
  rintro e x ⟨rfl, rfl⟩
  rw [show decide (Fl.cl X = Fl.cl X) = true by simp]
  go_wp2_with fail
  refine (kof_any X _ hX).mono ?_
  rintro e x ⟨rfl, hb⟩
  rw [HKX.out]
  replace hB := hB.trans (hb.mono hB.size)
  clear hb
  go_wp2_with fail
  refine (kof_any Y _ hY).mono ?_
  rintro e x ⟨rfl, hb⟩
  rw [HKY.out]
  replace hB := hB.trans (hb.mono hB.size)
  clear hb
  cases L
  all_goals
    go_wp2_with fail
    refine (kof_any X _ hX).mono ?_
    rintro e x ⟨rfl, hb⟩
    rw [HKX.out]
    replace hB := hB.trans (hb.mono hB.size)
    clear hb
    go_wp2_with fail
    refine (kof_any Y _ hY).mono ?_
    rintro e x ⟨rfl, hb⟩
    rw [HKY.out]
    replace hB := hB.trans (hb.mono hB.size)
    clear hb
    cases E
    all_goals
      go_wp2_with fail
      refine (kof_any X _ hX).mono ?_
      rintro e x ⟨rfl, hb⟩
      rw [HKX.out]
      replace hB := hB.trans (hb.mono hB.size)
      clear hb
      go_wp2_with fail
      with_reducible refine (kmay_any kx _ (by rw [HSX.out]; decide)).mono ?_
      rintro e x ⟨rfl, rfl⟩
      rw [HSX.out]
      go_wp2_with fail
      go_ret
      exact ⟨rfl, hB⟩

set_option maxRecDepth 100000 in
theorem lifted (os : Os) (started : os.Started) (H : Type) (enc : TypeId × Value → H) :
    ReturnsInHanded {} Try.checked os 4 .any (Rows.keyFloatsSpec.pre6 enc Try.prog Try.f4 Rows.keyFloatsRow.domain false) (Rows.keyFloatsSpec.post enc Try.prog Try.f4 false true false false) := by
  refine returnsInHanded_of_change (C := Try.checked) own started (by kernel_rfl) Try.func4
    (ChangeSpec.witness6 (enc := enc) (C := Try.checked) false ⟨#[], #[.int .u64 0, .int .u64 0], []⟩ 8 (by kernel_rfl) (by kernel_rfl) (by kernel_rfl) (by kernel_rfl)) ?_
  intro W base args ds gs before hval0 hW hcnd _
  have hval : ∀ (j : Nat) t v, Try.f4.params[j]? = some t → args[j]? = some v → Value.okWide Try.prog W .any base t v := hval0
  have hW' := hW
  obtain ⟨p, q, hA0, hV, rfl, hfz, hnd⟩ := hW
  have hA : DataW.TrodAll enc Try.prog W 0 (fun _ => true) true Try.f4.params.toList args.toList ds p := hA0
  rw [Try.params4] at hA hval
  obtain ⟨v0, vs0, d0, ds0, p0, q0, hargs, rfl, rfl, h0, r0⟩ := trodAll_cons hA
  obtain ⟨v1, vs1, d1, ds1, p1, q1, rfl, rfl, rfl, h1, r1⟩ := trodAll_cons r0
  obtain ⟨rfl, rfl, rfl⟩ := trodAll_nil r1
  obtain rfl : args = #[v0, v1] := by cases args; simp_all
  obtain ⟨rfl, rfl⟩ := trodVars_none hV
  obtain ⟨a0, rfl, rfl, rfl, w0⟩ := open_int Try.underlying32 (hval 0 32 v0 rfl rfl) h0
  obtain ⟨a1, rfl, rfl, rfl, w1⟩ := open_int Try.underlying32 (hval 1 32 v1 rfl rfl) h1
  clear hA0 hval0
  refine (walk a0 a1 w0 w1 W).mono fun e W' ⟨he, bel⟩ => ?_
  subst he
  exact ⟨_, rfl, _, _, _, [], _, [], hW', trodAll_mk1 (shut_bool Try.underlying4 _), (trodAll_cons_mk (shut_int Try.underlying32 w0) (trodAll_cons_mk (shut_int Try.underlying32 w1) trodAll_mk0)), rfl, bel.frame _, fun h => by cases h⟩

theorem over : Rows.keyFloatsRow.holds Try.pinned (OpenSpec.ofChange Rows.keyFloatsSpec) :=
  OpenClaim.holds_of_wide 4 Try.f4 rfl rfl rfl rfl rfl rfl rfl ⟨rfl, rfl, rfl, rfl, rfl⟩ rfl rfl rfl rfl rfl (by kernel_rfl) Try.func4 (by kernel_rfl)
    (of_decide_eq_true (by kernel_rfl)) (by unfold Func.isWrapper; first | (rw [if_pos (by decide +kernel)]; kernel_rfl) | (rw [if_neg (by decide +kernel)]; exact ⟨rfl, rfl⟩))
    (fun os started H enc _ => lifted os started H enc)

theorem proved : Rows.KeyFloatsSaid :=
  over
#print axioms proved
end Go.Proofs.Ytlfdggmgmeihoaa.keyFloats
