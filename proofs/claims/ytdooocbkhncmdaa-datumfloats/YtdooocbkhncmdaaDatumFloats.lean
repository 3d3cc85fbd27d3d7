/-
  For every uint64 bits DatumFloats returns true: the float of these bits is a value by datum.May just if it is no NaN or the one NaN, it is the same as itself by datum.Eq, and with its sign turned it is another. No condition.
-/
import Derived.Test.YtdooocbkhncmdaaRows
import Derived.WalkKit
import Derived.ProofKit
import Derived.OpenShut
import Derived.ShutString
import Derived.Test.YtdooocbkhncmdaaDatB
import Derived.ChangeOld
import Derived.Below
namespace Go.Proofs.Ytdooocbkhncmdaa.datumFloats
open Go.ChangeShapes Go.WideShapes Go.ChangeAt Go.RowKit
open Go.ChangeMaps (open_string shut_string)
set_option linter.unusedVariables false

theorem own : ownKnob Try.prog.godebug = none := by kernel_rfl

theorem flip_key {X : Nat} (hX : X < 18446744073709551616) : ∃ Y : Nat, Y < 18446744073709551616 ∧ bits .xor .u64 (X : Int) 9223372036854775808 = (Y : Int) ∧ (Fl.nan X = false → Dt.eq 1 X ⟨#[]⟩ 1 Y ⟨#[]⟩ = false) := by
  refine ⟨_, ?_, Fl.w_flip X hX, fun nx => ?_⟩
  · split <;> omega
  · generalize hg : (if X < 9223372036854775808 then X + 9223372036854775808 else X - 9223372036854775808) = Y
    have hYX : Y ≠ X ∧ Y < 18446744073709551616 ∧ Fl.rg Y = Fl.rg X := by
      unfold Fl.rg
      split at hg <;> omega
    have ny : Fl.nan Y = false := by
      unfold Fl.nan at nx ⊢
      rw [hYX.2.2]
      exact nx
    unfold Dt.eq
    simp only [decide_true, Bool.true_and, decide_eq_false_iff_not]
    intro hr
    exact hYX.1 (Fl.rk_inj hX hYX.2.1 nx ny hr).symm

theorem may_nan {X : Nat} (h : Fl.nan X = true) : Dt.may 1 X ⟨#[]⟩ = decide (X = 9221120237041090560) := by
  rw [may_1, Fl.cl_nan h, str_empty]
  simp [show (⟨#[]⟩ : ByteArray).size = 0 from rfl]
theorem may_not_nan {X : Nat} (h : Fl.nan X = false) : Dt.may 1 X ⟨#[]⟩ = true := by
  rw [may_1, Fl.cl_not h, str_empty]
  simp [show (⟨#[]⟩ : ByteArray).size = 0 from rfl]

set_option maxRecDepth 100000 in
set_option maxHeartbeats 2000000 in
theorem walk (a0 : Int) (w0 : (Lit.int .u64 a0).wf = true) (w : World) :
    Calls Try.prog 7 #[.int .u64 a0] w fun e w' => e = .returned (.bool true) ∧ Below w.heap.size w w' := by
  obtain ⟨h0, h1⟩ := bounds_u64 w0
  obtain ⟨X, rfl⟩ := Int.eq_ofNat_of_zero_le h0
  have hX : X < 18446744073709551616 := by omega
  clear w0 h0 h1
  have kf := run_frombits
  have hsf := st_float
  obtain ⟨Y, hY, hfl, hne⟩ := flip_key hX
  have HNE := hide hne
  have HR := hide (Dt.eq_refl 1 X ⟨#[]⟩)
  clear hne
  cases nx : Fl.nan X
  · have NX := hide nx
    have HM := hide (may_not_nan nx)
    have HE := hide (HNE.out nx)
    clear nx HNE
    go_enter Try.func7, Try.ntmps7
    go_wp2_with fail
    refine (begun_any _).mono ?_
    rintro e x1 ⟨rfl, hb1⟩
    go_wp2_with fail
    with_reducible refine (refNaN_any X _ hX).mono ?_
    rintro e x ⟨rfl, rfl⟩
    rw [NX.out]
    go_wp2_with fail
    generalize hW : (World.alloc _ _).alloc _ = W0
    have hB0 : Below x1.heap.size x1 W0 := by rw [← hW]; exact ((Below.refl _ _).alloc (Nat.le_refl _) _).alloc (by simp) _
    have HA : Hid (∀ w', Below W0.heap.size W0 w' → _) := fun w' hb => two_boxes (w := x1) (w' := w') (by rw [hW]; exact hb)
    have hBw := hb1.trans (hB0.mono hb1.size)
    clear hW hb1 hB0
    have hB : Below W0.heap.size W0 W0 := Below.refl _ _
    obtain ⟨c0, c1, c2, d0, d1, d2⟩ := HA.out _ hB
    with_reducible refine (may_any 1 X ⟨#[]⟩ _ (by decide)).mono ?_
    rintro e x ⟨rfl, hb⟩
    rw [HM.out]
    replace hB := hB.trans (hb.mono hB.size)
    clear hb c0 c1 c2 d0 d1 d2
    obtain ⟨c0, c1, c2, d0, d1, d2⟩ := HA.out _ hB
    go_wp2_with fail
    with_reducible refine (eqv_any 1 X ⟨#[]⟩ 1 X ⟨#[]⟩ _ hX hX).mono ?_
    rintro e x ⟨rfl, hb⟩
    rw [HR.out]
    replace hB := hB.trans (hb.mono hB.size)
    clear hb c0 c1 c2 d0 d1 d2
    obtain ⟨c0, c1, c2, d0, d1, d2⟩ := HA.out _ hB
    go_wp2_with fail
    with_reducible refine (refNaN_any X _ hX).mono ?_
    rintro e x ⟨rfl, rfl⟩
    rw [NX.out]
    go_wp2_with fail
    with_reducible refine (eqv_any 1 X ⟨#[]⟩ 1 Y ⟨#[]⟩ _ hX hY).mono ?_
    rintro e x ⟨rfl, hb⟩
    rw [HE.out]
    replace hB := hB.trans (hb.mono hB.size)
    clear hb c0 c1 c2 d0 d1 d2
    obtain ⟨c0, c1, c2, d0, d1, d2⟩ := HA.out _ hB
    go_wp2_with fail
    go_ret
    exact ⟨rfl, hBw.trans (hB.mono hBw.size)⟩
  · have NX := hide nx
    have HM := hide (may_nan nx)
    clear nx HNE
    cases hc : decide (X = 9221120237041090560)
    all_goals
      have HC := hide hc
      have hc' : ((X : Int) == 9221120237041090560) = _ := (beq_nat X 9221120237041090560).trans hc
      clear hc
      go_enter Try.func7, Try.ntmps7
      go_wp2_with fail
      refine (begun_any _).mono ?_
      rintro e x1 ⟨rfl, hb1⟩
      go_wp2_with fail
      with_reducible refine (refNaN_any X _ hX).mono ?_
      rintro e x ⟨rfl, rfl⟩
      rw [NX.out]
      go_wp2_with fail
      generalize hW : (World.alloc _ _).alloc _ = W0
      have hB0 : Below x1.heap.size x1 W0 := by rw [← hW]; exact ((Below.refl _ _).alloc (Nat.le_refl _) _).alloc (by simp) _
      have HA : Hid (∀ w', Below W0.heap.size W0 w' → _) := fun w' hb => two_boxes (w := x1) (w' := w') (by rw [hW]; exact hb)
      have hBw := hb1.trans (hB0.mono hb1.size)
      clear hW hb1 hB0
      have hB : Below W0.heap.size W0 W0 := Below.refl _ _
      obtain ⟨c0, c1, c2, d0, d1, d2⟩ := HA.out _ hB
      with_reducible refine (may_any 1 X ⟨#[]⟩ _ (by decide)).mono ?_
      rintro e x ⟨rfl, hb⟩
      rw [HM.out, HC.out]
      replace hB := hB.trans (hb.mono hB.size)
      clear hb c0 c1 c2 d0 d1 d2
      obtain ⟨c0, c1, c2, d0, d1, d2⟩ := HA.out _ hB
      go_wp2_with fail
      try (with_reducible refine (eqv_any 1 X ⟨#[]⟩ 1 X ⟨#[]⟩ _ hX hX).mono ?_; rintro e x ⟨rfl, hb⟩; rw [HR.out]; replace hB := hB.trans (hb.mono hB.size); clear hb c0 c1 c2 d0 d1 d2; obtain ⟨c0, c1, c2, d0, d1, d2⟩ := HA.out _ hB; go_wp2_with fail)
      with_reducible refine (refNaN_any X _ hX).mono ?_
      rintro e x ⟨rfl, rfl⟩
      rw [NX.out]
      go_wp2_with fail
      go_ret
      exact ⟨rfl, hBw.trans (hB.mono hBw.size)⟩

set_option maxRecDepth 100000 in
theorem lifted (os : Os) (started : os.Started) (H : Type) (enc : TypeId × Value → H) :
    ReturnsInHanded {} Try.checked os 7 .any (Rows.datumFloatsSpec.pre6 enc Try.prog Try.f7 Rows.datumFloatsRow.domain false) (Rows.datumFloatsSpec.post enc Try.prog Try.f7 false true false false) := by
  refine returnsInHanded_of_change (C := Try.checked) own started (by kernel_rfl) Try.func7
    (ChangeSpec.witness6 (enc := enc) (C := Try.checked) false ⟨#[], #[.int .u64 0], []⟩ 8 (by kernel_rfl) (by kernel_rfl) (by kernel_rfl) (by kernel_rfl)) ?_
  intro W base args ds gs before hval0 hW hcnd _
  have hval : ∀ (j : Nat) t v, Try.f7.params[j]? = some t → args[j]? = some v → Value.okWide Try.prog W .any base t v := hval0
  have hW' := hW
  obtain ⟨p, q, hA0, hV, rfl, hfz, hnd⟩ := hW
  have hA : DataW.TrodAll enc Try.prog W 0 (fun _ => true) true Try.f7.params.toList args.toList ds p := hA0
  rw [Try.params7] at hA hval
  obtain ⟨v0, vs0, d0, ds0, p0, q0, hargs, rfl, rfl, h0, r0⟩ := trodAll_cons hA
  obtain ⟨rfl, rfl, rfl⟩ := trodAll_nil r0
  obtain rfl : args = #[v0] := by cases args; simp_all
  obtain ⟨rfl, rfl⟩ := trodVars_none hV
  obtain ⟨a0, rfl, rfl, rfl, w0⟩ := open_int Try.underlying22 (hval 0 22 v0 rfl rfl) h0
  clear hA0 hval0
  refine (walk a0 w0 W).mono fun e W' ⟨he, bel⟩ => ?_
  subst he
  exact ⟨_, rfl, _, _, _, [], _, [], hW', trodAll_mk1 (shut_bool Try.underlying4 _), (trodAll_cons_mk (shut_int Try.underlying22 w0) trodAll_mk0), rfl, bel.frame _, fun h => by cases h⟩

theorem over : Rows.datumFloatsRow.holds Try.pinned (OpenSpec.ofChange Rows.datumFloatsSpec) :=
  OpenClaim.holds_of_wide 7 Try.f7 rfl rfl rfl rfl rfl rfl rfl ⟨rfl, rfl, rfl, rfl, rfl⟩ rfl rfl rfl rfl rfl (by kernel_rfl) Try.func7 (by kernel_rfl)
    (of_decide_eq_true (by kernel_rfl)) (by unfold Func.isWrapper; first | (rw [if_pos (by decide +kernel)]; kernel_rfl) | (rw [if_neg (by decide +kernel)]; exact ⟨rfl, rfl⟩))
    (fun os started H enc _ => lifted os started H enc)

theorem proved : Rows.DatumFloatsSaid :=
  over
#print axioms proved
end Go.Proofs.Ytdooocbkhncmdaa.datumFloats
