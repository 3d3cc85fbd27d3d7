/-
  For all texts a, b and c KeyParts returns true: of a below b (20 bytes of each) all texts c that are not above a are below key.Mid, and all that are not below b are not below it; where a is not below b key.Mid is empty. No condition.
-/
import Derived.Test.YtlfdggmgmeihoabRows
import Derived.WalkKit
import Derived.ProofKit
import Derived.OpenShut
import Derived.ShutString
import Derived.Test.YtlfdggmgmeihoabKeyB
import Derived.ChangeOld
import Derived.Below
namespace Go.Proofs.Ytlfdggmgmeihoab.keyParts
open Go.ChangeShapes Go.WideShapes Go.ChangeAt Go.RowKit
open Go.ChangeMaps (open_string shut_string)
set_option linter.unusedVariables false

theorem own : ownKnob Try.prog.godebug = none := by kernel_rfl

theorem mid_above {s t : ByteArray} (h : Op.bytesLess s.toList t.toList = true) : Op.bytesLess s.toList (Ky.mid s t).toList = true := by
  rw [mid_some h, Ky.ext_head]
  have := Ky.bl_take h (Ky.cp s.toList t.toList + 1)
  rw [decide_eq_true (by omega)] at this
  exact this
theorem mid_within {s t : ByteArray} (h : Op.bytesLess s.toList t.toList = true) : Op.bytesLess t.toList (Ky.mid s t).toList = false := by
  rw [mid_some h, Ky.ext_head]
  exact Ky.bl_head _ _
theorem no_list : (⟨#[]⟩ : ByteArray).toList.isEmpty = true := by rw [ByteArray.toList_eq]; rfl

set_option maxRecDepth 100000 in
set_option maxHeartbeats 2000000 in
theorem walk (a0 : ByteArray) (a1 : ByteArray) (a2 : ByteArray) (w0 : a0.size ≤ maxLen) (w1 : a1.size ≤ maxLen) (w2 : a2.size ≤ maxLen) (w : World) :
    Calls Try.prog 3 #[.string a0, .string a1, .string a2] w fun e w' => e = .returned (.bool true) ∧ Below w.heap.size w w' := by
  go_enter Try.func3, Try.ntmps3
  go_wp2_with fail
  refine (begun_any _).mono ?_
  rintro e x1 ⟨rfl, hb1⟩
  go_wp2_with fail
  with_reducible refine (cut20_any a0 _ w0).mono ?_
  rintro e x2 ⟨s, rfl, hs, rfl⟩
  go_wp2_with fail
  with_reducible refine (cut20_any a1 _ w1).mono ?_
  rintro e x3 ⟨t, rfl, ht, rfl⟩
  go_wp2_with fail
  with_reducible refine (cut20_any a2 _ w2).mono ?_
  rintro e x4 ⟨c, rfl, hc, rfl⟩
  cases h1 : Op.bytesLess s.toList t.toList
  · have HM := hide (mid_none h1)
    have hno := no_list
    go_wp2_with fail
    refine (mid_any s t _ (by omega) (by omega)).mono ?_
    rintro e x5 ⟨rfl, hb⟩
    rw [HM.out]
    have hB := hb1.trans (hb.mono hb1.size)
    clear hb hb1
    go_wp2_with fail
    go_ret
    exact ⟨rfl, hB⟩
  · have HA := hide (mid_above h1)
    have HW := hide (mid_within h1)
    go_wp2_with fail
    refine (mid_any s t _ (by omega) (by omega)).mono ?_
    rintro e x5 ⟨rfl, hb⟩
    have hB := hb1.trans (hb.mono hb1.size)
    clear hb hb1
    generalize Ky.mid s t = m at *
    have hle := Ky.le_not c.toList s.toList
    cases h2 : Op.bytesLess s.toList c.toList
    · rw [show Ky.bl s.toList c.toList = false from h2] at hle
      have hcm : Op.bytesLess c.toList m.toList = true := by
        cases k : Op.bytesLess c.toList m.toList
        · have := Ky.ge_trans h2 k
          rw [show Ky.bl s.toList m.toList = true from HA.out] at this
          cases this
        · rfl
      clear h2
      go_wp2_with fail
      go_ret
      exact ⟨rfl, hB⟩
    · rw [show Ky.bl s.toList c.toList = true from h2] at hle
      clear h2
      cases h3 : Op.bytesLess c.toList t.toList
      · have hcm : Op.bytesLess c.toList m.toList = false := Ky.ge_trans h3 HW.out
        go_wp2_with fail
        go_ret
        exact ⟨rfl, hB⟩
      · go_wp2_with fail
        go_ret
        exact ⟨rfl, hB⟩

set_option maxRecDepth 100000 in
theorem lifted (os : Os) (started : os.Started) (H : Type) (enc : TypeId × Value → H) :
    ReturnsInHanded {} Try.checked os 3 .any (Rows.keyPartsSpec.pre6 enc Try.prog Try.f3 Rows.keyPartsRow.domain false) (Rows.keyPartsSpec.post enc Try.prog Try.f3 false true false false) := by
  refine returnsInHanded_of_change (C := Try.checked) own started (by kernel_rfl) Try.func3
    (ChangeSpec.witness6 (enc := enc) (C := Try.checked) false ⟨#[], #[.string ByteArray.empty, .string ByteArray.empty, .string ByteArray.empty], []⟩ 8 (by kernel_rfl) (by kernel_rfl) (by kernel_rfl) (by kernel_rfl)) ?_
  intro W base args ds gs before hval0 hW hcnd _
  have hval : ∀ (j : Nat) t v, Try.f3.params[j]? = some t → args[j]? = some v → Value.okWide Try.prog W .any base t v := hval0
  have hW' := hW
  obtain ⟨p, q, hA0, hV, rfl, hfz, hnd⟩ := hW
  have hA : DataW.TrodAll enc Try.prog W 0 (fun _ => true) true Try.f3.params.toList args.toList ds p := hA0
  rw [Try.params3] at hA hval
  obtain ⟨v0, vs0, d0, ds0, p0, q0, hargs, rfl, rfl, h0, r0⟩ := trodAll_cons hA
  obtain ⟨v1, vs1, d1, ds1, p1, q1, rfl, rfl, rfl, h1, r1⟩ := trodAll_cons r0
  obtain ⟨v2, vs2, d2, ds2, p2, q2, rfl, rfl, rfl, h2, r2⟩ := trodAll_cons r1
  obtain ⟨rfl, rfl, rfl⟩ := trodAll_nil r2
  obtain rfl : args = #[v0, v1, v2] := by cases args; simp_all
  obtain ⟨rfl, rfl⟩ := trodVars_none hV
  obtain ⟨a0, rfl, rfl, rfl, w0⟩ := open_string Try.underlying9 (hval 0 9 v0 rfl rfl) h0
  obtain ⟨a1, rfl, rfl, rfl, w1⟩ := open_string Try.underlying9 (hval 1 9 v1 rfl rfl) h1
  obtain ⟨a2, rfl, rfl, rfl, w2⟩ := open_string Try.underlying9 (hval 2 9 v2 rfl rfl) h2
  clear hA0 hval0
  refine (walk a0 a1 a2 w0 w1 w2 W).mono fun e W' ⟨he, bel⟩ => ?_
  subst he
  exact ⟨_, rfl, _, _, _, [], _, [], hW', trodAll_mk1 (shut_bool Try.underlying4 _), (trodAll_cons_mk (shut_string Try.underlying9 w0) (trodAll_cons_mk (shut_string Try.underlying9 w1) (trodAll_cons_mk (shut_string Try.underlying9 w2) trodAll_mk0))), rfl, bel.frame _, fun h => by cases h⟩

theorem over : Rows.keyPartsRow.holds Try.pinned (OpenSpec.ofChange Rows.keyPartsSpec) :=
  OpenClaim.holds_of_wide 3 Try.f3 rfl rfl rfl rfl rfl rfl rfl ⟨rfl, rfl, rfl, rfl, rfl⟩ rfl rfl rfl rfl rfl (by kernel_rfl) Try.func3 (by kernel_rfl)
    (of_decide_eq_true (by kernel_rfl)) (by unfold Func.isWrapper; first | (rw [if_pos (by decide +kernel)]; kernel_rfl) | (rw [if_neg (by decide +kernel)]; exact ⟨rfl, rfl⟩))
    (fun os started H enc _ => lifted os started H enc)

theorem proved : Rows.KeyPartsSaid :=
  over
#print axioms proved
end Go.Proofs.Ytlfdggmgmeihoab.keyParts
