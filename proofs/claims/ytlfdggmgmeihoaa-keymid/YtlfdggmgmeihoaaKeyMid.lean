/-
  For all texts a and b KeyMid returns true: of a and b (20 bytes of each) key.Mid is the shortest beginning of b that is above a where a is below b, and the empty text else. No condition.
-/
import Derived.Test.YtlfdggmgmeihoaaRows
import Derived.WalkKit
import Derived.ProofKit
import Derived.OpenShut
import Derived.ShutString
import Derived.Test.YtlfdggmgmeihoaaKeyB
import Derived.Test.YtlfdggmgmeihoaaKeyR
import Derived.ChangeOld
import Derived.Below
namespace Go.Proofs.Ytlfdggmgmeihoaa.keyMid
open Go.ChangeShapes Go.WideShapes Go.ChangeAt Go.RowKit
open Go.ChangeMaps (open_string shut_string)
set_option linter.unusedVariables false

theorem own : ownKnob Try.prog.godebug = none := by kernel_rfl

theorem mid_facts {s t : ByteArray} (h : Op.bytesLess s.toList t.toList = true) :
    (Ky.mid s t).size ≤ t.size ∧ Op.bytesLess s.toList (Ky.mid s t).toList = true ∧ Op.bytesLess t.toList (Ky.mid s t).toList = false ∧ t.extract 0 (Ky.mid s t).size = Ky.mid s t := by
  have hc := Ky.cp_lt h
  rw [Ky.list_len] at hc
  have hz : (t.extract 0 (Ky.cp s.toList t.toList + 1)).size = Ky.cp s.toList t.toList + 1 := by simp; omega
  rw [mid_some h, hz]
  refine ⟨by omega, ?_, ?_, rfl⟩
  · rw [Ky.ext_head]
    have := Ky.bl_take h (Ky.cp s.toList t.toList + 1)
    rw [decide_eq_true (by omega)] at this
    exact this
  · rw [Ky.ext_head]
    exact Ky.bl_head _ _

set_option maxRecDepth 100000 in
set_option maxHeartbeats 1000000 in
theorem walk (a0 : ByteArray) (a1 : ByteArray) (w0 : a0.size ≤ maxLen) (w1 : a1.size ≤ maxLen) (w : World) :
    Calls Try.prog 5 #[.string a0, .string a1] w fun e w' => e = .returned (.bool true) ∧ Below w.heap.size w w' := by
  go_enter Try.func5, Try.ntmps5
  go_wp2_with fail
  refine (begun_any _).mono ?_
  rintro e x1 ⟨rfl, hb1⟩
  go_wp2_with fail
  with_reducible refine (cut20_any a0 _ w0).mono ?_
  rintro e x2 ⟨s, rfl, hs, rfl⟩
  go_wp2_with fail
  with_reducible refine (cut20_any a1 _ w1).mono ?_
  rintro e x3 ⟨t, rfl, ht, rfl⟩
  go_wp2_with fail
  refine (mid_any s t _ (by omega) (by omega)).mono ?_
  rintro e x4 ⟨rfl, hb⟩
  have hB := hb1.trans (hb.mono hb1.size)
  clear hb hb1
  have hself : ((Ky.mid s t).toList == (Ky.mid s t).toList) = true := by simp
  cases h1 : Op.bytesLess s.toList t.toList
  · go_wp2_with fail
    with_reducible refine (refMid_any s t _ (by omega)).mono ?_
    rintro e x ⟨rfl, rfl⟩
    go_wp2_with fail
    go_ret
    exact ⟨rfl, hB⟩
  · obtain ⟨f1, f2, f3, f4⟩ := mid_facts h1
    have g2 := Ky.le_not (Ky.mid s t).toList s.toList
    have g3 := Ky.le_not (Ky.mid s t).toList t.toList
    rw [show Ky.bl s.toList (Ky.mid s t).toList = true from f2] at g2
    rw [show Ky.bl t.toList (Ky.mid s t).toList = false from f3] at g3
    go_wp2_with fail
    with_reducible refine (refMid_any s t _ (by omega)).mono ?_
    rintro e x ⟨rfl, rfl⟩
    go_wp2_with fail
    go_ret
    exact ⟨rfl, hB⟩

set_option maxRecDepth 100000 in
theorem lifted (os : Os) (started : os.Started) (H : Type) (enc : TypeId × Value → H) :
    ReturnsInHanded {} Try.checked os 5 .any (Rows.keyMidSpec.pre6 enc Try.prog Try.f5 Rows.keyMidRow.domain false) (Rows.keyMidSpec.post enc Try.prog Try.f5 false true false false) := by
  refine returnsInHanded_of_change (C := Try.checked) own started (by kernel_rfl) Try.func5
    (ChangeSpec.witness6 (enc := enc) (C := Try.checked) false ⟨#[], #[.string ByteArray.empty, .string ByteArray.empty], []⟩ 8 (by kernel_rfl) (by kernel_rfl) (by kernel_rfl) (by kernel_rfl)) ?_
  intro W base args ds gs before hval0 hW hcnd _
  have hval : ∀ (j : Nat) t v, Try.f5.params[j]? = some t → args[j]? = some v → Value.okWide Try.prog W .any base t v := hval0
  have hW' := hW
  obtain ⟨p, q, hA0, hV, rfl, hfz, hnd⟩ := hW
  have hA : DataW.TrodAll enc Try.prog W 0 (fun _ => true) true Try.f5.params.toList args.toList ds p := hA0
  rw [Try.params5] at hA hval
  obtain ⟨v0, vs0, d0, ds0, p0, q0, hargs, rfl, rfl, h0, r0⟩ := trodAll_cons hA
  obtain ⟨v1, vs1, d1, ds1, p1, q1, rfl, rfl, rfl, h1, r1⟩ := trodAll_cons r0
  obtain ⟨rfl, rfl, rfl⟩ := trodAll_nil r1
  obtain rfl : args = #[v0, v1] := by cases args; simp_all
  obtain ⟨rfl, rfl⟩ := trodVars_none hV
  obtain ⟨a0, rfl, rfl, rfl, w0⟩ := open_string Try.underlying9 (hval 0 9 v0 rfl rfl) h0
  obtain ⟨a1, rfl, rfl, rfl, w1⟩ := open_string Try.underlying9 (hval 1 9 v1 rfl rfl) h1
  clear hA0 hval0
  refine (walk a0 a1 w0 w1 W).mono fun e W' ⟨he, bel⟩ => ?_
  subst he
  exact ⟨_, rfl, _, _, _, [], _, [], hW', trodAll_mk1 (shut_bool Try.underlying4 _), (trodAll_cons_mk (shut_string Try.underlying9 w0) (trodAll_cons_mk (shut_string Try.underlying9 w1) trodAll_mk0)), rfl, bel.frame _, fun h => by cases h⟩

theorem over : Rows.keyMidRow.holds Try.pinned (OpenSpec.ofChange Rows.keyMidSpec) :=
  OpenClaim.holds_of_wide 5 Try.f5 rfl rfl rfl rfl rfl rfl rfl ⟨rfl, rfl, rfl, rfl, rfl⟩ rfl rfl rfl rfl rfl (by kernel_rfl) Try.func5 (by kernel_rfl)
    (of_decide_eq_true (by kernel_rfl)) (by unfold Func.isWrapper; first | (rw [if_pos (by decide +kernel)]; kernel_rfl) | (rw [if_neg (by decide +kernel)]; exact ⟨rfl, rfl⟩))
    (fun os started H enc _ => lifted os started H enc)

theorem proved : Rows.KeyMidSaid :=
  over
#print axioms proved
end Go.Proofs.Ytlfdggmgmeihoaa.keyMid
