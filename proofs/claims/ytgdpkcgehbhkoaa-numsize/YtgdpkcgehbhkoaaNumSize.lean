/-
  For every int64 n NumSize returns true: num.Put writes n in as many bytes as seven bits each need, and num.Get reads just those. No condition.
-/
import Derived.Test.YtgdpkcgehbhkoaaRows
import Derived.WalkKit
import Derived.ProofKit
import Derived.OpenShut
import Derived.ShutString
import Derived.Test.YtgdpkcgehbhkoaaNumB
import Derived.ChangeOld
import Derived.Below
namespace Go.Proofs.Ytgdpkcgehbhkoaa.numSize
open Go.ChangeShapes Go.WideShapes Go.ChangeAt Go.RowKit
open Go.ChangeMaps (open_string shut_string)
set_option linter.unusedVariables false

theorem own : ownKnob Try.prog.godebug = none := by kernel_rfl

theorem enc_len_more {f : Nat} {x : Int} (h : 128 ≤ x) (k : Nm.fits f x) : ∃ g, (Nm.enc f x).length = (Nm.enc g (x / 128)).length + 1 ∧ Nm.fits g (x / 128) := by
  obtain ⟨g, rfl, h1, h2⟩ := Nm.enc_more h k
  exact ⟨g, by rw [h1]; simp, h2⟩

set_option maxHeartbeats 1000000 in
theorem walk (a0 : Int) (w0 : (Lit.int .i64 a0).wf = true) (w : World) :
    Calls Try.prog 6 #[.int .i64 a0] w fun e w' => e = .returned (.bool true) ∧ Below w.heap.size w w' := by
  have hb64 := bounds_i64 w0
  obtain ⟨h0, h1⟩ := hb64
  have hfb := Nm.fold_bd a0 h0 h1
  have hl := Nm.num_len a0
  have HG := hide (Nm.get_num a0 h0 h1 [])
  have HB := hide (Nm.num_bd a0 h0 h1)
  clear w0
  cases hd : decide (a0 < 0)
  all_goals
    have hd2 := hd
    simp at hd2
    go_enter Try.func6, Try.ntmps6
    go_wp2_with fail
    refine (begun_any _).mono ?_
    rintro e w1 ⟨rfl, hb1⟩
    go_wp2_with fail
    go_loop [4, 5] (fun u c => ∃ (x : Int) (f m : Nat), u = .int .u64 x ∧ c = .int .i64 m ∧ 0 ≤ x ∧ x ≤ 18446744073709551615 ∧ Nm.fits f x ∧ 1 ≤ m ∧ m ≤ 10 ∧ Hid ((Nm.num a0).length + 1 = m + (Nm.enc f x).length)) (fun u _ => (intOf u).toNat)
    case atStart => exact ⟨Nm.fold a0, 9, 1, by first | rw [Nm.ref_neg h0 hd2] | (rw [← Nm.fold_pos hd2]; go_num), rfl, hfb.1, hfb.2, Nm.fits9 _ hfb.2, by omega, by omega, by show _ = _; unfold Nm.num; omega⟩
    case round =>
      obtain ⟨x, f, m, rfl, rfl, hx0, hx1, hf, hm1, hm10, he⟩ := hrel
      by_cases hx : 128 ≤ x
      · obtain ⟨g, hg1, hg2⟩ := enc_len_more hx hf
        have HE : Hid ((Nm.num a0).length + 1 = (m + 1) + (Nm.enc g (x / 128)).length) := by have := he.out; show _ = _; omega
        have hge := (Nm.enc_len g (x / 128)).1
        have hm9 : m + 1 ≤ 10 := by have := HE.out; omega
        clear hg1 he hge
        go_wp2_with fail
        go_round
        case rel => exact ⟨x / 128, g, m + 1, by go_num, by go_num, by omega, by omega, hg2, by omega, hm9, HE⟩
        case measure => simp [intOf]; omega
      · have HE : Hid ((Nm.num a0).length = m) := by
          have := he.out
          rw [Nm.enc_last (by omega)] at this
          simp at this
          exact this
        clear he
        go_wp2_with fail
        refine (put_any _ [] a0 _ (Sl.nil _) (by simp) h0 h1).mono ?_
        rintro e w2 ⟨v2, rfl, ho2, hb2⟩
        have hb := hb1.trans (hb2.mono hb1.size)
        have hsl : Sl w2 v2 (Nm.num a0 ++ []) := by rw [List.append_nil]; exact Sl.own (by simpa using ho2) HB.out
        have HS := hide hsl
        obtain ⟨ad, cap, hv, _, _, _, _⟩ := hsl
        rw [List.append_nil, HE.out] at hv
        subst hv
        rw [HE.out] at HG
        clear hb1 hb2 ho2
        go_wp2_with fail
        refine (get_at HS.out HG.out).mono ?_
        rintro e w3 ⟨rfl, rfl⟩
        go_wp2_with fail
        go_ret
        exact ⟨rfl, hb⟩

set_option maxRecDepth 100000 in
theorem lifted (os : Os) (started : os.Started) (H : Type) (enc : TypeId × Value → H) :
    ReturnsInHanded {} Try.checked os 6 .any (Rows.numSizeSpec.pre6 enc Try.prog Try.f6 Rows.numSizeRow.domain false) (Rows.numSizeSpec.post enc Try.prog Try.f6 false true false false) := by
  refine returnsInHanded_of_change (C := Try.checked) own started (by kernel_rfl) Try.func6
    (ChangeSpec.witness6 (enc := enc) (C := Try.checked) false ⟨#[], #[.int .i64 0], []⟩ 8 (by kernel_rfl) (by kernel_rfl) (by kernel_rfl) (by kernel_rfl)) ?_
  intro W base args ds gs before hval0 hW hcnd _
  have hval : ∀ (j : Nat) t v, Try.f6.params[j]? = some t → args[j]? = some v → Value.okWide Try.prog W .any base t v := hval0
  have hW' := hW
  obtain ⟨p, q, hA0, hV, rfl, hfz, hnd⟩ := hW
  have hA : DataW.TrodAll enc Try.prog W 0 (fun _ => true) true Try.f6.params.toList args.toList ds p := hA0
  rw [Try.params6] at hA hval
  obtain ⟨v0, vs0, d0, ds0, p0, q0, hargs, rfl, rfl, h0, r0⟩ := trodAll_cons hA
  obtain ⟨rfl, rfl, rfl⟩ := trodAll_nil r0
  obtain rfl : args = #[v0] := by cases args; simp_all
  obtain ⟨rfl, rfl⟩ := trodVars_none hV
  obtain ⟨a0, rfl, rfl, rfl, w0⟩ := open_int Try.underlying2 (hval 0 2 v0 rfl rfl) h0
  clear hA0 hval0
  refine (walk a0 w0 W).mono fun e W' ⟨he, bel⟩ => ?_
  subst he
  exact ⟨_, rfl, _, _, _, [], _, [], hW', trodAll_mk1 (shut_bool Try.underlying4 _), (trodAll_cons_mk (shut_int Try.underlying2 w0) trodAll_mk0), rfl, bel.frame _, fun h => by cases h⟩

theorem over : Rows.numSizeRow.holds Try.pinned (OpenSpec.ofChange Rows.numSizeSpec) :=
  OpenClaim.holds_of_wide 6 Try.f6 rfl rfl rfl rfl rfl rfl rfl ⟨rfl, rfl, rfl, rfl, rfl⟩ rfl rfl rfl rfl rfl (by kernel_rfl) Try.func6 (by kernel_rfl)
    (of_decide_eq_true (by kernel_rfl)) (by unfold Func.isWrapper; first | (rw [if_pos (by decide +kernel)]; kernel_rfl) | (rw [if_neg (by decide +kernel)]; exact ⟨rfl, rfl⟩))
    (fun os started H enc _ => lifted os started H enc)

theorem proved : Rows.NumSizeSaid :=
  over
#print axioms proved
end Go.Proofs.Ytgdpkcgehbhkoaa.numSize
