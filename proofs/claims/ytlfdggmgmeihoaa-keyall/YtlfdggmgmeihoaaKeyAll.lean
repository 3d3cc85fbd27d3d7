/-
  For all texts s, from and to KeyAll returns true: of s (20 bytes of each) key.May says whether it has one to sixteen bytes, key.In whether it is not below from and below to (where to is not empty), and key.Float gives the float whose key it is, or false and nought. No condition.
-/
import Derived.Test.YtlfdggmgmeihoaaRows
import Derived.WalkKit
import Derived.ProofKit
import Derived.OpenShut
import Derived.ShutString
import Derived.Test.YtlfdggmgmeihoaaKeyB
import Derived.Test.YtlfdggmgmeihoaaFltX
import Derived.ChangeOld
import Derived.Below
namespace Go.Proofs.Ytlfdggmgmeihoaa.keyAll
open Go.ChangeShapes Go.WideShapes Go.ChangeAt Go.RowKit
open Go.ChangeMaps (open_string shut_string)
set_option linter.unusedVariables false

theorem own : ownKnob Try.prog.godebug = none := by kernel_rfl

theorem kf_len {s : ByteArray} (h : s.size ≠ 9) : Ky.kf (sb s) = (0, false) := by
  cases hf : hasf s
  · exact hasf_not hf
  · have h1 := hasf_size hf
    rw [hasf_kf hf]
    unfold Fl.fo
    rw [if_neg]
    rw [sb_len]
    simp
    omega
theorem hasf_at {s : ByteArray} (h : 0 < s.size) : hasf s = (((s[0]'h).toNat : Int) == 102) := by
  unfold hasf
  rw [decide_eq_true (show 1 ≤ (s.size : Int) by omega), Ky.ext_head, ← list_at s h]
  have hl := Ky.list_len s
  cases he : s.toList with
  | nil => rw [he] at hl; simp at hl; omega
  | cons a l =>
    rw [Bool.eq_iff_iff]
    simp [← UInt8.toNat_inj]
    omega

set_option maxRecDepth 100000 in
set_option maxHeartbeats 2000000 in
theorem walk (a0 : ByteArray) (a1 : ByteArray) (a2 : ByteArray) (w0 : a0.size ≤ maxLen) (w1 : a1.size ≤ maxLen) (w2 : a2.size ≤ maxLen) (w : World) :
    Calls Try.prog 3 #[.string a0, .string a1, .string a2] w fun e w' => e = .returned (.bool true) ∧ Below w.heap.size w w' := by
  go_enter Try.func3, Try.ntmps3
  go_wp2_with fail
  refine (begun_any _).mono ?_
  rintro e x1 ⟨rfl, hb1⟩
  go_wp2_with fail
  with_reducible refine (cut20_any a0 _ w0).mono ?_
  rintro e x2 ⟨s, rfl, hs, rfl⟩
  go_wp2_with fail
  with_reducible refine (cut20_any a1 _ w1).mono ?_
  rintro e x3 ⟨f, rfl, -, rfl⟩
  go_wp2_with fail
  with_reducible refine (cut20_any a2 _ w2).mono ?_
  rintro e x4 ⟨t, rfl, -, rfl⟩
  clear w0 w1 w2
  go_wp2_with fail
  have hM : ((decide (1 ≤ (s.size : Int)) && decide ((s.size : Int) ≤ 16)) == (decide (1 ≤ (s.size : Int)) && decide ((s.size : Int) ≤ 16))) = true := by simp
  have hI : (inb s f t == inb s f t) = true := by simp
  have HS : Hid (s.size ≤ 9223372036854775807) := by show _ ≤ _; omega
  refine (float_any s _ HS.out).mono ?_
  rintro e x ⟨rfl, hb⟩
  have hB := hb1.trans (hb.mono hb1.size)
  clear hb hb1
  have HMay := hide (fun W => kmay_any s W HS.out)
  have HRef := hide (fun W => refMayKey_any s W HS.out)
  generalize (decide (1 ≤ (s.size : Int)) && decide ((s.size : Int) ≤ 16)) = M at *
  by_cases h9 : s.size = 9
  · cases hf : hasf s
    · have HK := hide (hasf_not hf)
      have h0 := (hasf_at (s := s) (by omega)).symm.trans hf
      rw [HK.out]
      clear hf
      go_wp2_with fail
      with_reducible refine (HMay.out _).mono ?_
      rintro e x ⟨rfl, rfl⟩
      go_wp2_with fail
      with_reducible refine (HRef.out _).mono ?_
      rintro e x ⟨rfl, rfl⟩
      go_wp2_with fail
      with_reducible refine (in_any s f t _).mono ?_
      rintro e x ⟨rfl, rfl⟩
      go_wp2_with fail
      with_reducible refine (refIn_any s f t _).mono ?_
      rintro e x ⟨rfl, rfl⟩
      go_wp2_with fail
      with_reducible refine (eq_any 0 0 _).mono ?_
      rintro e x ⟨rfl, rfl⟩
      rw [show decide ((0 : Nat) = 0) = true by decide]
      go_wp2_with fail
      go_ret
      exact ⟨rfl, hB⟩
    · have HK := hide (hasf_kf hf)
      have h0 := (hasf_at (s := s) (by omega)).symm.trans hf
      rw [HK.out, h9]
      have hr : (s.extract 1 9).size ≤ 9223372036854775807 := by simp; omega
      clear hf HK
      generalize hq : s.extract 1 9 = q at *
      have hcv := fun (W : World) => Lib.run_convert_string_bytes (P := Try.prog) W 9 28 5 q Try.underlying9 Try.underlying28 Try.underlying5
      have HSL := hide (conv_sl x q hr)
      have HB := hide (conv_below x q)
      obtain ⟨r1, r2, r3⟩ := ro_fo (sb q)
      have R1 := hide r1
      have R2 := hide r2
      have R3 := hide r3
      clear r1 r2 r3
      cases hok : (Fl.fo (sb q)).2
      · have HG := hide (R3.out hok)
        have HOK2 := hide (R1.out.trans hok)
        rw [HG.out]
        clear hok R1 R2 R3
        go_wp2_with fail
        generalize Lib.bytesWorld x 5 q = W at *
        generalize grownCap x q.size 0 5 = gc at *
        refine (refOf_any _ _ _ HSL.out).mono ?_
        rintro e x5 ⟨rfl, hb5⟩
        rw [HOK2.out]
        replace hB := hB.trans ((HB.out.trans (hb5.mono HB.out.size)).mono hB.size)
        clear HSL HB hb5
        generalize (ro (sb q)).1 = g at *
        go_wp2_with fail
        with_reducible refine (HMay.out _).mono ?_
        rintro e x ⟨rfl, rfl⟩
        go_wp2_with fail
        with_reducible refine (HRef.out _).mono ?_
        rintro e x ⟨rfl, rfl⟩
        go_wp2_with fail
        with_reducible refine (in_any s f t _).mono ?_
        rintro e x ⟨rfl, rfl⟩
        go_wp2_with fail
        with_reducible refine (refIn_any s f t _).mono ?_
        rintro e x ⟨rfl, rfl⟩
        go_wp2_with fail
        with_reducible refine (eq_any 0 0 _).mono ?_
        rintro e x ⟨rfl, rfl⟩
        rw [show decide ((0 : Nat) = 0) = true by decide]
        go_wp2_with fail
        go_ret
        exact ⟨rfl, hB⟩
      · have HG := hide (R2.out hok)
        have HOK2 := hide (R1.out.trans hok)
        rw [HG.out]
        clear hok R1 R2 R3
        go_wp2_with fail
        generalize Lib.bytesWorld x 5 q = W at *
        generalize grownCap x q.size 0 5 = gc at *
        refine (refOf_any _ _ _ HSL.out).mono ?_
        rintro e x5 ⟨rfl, hb5⟩
        rw [HOK2.out]
        replace hB := hB.trans ((HB.out.trans (hb5.mono HB.out.size)).mono hB.size)
        clear HSL HB hb5 HG
        generalize (ro (sb q)).1 = g at *
        go_wp2_with fail
        with_reducible refine (eq_any g g _).mono ?_
        rintro e x ⟨rfl, rfl⟩
        rw [show decide (g = g) = true by simp]
        go_wp2_with fail
        with_reducible refine (HMay.out _).mono ?_
        rintro e x ⟨rfl, rfl⟩
        go_wp2_with fail
        with_reducible refine (HRef.out _).mono ?_
        rintro e x ⟨rfl, rfl⟩
        go_wp2_with fail
        with_reducible refine (in_any s f t _).mono ?_
        rintro e x ⟨rfl, rfl⟩
        go_wp2_with fail
        with_reducible refine (refIn_any s f t _).mono ?_
        rintro e x ⟨rfl, rfl⟩
        go_wp2_with fail
        go_ret
        exact ⟨rfl, hB⟩
  · have HK := hide (kf_len h9)
    have h9' : ((s.size : Int) == 9) = false := by simp; omega
    rw [HK.out]
    clear h9
    go_wp2_with fail
    with_reducible refine (HMay.out _).mono ?_
    rintro e x ⟨rfl, rfl⟩
    go_wp2_with fail
    with_reducible refine (HRef.out _).mono ?_
    rintro e x ⟨rfl, rfl⟩
    go_wp2_with fail
    with_reducible refine (in_any s f t _).mono ?_
    rintro e x ⟨rfl, rfl⟩
    go_wp2_with fail
    with_reducible refine (refIn_any s f t _).mono ?_
    rintro e x ⟨rfl, rfl⟩
    go_wp2_with fail
    with_reducible refine (eq_any 0 0 _).mono ?_
    rintro e x ⟨rfl, rfl⟩
    rw [show decide ((0 : Nat) = 0) = true by decide]
    go_wp2_with fail
    go_ret
    exact ⟨rfl, hB⟩

set_option maxRecDepth 100000 in
theorem lifted (os : Os) (started : os.Started) (H : Type) (enc : TypeId × Value → H) :
    ReturnsInHanded {} Try.checked os 3 .any (Rows.keyAllSpec.pre6 enc Try.prog Try.f3 Rows.keyAllRow.domain false) (Rows.keyAllSpec.post enc Try.prog Try.f3 false true false false) := by
  refine returnsInHanded_of_change (C := Try.checked) own started (by kernel_rfl) Try.func3
    (ChangeSpec.witness6 (enc := enc) (C := Try.checked) false ⟨#[], #[.string ByteArray.empty, .string ByteArray.empty, .string ByteArray.empty], []⟩ 8 (by kernel_rfl) (by kernel_rfl) (by kernel_rfl) (by kernel_rfl)) ?_
  intro W base args ds gs before hval0 hW hcnd _
  have hval : ∀ (j : Nat) t v, Try.f3.params[j]? = some t → args[j]? = some v → Value.okWide Try.prog W .any base t v := hval0
  have hW' := hW
  obtain ⟨p, q, hA0, hV, rfl, hfz, hnd⟩ := hW
  have hA : DataW.TrodAll enc Try.prog W 0 (fun _ => true) true Try.f3.params.toList args.toList ds p := hA0
  rw [Try.params3] at hA hval
  obtain ⟨v0, vs0, d0, ds0, p0, q0, hargs, rfl, rfl, h0, r0⟩ := trodAll_cons hA
  obtain ⟨v1, vs1, d1, ds1, p1, q1, rfl, rfl, rfl, h1, r1⟩ := trodAll_cons r0
  obtain ⟨v2, vs2, d2, ds2, p2, q2, rfl, rfl, rfl, h2, r2⟩ := trodAll_cons r1
  obtain ⟨rfl, rfl, rfl⟩ := trodAll_nil r2
  obtain rfl : args = #[v0, v1, v2] := by cases args; simp_all
  obtain ⟨rfl, rfl⟩ := trodVars_none hV
  obtain ⟨a0, rfl, rfl, rfl, w0⟩ := open_string Try.underlying9 (hval 0 9 v0 rfl rfl) h0
  obtain ⟨a1, rfl, rfl, rfl, w1⟩ := open_string Try.underlying9 (hval 1 9 v1 rfl rfl) h1
  obtain ⟨a2, rfl, rfl, rfl, w2⟩ := open_string Try.underlying9 (hval 2 9 v2 rfl rfl) h2
  clear hA0 hval0
  refine (walk a0 a1 a2 w0 w1 w2 W).mono fun e W' ⟨he, bel⟩ => ?_
  subst he
  exact ⟨_, rfl, _, _, _, [], _, [], hW', trodAll_mk1 (shut_bool Try.underlying4 _), (trodAll_cons_mk (shut_string Try.underlying9 w0) (trodAll_cons_mk (shut_string Try.underlying9 w1) (trodAll_cons_mk (shut_string Try.underlying9 w2) trodAll_mk0))), rfl, bel.frame _, fun h => by cases h⟩

theorem over : Rows.keyAllRow.holds Try.pinned (OpenSpec.ofChange Rows.keyAllSpec) :=
  OpenClaim.holds_of_wide 3 Try.f3 rfl rfl rfl rfl rfl rfl rfl ⟨rfl, rfl, rfl, rfl, rfl⟩ rfl rfl rfl rfl rfl (by kernel_rfl) Try.func3 (by kernel_rfl)
    (of_decide_eq_true (by kernel_rfl)) (by unfold Func.isWrapper; first | (rw [if_pos (by decide +kernel)]; kernel_rfl) | (rw [if_neg (by decide +kernel)]; exact ⟨rfl, rfl⟩))
    (fun os started H enc _ => lifted os started H enc)

theorem proved : Rows.KeyAllSaid :=
  over
#print axioms proved
end Go.Proofs.Ytlfdggmgmeihoaa.keyAll
