/-
  For all texts s, from, mid and to KeySpan returns true: of a span cut in two at mid (20 bytes of each, mid not empty, not below from, not above to) key.In says of s that it is in just one part where it is in the span, and in none else. No condition.
-/
import Derived.Test.YtlfdggmgmeihoaaRows
import Derived.WalkKit
import Derived.ProofKit
import Derived.OpenShut
import Derived.ShutString
import Derived.Test.YtlfdggmgmeihoaaKeyB
import Derived.ChangeOld
import Derived.Below
namespace Go.Proofs.Ytlfdggmgmeihoaa.keySpan
open Go.ChangeShapes Go.WideShapes Go.ChangeAt Go.RowKit
open Go.ChangeMaps (open_string shut_string)
set_option linter.unusedVariables false

theorem own : ownKnob Try.prog.godebug = none := by kernel_rfl

theorem span_false {s f m t : ByteArray} (h1 : m.toList.isEmpty = false) (h2 : Op.bytesLess m.toList f.toList = false) (h3 : (t.toList.isEmpty || !Op.bytesLess t.toList m.toList) = true) :
    (!(inb s f m && inb s m t) && (inb s f t == (inb s f m || inb s m t))) = true := by
  unfold inb
  rw [h1]
  cases a1 : Op.bytesLess s.toList f.toList
  · cases a2 : Op.bytesLess s.toList m.toList
    · cases t.toList.isEmpty <;> cases Op.bytesLess s.toList t.toList <;> rfl
    · cases a3 : t.toList.isEmpty
      · rw [a3] at h3
        have h4 : Op.bytesLess t.toList m.toList = false := by simpa using h3
        have h5 : Op.bytesLess s.toList t.toList = true := by
          cases a4 : Op.bytesLess s.toList t.toList
          · have : Op.bytesLess s.toList m.toList = false := Ky.ge_trans a4 h4
            rw [a2] at this
            cases this
          · rfl
        rw [h5]
        rfl
      · rfl
  · have h4 : Op.bytesLess s.toList m.toList = true := by
      cases a4 : Op.bytesLess s.toList m.toList
      · have : Op.bytesLess s.toList f.toList = false := Ky.ge_trans a4 h2
        rw [a1] at this
        cases this
      · rfl
    rw [h4]
    rfl

set_option maxRecDepth 100000 in
set_option maxHeartbeats 2000000 in
theorem walk (a0 : ByteArray) (a1 : ByteArray) (a2 : ByteArray) (a3 : ByteArray) (w0 : a0.size ≤ maxLen) (w1 : a1.size ≤ maxLen) (w2 : a2.size ≤ maxLen) (w3 : a3.size ≤ maxLen) (w : World) :
    Calls Try.prog 7 #[.string a0, .string a1, .string a2, .string a3] w fun e w' => e = .returned (.bool true) ∧ Below w.heap.size w w' := by
  go_enter Try.func7, Try.ntmps7
  go_wp2_with fail
  refine (begun_any _).mono ?_
  rintro e x1 ⟨rfl, hb1⟩
  go_wp2_with fail
  with_reducible refine (cut20_any a0 _ w0).mono ?_
  rintro e x2 ⟨s, rfl, -, rfl⟩
  go_wp2_with fail
  with_reducible refine (cut20_any a1 _ w1).mono ?_
  rintro e x3 ⟨f, rfl, -, rfl⟩
  go_wp2_with fail
  with_reducible refine (cut20_any a2 _ w2).mono ?_
  rintro e x4 ⟨m, rfl, -, rfl⟩
  go_wp2_with fail
  with_reducible refine (cut20_any a3 _ w3).mono ?_
  rintro e x5 ⟨t, rfl, -, rfl⟩
  cases h1 : m.toList.isEmpty
  · cases h2 : Op.bytesLess m.toList f.toList
    · have hle := Ky.le_not m.toList t.toList
      cases h3 : t.toList.isEmpty
      · cases h4 : Op.bytesLess t.toList m.toList
        · rw [show Ky.bl t.toList m.toList = false from h4] at hle
          have HS := hide (span_false (s := s) h1 h2 (show (t.toList.isEmpty || !Op.bytesLess t.toList m.toList) = true by rw [h3, h4]; rfl))
          clear h4
          generalize hA : inb s f m = A at *
          generalize hC : inb s m t = C at *
          generalize hD : inb s f t = D at *
          have RA := hide hA
          have RC := hide hC
          have RD := hide hD
          clear hA hC hD
          have hS := HS.out
          clear HS
          cases A <;> cases C <;> cases D <;> first | (exfalso; revert hS; decide) | skip
          all_goals
            clear hS
            go_wp2_with fail
            with_reducible refine (in_any s f m _).mono ?_
            rintro e x ⟨rfl, rfl⟩
            rw [RA.out]
            go_wp2_with fail
            with_reducible refine (in_any s m t _).mono ?_
            rintro e x ⟨rfl, rfl⟩
            rw [RC.out]
            go_wp2_with fail
            with_reducible refine (in_any s f t _).mono ?_
            rintro e x ⟨rfl, rfl⟩
            rw [RD.out]
            go_wp2_with fail
            go_ret
            exact ⟨rfl, hb1⟩
        · rw [show Ky.bl t.toList m.toList = true from h4] at hle
          go_wp2_with fail
          go_ret
          exact ⟨rfl, hb1⟩
      · have HS := hide (span_false (s := s) h1 h2 (show (t.toList.isEmpty || !Op.bytesLess t.toList m.toList) = true by rw [h3]; rfl))
        clear hle
        generalize hA : inb s f m = A at *
        generalize hC : inb s m t = C at *
        generalize hD : inb s f t = D at *
        have RA := hide hA
        have RC := hide hC
        have RD := hide hD
        clear hA hC hD
        have hS := HS.out
        clear HS
        cases A <;> cases C <;> cases D <;> first | (exfalso; revert hS; decide) | skip
        all_goals
          clear hS
          go_wp2_with fail
          with_reducible refine (in_any s f m _).mono ?_
          rintro e x ⟨rfl, rfl⟩
          rw [RA.out]
          go_wp2_with fail
          with_reducible refine (in_any s m t _).mono ?_
          rintro e x ⟨rfl, rfl⟩
          rw [RC.out]
          go_wp2_with fail
          with_reducible refine (in_any s f t _).mono ?_
          rintro e x ⟨rfl, rfl⟩
          rw [RD.out]
          go_wp2_with fail
          go_ret
          exact ⟨rfl, hb1⟩
    · go_wp2_with fail
      go_ret
      exact ⟨rfl, hb1⟩
  · go_wp2_with fail
    go_ret
    exact ⟨rfl, hb1⟩

set_option maxRecDepth 100000 in
theorem lifted (os : Os) (started : os.Started) (H : Type) (enc : TypeId × Value → H) :
    ReturnsInHanded {} Try.checked os 7 .any (Rows.keySpanSpec.pre6 enc Try.prog Try.f7 Rows.keySpanRow.domain false) (Rows.keySpanSpec.post enc Try.prog Try.f7 false true false false) := by
  refine returnsInHanded_of_change (C := Try.checked) own started (by kernel_rfl) Try.func7
    (ChangeSpec.witness6 (enc := enc) (C := Try.checked) false ⟨#[], #[.string ByteArray.empty, .string ByteArray.empty, .string ByteArray.empty, .string ByteArray.empty], []⟩ 8 (by kernel_rfl) (by kernel_rfl) (by kernel_rfl) (by kernel_rfl)) ?_
  intro W base args ds gs before hval0 hW hcnd _
  have hval : ∀ (j : Nat) t v, Try.f7.params[j]? = some t → args[j]? = some v → Value.okWide Try.prog W .any base t v := hval0
  have hW' := hW
  obtain ⟨p, q, hA0, hV, rfl, hfz, hnd⟩ := hW
  have hA : DataW.TrodAll enc Try.prog W 0 (fun _ => true) true Try.f7.params.toList args.toList ds p := hA0
  rw [Try.params7] at hA hval
  obtain ⟨v0, vs0, d0, ds0, p0, q0, hargs, rfl, rfl, h0, r0⟩ := trodAll_cons hA
  obtain ⟨v1, vs1, d1, ds1, p1, q1, rfl, rfl, rfl, h1, r1⟩ := trodAll_cons r0
  obtain ⟨v2, vs2, d2, ds2, p2, q2, rfl, rfl, rfl, h2, r2⟩ := trodAll_cons r1
  obtain ⟨v3, vs3, d3, ds3, p3, q3, rfl, rfl, rfl, h3, r3⟩ := trodAll_cons r2
  obtain ⟨rfl, rfl, rfl⟩ := trodAll_nil r3
  obtain rfl : args = #[v0, v1, v2, v3] := by cases args; simp_all
  obtain ⟨rfl, rfl⟩ := trodVars_none hV
  obtain ⟨a0, rfl, rfl, rfl, w0⟩ := open_string Try.underlying9 (hval 0 9 v0 rfl rfl) h0
  obtain ⟨a1, rfl, rfl, rfl, w1⟩ := open_string Try.underlying9 (hval 1 9 v1 rfl rfl) h1
  obtain ⟨a2, rfl, rfl, rfl, w2⟩ := open_string Try.underlying9 (hval 2 9 v2 rfl rfl) h2
  obtain ⟨a3, rfl, rfl, rfl, w3⟩ := open_string Try.underlying9 (hval 3 9 v3 rfl rfl) h3
  clear hA0 hval0
  refine (walk a0 a1 a2 a3 w0 w1 w2 w3 W).mono fun e W' ⟨he, bel⟩ => ?_
  subst he
  exact ⟨_, rfl, _, _, _, [], _, [], hW', trodAll_mk1 (shut_bool Try.underlying4 _), (trodAll_cons_mk (shut_string Try.underlying9 w0) (trodAll_cons_mk (shut_string Try.underlying9 w1) (trodAll_cons_mk (shut_string Try.underlying9 w2) (trodAll_cons_mk (shut_string Try.underlying9 w3) trodAll_mk0)))), rfl, bel.frame _, fun h => by cases h⟩

theorem over : Rows.keySpanRow.holds Try.pinned (OpenSpec.ofChange Rows.keySpanSpec) :=
  OpenClaim.holds_of_wide 7 Try.f7 rfl rfl rfl rfl rfl rfl rfl ⟨rfl, rfl, rfl, rfl, rfl⟩ rfl rfl rfl rfl rfl (by kernel_rfl) Try.func7 (by kernel_rfl)
    (of_decide_eq_true (by kernel_rfl)) (by unfold Func.isWrapper; first | (rw [if_pos (by decide +kernel)]; kernel_rfl) | (rw [if_neg (by decide +kernel)]; exact ⟨rfl, rfl⟩))
    (fun os started H enc _ => lifted os started H enc)

theorem proved : Rows.KeySpanSaid :=
  over
#print axioms proved
end Go.Proofs.Ytlfdggmgmeihoaa.keySpan
