/-
  For every int kind, every uint64 bits, every text s and every int cut DatumCut returns true: of a value that may be (its text cut at 25 bytes) what datum.Put wrote, with bytes cut off at its end, is told by datum.Get as not all there. No condition.
-/
import Derived.Test.YtdooocbkhncmdaaRows
import Derived.WalkKit
import Derived.ProofKit
import Derived.OpenShut
import Derived.ShutString
import Derived.Test.YtdooocbkhncmdaaDatB
import Derived.ChangeOld
import Derived.Below
namespace Go.Proofs.Ytdooocbkhncmdaa.datumCut
open Go.ChangeShapes Go.WideShapes Go.ChangeAt Go.RowKit
open Go.ChangeMaps (open_string shut_string)
set_option linter.unusedVariables false

theorem own : ownKnob Try.prog.godebug = none := by kernel_rfl

set_option maxRecDepth 100000 in
set_option maxHeartbeats 2000000 in
theorem walk (a0 : Int) (a1 : Int) (a2 : ByteArray) (a3 : Int) (w0 : (Lit.int .i64 a0).wf = true) (w1 : (Lit.int .u64 a1).wf = true) (w2 : a2.size ≤ maxLen) (w3 : (Lit.int .i64 a3).wf = true) (w : World) :
    Calls Try.prog 5 #[.int .i64 a0, .int .u64 a1, .string a2, .int .i64 a3] w fun e w' => e = .returned (.bool true) ∧ Below w.heap.size w w' := by
  obtain ⟨h0, h1⟩ := bounds_i64 w0
  obtain ⟨g0, g1⟩ := bounds_u64 w1
  obtain ⟨k0, k1⟩ := bounds_i64 w3
  obtain ⟨X, rfl⟩ := Int.eq_ofNat_of_zero_le g0
  have hX : X < 18446744073709551616 := by omega
  clear w0 w1 w3 g0 g1
  have hsf := st_float
  go_enter Try.func5, Try.ntmps5
  go_wp2_with fail
  refine (begun_any _).mono ?_
  rintro e x1 ⟨rfl, hb1⟩
  go_wp2_with fail
  refine (val_any a0 X a2 _ w2).mono ?_
  rintro e x2 ⟨s, rfl, hs, hb2⟩
  have hBw := hb1.trans (hb2.mono hb1.size)
  clear hb1 hb2 w2
  have hsm : s.size ≤ maxLen := by unfold maxLen; omega
  go_wp2_with fail
  generalize hW : World.alloc _ _ = W0
  have hB0 : Below x2.heap.size x2 W0 := by rw [← hW]; exact (Below.refl _ _).alloc (Nat.le_refl _) _
  have HA : Hid (∀ w', Below W0.heap.size W0 w' → _) := fun w' hb => box_cells (w := x2) (w' := w') (by rw [hW]; exact hb)
  replace hBw := hBw.trans (hB0.mono hBw.size)
  clear hW hB0
  have hB : Below W0.heap.size W0 W0 := Below.refl _ _
  obtain ⟨c0, c1, c2⟩ := HA.out _ hB
  cases hm : Dt.may a0 X s
  · have HM := hide hm
    clear hm
    with_reducible refine (refMay_any a0 X s _ hsm hX).mono ?_
    rintro e x ⟨rfl, hb⟩
    rw [HM.out]
    replace hB := hB.trans (hb.mono hB.size)
    clear hb c0 c1 c2
    obtain ⟨c0, c1, c2⟩ := HA.out _ hB
    go_wp2_with fail
    go_ret
    exact ⟨rfl, hBw.trans (hB.mono hBw.size)⟩
  · have HM := hide hm
    have HCut := hide (fun m => Dt.get_cut hm m)
    have hpl := Dt.put_len (k := a0) (x := X) (s := s)
    have HPB := hide (Dt.put_bd (x := X) h0 h1 (show s.size ≤ 140737488350000 by omega))
    clear hm
    with_reducible refine (refMay_any a0 X s _ hsm hX).mono ?_
    rintro e x ⟨rfl, hb⟩
    rw [HM.out]
    replace hB := hB.trans (hb.mono hB.size)
    clear hb c0 c1 c2
    obtain ⟨c0, c1, c2⟩ := HA.out _ hB
    go_wp2_with fail
    refine (dput_any _ [] a0 X s _ (Sl.nil _) (by simp; omega) h0 h1 hX).mono ?_
    rintro e x ⟨v, rfl, ho, hb⟩
    replace hB := hB.trans (hb.mono hB.size)
    have hsl : Sl x v (Dt.put a0 X s) := Sl.own (by simpa using ho) HPB.out
    clear ho hb c0 c1 c2 HM HA HPB
    obtain ⟨p, n, cp, rfl, hn, hc, Hn, HS⟩ := hsl.opens
    clear hsl
    have hBw2 := hBw.trans (hB.mono hBw.size)
    rw [← Hn.out] at hpl
    by_cases hc1 : a3 < 1
    · go_wp2_with fail
      go_ret
      exact ⟨rfl, hBw2⟩
    · by_cases hc2 : (n : Int) < a3
      · go_wp2_with fail
        go_ret
        exact ⟨rfl, hBw2⟩
      · obtain ⟨m, hm⟩ := Int.eq_ofNat_of_zero_le (show 0 ≤ (n : Int) - a3 by omega)
        have HG : Hid (Dt.get ((Dt.put a0 X s).take m) = (0, 0, [], 0, 2)) := HCut.out m (by rw [← Hn.out]; omega)
        have HSm := hide (HS.out.head (m := m) (by rw [← Hn.out]; omega))
        obtain rfl : a3 = (n : Int) - (m : Int) := by omega
        have e1 : (n : Int) - ((n : Int) - (m : Int)) = m := by omega
        clear HCut HS hm
        go_wp2_with fail
        refine (dget_at HSm.out HG.out).mono ?_
        rintro e y ⟨rfl, hb⟩
        rw [nums_nil]
        replace hBw2 := hBw2.trans (hb.mono hBw2.size)
        clear hb
        go_wp2_with fail
        go_ret
        exact ⟨rfl, hBw2.alloc hBw2.size _⟩

set_option maxRecDepth 100000 in
theorem lifted (os : Os) (started : os.Started) (H : Type) (enc : TypeId × Value → H) :
    ReturnsInHanded {} Try.checked os 5 .any (Rows.datumCutSpec.pre6 enc Try.prog Try.f5 Rows.datumCutRow.domain false) (Rows.datumCutSpec.post enc Try.prog Try.f5 false true false false) := by
  refine returnsInHanded_of_change (C := Try.checked) own started (by kernel_rfl) Try.func5
    (ChangeSpec.witness6 (enc := enc) (C := Try.checked) false ⟨#[], #[.int .i64 0, .int .u64 0, .string ByteArray.empty, .int .i64 0], []⟩ 8 (by kernel_rfl) (by kernel_rfl) (by kernel_rfl) (by kernel_rfl)) ?_
  intro W base args ds gs before hval0 hW hcnd _
  have hval : ∀ (j : Nat) t v, Try.f5.params[j]? = some t → args[j]? = some v → Value.okWide Try.prog W .any base t v := hval0
  have hW' := hW
  obtain ⟨p, q, hA0, hV, rfl, hfz, hnd⟩ := hW
  have hA : DataW.TrodAll enc Try.prog W 0 (fun _ => true) true Try.f5.params.toList args.toList ds p := hA0
  rw [Try.params5] at hA hval
  obtain ⟨v0, vs0, d0, ds0, p0, q0, hargs, rfl, rfl, h0, r0⟩ := trodAll_cons hA
  obtain ⟨v1, vs1, d1, ds1, p1, q1, rfl, rfl, rfl, h1, r1⟩ := trodAll_cons r0
  obtain ⟨v2, vs2, d2, ds2, p2, q2, rfl, rfl, rfl, h2, r2⟩ := trodAll_cons r1
  obtain ⟨v3, vs3, d3, ds3, p3, q3, rfl, rfl, rfl, h3, r3⟩ := trodAll_cons r2
  obtain ⟨rfl, rfl, rfl⟩ := trodAll_nil r3
  obtain rfl : args = #[v0, v1, v2, v3] := by cases args; simp_all
  obtain ⟨rfl, rfl⟩ := trodVars_none hV
  obtain ⟨a0, rfl, rfl, rfl, w0⟩ := open_int Try.underlying3 (hval 0 3 v0 rfl rfl) h0
  obtain ⟨a1, rfl, rfl, rfl, w1⟩ := open_int Try.underlying22 (hval 1 22 v1 rfl rfl) h1
  obtain ⟨a2, rfl, rfl, rfl, w2⟩ := open_string Try.underlying9 (hval 2 9 v2 rfl rfl) h2
  obtain ⟨a3, rfl, rfl, rfl, w3⟩ := open_int Try.underlying3 (hval 3 3 v3 rfl rfl) h3
  clear hA0 hval0
  refine (walk a0 a1 a2 a3 w0 w1 w2 w3 W).mono fun e W' ⟨he, bel⟩ => ?_
  subst he
  exact ⟨_, rfl, _, _, _, [], _, [], hW', trodAll_mk1 (shut_bool Try.underlying4 _), (trodAll_cons_mk (shut_int Try.underlying3 w0) (trodAll_cons_mk (shut_int Try.underlying22 w1) (trodAll_cons_mk (shut_string Try.underlying9 w2) (trodAll_cons_mk (shut_int Try.underlying3 w3) trodAll_mk0)))), rfl, bel.frame _, fun h => by cases h⟩

theorem over : Rows.datumCutRow.holds Try.pinned (OpenSpec.ofChange Rows.datumCutSpec) :=
  OpenClaim.holds_of_wide 5 Try.f5 rfl rfl rfl rfl rfl rfl rfl ⟨rfl, rfl, rfl, rfl, rfl⟩ rfl rfl rfl rfl rfl (by kernel_rfl) Try.func5 (by kernel_rfl)
    (of_decide_eq_true (by kernel_rfl)) (by unfold Func.isWrapper; first | (rw [if_pos (by decide +kernel)]; kernel_rfl) | (rw [if_neg (by decide +kernel)]; exact ⟨rfl, rfl⟩))
    (fun os started H enc _ => lifted os started H enc)

theorem proved : Rows.DatumCutSaid :=
  over
#print axioms proved
end Go.Proofs.Ytdooocbkhncmdaa.datumCut
