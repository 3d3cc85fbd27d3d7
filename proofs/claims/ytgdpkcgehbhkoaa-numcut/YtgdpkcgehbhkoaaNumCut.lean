/-
  For every int64 n, every text s and every int cut NumCut returns true: what num.Put and num.PutText write, cut off anywhere, is told as not all there. No condition.
-/
import Derived.Test.YtgdpkcgehbhkoaaRows
import Derived.WalkKit
import Derived.ProofKit
import Derived.OpenShut
import Derived.ShutString
import Derived.Test.YtgdpkcgehbhkoaaNumB
import Derived.ChangeOld
import Derived.Below
namespace Go.Proofs.Ytgdpkcgehbhkoaa.numCut
open Go.ChangeShapes Go.WideShapes Go.ChangeAt Go.RowKit
open Go.ChangeMaps (open_string shut_string)
set_option linter.unusedVariables false

theorem own : ownKnob Try.prog.godebug = none := by kernel_rfl

set_option maxRecDepth 100000 in
set_option maxHeartbeats 1000000 in
theorem walk (a0 : Int) (a1 : ByteArray) (a2 : Int) (w0 : (Lit.int .i64 a0).wf = true) (w1 : a1.size ≤ maxLen) (w2 : (Lit.int .i64 a2).wf = true) (w : World) :
    Calls Try.prog 5 #[.int .i64 a0, .string a1, .int .i64 a2] w fun e w' => e = .returned (.bool true) ∧ Below w.heap.size w w' := by
  obtain ⟨h0, h1⟩ := bounds_i64 w0
  obtain ⟨c0, c1⟩ := bounds_i64 w2
  have hl := Nm.num_len a0
  have HB := hide (Nm.num_bd a0 h0 h1)
  clear w0 w2
  go_enter Try.func5, Try.ntmps5
  go_wp2_with fail
  refine (begun_any _).mono ?_
  rintro e x1 ⟨rfl, hb1⟩
  go_wp2_with fail
  refine (cut_any a1 100 _ w1).mono ?_
  rintro e x2 ⟨s, rfl, hs, -, rfl⟩
  clear w1
  go_wp2_with fail
  refine (put_any _ [] a0 _ (Sl.nil _) (by simp) h0 h1).mono ?_
  rintro e x3 ⟨v3, rfl, ho3, hb3⟩
  have hsl3 : Sl x3 v3 (Nm.num a0) := Sl.own (by simpa using ho3) HB.out
  clear ho3
  go_wp2_with fail
  refine (putText_any _ [] s _ (Sl.nil _) (by simp; omega)).mono ?_
  rintro e x4 ⟨v4, rfl, ho4, hb4⟩
  have htb : ∀ z ∈ Nm.text (sb s), 0 ≤ z ∧ z ≤ 255 := by
    intro z hz
    rcases List.mem_append.1 hz with h | h
    · exact Nm.num_bd _ (by omega) (by rw [sb_len]; omega) z h
    · exact sb_bd s z h
  have hsl4 : Sl x4 v4 (Nm.text (sb s)) := Sl.own (by simpa using ho4) htb
  have hsl3' := hsl3.later hb4
  have hb : Below w.heap.size w x4 := (hb1.trans (hb3.mono hb1.size)).trans (hb4.mono (by have := hb1.size; have := hb3.size; omega))
  have hcut := fun m h => Nm.get_num_cut a0 h0 h1 m h
  have hcutT := fun m h => Nm.getText_cut (sb s) m (by rw [sb_len]; omega) h
  have hlt := Nm.text_len (sb s)
  have hnl := Nm.num_len ((sb s).length : Int)
  rw [sb_len] at hlt hnl
  clear hb1 hb3 hb4 ho4 hsl3 htb HB
  have H3 := hide hsl3'
  have H4 := hide hsl4
  have HC := hide hcut
  have HT := hide hcutT
  obtain ⟨p3, q3, rfl, hq3, hm3, -, -⟩ := hsl3'
  obtain ⟨p4, q4, rfl, hq4, hm4, -, -⟩ := hsl4
  unfold maxLen at hm3 hm4
  clear hcut hcutT
  generalize hL : (Nm.num a0).length = L at *
  generalize hLT : (Nm.text (sb s)).length = LT at *
  have EL := hide hL
  have ELT := hide hLT
  have hLT2 : LT ≤ 110 := by omega
  clear hL hLT hlt hnl
  by_cases hc : a2 < 1
  · go_wp2_with fail
    go_ret
    exact ⟨rfl, hb⟩
  · obtain ⟨c, rfl⟩ := Int.eq_ofNat_of_zero_le (show 0 ≤ a2 by omega)
    have hc' : ¬ ((c : Int) < 1) := hc
    by_cases hA : c ≤ L
    · obtain ⟨m, rfl⟩ : ∃ m, L = m + c := ⟨L - c, by omega⟩
      have hS := H3.out.head (m := m) (by rw [EL.out]; omega)
      have hG := HC.out m (by omega)
      have HS := hide hS
      have HG := hide hG
      clear hS hG
      go_wp2_with fail
      refine (get_at HS.out HG.out).mono ?_
      rintro e x5 ⟨rfl, rfl⟩
      by_cases hB : c ≤ LT
      · obtain ⟨n, rfl⟩ : ∃ n, LT = n + c := ⟨LT - c, by omega⟩
        have HS2 := hide (H4.out.head (m := n) (by rw [ELT.out]; omega))
        have HG2 := hide (HT.out n (by omega))
        go_wp2_with fail
        refine (getText_at HS2.out HG2.out).mono ?_
        rintro e x6 ⟨rfl, rfl⟩
        have e0 : strOfNums [] = ⟨#[]⟩ := rfl
        go_wp2_with fail
        go_ret
        exact ⟨rfl, hb⟩
      · go_wp2_with fail
        go_ret
        exact ⟨rfl, hb⟩
    · by_cases hB : c ≤ LT
      · obtain ⟨n, rfl⟩ : ∃ n, LT = n + c := ⟨LT - c, by omega⟩
        have HS2 := hide (H4.out.head (m := n) (by rw [ELT.out]; omega))
        have HG2 := hide (HT.out n (by omega))
        go_wp2_with fail
        refine (getText_at HS2.out HG2.out).mono ?_
        rintro e x6 ⟨rfl, rfl⟩
        have e0 : strOfNums [] = ⟨#[]⟩ := rfl
        go_wp2_with fail
        go_ret
        exact ⟨rfl, hb⟩
      · go_wp2_with fail
        go_ret
        exact ⟨rfl, hb⟩

set_option maxRecDepth 100000 in
theorem lifted (os : Os) (started : os.Started) (H : Type) (enc : TypeId × Value → H) :
    ReturnsInHanded {} Try.checked os 5 .any (Rows.numCutSpec.pre6 enc Try.prog Try.f5 Rows.numCutRow.domain false) (Rows.numCutSpec.post enc Try.prog Try.f5 false true false false) := by
  refine returnsInHanded_of_change (C := Try.checked) own started (by kernel_rfl) Try.func5
    (ChangeSpec.witness6 (enc := enc) (C := Try.checked) false ⟨#[], #[.int .i64 0, .string ByteArray.empty, .int .i64 0], []⟩ 8 (by kernel_rfl) (by kernel_rfl) (by kernel_rfl) (by kernel_rfl)) ?_
  intro W base args ds gs before hval0 hW hcnd _
  have hval : ∀ (j : Nat) t v, Try.f5.params[j]? = some t → args[j]? = some v → Value.okWide Try.prog W .any base t v := hval0
  have hW' := hW
  obtain ⟨p, q, hA0, hV, rfl, hfz, hnd⟩ := hW
  have hA : DataW.TrodAll enc Try.prog W 0 (fun _ => true) true Try.f5.params.toList args.toList ds p := hA0
  rw [Try.params5] at hA hval
  obtain ⟨v0, vs0, d0, ds0, p0, q0, hargs, rfl, rfl, h0, r0⟩ := trodAll_cons hA
  obtain ⟨v1, vs1, d1, ds1, p1, q1, rfl, rfl, rfl, h1, r1⟩ := trodAll_cons r0
  obtain ⟨v2, vs2, d2, ds2, p2, q2, rfl, rfl, rfl, h2, r2⟩ := trodAll_cons r1
  obtain ⟨rfl, rfl, rfl⟩ := trodAll_nil r2
  obtain rfl : args = #[v0, v1, v2] := by cases args; simp_all
  obtain ⟨rfl, rfl⟩ := trodVars_none hV
  obtain ⟨a0, rfl, rfl, rfl, w0⟩ := open_int Try.underlying2 (hval 0 2 v0 rfl rfl) h0
  obtain ⟨a1, rfl, rfl, rfl, w1⟩ := open_string Try.underlying9 (hval 1 9 v1 rfl rfl) h1
  obtain ⟨a2, rfl, rfl, rfl, w2⟩ := open_int Try.underlying3 (hval 2 3 v2 rfl rfl) h2
  clear hA0 hval0
  refine (walk a0 a1 a2 w0 w1 w2 W).mono fun e W' ⟨he, bel⟩ => ?_
  subst he
  exact ⟨_, rfl, _, _, _, [], _, [], hW', trodAll_mk1 (shut_bool Try.underlying4 _), (trodAll_cons_mk (shut_int Try.underlying2 w0) (trodAll_cons_mk (shut_string Try.underlying9 w1) (trodAll_cons_mk (shut_int Try.underlying3 w2) trodAll_mk0))), rfl, bel.frame _, fun h => by cases h⟩

theorem over : Rows.numCutRow.holds Try.pinned (OpenSpec.ofChange Rows.numCutSpec) :=
  OpenClaim.holds_of_wide 5 Try.f5 rfl rfl rfl rfl rfl rfl rfl ⟨rfl, rfl, rfl, rfl, rfl⟩ rfl rfl rfl rfl rfl (by kernel_rfl) Try.func5 (by kernel_rfl)
    (of_decide_eq_true (by kernel_rfl)) (by unfold Func.isWrapper; first | (rw [if_pos (by decide +kernel)]; kernel_rfl) | (rw [if_neg (by decide +kernel)]; exact ⟨rfl, rfl⟩))
    (fun os started H enc _ => lifted os started H enc)

theorem proved : Rows.NumCutSaid :=
  over
#print axioms proved
end Go.Proofs.Ytgdpkcgehbhkoaa.numCut
