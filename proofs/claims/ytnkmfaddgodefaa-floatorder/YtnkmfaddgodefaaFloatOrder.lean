/-
  For all uint64s x and y FloatOrder returns true: float.Less, float.Same and the order of float.Bytes of two floats (by their bits) are the order that the document says. No condition.
-/
import Derived.Test.YtnkmfaddgodefaaRows
import Derived.WalkKit
import Derived.ProofKit
import Derived.OpenShut
import Derived.ShutString
import Derived.Test.YtnkmfaddgodefaaFltP
import Derived.Test.YtnkmfaddgodefaaFltT
import Derived.ChangeOld
import Derived.Below
namespace Go.Proofs.Ytnkmfaddgodefaa.floatOrder
open Go.ChangeShapes Go.WideShapes Go.ChangeAt Go.RowKit
open Go.ChangeMaps (open_string shut_string)
set_option linter.unusedVariables false

theorem own : ownKnob Try.prog.godebug = none := by kernel_rfl

set_option maxRecDepth 100000 in
set_option maxHeartbeats 1000000 in
theorem walk (a0 : Int) (a1 : Int) (w0 : (Lit.int .u64 a0).wf = true) (w1 : (Lit.int .u64 a1).wf = true) (w : World) :
    Calls Try.prog 3 #[.int .u64 a0, .int .u64 a1] w fun e w' => e = .returned (.bool true) ∧ Below w.heap.size w w' := by
  obtain ⟨h0, h1⟩ := bounds_u64 w0
  obtain ⟨g0, g1⟩ := bounds_u64 w1
  obtain ⟨X, rfl⟩ := Int.eq_ofNat_of_zero_le h0
  obtain ⟨Y, rfl⟩ := Int.eq_ofNat_of_zero_le g0
  have hX : X < 18446744073709551616 := by omega
  have hY : Y < 18446744073709551616 := by omega
  clear w0 w1 h0 h1 g0 g1
  have rX := Fl.rk_bd hX
  have rY := Fl.rk_bd hY
  have key : ∃ p q : Int, ∃ l s : Bool, (Fl.rk X : Int) - 9223372036854775808 = p ∧ (Fl.rk Y : Int) - 9223372036854775808 = q ∧ decide (p < q) = l ∧ (p == q) = s ∧
      decide (Fl.rk X < Fl.rk Y) = l ∧ decide (Fl.rk X = Fl.rk Y) = s := by
    refine ⟨_, _, _, _, rfl, rfl, rfl, rfl, ?_, ?_⟩
    · rw [decide_eq_decide]; omega
    · rw [Bool.eq_iff_iff]; simp; omega
  obtain ⟨p, q, l, s, hp, hq, hl, hs, hL, hS⟩ := key
  have TL := tl_less rX rY l hL
  have TE := tl_eq rX rY s hS
  have HP := hide hp
  have HQ := hide hq
  have HL := hide hL
  have HS := hide hS
  clear hp hq hL hS
  cases l <;> cases s
  all_goals
    go_enter Try.func3, Try.ntmps3
    go_wp2_with fail
    refine (begun_any _).mono ?_
    rintro e x1 ⟨rfl, hb1⟩
    go_wp2_with fail
    with_reducible refine (of_any X _).mono ?_
    rintro e x ⟨rfl, rfl⟩
    go_wp2_with fail
    with_reducible refine (of_any Y _).mono ?_
    rintro e x ⟨rfl, rfl⟩
    go_wp2_with fail
    with_reducible refine (place_any X _ hX).mono ?_
    rintro e x ⟨rfl, rfl⟩
    rw [HP.out]
    go_wp2_with fail
    with_reducible refine (place_any Y _ hY).mono ?_
    rintro e x ⟨rfl, rfl⟩
    rw [HQ.out]
    go_wp2_with fail
    refine (bytes_any X _ hX).mono ?_
    rintro e x2 ⟨v2, rfl, ho2, hb2⟩
    have hs2 : Sl x2 v2 (Fl.be (Fl.rk X)) := Sl.own ho2 (Fl.be_bd _)
    have hB2 := hb1.trans (hb2.mono hb1.size)
    clear ho2 hb2 hb1
    go_wp2_with fail
    refine (bytes_any Y _ hY).mono ?_
    rintro e x3 ⟨v3, rfl, ho3, hb3⟩
    have hs3 : Sl x3 v3 (Fl.be (Fl.rk Y)) := Sl.own ho3 (Fl.be_bd _)
    have hB3 := hB2.trans (hb3.mono hB2.size)
    have hc2 := (hs2.later hb3).conv (P := Try.prog) 27 9 5 Try.underlying27 Try.underlying5 Try.underlying9
    have hc3 := hs3.conv (P := Try.prog) 27 9 5 Try.underlying27 Try.underlying5 Try.underlying9
    clear ho3 hb3 hB2 hs2 hs3
    go_wp2_with fail
    with_reducible refine (less_any X Y _ hX hY).mono ?_
    rintro e x ⟨rfl, rfl⟩
    rw [HL.out]
    go_wp2_with fail
    with_reducible refine (same_any X Y _ hX hY).mono ?_
    rintro e x ⟨rfl, rfl⟩
    rw [HS.out]
    go_wp2_with fail
    go_ret
    exact ⟨rfl, hB3⟩

set_option maxRecDepth 100000 in
theorem lifted (os : Os) (started : os.Started) (H : Type) (enc : TypeId × Value → H) :
    ReturnsInHanded {} Try.checked os 3 .any (Rows.floatOrderSpec.pre6 enc Try.prog Try.f3 Rows.floatOrderRow.domain false) (Rows.floatOrderSpec.post enc Try.prog Try.f3 false true false false) := by
  refine returnsInHanded_of_change (C := Try.checked) own started (by kernel_rfl) Try.func3
    (ChangeSpec.witness6 (enc := enc) (C := Try.checked) false ⟨#[], #[.int .u64 0, .int .u64 0], []⟩ 8 (by kernel_rfl) (by kernel_rfl) (by kernel_rfl) (by kernel_rfl)) ?_
  intro W base args ds gs before hval0 hW hcnd _
  have hval : ∀ (j : Nat) t v, Try.f3.params[j]? = some t → args[j]? = some v → Value.okWide Try.prog W .any base t v := hval0
  have hW' := hW
  obtain ⟨p, q, hA0, hV, rfl, hfz, hnd⟩ := hW
  have hA : DataW.TrodAll enc Try.prog W 0 (fun _ => true) true Try.f3.params.toList args.toList ds p := hA0
  rw [Try.params3] at hA hval
  obtain ⟨v0, vs0, d0, ds0, p0, q0, hargs, rfl, rfl, h0, r0⟩ := trodAll_cons hA
  obtain ⟨v1, vs1, d1, ds1, p1, q1, rfl, rfl, rfl, h1, r1⟩ := trodAll_cons r0
  obtain ⟨rfl, rfl, rfl⟩ := trodAll_nil r1
  obtain rfl : args = #[v0, v1] := by cases args; simp_all
  obtain ⟨rfl, rfl⟩ := trodVars_none hV
  obtain ⟨a0, rfl, rfl, rfl, w0⟩ := open_int Try.underlying22 (hval 0 22 v0 rfl rfl) h0
  obtain ⟨a1, rfl, rfl, rfl, w1⟩ := open_int Try.underlying22 (hval 1 22 v1 rfl rfl) h1
  clear hA0 hval0
  refine (walk a0 a1 w0 w1 W).mono fun e W' ⟨he, bel⟩ => ?_
  subst he
  exact ⟨_, rfl, _, _, _, [], _, [], hW', trodAll_mk1 (shut_bool Try.underlying4 _), (trodAll_cons_mk (shut_int Try.underlying22 w0) (trodAll_cons_mk (shut_int Try.underlying22 w1) trodAll_mk0)), rfl, bel.frame _, fun h => by cases h⟩

theorem over : Rows.floatOrderRow.holds Try.pinned (OpenSpec.ofChange Rows.floatOrderSpec) :=
  OpenClaim.holds_of_wide 3 Try.f3 rfl rfl rfl rfl rfl rfl rfl ⟨rfl, rfl, rfl, rfl, rfl⟩ rfl rfl rfl rfl rfl (by kernel_rfl) Try.func3 (by kernel_rfl)
    (of_decide_eq_true (by kernel_rfl)) (by unfold Func.isWrapper; first | (rw [if_pos (by decide +kernel)]; kernel_rfl) | (rw [if_neg (by decide +kernel)]; exact ⟨rfl, rfl⟩))
    (fun os started H enc _ => lifted os started H enc)

theorem proved : Rows.FloatOrderSaid :=
  over
#print axioms proved
end Go.Proofs.Ytnkmfaddgodefaa.floatOrder
