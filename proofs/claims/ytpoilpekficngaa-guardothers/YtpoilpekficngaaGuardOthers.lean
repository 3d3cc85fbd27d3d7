/-
  For every text s, every int n and every int which GuardOthers returns true: a panic with a text or with an int goes on through guard.Try, the same value. No condition.
-/
import Derived.Test.YtpoilpekficngaaRows
import Derived.WalkKit
import Derived.ProofKit
import Derived.OpenShut
import Derived.ShutString
import Derived.Test.YtpoilpekficngaaGrdB
import Derived.ChangeOld
import Derived.Below
namespace Go.Proofs.Ytpoilpekficngaa.guardOthers
open Go.ChangeShapes Go.WideShapes Go.ChangeAt Go.RowKit
open Go.ChangeMaps (open_string shut_string)
set_option linter.unusedVariables false

theorem own : ownKnob Try.prog.godebug = none := by kernel_rfl

theorem enters15 (cap : Array Value) (w : World) : (callFunc 15 cap).run Try.prog w = .ok (.enter 15 cap) w := by kernel_rfl

/-- What is panicked with. -/
def bears (t : Bool) (s : ByteArray) (n : Int) : Value := if t then .iface 9 (.string s) else .iface 3 (.int .i64 n)
theorem bears_other (t : Bool) (s : ByteArray) (n : Int) : Other (bears t s n) := by
  cases t
  · exact other_int n
  · exact other_string s

theorem panics_any (pw ps pn : Addr) (s : ByteArray) (k n : Int) (t : Bool) (w : World) (hw : Var pw (.int .i64 k) w) (hs : Var ps (.string s) w) (hn : Var pn (.int .i64 n) w) (hk : (bits .and .i64 k 1 == 0) = t) :
    Calls Try.prog 15 #[.pointer (some pw), .pointer (some ps), .pointer (some pn)] w fun e w' =>
      e = .panicked [pan (bears t s n)] ∧ But (fun _ => False) w w' ∧ True := by
  obtain ⟨h0, _⟩ := hw
  obtain ⟨h1, _⟩ := hs
  obtain ⟨h2, _⟩ := hn
  cases t
  all_goals
    go_enter Try.func15, Try.ntmps15
    go_wp2_with fail
    exact ⟨rfl, rfl, But.refl _ _, trivial⟩

theorem is_text (s : ByteArray) (w : World) : (Instr.typeAssert (.iface 9 (.string s)) 20 9 true).run Try.prog w = .ok (.tuple #[.string s, .bool true]) w := by kernel_rfl
theorem is_int (n : Int) (w : World) : (Instr.typeAssert (.iface 3 (.int .i64 n)) 20 3 true).run Try.prog w = .ok (.tuple #[.int .i64 n, .bool true]) w := by kernel_rfl

set_option maxRecDepth 100000 in
set_option maxHeartbeats 2000000 in
theorem walk (a0 : ByteArray) (a1 : Int) (a2 : Int) (w0 : a0.size ≤ maxLen) (w1 : (Lit.int .i64 a1).wf = true) (w2 : (Lit.int .i64 a2).wf = true) (w : World) :
    Calls Try.prog 4 #[.string a0, .int .i64 a1, .int .i64 a2] w fun e w' => e = .returned (.bool true) ∧ Below w.heap.size w w' := by
  have hmf : ∀ (fn : Fn) (first cap : Array Value) (w : World), (Instr.makeFunc fn first cap).run Try.prog w = .ok (.func fn first cap) w := fun _ _ _ _ => rfl
  have hit := is_text
  have hii := is_int
  clear w1 w2
  go_enter Try.func4, Try.ntmps4
  go_wp2_with fail
  refine (begun_any _).mono ?_
  rintro e x1 ⟨rfl, hb1⟩
  obtain ⟨HB, hsz, v0, v1, v2⟩ := par3 hb1
  clear hb1
  have e0 := v0.1
  have e00 := v0.2
  by_cases hlen : 50 < a0.size
  · have u0 := v0.set (.string (a0.extract 0 50))
    have u1 := v1.other (q := ⟨w.heap.size, 0, none⟩) (by simp) (.string (a0.extract 0 50))
    have u2 := v2.other (q := ⟨w.heap.size, 0, none⟩) (by simp <;> omega) (.string (a0.extract 0 50))
    have HB2 := HB.setCell (p := ⟨w.heap.size, 0, none⟩) (Nat.le_refl _) (.string (a0.extract 0 50))
    clear HB v0 v1 v2
    go_wp2_with fail
    have hcall := tt_other (bears (bits .and .i64 a2 1 == 0) (a0.extract 0 50) a1) (bears_other _ (a0.extract 0 50) a1) 15 _ _ (fun _ => False) (fun _ => True) (enters15 _) (fun _ _ h => h) (fun _ _ _ _ => trivial) (panics_any _ _ _ (a0.extract 0 50) a2 a1 _ _ (uw_var u2) (uw_var u0) (uw_var u1) rfl)
    cases ht : (bits .and .i64 a2 1 == 0)
    all_goals
      rw [ht] at hcall
      refine hcall.mono ?_
      rintro e x2 ⟨rfl, hb, _⟩
      have HB3 := HB2.trans ((but_none hb).mono HB2.size)
      have f0 := (u0.but hb (fun h => h)).1
      have f1 := (u1.but hb (fun h => h)).1
      have f2 := (u2.but hb (fun h => h)).1
      clear hb hcall e0 e00 u0 u1 u2
      dsimp only [bears]
      simp only [if_true, if_false, Bool.false_eq_true]
      go_wp2_with fail
      go_ret
      exact ⟨ret_bool (by simp), HB3⟩
  · have u0 := v0
    have u1 := v1
    have u2 := v2
    have HB2 := HB
    clear HB v0 v1 v2
    go_wp2_with fail
    have hcall := tt_other (bears (bits .and .i64 a2 1 == 0) a0 a1) (bears_other _ a0 a1) 15 _ _ (fun _ => False) (fun _ => True) (enters15 _) (fun _ _ h => h) (fun _ _ _ _ => trivial) (panics_any _ _ _ a0 a2 a1 _ _ (uw_var u2) (uw_var u0) (uw_var u1) rfl)
    cases ht : (bits .and .i64 a2 1 == 0)
    all_goals
      rw [ht] at hcall
      refine hcall.mono ?_
      rintro e x2 ⟨rfl, hb, _⟩
      have HB3 := HB2.trans ((but_none hb).mono HB2.size)
      have f0 := (u0.but hb (fun h => h)).1
      have f1 := (u1.but hb (fun h => h)).1
      have f2 := (u2.but hb (fun h => h)).1
      clear hb hcall e0 e00 u0 u1 u2
      dsimp only [bears]
      simp only [if_true, if_false, Bool.false_eq_true]
      go_wp2_with fail
      go_ret
      exact ⟨ret_bool (by simp), HB3⟩

set_option maxRecDepth 100000 in
theorem lifted (os : Os) (started : os.Started) (H : Type) (enc : TypeId × Value → H) :
    ReturnsInHanded {} Try.checked os 4 .any (Rows.guardOthersSpec.pre6 enc Try.prog Try.f4 Rows.guardOthersRow.domain false) (Rows.guardOthersSpec.post enc Try.prog Try.f4 false true false false) := by
  refine returnsInHanded_of_change (C := Try.checked) own started (by kernel_rfl) Try.func4
    (ChangeSpec.witness6 (enc := enc) (C := Try.checked) false ⟨#[], #[.string ByteArray.empty, .int .i64 0, .int .i64 0], []⟩ 8 (by kernel_rfl) (by kernel_rfl) (by kernel_rfl) (by kernel_rfl)) ?_
  intro W base args ds gs before hval0 hW hcnd _
  have hval : ∀ (j : Nat) t v, Try.f4.params[j]? = some t → args[j]? = some v → Value.okWide Try.prog W .any base t v := hval0
  have hW' := hW
  obtain ⟨p, q, hA0, hV, rfl, hfz, hnd⟩ := hW
  have hA : DataW.TrodAll enc Try.prog W 0 (fun _ => true) true Try.f4.params.toList args.toList ds p := hA0
  rw [Try.params4] at hA hval
  obtain ⟨v0, vs0, d0, ds0, p0, q0, hargs, rfl, rfl, h0, r0⟩ := trodAll_cons hA
  obtain ⟨v1, vs1, d1, ds1, p1, q1, rfl, rfl, rfl, h1, r1⟩ := trodAll_cons r0
  obtain ⟨v2, vs2, d2, ds2, p2, q2, rfl, rfl, rfl, h2, r2⟩ := trodAll_cons r1
  obtain ⟨rfl, rfl, rfl⟩ := trodAll_nil r2
  obtain rfl : args = #[v0, v1, v2] := by cases args; simp_all
  obtain ⟨rfl, rfl⟩ := trodVars_none hV
  obtain ⟨a0, rfl, rfl, rfl, w0⟩ := open_string Try.underlying9 (hval 0 9 v0 rfl rfl) h0
  obtain ⟨a1, rfl, rfl, rfl, w1⟩ := open_int Try.underlying3 (hval 1 3 v1 rfl rfl) h1
  obtain ⟨a2, rfl, rfl, rfl, w2⟩ := open_int Try.underlying3 (hval 2 3 v2 rfl rfl) h2
  clear hA0 hval0
  refine (walk a0 a1 a2 w0 w1 w2 W).mono fun e W' ⟨he, bel⟩ => ?_
  subst he
  exact ⟨_, rfl, _, _, _, [], _, [], hW', trodAll_mk1 (shut_bool Try.underlying4 _), (trodAll_cons_mk (shut_string Try.underlying9 w0) (trodAll_cons_mk (shut_int Try.underlying3 w1) (trodAll_cons_mk (shut_int Try.underlying3 w2) trodAll_mk0))), rfl, bel.frame _, fun h => by cases h⟩

theorem over : Rows.guardOthersRow.holds Try.pinned (OpenSpec.ofChange Rows.guardOthersSpec) :=
  OpenClaim.holds_of_wide 4 Try.f4 rfl rfl rfl rfl rfl rfl rfl ⟨rfl, rfl, rfl, rfl, rfl⟩ rfl rfl rfl rfl rfl (by kernel_rfl) Try.func4 (by kernel_rfl)
    (of_decide_eq_true (by kernel_rfl)) (by unfold Func.isWrapper; first | (rw [if_pos (by decide +kernel)]; kernel_rfl) | (rw [if_neg (by decide +kernel)]; exact ⟨rfl, rfl⟩))
    (fun os started H enc _ => lifted os started H enc)

theorem proved : Rows.GuardOthersSaid :=
  over
#print axioms proved
end Go.Proofs.Ytpoilpekficngaa.guardOthers
