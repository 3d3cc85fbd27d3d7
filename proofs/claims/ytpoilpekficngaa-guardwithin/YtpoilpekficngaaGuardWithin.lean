/-
  For all ints a, b and every bool again GuardWithin returns true: a Try within a Try catches its own Break, and the one about it goes on: it tells OK, or the error of its own Check. No condition.
-/
import Derived.Test.YtpoilpekficngaaRows
import Derived.WalkKit
import Derived.ProofKit
import Derived.OpenShut
import Derived.ShutString
import Derived.Test.YtpoilpekficngaaGrdB
import Derived.ChangeOld
import Derived.Below
namespace Go.Proofs.Ytpoilpekficngaa.guardWithin
open Go.ChangeShapes Go.WideShapes Go.ChangeAt Go.RowKit
open Go.ChangeMaps (open_string shut_string)
set_option linter.unusedVariables false

theorem own : ownKnob Try.prog.godebug = none := by kernel_rfl

theorem enters16 (cap : Array Value) (w : World) : (callFunc 16 cap).run Try.prog w = .ok (.enter 16 cap) w := by kernel_rfl
theorem enters18 (cap : Array Value) (w : World) : (callFunc 18 cap).run Try.prog w = .ok (.enter 18 cap) w := by kernel_rfl

theorem inner_any (a : Int) (ha : a ≠ 0) (pa : Addr) (w : World) (hv : Var pa (.int .i64 a) w) : Calls Try.prog 18 #[.pointer (some pa)] w fun e w' => e = .panicked [pan (fault a)] ∧ But (fun _ => False) w w' ∧ True := by
  obtain ⟨h0, _⟩ := hv
  go_enter Try.func18, Try.ntmps18
  go_wp2_with fail
  refine (break_any a _).mono ?_
  rintro e x ⟨rfl, rfl⟩
  have hk : brk a = a := by simp [brk, ha]
  rw [hk]
  exact ⟨rfl, rfl, But.refl _ _, trivial⟩

set_option maxHeartbeats 1000000 in
theorem within_any (a b : Int) (ha : a ≠ 0) (hb : b ≠ 0) (again : Bool) (pa p pg pb : Addr) (y : Int) (w : World) (hv : Var p (.int .i64 y) w) (hva : Var pa (.int .i64 a) w) (hvg : Var pg (.bool again) w) (hvb : Var pb (.int .i64 b) w)
    (hg : p ≠ pg) (hpb : p ≠ pb) :
    Calls Try.prog 16 #[.pointer (some pa), .pointer (some p), .pointer (some pg), .pointer (some pb)] w fun e w' =>
      e = (if again then .panicked [pan (fault b)] else .returned (.tuple #[])) ∧ But (fun k => k = p.block) w w' ∧ Var p (.int .i64 a) w' := by
  have hmf : ∀ (fn : Fn) (first cap : Array Value) (w : World), (Instr.makeFunc fn first cap).run Try.prog w = .ok (.func fn first cap) w := fun _ _ _ _ => rfl
  have HVA := hide hva
  clear hva
  go_enter Try.func16, Try.ntmps16
  go_wp2_with fail
  refine (try_fault a 18 #[.pointer (some pa)] _ (fun _ => False) (fun _ => True) (enters18 _) (fun h => h) (fun _ _ _ _ => trivial) (inner_any a ha pa _ (HVA.out.alloc _))).mono ?_
  rintro e x ⟨rfl, h1, _⟩
  have hv1 := hv.but h1 (fun h => h)
  have HV2 := hide (hv1.set (.int .i64 a))
  have hg1 := ((hvg.but h1 (fun h => h)).other hg (.int .i64 a)).1
  have hb1 := ((hvb.but h1 (fun h => h)).other hpb (.int .i64 a)).1
  have HB : Hid (But (fun k => k = p.block) w (x.setCell p (.int .i64 a))) := (h1.mono (fun _ _ h => h.elim)).setCell (S := fun k => k = p.block) (Or.inl rfl) _
  have e0 := hv1.1
  have e1 := hv1.2
  clear h1 hv HVA hvg hvb hg hpb hv1
  cases again
  · go_wp2_with fail
    refine (check_true b _).mono ?_
    rintro e x1 ⟨rfl, rfl⟩
    go_wp2_with fail
    go_end0
    exact ⟨rfl, HB.out, HV2.out⟩
  · go_wp2_with fail
    refine (check_false b _).mono ?_
    rintro e x1 ⟨rfl, rfl⟩
    have hk : brk b = b := by simp [brk, hb]
    rw [hk]
    exact ⟨rfl, rfl, HB.out, HV2.out⟩

set_option maxRecDepth 100000 in
set_option maxHeartbeats 2000000 in
theorem walk (a0 : Int) (a1 : Int) (a2 : Bool) (w0 : (Lit.int .i64 a0).wf = true) (w1 : (Lit.int .i64 a1).wf = true) (w : World) :
    Calls Try.prog 5 #[.int .i64 a0, .int .i64 a1, .bool a2] w fun e w' => e = .returned (.bool true) ∧ Below w.heap.size w w' := by
  have hmf : ∀ (fn : Fn) (first cap : Array Value) (w : World), (Instr.makeFunc fn first cap).run Try.prog w = .ok (.func fn first cap) w := fun _ _ _ _ => rfl
  clear w0 w1
  go_enter Try.func5, Try.ntmps5
  go_wp2_with fail
  refine (begun_any _).mono ?_
  rintro e x1 ⟨rfl, hb1⟩
  obtain ⟨HB, hsz, v0, v1, v2⟩ := par3 hb1
  clear hb1
  have e0 := v0.1
  have e1 := v1.1
  have e2 := v2.1
  go_wp2_with fail
  all_goals try (go_ret; exact ⟨rfl, HB⟩)
  have vp := Var.new x1 (.int .i64 0) 23
  have hin := within_any a0 a1 (by omega) (by omega) a2 ⟨w.heap.size, 0, none⟩ ⟨x1.heap.size, 0, none⟩ ⟨w.heap.size + 1 + 1, 0, none⟩ ⟨w.heap.size + 1, 0, none⟩ 0 _ (uw_var vp) (uw_var (v0.alloc _)) (uw_var (v2.alloc _)) (uw_var (v1.alloc _)) (by simp <;> omega) (by simp <;> omega)
  have hS : ∀ k, (x1.alloc (.cells #[.int .i64 0] 23)).heap.size ≤ k → ¬ k = x1.heap.size := by simp; omega
  cases a2
  · refine (tt_back 16 _ _ (fun k => k = x1.heap.size) (Var ⟨x1.heap.size, 0, none⟩ (.int .i64 a0)) (enters16 _) hS (Var.below (by simp)) (hin.mono (by simp))).mono ?_
    rintro e x2 ⟨rfl, hb, hv⟩
    have HB2 := but_one HB hb
    have f0 := (var_one v0 hb).1
    have f1 := (var_one v1 hb).1
    have f2 := (var_one v2 hb).1
    have f3 := hv.1
    clear e0 e1 e2 v0 v1 v2 hb hv HB hin vp hS
    go_wp2_with fail
    go_ret
    exact ⟨ret_bool (by simp), HB2⟩
  · refine (tt_fault a1 16 _ _ (fun k => k = x1.heap.size) (Var ⟨x1.heap.size, 0, none⟩ (.int .i64 a0)) (enters16 _) hS (Var.below (by simp)) (hin.mono (by simp))).mono ?_
    rintro e x2 ⟨rfl, hb, hv⟩
    have HB2 := but_one HB hb
    have f0 := (var_one v0 hb).1
    have f1 := (var_one v1 hb).1
    have f2 := (var_one v2 hb).1
    have f3 := hv.1
    clear e0 e1 e2 v0 v1 v2 hb hv HB hin vp hS
    go_wp2_with fail
    go_ret
    exact ⟨ret_bool (by simp), HB2⟩

set_option maxRecDepth 100000 in
theorem lifted (os : Os) (started : os.Started) (H : Type) (enc : TypeId × Value → H) :
    ReturnsInHanded {} Try.checked os 5 .any (Rows.guardWithinSpec.pre6 enc Try.prog Try.f5 Rows.guardWithinRow.domain false) (Rows.guardWithinSpec.post enc Try.prog Try.f5 false true false false) := by
  refine returnsInHanded_of_change (C := Try.checked) own started (by kernel_rfl) Try.func5
    (ChangeSpec.witness6 (enc := enc) (C := Try.checked) false ⟨#[], #[.int .i64 0, .int .i64 0, .bool false], []⟩ 8 (by kernel_rfl) (by kernel_rfl) (by kernel_rfl) (by kernel_rfl)) ?_
  intro W base args ds gs before hval0 hW hcnd _
  have hval : ∀ (j : Nat) t v, Try.f5.params[j]? = some t → args[j]? = some v → Value.okWide Try.prog W .any base t v := hval0
  have hW' := hW
  obtain ⟨p, q, hA0, hV, rfl, hfz, hnd⟩ := hW
  have hA : DataW.TrodAll enc Try.prog W 0 (fun _ => true) true Try.f5.params.toList args.toList ds p := hA0
  rw [Try.params5] at hA hval
  obtain ⟨v0, vs0, d0, ds0, p0, q0, hargs, rfl, rfl, h0, r0⟩ := trodAll_cons hA
  obtain ⟨v1, vs1, d1, ds1, p1, q1, rfl, rfl, rfl, h1, r1⟩ := trodAll_cons r0
  obtain ⟨v2, vs2, d2, ds2, p2, q2, rfl, rfl, rfl, h2, r2⟩ := trodAll_cons r1
  obtain ⟨rfl, rfl, rfl⟩ := trodAll_nil r2
  obtain rfl : args = #[v0, v1, v2] := by cases args; simp_all
  obtain ⟨rfl, rfl⟩ := trodVars_none hV
  obtain ⟨a0, rfl, rfl, rfl, w0⟩ := open_int Try.underlying3 (hval 0 3 v0 rfl rfl) h0
  obtain ⟨a1, rfl, rfl, rfl, w1⟩ := open_int Try.underlying3 (hval 1 3 v1 rfl rfl) h1
  obtain ⟨a2, rfl, rfl, rfl⟩ := open_bool Try.underlying4 (hval 2 4 v2 rfl rfl) h2
  clear hA0 hval0
  refine (walk a0 a1 a2 w0 w1 W).mono fun e W' ⟨he, bel⟩ => ?_
  subst he
  exact ⟨_, rfl, _, _, _, [], _, [], hW', trodAll_mk1 (shut_bool Try.underlying4 _), (trodAll_cons_mk (shut_int Try.underlying3 w0) (trodAll_cons_mk (shut_int Try.underlying3 w1) (trodAll_cons_mk (shut_bool Try.underlying4 _) trodAll_mk0))), rfl, bel.frame _, fun h => by cases h⟩

theorem over : Rows.guardWithinRow.holds Try.pinned (OpenSpec.ofChange Rows.guardWithinSpec) :=
  OpenClaim.holds_of_wide 5 Try.f5 rfl rfl rfl rfl rfl rfl rfl ⟨rfl, rfl, rfl, rfl, rfl⟩ rfl rfl rfl rfl rfl (by kernel_rfl) Try.func5 (by kernel_rfl)
    (of_decide_eq_true (by kernel_rfl)) (by unfold Func.isWrapper; first | (rw [if_pos (by decide +kernel)]; kernel_rfl) | (rw [if_neg (by decide +kernel)]; exact ⟨rfl, rfl⟩))
    (fun os started H enc _ => lifted os started H enc)

theorem proved : Rows.GuardWithinSaid :=
  over
#print axioms proved
end Go.Proofs.Ytpoilpekficngaa.guardWithin
