/-
  For every int e and every bool check GuardNil returns true: without a Try guard.Break and guard.Check panic with a Fault of e, of ErrCorrupt where e is OK. No condition.
-/
import Derived.Test.YtpoilpekficngaaRows
import Derived.WalkKit
import Derived.ProofKit
import Derived.OpenShut
import Derived.ShutString
import Derived.Test.YtpoilpekficngaaGrdB
import Derived.ChangeOld
import Derived.Below
namespace Go.Proofs.Ytpoilpekficngaa.guardNil
open Go.ChangeShapes Go.WideShapes Go.ChangeAt Go.RowKit
open Go.ChangeMaps (open_string shut_string)
set_option linter.unusedVariables false

theorem own : ownKnob Try.prog.godebug = none := by kernel_rfl

theorem caught_broken (p q : Addr) (x y : Int) (b : Bool) (w : World) (hp : Var p (.int .i64 y) w) (hq : Var q (.bool b) w) (hne : p ≠ q) :
    CallsD Try.prog 30 #[.pointer (some p), .pointer (some q)] (.panicking [pan (fault x)]) w fun e u' w' =>
      e = .returned (.tuple #[]) ∧ u' = .panicking [gone (fault x)] ∧ w' = (w.setCell p (.int .i64 x)).setCell q (.bool true) := by
  have hf := is_fault x
  refine callsD_of_wpS Try.func30 rfl fun c₀ cs hu => ?_
  have e0 := hp.1
  have e1 := hp.2
  have h1 := hq.other hne (.int .i64 x)
  have e2 := h1.1
  have e3 := hq.2
  apply wpS_region
  simp [wpOpsS, go_sem, recoverD, hu, hf, e0, e1, e2, e3, Try.ntmps30, bodyPostS, results, Try.results30]

theorem broken_door (w : World) :
    Var ⟨w.heap.size, 0, none⟩ (.int .i64 0) ((w.alloc (.cells #[.int .i64 0] 36)).alloc (.cells #[.bool false] 4)) ∧ Var ⟨w.heap.size + 1, 0, none⟩ (.bool false) ((w.alloc (.cells #[.int .i64 0] 36)).alloc (.cells #[.bool false] 4)) := by
  refine ⟨(Var.new w _ _).alloc _, ?_⟩
  have := Var.new (w.alloc (.cells #[.int .i64 0] 36)) (.bool false) 4
  simp only [World.size_alloc] at this
  exact this

set_option maxHeartbeats 1000000 in
theorem broken_any (a : Int) (check : Bool) (w : World) :
    Calls Try.prog 19 #[.int .i64 a, .bool check] w fun e w' => e = .returned (.tuple #[.agg #[.int .i64 (brk a)], .bool true]) ∧ Below w.heap.size w w' := by
  have hmf : ∀ (fn : Fn) (first cap : Array Value) (w : World), (Instr.makeFunc fn first cap).run Try.prog w = .ok (.func fn first cap) w := fun _ _ _ _ => rfl
  cases check
  all_goals
    go_enter_defers Try.func19, Try.ntmps19
    go_wp2_with fail
    first | refine (break_any a _).mono ?_ | refine (check_false a _).mono ?_
    rintro e x1 ⟨rfl, rfl⟩
    dsimp only
    obtain ⟨hp, hq⟩ := broken_door w
    have hne : (⟨w.heap.size, 0, none⟩ : Addr) ≠ ⟨w.heap.size + 1, 0, none⟩ := by simp
    refine leaves_cons (f := 30) (args := #[.pointer (some ⟨w.heap.size, 0, none⟩), .pointer (some ⟨w.heap.size + 1, 0, none⟩)]) (by simp) (by simp [go_sem]) ?_
    refine (caught_broken _ _ (brk a) 0 false _ hp hq hne).mono ?_
    rintro e u' w'' ⟨rfl, rfl, rfl⟩
    simp [Leaves, settle, results, Try.results19, go_sem]
    exact ((Below.refl _ _).alloc (Nat.le_refl _) _).alloc (by simp) _

set_option maxRecDepth 100000 in
set_option maxHeartbeats 2000000 in
theorem walk (a0 : Int) (a1 : Bool) (w0 : (Lit.int .i64 a0).wf = true) (w : World) :
    Calls Try.prog 6 #[.int .i64 a0, .bool a1] w fun e w' => e = .returned (.bool true) ∧ Below w.heap.size w w' := by
  clear w0
  have h8 : brk 0 = 8 := rfl
  by_cases he : a0 = 0
  · subst he
    go_enter Try.func6, Try.ntmps6
    go_wp2_with fail
    refine (begun_any _).mono ?_
    rintro e x1 ⟨rfl, HB⟩
    go_wp2_with fail
    refine (broken_any _ _ _).mono ?_
    rintro e x2 ⟨rfl, hb⟩
    replace HB := HB.trans (hb.mono HB.size)
    clear hb
    go_wp2_with fail
    go_ret
    exact ⟨ret_bool (by simp), HB.alloc HB.size _⟩
  · have hn : (a0 == 0) = false := by simp [he]
    have hk : brk a0 = a0 := by simp [brk, he]
    go_enter Try.func6, Try.ntmps6
    go_wp2_with fail
    refine (begun_any _).mono ?_
    rintro e x1 ⟨rfl, HB⟩
    go_wp2_with fail
    refine (broken_any _ _ _).mono ?_
    rintro e x2 ⟨rfl, hb⟩
    replace HB := HB.trans (hb.mono HB.size)
    clear hb
    go_wp2_with fail
    go_ret
    exact ⟨ret_bool (by simp), HB.alloc HB.size _⟩

set_option maxRecDepth 100000 in
theorem lifted (os : Os) (started : os.Started) (H : Type) (enc : TypeId × Value → H) :
    ReturnsInHanded {} Try.checked os 6 .any (Rows.guardNilSpec.pre6 enc Try.prog Try.f6 Rows.guardNilRow.domain false) (Rows.guardNilSpec.post enc Try.prog Try.f6 false true false false) := by
  refine returnsInHanded_of_change (C := Try.checked) own started (by kernel_rfl) Try.func6
    (ChangeSpec.witness6 (enc := enc) (C := Try.checked) false ⟨#[], #[.int .i64 0, .bool false], []⟩ 8 (by kernel_rfl) (by kernel_rfl) (by kernel_rfl) (by kernel_rfl)) ?_
  intro W base args ds gs before hval0 hW hcnd _
  have hval : ∀ (j : Nat) t v, Try.f6.params[j]? = some t → args[j]? = some v → Value.okWide Try.prog W .any base t v := hval0
  have hW' := hW
  obtain ⟨p, q, hA0, hV, rfl, hfz, hnd⟩ := hW
  have hA : DataW.TrodAll enc Try.prog W 0 (fun _ => true) true Try.f6.params.toList args.toList ds p := hA0
  rw [Try.params6] at hA hval
  obtain ⟨v0, vs0, d0, ds0, p0, q0, hargs, rfl, rfl, h0, r0⟩ := trodAll_cons hA
  obtain ⟨v1, vs1, d1, ds1, p1, q1, rfl, rfl, rfl, h1, r1⟩ := trodAll_cons r0
  obtain ⟨rfl, rfl, rfl⟩ := trodAll_nil r1
  obtain rfl : args = #[v0, v1] := by cases args; simp_all
  obtain ⟨rfl, rfl⟩ := trodVars_none hV
  obtain ⟨a0, rfl, rfl, rfl, w0⟩ := open_int Try.underlying3 (hval 0 3 v0 rfl rfl) h0
  obtain ⟨a1, rfl, rfl, rfl⟩ := open_bool Try.underlying4 (hval 1 4 v1 rfl rfl) h1
  clear hA0 hval0
  refine (walk a0 a1 w0 W).mono fun e W' ⟨he, bel⟩ => ?_
  subst he
  exact ⟨_, rfl, _, _, _, [], _, [], hW', trodAll_mk1 (shut_bool Try.underlying4 _), (trodAll_cons_mk (shut_int Try.underlying3 w0) (trodAll_cons_mk (shut_bool Try.underlying4 _) trodAll_mk0)), rfl, bel.frame _, fun h => by cases h⟩

theorem over : Rows.guardNilRow.holds Try.pinned (OpenSpec.ofChange Rows.guardNilSpec) :=
  OpenClaim.holds_of_wide 6 Try.f6 rfl rfl rfl rfl rfl rfl rfl ⟨rfl, rfl, rfl, rfl, rfl⟩ rfl rfl rfl rfl rfl (by kernel_rfl) Try.func6 (by kernel_rfl)
    (of_decide_eq_true (by kernel_rfl)) (by unfold Func.isWrapper; first | (rw [if_pos (by decide +kernel)]; kernel_rfl) | (rw [if_neg (by decide +kernel)]; exact ⟨rfl, rfl⟩))
    (fun os started H enc _ => lifted os started H enc)

theorem proved : Rows.GuardNilSaid :=
  over
#print axioms proved
end Go.Proofs.Ytpoilpekficngaa.guardNil
