/-
  For all ints n, at, e GuardDefers returns true: what at most 20 steps put right on their way out is put right when one of them breaks, too. No condition.
-/
import Derived.Test.YtpoilpekficngaaRows
import Derived.WalkKit
import Derived.ProofKit
import Derived.OpenShut
import Derived.ShutString
import Derived.Test.YtpoilpekficngaaGrdB
import Derived.ChangeOld
import Derived.Below
namespace Go.Proofs.Ytpoilpekficngaa.guardDefers
open Go.ChangeShapes Go.WideShapes Go.ChangeAt Go.RowKit
open Go.ChangeMaps (open_string shut_string)
set_option linter.unusedVariables false

theorem own : ownKnob Try.prog.godebug = none := by kernel_rfl

theorem enters20 (cap : Array Value) (w : World) : (callFunc 20 cap).run Try.prog w = .ok (.enter 20 cap) w := by kernel_rfl
theorem enters21 (cap : Array Value) (w : World) : (callFunc 21 cap).run Try.prog w = .ok (.enter 21 cap) w := by kernel_rfl

theorem shuts_any (p : Addr) (u : FrameMode) (w : World) (hv : Var p (.int .i64 1) w) :
    CallsD Try.prog 22 #[.pointer (some p)] u w fun e u' w' => u' = u ∧ (e = .returned (.tuple #[]) ∧ w' = w.setCell p (.int .i64 0)) := by
  have h0 := hv.1
  have h1 := hv.2
  go_enter_d Try.func22, Try.ntmps22
  go_wp2_with fail
  go_end0
  exact ⟨rfl, rfl⟩

/-- How it ends: it breaks, or it comes back. -/
def ends (t : Bool) (e : Int) : Ending := if t then .panicked [pan (fault (brk e))] else .returned (.tuple #[])

set_option maxHeartbeats 1000000 in
theorem step_any (p pi pa pe : Addr) (i a e : Int) (w : World) (hv : Var p (.int .i64 0) w) (hi : Var pi (.int .i64 i) w) (ha : Var pa (.int .i64 a) w) (he : Var pe (.int .i64 e) w)
    (d1 : p ≠ pi) (d2 : p ≠ pa) (d3 : p ≠ pe) :
    Calls Try.prog 21 #[.pointer (some p), .pointer (some pi), .pointer (some pa), .pointer (some pe)] w fun r w' =>
      r = ends (decide (i = a)) e ∧ But (fun k => k = p.block) w w' ∧ Var p (.int .i64 0) w' := by
  have hmf : ∀ (fn : Fn) (first cap : Array Value) (w : World), (Instr.makeFunc fn first cap).run Try.prog w = .ok (.func fn first cap) w := fun _ _ _ _ => rfl
  have v1 := hv.set (.int .i64 1)
  have e0 := hv.1
  have e00 := hv.2
  have e1 := (hi.other d1 (.int .i64 1)).1
  have e2 := (ha.other d2 (.int .i64 1)).1
  have e3 := (he.other d3 (.int .i64 1)).1
  clear hi ha he d1 d2 d3
  have HB : Hid (But (fun k => k = p.block) w ((w.setCell p (.int .i64 1)).setCell p (.int .i64 0)) ∧ Var p (.int .i64 0) ((w.setCell p (.int .i64 1)).setCell p (.int .i64 0))) :=
    ⟨((But.refl (fun k => k = p.block) w).setCell (p := p) (Or.inl rfl) _).setCell (p := p) (Or.inl rfl) _, v1.set _⟩
  by_cases hia : i = a
  · have hb : (i != a) = false := by simp [hia]
    rw [show decide (i = a) = true by simp [hia]]
    clear hia
    go_enter_defers Try.func21, Try.ntmps21
    go_wp2_with fail
    refine (check_false e _).mono ?_
    rintro r x1 ⟨rfl, rfl⟩
    dsimp only
    refine leaves_cons (f := 22) (args := #[.pointer (some p)]) (by simp) (by simp [go_sem]) ?_
    refine (shuts_any p _ _ v1).mono ?_
    rintro r u' w'' ⟨rfl, rfl, rfl⟩
    exact ⟨rfl, HB.out⟩
  · have hb : (i != a) = true := by simp [hia]
    rw [show decide (i = a) = false by simp [hia]]
    clear hia
    go_enter_defers Try.func21, Try.ntmps21
    go_wp2_with fail
    refine (check_true e _).mono ?_
    rintro r x1 ⟨rfl, rfl⟩
    go_wp2_with fail
    refine leaves_cons (f := 22) (args := #[.pointer (some p)]) (by simp) (by simp [go_sem]) ?_
    refine (shuts_any p _ _ v1).mono ?_
    rintro r u' w'' ⟨rfl, rfl, rfl⟩
    simp only [Leaves, settle]
    exact ⟨_, results_none rfl _ _ _, rfl, HB.out⟩

/-- The number that the variable at a pointer holds. -/
def ctr (v : Value) (w : World) : Nat :=
  match v with
  | .pointer (some q) => match w.cell? q with
    | some (.int _ k) => k.toNat
    | _ => 0
  | _ => 0
theorem ctr_at {q : Addr} {k : Nat} {w : World} (h : w.cell? q = some (.int .i64 k)) : ctr (.pointer (some q)) w = k := by
  simp [ctr, h]

set_option maxHeartbeats 1000000 in
theorem loop_any (pn p pa pe : Addr) (n : Nat) (hn20 : n ≤ 20) (a e : Int) (w : World) (hn : Var pn (.int .i64 n) w) (hv : Var p (.int .i64 0) w) (ha : Var pa (.int .i64 a) w) (he : Var pe (.int .i64 e) w)
    (d0 : p.block ≠ pn.block) (d2 : p.block ≠ pa.block) (d3 : p.block ≠ pe.block) :
    Calls Try.prog 20 #[.pointer (some pn), .pointer (some p), .pointer (some pa), .pointer (some pe)] w fun r w' =>
      r = ends (decide (0 ≤ a ∧ a < (n : Int))) e ∧ But (fun k => k = p.block) w w' ∧ Var p (.int .i64 0) w' := by
  have hmf : ∀ (fn : Fn) (first cap : Array Value) (w : World), (Instr.makeFunc fn first cap).run Try.prog w = .ok (.func fn first cap) w := fun _ _ _ _ => rfl
  have h0 := hn.1
  go_enter Try.func20, Try.ntmps20
  go_wp2_with fail
  have vi := Var.new w (.int .i64 0) 3
  have hpw := hv.lt
  go_loopw [4] (fun v wr => ∃ (q : Addr) (k : Nat), v = .pointer (some q) ∧ k ≤ n ∧ Hid (Var q (.int .i64 k) wr) ∧ Hid (w.heap.size ≤ q.block) ∧ Hid (But (fun k => k = p.block) w wr) ∧ Hid (Var p (.int .i64 0) wr) ∧ Hid (a < 0 ∨ (k : Int) ≤ a)) (fun v wr => n - ctr v wr)
  case atStart => exact ⟨_, 0, rfl, by omega, vi, Nat.le_refl _, (But.refl _ _).alloc _, hv.alloc _, by show _ ∨ _; omega⟩
  case round =>
    obtain ⟨q, k, rfl, hk, HQ, HQB, HBut, HP, HAt⟩ := hrel
    have hn1 := hn.but HBut.out (fun h => d0 h.symm)
    have e0 := HQ.out.1
    have e1 := hn1.1
    clear vi h0
    by_cases hlt : k < n
    · have hne : p.block ≠ q.block := by have := HQB.out; omega
      have hcall := step_any p q pa pe k a e wr HP.out HQ.out (ha.but HBut.out (fun h => d2 h.symm)) (he.but HBut.out (fun h => d3 h.symm)) (fun h => hne (by rw [h])) (fun h => d2 (by rw [h])) (fun h => d3 (by rw [h]))
      have HC := hide hcall
      clear hcall hn1
      have he21 := enters21
      by_cases hka : (k : Int) = a
      · have hr : Hid (decide (0 ≤ a ∧ a < (n : Int)) = true) := by show _ = _; simp; omega
        rw [show decide ((k : Int) = a) = true by simp [hka]] at HC
        clear hka
        go_wp2_with fail
        refine HC.out.mono ?_
        rintro r x ⟨rfl, hb, hvp⟩
        exact ⟨rfl, by rw [hr.out]; rfl, HBut.out.trans hb, hvp⟩
      · have HAt2 : Hid (a < 0 ∨ ((k + 1 : Nat) : Int) ≤ a) := by have := HAt.out; show _ ∨ _; omega
        rw [show decide ((k : Int) = a) = false by simp [hka]] at HC
        clear hka HAt
        go_wp2_with fail
        refine HC.out.mono ?_
        rintro r x ⟨rfl, hb, hvp⟩
        have hq := HQ.out.but hb (fun h => hne h.symm)
        have e2 := hq.1
        have HB2 := hide (HBut.out.trans hb)
        have HP2 := hide hvp
        have HM := hide (ctr_at e0)
        clear HC HBut hb hvp HP hq HQ
        dsimp only [ends]
        simp only [if_false, Bool.false_eq_true]
        go_wp2_with fail
        go_roundw
        case rel => exact ⟨⟨x.heap.size, 0, none⟩, k + 1, rfl, by omega, (Var.new x (.int .i64 ((k + 1 : Nat) : Int)) 3), Nat.le_trans HB2.out.size (Nat.le_refl _), HB2.out.alloc _, HP2.out.alloc _, HAt2⟩
        case measure =>
          have h : ctr (.pointer (some ⟨x.heap.size, 0, none⟩)) (x.alloc (.cells #[.int .i64 ((k : Int) + 1)] 3)) = k + 1 := ctr_at (k := k + 1) (Var.new x (.int .i64 ((k + 1 : Nat) : Int)) 3).1
          rw [h, HM.out]
          omega
    · have hr : Hid (decide (0 ≤ a ∧ a < (n : Int)) = false) := by have := HAt.out; show _ = _; simp; omega
      go_wp2_with fail
      go_end0
      rw [hr.out]
      exact ⟨rfl, HBut.out, HP.out⟩

set_option maxRecDepth 100000 in
set_option maxHeartbeats 2000000 in
theorem walk (a0 : Int) (a1 : Int) (a2 : Int) (w0 : (Lit.int .i64 a0).wf = true) (w1 : (Lit.int .i64 a1).wf = true) (w2 : (Lit.int .i64 a2).wf = true) (w : World) :
    Calls Try.prog 7 #[.int .i64 a0, .int .i64 a1, .int .i64 a2] w fun e w' => e = .returned (.bool true) ∧ Below w.heap.size w w' := by
  have hmf : ∀ (fn : Fn) (first cap : Array Value) (w : World), (Instr.makeFunc fn first cap).run Try.prog w = .ok (.func fn first cap) w := fun _ _ _ _ => rfl
  clear w0 w1 w2
  by_cases hd : 0 ≤ a0 ∧ a0 ≤ 20 ∧ a2 ≠ 0
  · obtain ⟨n, rfl⟩ := Int.eq_ofNat_of_zero_le hd.1
    have hn : n ≤ 20 := by omega
    have hk : brk a2 = a2 := by simp [brk, hd.2.2]
    have hz : (a2 == 0) = false := by simp [hd.2.2]
    go_enter Try.func7, Try.ntmps7
    go_wp2_with fail
    refine (begun_any _).mono ?_
    rintro e x1 ⟨rfl, hb1⟩
    obtain ⟨HB, hsz, v0, v1, v2⟩ := par3 hb1
    clear hb1
    have e0 := v0.1
    have e1 := v1.1
    have e2 := v2.1
    go_wp2_with fail
    have vp := Var.new x1 (.int .i64 0) 3
    have hcall := loop_any ⟨w.heap.size, 0, none⟩ ⟨x1.heap.size, 0, none⟩ ⟨w.heap.size + 1, 0, none⟩ ⟨w.heap.size + 1 + 1, 0, none⟩ n hn a1 a2 (tw (x1.alloc (.cells #[.int .i64 0] 3))) ((v0.alloc _).alloc _) (vp.alloc _) ((v1.alloc _).alloc _) ((v2.alloc _).alloc _) (by simp <;> omega) (by simp <;> omega) (by simp <;> omega)
    have hS : ¬ (x1.alloc (.cells #[.int .i64 0] 3)).heap.size = x1.heap.size := by simp
    by_cases hin : 0 ≤ a1 ∧ a1 < (n : Int)
    · rw [show decide (0 ≤ a1 ∧ a1 < (n : Int)) = true by simp [hin]] at hcall
      refine (try_fault a2 20 _ _ (fun k => k = x1.heap.size) (Var ⟨x1.heap.size, 0, none⟩ (.int .i64 0)) (enters20 _) hS (Var.below (by simp)) (hcall.mono fun e w h => ⟨by rw [h.1]; simp [ends, hk], h.2⟩)).mono ?_
      rintro e x2 ⟨rfl, hb, hv⟩
      have HB2 := but_one HB hb
      have f0 := (var_one v0 hb).1
      have f1 := (var_one v1 hb).1
      have f2 := (var_one v2 hb).1
      have f3 := hv.1
      clear e0 e1 e2 v0 v1 v2 hb hv HB hcall vp hS
      go_wp2_with fail
      all_goals first | (go_ret; exact ⟨ret_bool (by simp), HB2⟩) | (exfalso; omega)
    · rw [show decide (0 ≤ a1 ∧ a1 < (n : Int)) = false by simpa using hin] at hcall
      refine (try_back 20 _ _ (fun k => k = x1.heap.size) (Var ⟨x1.heap.size, 0, none⟩ (.int .i64 0)) (enters20 _) hS (Var.below (by simp)) (hcall.mono fun e w h => ⟨by rw [h.1]; simp [ends], h.2⟩)).mono ?_
      rintro e x2 ⟨rfl, hb, hv⟩
      have HB2 := but_one HB hb
      have f0 := (var_one v0 hb).1
      have f1 := (var_one v1 hb).1
      have f2 := (var_one v2 hb).1
      have f3 := hv.1
      clear e0 e1 e2 v0 v1 v2 hb hv HB hcall vp hS
      go_wp2_with fail
      all_goals first | (go_ret; exact ⟨ret_bool (by simp), HB2⟩) | (exfalso; omega)
  · go_enter Try.func7, Try.ntmps7
    go_wp2_with fail
    refine (begun_any _).mono ?_
    rintro e x1 ⟨rfl, hb1⟩
    obtain ⟨HB, hsz, v0, v1, v2⟩ := par3 hb1
    clear hb1
    have e0 := v0.1
    have e1 := v1.1
    have e2 := v2.1
    go_wp2_with fail
    all_goals try (go_ret; exact ⟨rfl, HB⟩)
    have hq : (0 ≤ a0 ∧ a0 ≤ 20) ∧ (a2 == 0) = false := by assumption
    exact absurd ⟨hq.1.1, hq.1.2, by simpa using hq.2⟩ hd

set_option maxRecDepth 100000 in
theorem lifted (os : Os) (started : os.Started) (H : Type) (enc : TypeId × Value → H) :
    ReturnsInHanded {} Try.checked os 7 .any (Rows.guardDefersSpec.pre6 enc Try.prog Try.f7 Rows.guardDefersRow.domain false) (Rows.guardDefersSpec.post enc Try.prog Try.f7 false true false false) := by
  refine returnsInHanded_of_change (C := Try.checked) own started (by kernel_rfl) Try.func7
    (ChangeSpec.witness6 (enc := enc) (C := Try.checked) false ⟨#[], #[.int .i64 0, .int .i64 0, .int .i64 0], []⟩ 8 (by kernel_rfl) (by kernel_rfl) (by kernel_rfl) (by kernel_rfl)) ?_
  intro W base args ds gs before hval0 hW hcnd _
  have hval : ∀ (j : Nat) t v, Try.f7.params[j]? = some t → args[j]? = some v → Value.okWide Try.prog W .any base t v := hval0
  have hW' := hW
  obtain ⟨p, q, hA0, hV, rfl, hfz, hnd⟩ := hW
  have hA : DataW.TrodAll enc Try.prog W 0 (fun _ => true) true Try.f7.params.toList args.toList ds p := hA0
  rw [Try.params7] at hA hval
  obtain ⟨v0, vs0, d0, ds0, p0, q0, hargs, rfl, rfl, h0, r0⟩ := trodAll_cons hA
  obtain ⟨v1, vs1, d1, ds1, p1, q1, rfl, rfl, rfl, h1, r1⟩ := trodAll_cons r0
  obtain ⟨v2, vs2, d2, ds2, p2, q2, rfl, rfl, rfl, h2, r2⟩ := trodAll_cons r1
  obtain ⟨rfl, rfl, rfl⟩ := trodAll_nil r2
  obtain rfl : args = #[v0, v1, v2] := by cases args; simp_all
  obtain ⟨rfl, rfl⟩ := trodVars_none hV
  obtain ⟨a0, rfl, rfl, rfl, w0⟩ := open_int Try.underlying3 (hval 0 3 v0 rfl rfl) h0
  obtain ⟨a1, rfl, rfl, rfl, w1⟩ := open_int Try.underlying3 (hval 1 3 v1 rfl rfl) h1
  obtain ⟨a2, rfl, rfl, rfl, w2⟩ := open_int Try.underlying3 (hval 2 3 v2 rfl rfl) h2
  clear hA0 hval0
  refine (walk a0 a1 a2 w0 w1 w2 W).mono fun e W' ⟨he, bel⟩ => ?_
  subst he
  exact ⟨_, rfl, _, _, _, [], _, [], hW', trodAll_mk1 (shut_bool Try.underlying4 _), (trodAll_cons_mk (shut_int Try.underlying3 w0) (trodAll_cons_mk (shut_int Try.underlying3 w1) (trodAll_cons_mk (shut_int Try.underlying3 w2) trodAll_mk0))), rfl, bel.frame _, fun h => by cases h⟩

theorem over : Rows.guardDefersRow.holds Try.pinned (OpenSpec.ofChange Rows.guardDefersSpec) :=
  OpenClaim.holds_of_wide 7 Try.f7 rfl rfl rfl rfl rfl rfl rfl ⟨rfl, rfl, rfl, rfl, rfl⟩ rfl rfl rfl rfl rfl (by kernel_rfl) Try.func7 (by kernel_rfl)
    (of_decide_eq_true (by kernel_rfl)) (by unfold Func.isWrapper; first | (rw [if_pos (by decide +kernel)]; kernel_rfl) | (rw [if_neg (by decide +kernel)]; exact ⟨rfl, rfl⟩))
    (fun os started H enc _ => lifted os started H enc)

theorem proved : Rows.GuardDefersSaid :=
  over
#print axioms proved
end Go.Proofs.Ytpoilpekficngaa.guardDefers
