/-
  For all ints e, depth, steps, at and every bool check GuardFaults returns true: what breaks by guard.Break or guard.Check with e, at the step 'at' of at most 20, at most 20 calls down, is told by guard.Try as e (as ErrCorrupt, where e is OK); the steps ahead of it are done, those behind it are not; where no step breaks Try tells OK and all steps are done. No condition.
-/
import Derived.Test.YtpoilpekficngaaRows
import Derived.WalkKit
import Derived.ProofKit
import Derived.OpenShut
import Derived.ShutString
import Derived.Test.YtpoilpekficngaaGrdB
import Derived.ChangeOld
import Derived.Below
namespace Go.Proofs.Ytpoilpekficngaa.guardFaults
open Go.ChangeShapes Go.WideShapes Go.ChangeAt Go.RowKit
open Go.ChangeMaps (open_string shut_string)
set_option linter.unusedVariables false

theorem own : ownKnob Try.prog.godebug = none := by kernel_rfl

theorem enters10 (cap : Array Value) (w : World) : (callFunc 10 cap).run Try.prog w = .ok (.enter 10 cap) w := by kernel_rfl
theorem enters14 (cap : Array Value) (w : World) : (callFunc 14 cap).run Try.prog w = .ok (.enter 14 cap) w := by kernel_rfl

/-- How it ends: it breaks, or it comes back. -/
def ends (t : Bool) (e : Int) : Ending := if t then .panicked [pan (fault (brk e))] else .returned (.tuple #[])

/-- What the steps read. -/
structure Env (pd ps pa pc pe p : Addr) (s : Nat) (a : Int) (c : Bool) (e : Int) (w : World) : Prop where
  down : Var pd (.func (.func 10) #[] #[.pointer (some pd), .pointer (some ps), .pointer (some pa), .pointer (some pc), .pointer (some pe), .pointer (some p)]) w
  steps : Var ps (.int .i64 s) w
  at' : Var pa (.int .i64 a) w
  check : Var pc (.bool c) w
  err : Var pe (.int .i64 e) w
  d0 : pd.block ≠ p.block
  d1 : ps.block ≠ p.block
  d2 : pa.block ≠ p.block
  d3 : pc.block ≠ p.block
  d4 : pe.block ≠ p.block

theorem Env.but {pd ps pa pc pe p : Addr} {s : Nat} {a : Int} {c : Bool} {e : Int} {w w' : World} (h : Env pd ps pa pc pe p s a c e w) (hb : But (fun k => k = p.block) w w') : Env pd ps pa pc pe p s a c e w' :=
  ⟨h.down.but hb h.d0, h.steps.but hb h.d1, h.at'.but hb h.d2, h.check.but hb h.d3, h.err.but hb h.d4, h.d0, h.d1, h.d2, h.d3, h.d4⟩

/-- The steps at the bottom: it breaks just if there is such a step. -/
def hit (s : Nat) (a : Int) : Bool := decide (0 ≤ a ∧ a < (s : Int))

/-- How many steps are done. -/
def fin (t : Bool) (a : Int) (s : Nat) : Int := if t then a else s

set_option maxHeartbeats 2000000 in
theorem leaf_any (pd ps pa pc pe p : Addr) (s : Nat) (hs : s ≤ 20) (a : Int) (c : Bool) (e : Int) (n : Int) (hn : ¬ 0 < n) (w : World) (henv : Env pd ps pa pc pe p s a c e w) (hv : Var p (.int .i64 0) w) :
    Calls Try.prog 10 #[.int .i64 n, .pointer (some pd), .pointer (some ps), .pointer (some pa), .pointer (some pc), .pointer (some pe), .pointer (some p)] w fun r w' =>
      r = ends (hit s a) e ∧ But (fun k => k = p.block) w w' ∧ Var p (.int .i64 (fin (hit s a) a s)) w' := by
  have HE := hide henv
  clear henv
  go_enter Try.func10, Try.ntmps10
  go_wp2_with fail
  go_loopw [8] (fun v wr => ∃ k : Nat, v = .int .i64 k ∧ k ≤ s ∧ Hid (But (fun k => k = p.block) w wr) ∧ Hid (Var p (.int .i64 k) wr) ∧ Hid (a < 0 ∨ (k : Int) ≤ a)) (fun v _ => s - (intOf v).toNat)
  case atStart => exact ⟨0, rfl, by omega, But.refl _ _, hv, by show _ ∨ _; omega⟩
  case round =>
    obtain ⟨k, rfl, hk, HBut, HP, HAt⟩ := hrel
    have env := HE.out.but HBut.out
    have e1 := env.steps.1
    have e2 := env.at'.1
    have e3 := env.check.1
    have e4 := env.err.1
    have e5 := HP.out.1
    have e6 := HP.out.2
    clear env hv
    by_cases hlt : k < s
    · by_cases hka : (k : Int) = a
      · have hr : Hid (hit s a = true) := by show _ = _; simp [hit]; omega
        have hb : ((k : Int) == a) = true := by simp [hka]
        have HKA := hide hka
        clear hka
        cases c
        · go_wp2_with fail
          refine (break_any e _).mono ?_
          rintro r x ⟨rfl, rfl⟩
          exact ⟨rfl, by rw [hr.out]; rfl, HBut.out, by rw [hr.out]; exact (show Var p (.int .i64 a) _ by rw [← HKA.out]; exact HP.out)⟩
        · go_wp2_with fail
          refine (check_false e _).mono ?_
          rintro r x ⟨rfl, rfl⟩
          exact ⟨rfl, by rw [hr.out]; rfl, HBut.out, by rw [hr.out]; exact (show Var p (.int .i64 a) _ by rw [← HKA.out]; exact HP.out)⟩
      · have hb : ((k : Int) == a) = false := by simp [hka]
        have HAt2 : Hid (a < 0 ∨ ((k + 1 : Nat) : Int) ≤ a) := by have := HAt.out; show _ ∨ _; omega
        have HP2 := hide (HP.out.set (.int .i64 ((k + 1 : Nat) : Int)))
        have HB2 : Hid (But (fun k => k = p.block) w (wr.setCell p (.int .i64 ((k + 1 : Nat) : Int)))) := HBut.out.setCell (p := p) (Or.inl rfl) _
        clear HAt hka
        go_wp2_with fail
        go_roundw
        case rel => exact ⟨k + 1, by go_num, by omega, HB2, HP2, HAt2⟩
        case measure => simp [intOf]; omega
    · have hr : Hid (hit s a = false) := by have := HAt.out; show _ = _; simp [hit]; omega
      have HKS : Hid (k = s) := by show _ = _; omega
      go_wp2_with fail
      go_end0
      exact ⟨by rw [hr.out]; rfl, HBut.out, by rw [hr.out]; exact (show Var p (.int .i64 s) _ by rw [← HKS.out]; exact HP.out)⟩

set_option maxHeartbeats 2000000 in
theorem down_any (pd ps pa pc pe p : Addr) (s : Nat) (hs : s ≤ 20) (a : Int) (c : Bool) (e : Int) : ∀ (n : Nat) (w : World), n ≤ 20 → Env pd ps pa pc pe p s a c e w → Var p (.int .i64 0) w →
    Calls Try.prog 10 #[.int .i64 n, .pointer (some pd), .pointer (some ps), .pointer (some pa), .pointer (some pc), .pointer (some pe), .pointer (some p)] w fun r w' =>
      r = ends (hit s a) e ∧ But (fun k => k = p.block) w w' ∧ Var p (.int .i64 (fin (hit s a) a s)) w' := by
  intro n
  induction n with
  | zero => exact fun w _ henv hv => leaf_any pd ps pa pc pe p s hs a c e 0 (by omega) w henv hv
  | succ n ih =>
    intro w hn henv hv
    have HIH := hide (ih w (by omega) henv hv)
    have e0 := henv.down.1
    have he10 := enters10
    clear ih henv hv
    cases ht : hit s a
    · rw [ht] at HIH
      go_enter Try.func10, Try.ntmps10
      go_wp2_with fail
      refine HIH.out.mono ?_
      rintro r x ⟨rfl, hb, hv⟩
      dsimp only [ends]
      simp only [if_false, Bool.false_eq_true]
      go_wp2_with fail
      refine bodyPost_ret (results_none rfl _ _ _) rfl ?_
      exact ⟨rfl, hb, hv⟩
    · rw [ht] at HIH
      go_enter Try.func10, Try.ntmps10
      go_wp2_with fail
      refine HIH.out.mono ?_
      rintro r x ⟨rfl, hb, hv⟩
      exact ⟨rfl, rfl, hb, hv⟩

set_option maxHeartbeats 2000000 in
theorem start_any (pd ps pa pc pe p pn : Addr) (s : Nat) (hs : s ≤ 20) (a : Int) (c : Bool) (e : Int) (n : Nat) (hn : n ≤ 20) (w : World) (henv : Env pd ps pa pc pe p s a c e w) (hv : Var p (.int .i64 0) w) (hvn : Var pn (.int .i64 n) w) :
    Calls Try.prog 14 #[.pointer (some pd), .pointer (some pn)] w fun r w' =>
      r = ends (hit s a) e ∧ But (fun k => k = p.block) w w' ∧ Var p (.int .i64 (fin (hit s a) a s)) w' := by
  have HIH := hide (down_any pd ps pa pc pe p s hs a c e n w hn henv hv)
  have e0 := henv.down.1
  have e1 := hvn.1
  have he10 := enters10
  clear henv hv hvn
  cases ht : hit s a
  · rw [ht] at HIH
    go_enter Try.func14, Try.ntmps14
    go_wp2_with fail
    refine HIH.out.mono ?_
    rintro r x ⟨rfl, hb, hv⟩
    dsimp only [ends]
    simp only [if_false, Bool.false_eq_true]
    go_wp2_with fail
    go_end0
    exact ⟨rfl, hb, hv⟩
  · rw [ht] at HIH
    go_enter Try.func14, Try.ntmps14
    go_wp2_with fail
    refine HIH.out.mono ?_
    rintro r x ⟨rfl, hb, hv⟩
    exact ⟨rfl, rfl, hb, hv⟩

/-- The closure that goes down. -/
abbrev fn1 (w x1 : World) : Value := .func (.func 10) #[] #[.pointer (some ⟨x1.heap.size + 1, 0, none⟩), .pointer (some ⟨w.heap.size + 1 + 1, 0, none⟩), .pointer (some ⟨w.heap.size + 1 + 1 + 1, 0, none⟩), .pointer (some ⟨w.heap.size + 1 + 1 + 1 + 1, 0, none⟩), .pointer (some ⟨w.heap.size, 0, none⟩), .pointer (some ⟨x1.heap.size, 0, none⟩)]
/-- The world in which it is tried. -/
abbrev fw (w x1 : World) : World := (x1.alloc (.cells #[.int .i64 0] 3)).alloc (.cells #[fn1 w x1] 24)
/-- What is told. -/
def got (t : Bool) (e : Int) : Int := if t then brk e else 0

set_option maxHeartbeats 1000000 in
theorem tried_any (w x1 : World) (e : Int) (n s : Nat) (a : Int) (c : Bool) (hn : n ≤ 20) (hs : s ≤ 20) (hsz : w.heap.size + 5 ≤ x1.heap.size)
    (v0 : Var ⟨w.heap.size, 0, none⟩ (.int .i64 e) x1) (v1 : Var ⟨w.heap.size + 1, 0, none⟩ (.int .i64 n) x1) (v2 : Var ⟨w.heap.size + 1 + 1, 0, none⟩ (.int .i64 s) x1)
    (v3 : Var ⟨w.heap.size + 1 + 1 + 1, 0, none⟩ (.int .i64 a) x1) (v4 : Var ⟨w.heap.size + 1 + 1 + 1 + 1, 0, none⟩ (.bool c) x1) (t : Bool) (ht : hit s a = t) :
    Calls Try.prog 13 #[.func (.func 14) #[] #[.pointer (some ⟨x1.heap.size + 1, 0, none⟩), .pointer (some ⟨w.heap.size + 1, 0, none⟩)]] (fw w x1) fun r x2 =>
      r = .returned (.tuple #[.int .i64 (got t e), .nilIface, .bool true]) ∧ But (fun k => k = x1.heap.size) (fw w x1) x2 ∧ Var ⟨x1.heap.size, 0, none⟩ (.int .i64 (fin t a s)) x2 := by
  have vd := Var.new (x1.alloc (.cells #[.int .i64 0] 3)) (fn1 w x1) 24
  rw [World.size_alloc] at vd
  have vp := (Var.new x1 (.int .i64 0) 3).alloc (.cells #[fn1 w x1] 24)
  have hS : ∀ k, (fw w x1).heap.size ≤ k → ¬ k = x1.heap.size := by simp; omega
  have hF : ∀ u, ∀ a b, Below (fw w x1).heap.size a b → Var ⟨x1.heap.size, 0, none⟩ u a → Var ⟨x1.heap.size, 0, none⟩ u b := fun u => Var.below (by simp; omega)
  have hcall := start_any ⟨x1.heap.size + 1, 0, none⟩ ⟨w.heap.size + 1 + 1, 0, none⟩ ⟨w.heap.size + 1 + 1 + 1, 0, none⟩ ⟨w.heap.size + 1 + 1 + 1 + 1, 0, none⟩ ⟨w.heap.size, 0, none⟩ ⟨x1.heap.size, 0, none⟩ ⟨w.heap.size + 1, 0, none⟩ s hs a c e n hn (uw (fw w x1))
    ⟨uw_var vd, uw_var ((v2.alloc _).alloc _), uw_var ((v3.alloc _).alloc _), uw_var ((v4.alloc _).alloc _), uw_var ((v0.alloc _).alloc _), by simp, by simp <;> omega, by simp <;> omega, by simp <;> omega, by simp <;> omega⟩ (uw_var vp) (uw_var ((v1.alloc _).alloc _))
  rw [ht] at hcall
  cases t
  · exact tt_back 14 _ _ (fun k => k = x1.heap.size) (Var ⟨x1.heap.size, 0, none⟩ (.int .i64 (fin false a s))) (enters14 _) hS (hF _) hcall
  · exact tt_fault (brk e) 14 _ _ (fun k => k = x1.heap.size) (Var ⟨x1.heap.size, 0, none⟩ (.int .i64 (fin true a s))) (enters14 _) hS (hF _) hcall

theorem but_two {w x y : World} {o q : Obj} (hB : Below w.heap.size w x) (hb : But (fun k => k = x.heap.size) ((x.alloc o).alloc q) y) : Below w.heap.size w y :=
  hB.trans ((((Below.refl w.heap.size x).alloc hB.size o).alloc (by have := hB.size; simp; omega) q).trans (hb.below (by have := hB.size; simp; omega) (fun k hk => by have := hB.size; omega)))
theorem var_two {x y : World} {o q : Obj} {p : Addr} {v : Value} (hv : Var p v x) (hb : But (fun k => k = x.heap.size) ((x.alloc o).alloc q) y) : Var p v y := ((hv.alloc o).alloc q).but hb (by have := hv.lt; omega)

set_option maxRecDepth 100000 in
set_option maxHeartbeats 2000000 in
theorem walk (a0 : Int) (a1 : Int) (a2 : Int) (a3 : Int) (a4 : Bool) (w0 : (Lit.int .i64 a0).wf = true) (w1 : (Lit.int .i64 a1).wf = true) (w2 : (Lit.int .i64 a2).wf = true) (w3 : (Lit.int .i64 a3).wf = true) (w : World) :
    Calls Try.prog 3 #[.int .i64 a0, .int .i64 a1, .int .i64 a2, .int .i64 a3, .bool a4] w fun e w' => e = .returned (.bool true) ∧ Below w.heap.size w w' := by
  have hmf : ∀ (fn : Fn) (first cap : Array Value) (w : World), (Instr.makeFunc fn first cap).run Try.prog w = .ok (.func fn first cap) w := fun _ _ _ _ => rfl
  clear w0 w1 w2 w3
  have hsf : ∀ (a : Addr) (fn : Fn) (f c : Array Value) (w : World), (store a (.func fn f c)).run Try.prog w = stored Try.prog w a (.func fn f c) .plain := fun a fn f c w => run_store Try.prog w a _ _ rfl
  by_cases hd : (0 ≤ a1 ∧ a1 ≤ 20) ∧ 0 ≤ a2 ∧ a2 ≤ 20
  · obtain ⟨n, rfl⟩ := Int.eq_ofNat_of_zero_le hd.1.1
    obtain ⟨s, rfl⟩ := Int.eq_ofNat_of_zero_le hd.2.1
    have hn : n ≤ 20 := by omega
    have hs : s ≤ 20 := by omega
    by_cases he : a0 = 0
    · subst he
      have hk : brk 0 = 8 := rfl
      go_enter Try.func3, Try.ntmps3
      go_wp2_with fail
      refine (begun_any _).mono ?_
      rintro e x1 ⟨rfl, hb1⟩
      obtain ⟨HB, hsz, v0, v1, v2, v3, v4⟩ := par5 hb1
      clear hb1
      have e0 := v0.1
      have e1 := v1.1
      have e2 := v2.1
      go_wp2_with fail
      cases ht : hit s a3
      all_goals
        have hh := ht
        simp [hit] at hh
        refine (tried_any w x1 0 n s a3 a4 hn hs hsz v0 v1 v2 v3 v4 _ ht).mono ?_
        rintro e x2 ⟨rfl, hb2, hv2⟩
        have HB2 := but_two HB hb2
        have f2 := (var_two v2 hb2).1
        have f3 := (var_two v3 hb2).1
        have f4 := hv2.1
        clear e0 e1 e2 v0 v1 v2 v3 v4 hb2 hv2 HB ht
        dsimp only [got, fin] at f4 ⊢
        simp only [if_true, if_false, Bool.false_eq_true] at f4 ⊢
        go_wp2_with fail
        all_goals first | (go_ret; exact ⟨ret_bool (by simp), HB2⟩) | (exfalso; omega)
    · have hb : (a0 == 0) = false := by simp [he]
      have hk : brk a0 = a0 := by simp [brk, he]
      go_enter Try.func3, Try.ntmps3
      go_wp2_with fail
      refine (begun_any _).mono ?_
      rintro e x1 ⟨rfl, hb1⟩
      obtain ⟨HB, hsz, v0, v1, v2, v3, v4⟩ := par5 hb1
      clear hb1
      have e0 := v0.1
      have e1 := v1.1
      have e2 := v2.1
      go_wp2_with fail
      cases ht : hit s a3
      all_goals
        have hh := ht
        simp [hit] at hh
        refine (tried_any w x1 a0 n s a3 a4 hn hs hsz v0 v1 v2 v3 v4 _ ht).mono ?_
        rintro e x2 ⟨rfl, hb2, hv2⟩
        have HB2 := but_two HB hb2
        have f2 := (var_two v2 hb2).1
        have f3 := (var_two v3 hb2).1
        have f4 := hv2.1
        clear e0 e1 e2 v0 v1 v2 v3 v4 hb2 hv2 HB ht
        dsimp only [got, fin] at f4 ⊢
        simp only [if_true, if_false, Bool.false_eq_true] at f4 ⊢
        go_wp2_with fail
        all_goals first | (go_ret; exact ⟨ret_bool (by simp), HB2⟩) | (exfalso; omega)
  · go_enter Try.func3, Try.ntmps3
    go_wp2_with fail
    refine (begun_any _).mono ?_
    rintro e x1 ⟨rfl, hb1⟩
    obtain ⟨HB, hsz, v0, v1, v2, v3, v4⟩ := par5 hb1
    clear hb1
    have e0 := v0.1
    have e1 := v1.1
    have e2 := v2.1
    go_wp2_with fail
    all_goals try (go_ret; exact ⟨rfl, HB⟩)
    all_goals (exfalso; omega)

set_option maxRecDepth 100000 in
theorem lifted (os : Os) (started : os.Started) (H : Type) (enc : TypeId × Value → H) :
    ReturnsInHanded {} Try.checked os 3 .any (Rows.guardFaultsSpec.pre6 enc Try.prog Try.f3 Rows.guardFaultsRow.domain false) (Rows.guardFaultsSpec.post enc Try.prog Try.f3 false true false false) := by
  refine returnsInHanded_of_change (C := Try.checked) own started (by kernel_rfl) Try.func3
    (ChangeSpec.witness6 (enc := enc) (C := Try.checked) false ⟨#[], #[.int .i64 0, .int .i64 0, .int .i64 0, .int .i64 0, .bool false], []⟩ 8 (by kernel_rfl) (by kernel_rfl) (by kernel_rfl) (by kernel_rfl)) ?_
  intro W base args ds gs before hval0 hW hcnd _
  have hval : ∀ (j : Nat) t v, Try.f3.params[j]? = some t → args[j]? = some v → Value.okWide Try.prog W .any base t v := hval0
  have hW' := hW
  obtain ⟨p, q, hA0, hV, rfl, hfz, hnd⟩ := hW
  have hA : DataW.TrodAll enc Try.prog W 0 (fun _ => true) true Try.f3.params.toList args.toList ds p := hA0
  rw [Try.params3] at hA hval
  obtain ⟨v0, vs0, d0, ds0, p0, q0, hargs, rfl, rfl, h0, r0⟩ := trodAll_cons hA
  obtain ⟨v1, vs1, d1, ds1, p1, q1, rfl, rfl, rfl, h1, r1⟩ := trodAll_cons r0
  obtain ⟨v2, vs2, d2, ds2, p2, q2, rfl, rfl, rfl, h2, r2⟩ := trodAll_cons r1
  obtain ⟨v3, vs3, d3, ds3, p3, q3, rfl, rfl, rfl, h3, r3⟩ := trodAll_cons r2
  obtain ⟨v4, vs4, d4, ds4, p4, q4, rfl, rfl, rfl, h4, r4⟩ := trodAll_cons r3
  obtain ⟨rfl, rfl, rfl⟩ := trodAll_nil r4
  obtain rfl : args = #[v0, v1, v2, v3, v4] := by cases args; simp_all
  obtain ⟨rfl, rfl⟩ := trodVars_none hV
  obtain ⟨a0, rfl, rfl, rfl, w0⟩ := open_int Try.underlying3 (hval 0 3 v0 rfl rfl) h0
  obtain ⟨a1, rfl, rfl, rfl, w1⟩ := open_int Try.underlying3 (hval 1 3 v1 rfl rfl) h1
  obtain ⟨a2, rfl, rfl, rfl, w2⟩ := open_int Try.underlying3 (hval 2 3 v2 rfl rfl) h2
  obtain ⟨a3, rfl, rfl, rfl, w3⟩ := open_int Try.underlying3 (hval 3 3 v3 rfl rfl) h3
  obtain ⟨a4, rfl, rfl, rfl⟩ := open_bool Try.underlying4 (hval 4 4 v4 rfl rfl) h4
  clear hA0 hval0
  refine (walk a0 a1 a2 a3 a4 w0 w1 w2 w3 W).mono fun e W' ⟨he, bel⟩ => ?_
  subst he
  exact ⟨_, rfl, _, _, _, [], _, [], hW', trodAll_mk1 (shut_bool Try.underlying4 _), (trodAll_cons_mk (shut_int Try.underlying3 w0) (trodAll_cons_mk (shut_int Try.underlying3 w1) (trodAll_cons_mk (shut_int Try.underlying3 w2) (trodAll_cons_mk (shut_int Try.underlying3 w3) (trodAll_cons_mk (shut_bool Try.underlying4 _) trodAll_mk0))))), rfl, bel.frame _, fun h => by cases h⟩

theorem over : Rows.guardFaultsRow.holds Try.pinned (OpenSpec.ofChange Rows.guardFaultsSpec) :=
  OpenClaim.holds_of_wide 3 Try.f3 rfl rfl rfl rfl rfl rfl rfl ⟨rfl, rfl, rfl, rfl, rfl⟩ rfl rfl rfl rfl rfl (by kernel_rfl) Try.func3 (by kernel_rfl)
    (of_decide_eq_true (by kernel_rfl)) (by unfold Func.isWrapper; first | (rw [if_pos (by decide +kernel)]; kernel_rfl) | (rw [if_neg (by decide +kernel)]; exact ⟨rfl, rfl⟩))
    (fun os started H enc _ => lifted os started H enc)

theorem proved : Rows.GuardFaultsSaid :=
  over
#print axioms proved
end Go.Proofs.Ytpoilpekficngaa.guardFaults
