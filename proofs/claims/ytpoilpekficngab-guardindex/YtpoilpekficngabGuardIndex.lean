/-
  For all ints n, at GuardIndex returns true: an index out of range goes on through guard.Try as a panic; one in range does not panic, Try tells OK, and the cell is counted up. No condition.
-/
import Derived.Test.YtpoilpekficngabRows
import Derived.WalkKit
import Derived.ProofKit
import Derived.OpenShut
import Derived.ShutString
import Derived.Test.YtpoilpekficngabGrdB
import Derived.ChangeOld
import Derived.Below
namespace Go.Proofs.Ytpoilpekficngab.guardIndex
open Go.ChangeShapes Go.WideShapes Go.ChangeAt Go.RowKit
open Go.ChangeMaps (open_string shut_string)
set_option linter.unusedVariables false

theorem own : ownKnob Try.prog.godebug = none := by kernel_rfl

theorem enters6 (cap : Array Value) (w : World) : (callFunc 6 cap).run Try.prog w = .ok (.enter 6 cap) w := by kernel_rfl

theorem other_bounds (x y : Int) (s : Bool) (c : Nat) : Other (boundsValue Try.prog x y s c) := ⟨fun _ => by kernel_rfl, _, _, rfl⟩

theorem run_out (w : World) (A : Addr) (n : Nat) (i : Int) (ho : ¬ (0 ≤ i ∧ i < (n : Int))) :
    ∃ s w', (Instr.indexAt 23 (.slice (some A) n n) (.int .i64 i)).run Try.prog w = .halt (.panic (boundsValue Try.prog (IntKind.i64.wrap i) n s 0)) w' ∧ Below w.heap.size w w' := by
  rw [run_indexAt_slice (h := Try.underlying23), if_neg ho]
  unfold boundsPanic boundsValue
  split
  · simp [runtimePanic, goPanic, go_sem]
    exact (Classical.em _).elim (fun h => Or.inr ⟨_, ⟨⟨h, rfl⟩, rfl⟩, (Below.refl _ _).drew⟩) (fun h => Or.inl ⟨_, ⟨⟨h, rfl⟩, rfl⟩, (Below.refl _ _).drew⟩)
  · simp [runtimePanic, goPanic, go_sem]
    exact ⟨_, ⟨rfl, rfl⟩, Below.refl _ _⟩

theorem out_any (pl pa A : Addr) (n : Nat) (a : Int) (w : World) (hl : Var pl (.slice (some A) n n) w) (ha : Var pa (.int .i64 a) w) (ho : ¬ (0 ≤ a ∧ a < (n : Int))) :
    ∃ v, Other v ∧ Calls Try.prog 6 #[.pointer (some pl), .pointer (some pa)] w fun e w' =>
      e = .panicked [pan v] ∧ But (fun _ => False) w w' ∧ True := by
  obtain ⟨h0, _⟩ := hl
  obtain ⟨h1, _⟩ := ha
  obtain ⟨s, w2, hrun, hB⟩ := run_out w A n a ho
  have ov := other_bounds (IntKind.i64.wrap a) n s 0
  generalize boundsValue Try.prog (IntKind.i64.wrap a) n s 0 = v at *
  refine ⟨v, ov, ?_⟩
  clear ho
  go_enter Try.func6, Try.ntmps6
  go_wp2_with fail
  exact ⟨rfl, rfl, But.of hB, trivial⟩

theorem in_any (pl pa : Addr) (g : Nat) (n k : Nat) (w : World) (hl : Var pl (.slice (some ⟨g, 0, none⟩) n n) w) (ha : Var pa (.int .i64 k) w) (ho : k < n) (hc : Var ⟨g, k, none⟩ (.int .i64 0) w) :
    Calls Try.prog 6 #[.pointer (some pl), .pointer (some pa)] w fun e w' =>
      e = .returned (.tuple #[]) ∧ But (fun b => b = g) w w' ∧ Var ⟨g, k, none⟩ (.int .i64 1) w' := by
  have h0 := hl.1
  have h1 := ha.1
  have h2 := hc.1
  have h3 := hc.2
  go_enter Try.func6, Try.ntmps6
  go_wp2_with fail
  go_end0
  exact ⟨rfl, (But.refl (fun b => b = g) w).setCell (p := ⟨g, k, none⟩) (Or.inl rfl) _, hc.set _⟩

theorem Try.infoI : (Try.prog.info? 3).map (fun i => (i.zero, i.size, i.bytes)) = some (some (.int .i64 0), 1, 8) := by kernel_rfl

/-- The slice that is made: its cells are noughts. -/
theorem made_any (n : Nat) (hn : n ≤ 20) (w : World) : ∃ w', (Instr.makeSlice 23 (.int .i64 n) (.int .i64 n)).run Try.prog w = .ok (.slice (some ⟨w.heap.size, 0, none⟩) n n) w' ∧
    Below w.heap.size w w' ∧ w.heap.size < w'.heap.size ∧ ∀ k, k < n → Var ⟨w.heap.size, k, none⟩ (.int .i64 0) w' := by
  obtain ⟨i0, hi, hz0, hz1, hz2⟩ := info_parts Try.infoI
  obtain ⟨w', h1, h2, h3⟩ := run_make_full (P := Try.prog) w w.heap.size 23 3 i0 (.int .i64 0) 1 Try.underlying23 hi hz0 hz1 .i64 .i64 n (by rw [hz2]; omega) (by unfold maxLen; omega) (Nat.le_refl _)
  have e : (madeCells (Value.int IntKind.i64 0).cells (n * 1)).toList = List.replicate n (.int .i64 0) := by
    rw [Nat.mul_one]
    show (madeCells #[Value.int IntKind.i64 0] n).toList = _
    rw [toList_madeCells_one]
  rw [e] at h2
  refine ⟨w', h1, (Below.refl _ _).grown h3 (Nat.le_refl _) (fun k hk => by cases hk), ?_, fun k hk => ⟨?_, h2.frozenAt k⟩⟩
  · rcases h2.2 with ⟨h, _⟩ | ⟨g, cap, cur, hv, hg, hh, r⟩
    · cases h
    · cases hv
      exact (Array.getElem?_eq_some_iff.1 hh).1
  · rw [h2.cellAt k (by omega)]
    simp [hk]

set_option maxRecDepth 100000 in
set_option maxHeartbeats 2000000 in
theorem walk (a0 : Int) (a1 : Int) (w0 : (Lit.int .i64 a0).wf = true) (w1 : (Lit.int .i64 a1).wf = true) (w : World) :
    Calls Try.prog 3 #[.int .i64 a0, .int .i64 a1] w fun e w' => e = .returned (.bool true) ∧ Below w.heap.size w w' := by
  have hmf : ∀ (fn : Fn) (first cap : Array Value) (w : World), (Instr.makeFunc fn first cap).run Try.prog w = .ok (.func fn first cap) w := fun _ _ _ _ => rfl
  clear w0 w1
  by_cases hd : 0 ≤ a0 ∧ a0 ≤ 20
  · obtain ⟨n, rfl⟩ := Int.eq_ofNat_of_zero_le hd.1
    have hn : n ≤ 20 := by omega
    go_enter Try.func3, Try.ntmps3
    go_wp2_with fail
    refine (begun_any _).mono ?_
    rintro e x1 ⟨rfl, hb1⟩
    obtain ⟨HB, hsz, v1⟩ := par1 hb1
    clear hb1
    obtain ⟨x2, hmk, hb2, hlt, hcs⟩ := made_any n hn x1
    have HCS := hide hcs
    clear hcs
    go_wp2_with fail
    have HB2 := HB.trans (hb2.mono HB.size)
    have v2 : Var ⟨w.heap.size, 0, none⟩ (.int .i64 a1) x2 := v1.below v1.lt _ _ hb2
    have vl := Var.new x2 (.slice (some ⟨x1.heap.size, 0, none⟩) n n) 23
    by_cases hin : 0 ≤ a1 ∧ a1 < (n : Int)
    · obtain ⟨k, rfl⟩ := Int.eq_ofNat_of_zero_le hin.1
      have hk : k < n := by omega
      have vc := HCS.out k hk
      refine (tt_back 6 _ _ (fun b => b = x1.heap.size) (Var ⟨x1.heap.size, k, none⟩ (.int .i64 1)) (enters6 _) (by simp; omega) (Var.below (by simp; omega)) (in_any _ _ x1.heap.size n k _ (uw_var vl) (uw_var (v2.alloc _)) hk (uw_var (vc.alloc _)))).mono ?_
      rintro e x3 ⟨rfl, hb3, hv3⟩
      have f0 := ((v2.alloc _).but hb3 (by simp; omega)).1
      have f1 := (vl.but hb3 (by simp; omega)).1
      have f2 := hv3.1
      have HB3 : Below w.heap.size w x3 := HB2.trans (((Below.refl _ _).alloc HB2.size _).trans (hb3.below (by have := HB2.size; simp; omega) (fun b hb => by omega)))
      clear HCS hb3 hv3 vc vl v1 v2 HB HB2 hb2 hmk
      go_wp2_with fail
      all_goals (go_ret; exact ⟨ret_bool (by simp), HB3⟩)
    · obtain ⟨v, hv, hcall⟩ := out_any _ _ ⟨x1.heap.size, 0, none⟩ n a1 _ (uw_var vl) (uw_var (v2.alloc _)) hin
      refine (tt_other v hv 6 _ _ (fun _ => False) (fun _ => True) (enters6 _) (fun _ _ h => h) (fun _ _ _ _ => trivial) hcall).mono ?_
      rintro e x3 ⟨rfl, hb3, _⟩
      have f0 := ((v2.alloc _).but hb3 (fun h => h)).1
      have HB3 : Below w.heap.size w x3 := HB2.trans (((Below.refl _ _).alloc HB2.size _).trans ((but_none hb3).mono (by have := HB2.size; simp; omega)))
      clear HCS hb3 hcall vl v1 v2 HB HB2 hb2 hmk
      go_wp2_with fail
      all_goals (go_ret; exact ⟨ret_bool (by simp), HB3⟩)
  · go_enter Try.func3, Try.ntmps3
    go_wp2_with fail
    refine (begun_any _).mono ?_
    rintro e x1 ⟨rfl, hb1⟩
    obtain ⟨HB, hsz, v1⟩ := par1 hb1
    clear hb1
    go_wp2_with fail
    all_goals try (go_ret; exact ⟨rfl, HB⟩)
    all_goals (exfalso; omega)

set_option maxRecDepth 100000 in
theorem lifted (os : Os) (started : os.Started) (H : Type) (enc : TypeId × Value → H) :
    ReturnsInHanded {} Try.checked os 3 .any (Rows.guardIndexSpec.pre6 enc Try.prog Try.f3 Rows.guardIndexRow.domain false) (Rows.guardIndexSpec.post enc Try.prog Try.f3 false true false false) := by
  refine returnsInHanded_of_change (C := Try.checked) own started (by kernel_rfl) Try.func3
    (ChangeSpec.witness6 (enc := enc) (C := Try.checked) false ⟨#[], #[.int .i64 0, .int .i64 0], []⟩ 8 (by kernel_rfl) (by kernel_rfl) (by kernel_rfl) (by kernel_rfl)) ?_
  intro W base args ds gs before hval0 hW hcnd _
  have hval : ∀ (j : Nat) t v, Try.f3.params[j]? = some t → args[j]? = some v → Value.okWide Try.prog W .any base t v := hval0
  have hW' := hW
  obtain ⟨p, q, hA0, hV, rfl, hfz, hnd⟩ := hW
  have hA : DataW.TrodAll enc Try.prog W 0 (fun _ => true) true Try.f3.params.toList args.toList ds p := hA0
  rw [Try.params3] at hA hval
  obtain ⟨v0, vs0, d0, ds0, p0, q0, hargs, rfl, rfl, h0, r0⟩ := trodAll_cons hA
  obtain ⟨v1, vs1, d1, ds1, p1, q1, rfl, rfl, rfl, h1, r1⟩ := trodAll_cons r0
  obtain ⟨rfl, rfl, rfl⟩ := trodAll_nil r1
  obtain rfl : args = #[v0, v1] := by cases args; simp_all
  obtain ⟨rfl, rfl⟩ := trodVars_none hV
  obtain ⟨a0, rfl, rfl, rfl, w0⟩ := open_int Try.underlying3 (hval 0 3 v0 rfl rfl) h0
  obtain ⟨a1, rfl, rfl, rfl, w1⟩ := open_int Try.underlying3 (hval 1 3 v1 rfl rfl) h1
  clear hA0 hval0
  refine (walk a0 a1 w0 w1 W).mono fun e W' ⟨he, bel⟩ => ?_
  subst he
  exact ⟨_, rfl, _, _, _, [], _, [], hW', trodAll_mk1 (shut_bool Try.underlying4 _), (trodAll_cons_mk (shut_int Try.underlying3 w0) (trodAll_cons_mk (shut_int Try.underlying3 w1) trodAll_mk0)), rfl, bel.frame _, fun h => by cases h⟩

theorem over : Rows.guardIndexRow.holds Try.pinned (OpenSpec.ofChange Rows.guardIndexSpec) :=
  OpenClaim.holds_of_wide 3 Try.f3 rfl rfl rfl rfl rfl rfl rfl ⟨rfl, rfl, rfl, rfl, rfl⟩ rfl rfl rfl rfl rfl (by kernel_rfl) Try.func3 (by kernel_rfl)
    (of_decide_eq_true (by kernel_rfl)) (by unfold Func.isWrapper; first | (rw [if_pos (by decide +kernel)]; kernel_rfl) | (rw [if_neg (by decide +kernel)]; exact ⟨rfl, rfl⟩))
    (fun os started H enc _ => lifted os started H enc)

theorem proved : Rows.GuardIndexSaid :=
  over
#print axioms proved
end Go.Proofs.Ytpoilpekficngab.guardIndex
