/-
  For every two ints PageDead returns true: a Write of a page (0 to 95) on a device that dies behind some more calls (0 to 8) tells the first error of the device, what was done ahead of it is done and no more, and a Read of no device tells that there is none. No condition.
-/
import Derived.Test.YtmaahgoeblhoaaaRows
import Derived.WalkKit
import Derived.ProofKit
import Derived.OpenShut
import Derived.ShutString
import Derived.ChangeOld
import Derived.Below
import Derived.Test.YtmaahgoeblhoaaaPagB
namespace Go.Proofs.Ytmaahgoeblhoaaa.pageDead
open Go.ChangeShapes Go.WideShapes Go.ChangeAt Go.RowKit
open Go.ChangeMaps (open_string shut_string)
set_option linter.unusedVariables false

theorem own : ownKnob Try.prog.godebug = none := by kernel_rfl
theorem laidOut : laidOutB Try.prog = true := by kernel_rfl

/-- How a Write ends on a device that dies behind f more calls. -/
theorem fused_ends {d : Dv} {f p m : Nat} {zs : List Int} {er : Int} (hf : d.fuse = some f) (h : Pwr d p zs m er) : (4 ≤ f ∧ m = 4 ∧ er = 0) ∨ (f < 4 ∧ m = f ∧ er = 5) := by
  have hd : ∀ k, (d.pw p zs k).dead = decide (f - k = 0) := fun k => by simp [Dv.dead, Dv.pw_fuse, hf]
  have h1 := h.le
  have h2 : m ≤ f := by
    rcases Nat.eq_zero_or_pos m with h0 | h0
    · omega
    · have := h.alive (m - 1) (by omega)
      rw [hd] at this
      simp at this
      omega
  rcases Nat.lt_or_ge m 4 with h3 | h3
  · obtain ⟨h4, h5⟩ := h.down h3
    rw [hd] at h5
    simp at h5
    exact .inr ⟨by omega, by omega, h4⟩
  · exact .inl ⟨by omega, by omega, h.all (by omega)⟩

set_option maxRecDepth 100000 in
set_option maxHeartbeats 2000000 in
theorem walk (a0 : Int) (a1 : Int) (w : World) (w0 : (Lit.int .i64 a0).wf = true) (w1 : (Lit.int .i64 a1).wf = true) :
    Calls Try.prog 4 #[.int .i64 a0, .int .i64 a1] w fun e w' => e = .returned (.bool true) ∧ Below w.heap.size w w' := by
  clear w0 w1
  by_cases hd : 0 ≤ a0 ∧ a0 ≤ 95 ∧ 0 ≤ a1 ∧ a1 ≤ 8
  · obtain ⟨no, rfl⟩ := Int.eq_ofNat_of_zero_le hd.1
    obtain ⟨f, rfl⟩ := Int.eq_ofNat_of_zero_le hd.2.2.1
    have hn : no < 96 := by omega
    have hf : f ≤ 8 := by omega
    clear hd
    have c1 : decide ((no : Int) < 0) = false := by simp
    have c2 : decide ((95 : Int) < (no : Int)) = false := by simp; omega
    have c3 : decide ((f : Int) < 0) = false := by simp
    have c4 : decide ((8 : Int) < (f : Int)) = false := by simp; omega
    go_enter Try.func4, Try.ntmps4
    go_wp2_with fail
    refine (begun_any _).mono ?_
    rintro e x1 ⟨rfl, hB1⟩
    go_wp2_with fail
    clear c1 c2 c3 c4
    refine (new_pn hB1 hB1.size 1410 rfl (by omega) (by omega)).mono ?_
    rintro e x2 ⟨g, bl, bm, rfl, h2, -⟩
    have H2 := hide h2
    clear h2 hB1
    go_wp2_with fail
    refine (fuse_any H2.out.dev f (by omega)).mono ?_
    rintro e x3 ⟨rfl, h3, hb3⟩
    have H3 := hide (H2.out.next h3 (hb3.mono fun k _ e => .inl e))
    have HF : Hid (((Dv.new 1410).fused f).fuse = some f) := by show _ = _; simp [Dv.fused, Dv.dead, Dv.new]
    have HC : Hid (((Dv.new 1410).fused f).calls = 0) := by show _ = _; simp [Dv.fused, Dv.dead, Dv.new]
    have HN : Hid (((Dv.new 1410).fused f).n = 1410) := by show _ = _; simp [Dv.fused, Dv.dead, Dv.new]
    clear h3 hb3 H2
    generalize (Dv.new 1410).fused f = d at *
    go_wp2_with fail
    refine (pof_any (lit_sl _ _ _ (zs := [1]) (by decide) (by decide))).mono ?_
    rintro e x4 ⟨b, rfl, hb4, hl4, hB4⟩
    have H4 := hide (H3.out.later (((Below.refl _ _).alloc (Nat.le_refl _) _).trans (hB4.mono (by simp))))
    have HS4 : Hid (Sl x4 (.slice (some ⟨b, 0, none⟩) 256 256) (pad [1])) := by
      have := hb4.sl (off := 0) (n := 256) (cap := 256) (by rw [pad_len]; omega) (by omega) (by omega) (pad_bd (by decide))
      rw [List.drop_zero, List.take_of_length_le (by rw [pad_len]; omega)] at this
      exact this
    clear hb4 hl4 hB4 H3
    go_wp2_with fail
    refine (pwrite_any H4.out.dev (by rw [HC.out]; omega) no hn (by rw [HN.out]; omega) HS4.out (pad_len _)).mono ?_
    rintro e x5 ⟨m, er, rfl, hp5, h5, hb5⟩
    have H5 := hide (H4.out.next h5 hb5)
    have hends := fused_ends HF.out hp5
    have HC5 : Hid ((d.pw (2 + 4 * no) (pad [1]) m).calls = m) := by show _ = _; rw [Dv.pw_calls, HC.out, Nat.zero_add]
    clear hp5 h5 hb5 H4 HS4 HF HC HN
    generalize d.pw (2 + 4 * no) (pad [1]) m = d5 at *
    go_wp2_with fail
    refine (pread_nil no hn).mono ?_
    rintro e x6 ⟨rfl, hB6⟩
    have H6 := hide (H5.out.later hB6)
    clear H5 hB6
    rcases hends with ⟨h4, rfl, rfl⟩ | ⟨h4, rfl, rfl⟩
    · have hg : decide ((4 : Int) ≤ (f : Int)) = true := by simp; omega
      go_wp2_with fail
      refine (calls_any H6.out.dev).mono ?_
      rintro e x6 ⟨rfl, rfl⟩
      rw [HC5.out]
      go_wp2_with fail
      go_ret
      exact ⟨ret_bool (by simp; omega), H6.out.bel⟩
    · have hg : decide ((4 : Int) ≤ (m : Int)) = false := by simp; omega
      go_wp2_with fail
      refine (calls_any H6.out.dev).mono ?_
      rintro e x6 ⟨rfl, rfl⟩
      rw [HC5.out]
      go_wp2_with fail
      go_ret
      exact ⟨ret_bool (by simp; omega), H6.out.bel⟩
  · have hc : a0 < 0 ∨ (0 ≤ a0 ∧ 95 < a0) ∨ (0 ≤ a0 ∧ a0 ≤ 95 ∧ a1 < 0) ∨ (0 ≤ a0 ∧ a0 ≤ 95 ∧ 0 ≤ a1 ∧ 8 < a1) := by omega
    clear hd
    rcases hc with hc | hc | hc | hc
    all_goals
      go_enter Try.func4, Try.ntmps4
      go_wp2_with fail
      refine (begun_any _).mono ?_
      rintro e x1 ⟨rfl, hB1⟩
      go_wp2_with fail
      go_ret
      exact ⟨rfl, hB1⟩

set_option maxRecDepth 100000 in
theorem lifted (os : Os) (started : os.Started) (H : Type) (enc : TypeId × Value → H) :
    ReturnsInHanded {} Try.checked os 4 .any (Rows.pageDeadSpec.pre6 enc Try.prog Try.f4 Rows.pageDeadRow.domain false) (Rows.pageDeadSpec.post enc Try.prog Try.f4 false true false false) := by
  refine returnsInHanded_of_change (C := Try.checked) own started (by kernel_rfl) Try.func4
    (ChangeSpec.witness6 (enc := enc) (C := Try.checked) false ⟨#[], #[.int .i64 0, .int .i64 0], []⟩ 8 (by kernel_rfl) (by kernel_rfl) (by kernel_rfl) (by kernel_rfl)) ?_
  intro W base args ds gs before hval0 hW hcnd _
  have hval : ∀ (j : Nat) t v, Try.f4.params[j]? = some t → args[j]? = some v → Value.okWide Try.prog W .any base t v := hval0
  have hW' := hW
  obtain ⟨p, q, hA0, hV, rfl, hfz, hnd⟩ := hW
  have hA : DataW.TrodAll enc Try.prog W 0 (fun _ => true) true Try.f4.params.toList args.toList ds p := hA0
  rw [Try.params4] at hA hval
  obtain ⟨v0, vs0, d0, ds0, p0, q0, hargs, rfl, rfl, h0, r0⟩ := trodAll_cons hA
  obtain ⟨v1, vs1, d1, ds1, p1, q1, rfl, rfl, rfl, h1, r1⟩ := trodAll_cons r0
  obtain ⟨rfl, rfl, rfl⟩ := trodAll_nil r1
  obtain rfl : args = #[v0, v1] := by cases args; simp_all
  obtain ⟨rfl, rfl⟩ := trodVars_none hV
  obtain ⟨a0, rfl, rfl, rfl, w0⟩ := open_int Try.underlying3 (hval 0 3 v0 rfl rfl) h0
  obtain ⟨a1, rfl, rfl, rfl, w1⟩ := open_int Try.underlying3 (hval 1 3 v1 rfl rfl) h1
  clear hA0 hval0
  refine (walk a0 a1 W w0 w1).mono fun e W' ⟨he, bel⟩ => ?_
  subst he
  exact ⟨_, rfl, _, _, _, [], _, [], hW', trodAll_mk1 (shut_bool Try.underlying4 _), (trodAll_cons_mk (shut_int Try.underlying3 w0) (trodAll_cons_mk (shut_int Try.underlying3 w1) trodAll_mk0)), rfl, bel.frame _, fun h => by cases h⟩

theorem over : Rows.pageDeadRow.holds Try.pinned (OpenSpec.ofChange Rows.pageDeadSpec) :=
  OpenClaim.holds_of_wide 4 Try.f4 rfl rfl rfl rfl rfl rfl rfl ⟨rfl, rfl, rfl, rfl, rfl⟩ rfl rfl rfl rfl rfl (by kernel_rfl) Try.func4 (by kernel_rfl)
    (of_decide_eq_true (by kernel_rfl)) (by unfold Func.isWrapper; first | (rw [if_pos (by decide +kernel)]; kernel_rfl) | (rw [if_neg (by decide +kernel)]; exact ⟨rfl, rfl⟩))
    (fun os started H enc _ => lifted os started H enc)

theorem proved : Rows.PageDeadSaid := over
#print axioms proved
end Go.Proofs.Ytmaahgoeblhoaaa.pageDead
