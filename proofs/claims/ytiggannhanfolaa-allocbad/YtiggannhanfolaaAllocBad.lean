/-
  AllocBad returns true: above a book whose page 1 can't be read Root, Used, Take, Count, SetRoot and Free tell ErrDown (and 0, false), and nothing is changed. No condition.
-/
import Derived.Test.YtiggannhanfolaaRows
import Derived.WalkKit
import Derived.ProofKit
import Derived.OpenShut
import Derived.ShutString
import Derived.Test.YtiggannhanfolaaAllF
import Derived.Test.YtiggannhanfolaaOrw
import Derived.ChangeOld
import Derived.Below
namespace Go.Proofs.Ytiggannhanfolaa.allocBad
open Go.ChangeShapes Go.WideShapes Go.ChangeAt Go.RowKit
open Go.ChangeMaps (open_string shut_string)
set_option linter.unusedVariables false

theorem own : ownKnob Try.prog.godebug = none := by kernel_rfl

theorem bad_one : orE (fun _ => none) (bookF 1 fun _ => none) 1 = none := rfl
theorem bad_chs : chs (fun _ => none) (bookF 1 fun _ => none) 96 = [] := chs_none (fun i _ z h => by cases h)

set_option maxRecDepth 100000 in
set_option maxHeartbeats 4000000 in
theorem walk (w : World) : Calls Try.prog 4 #[] w fun e w' => e = .returned (.bool true) ∧ Below w.heap.size w w' := by
  have HK1 := hide (Book.new w 1)
  have HB1 := hide (below_alloc w (.cells (bkz 1).toArray 28))
  have HR := hide (run_buildBad 1 w)
  generalize hq : bkz 1 = q at *
  go_enter Try.func4, Try.ntmps4
  go_wp2_with (first
    | (refine wpList_buildT 28 1 (.const (.int .i64 1)) q rfl rfl (.int .i64 1) rfl HR.out ?_)
    | (refine wpList_boxT 28 _ q rfl rfl rfl ?_))
  refine (Duo.new HK1.out HB1.out HB1.out.size (Nat.le_refl _)).mono ?_
  rintro e x2 ⟨gs, rfl, hd, -⟩
  generalize hgb : w.heap.size = gb at *
  have HD := hide hd
  clear hd HK1 HB1 HR
  have HSS : Hid (∀ W, Below x2.heap.size x2 W → ∃ vs, Sheet W gs (.iface 24 (.pointer (some ⟨gb, 0, none⟩))) (fun _ => none) vs ∧ Src W (.iface 24 (.pointer (some ⟨gb, 0, none⟩))) (bookF 1 fun _ => none)) := fun W hW => by
    obtain ⟨vs, hs⟩ := HD.out.sheet
    obtain ⟨us, hk⟩ := HD.out.book
    exact ⟨vs, hs.later hW, (hk.later hW).src⟩
  have HB : Hid (Below x2.heap.size x2 x2) := Below.refl _ _
  go_wp2_with fail
  obtain ⟨vs, hs, hc⟩ := HSS.out x2 (Below.refl _ _)
  refine (root_down (hs.src hc) bad_one).mono ?_
  rintro e x3 ⟨rfl, hb⟩
  have HB3 := hide (HB.out.trans (hb.mono HB.out.size))
  clear hb hs hc vs HB
  go_wp2_with fail
  obtain ⟨vs, hs, hc⟩ := HSS.out x3 HB3.out
  refine (uused_down (hs.src hc) bad_one 5).mono ?_
  rintro e x4 ⟨rfl, hb⟩
  have HB4 := hide (HB3.out.trans (hb.mono HB3.out.size))
  clear hb hs hc vs HB3
  go_wp2_with fail
  obtain ⟨vs, hs, hc⟩ := HSS.out x4 HB4.out
  refine (take_down hs hc bad_one).mono ?_
  rintro e x5 ⟨rfl, hb⟩
  have HB5 := hide (HB4.out.trans (hb.mono HB4.out.size))
  clear hb hs hc vs HB4
  go_wp2_with fail
  obtain ⟨vs, hs, hc⟩ := HSS.out x5 HB5.out
  refine (count_down (hs.src hc) bad_one).mono ?_
  rintro e x6 ⟨rfl, hb⟩
  have HB6 := hide (HB5.out.trans (hb.mono HB5.out.size))
  clear hb hs hc vs HB5
  go_wp2_with fail
  refine (abegun_any _).mono ?_
  rintro e x7 ⟨rfl, hb⟩
  have HB7 := hide (HB6.out.trans (hb.mono HB6.out.size))
  clear hb HB6
  go_wp2_with fail
  obtain ⟨vs, hs, hc⟩ := HSS.out x7 HB7.out
  refine (setroot_down hs hc bad_one (z := 2) rfl).mono ?_
  rintro e x8 ⟨rfl, hb⟩
  have HB8 := hide (HB7.out.trans (hb.mono HB7.out.size))
  clear hb hs hc vs HB7
  go_wp2_with fail
  obtain ⟨vs, hs, hc⟩ := HSS.out x8 HB8.out
  refine (free_down hs hc bad_one (z := 2) (by omega)).mono ?_
  rintro e x9 ⟨rfl, hb⟩
  have HB9 := hide (HB8.out.trans (hb.mono HB8.out.size))
  clear hb hs hc vs HB8
  go_wp2_with fail
  obtain ⟨vs, hs, hc⟩ := HSS.out x9 HB9.out
  refine (changes_any hs hc).mono ?_
  rw [bad_chs]
  rintro e x10 ⟨v, L, rfl, hL, hsay, hb⟩
  have hl0 : L.length = 0 := by
    have := congrArg List.length hsay
    rwa [say, List.length_map] at this
  obtain ⟨p9, n9, c9, rfl, hn9, hm9, Hn9, -⟩ := hL.loose.opens
  obtain rfl : n9 = 0 := by rw [Hn9.out, hl0]
  have HBX := hide ((HD.out.later (HB9.out.trans (hb.mono HB9.out.size))).bel)
  clear hb hs hc vs HB9 HD HSS hL hsay hl0 Hn9
  go_wp2_with fail
  go_ret
  exact ⟨rfl, by rw [hgb]; exact HBX.out⟩

set_option maxRecDepth 100000 in
theorem lifted (os : Os) (started : os.Started) (H : Type) (enc : TypeId × Value → H) :
    ReturnsInHanded {} Try.checked os 4 .any (Rows.allocBadSpec.pre6 enc Try.prog Try.f4 Rows.allocBadRow.domain false) (Rows.allocBadSpec.post enc Try.prog Try.f4 false true false false) := by
  refine returnsInHanded_of_change (C := Try.checked) own started (by kernel_rfl) Try.func4
    (ChangeSpec.witness6 (enc := enc) (C := Try.checked) false ⟨#[], #[], []⟩ 8 (by kernel_rfl) (by kernel_rfl) (by kernel_rfl) (by kernel_rfl)) ?_
  intro W base args ds gs before hval0 hW hcnd _
  have hval : ∀ (j : Nat) t v, Try.f4.params[j]? = some t → args[j]? = some v → Value.okWide Try.prog W .any base t v := hval0
  have hW' := hW
  obtain ⟨p, q, hA0, hV, rfl, hfz, hnd⟩ := hW
  have hA : DataW.TrodAll enc Try.prog W 0 (fun _ => true) true Try.f4.params.toList args.toList ds p := hA0
  rw [Try.params4] at hA hval
  obtain ⟨rfl, rfl, rfl⟩ := trodAll_none hA
  obtain ⟨rfl, rfl⟩ := trodVars_none hV
  clear hA0 hval0
  refine (walk  W).mono fun e W' ⟨he, bel⟩ => ?_
  subst he
  exact ⟨_, rfl, _, _, _, [], _, [], hW', trodAll_mk1 (shut_bool Try.underlying4 _), rfl, rfl, bel.frame _, fun h => by cases h⟩

theorem over : Rows.allocBadRow.holds Try.pinned (OpenSpec.ofChange Rows.allocBadSpec) :=
  OpenClaim.holds_of_wide 4 Try.f4 rfl rfl rfl rfl rfl rfl rfl ⟨rfl, rfl, rfl, rfl, rfl⟩ rfl rfl rfl rfl rfl (by kernel_rfl) Try.func4 (by kernel_rfl)
    (of_decide_eq_true (by kernel_rfl)) (by unfold Func.isWrapper; first | (rw [if_pos (by decide +kernel)]; kernel_rfl) | (rw [if_neg (by decide +kernel)]; exact ⟨rfl, rfl⟩))
    (fun os started H enc _ => lifted os started H enc)

theorem proved : Rows.AllocBadSaid :=
  over
#print axioms proved
end Go.Proofs.Ytiggannhanfolaa.allocBad
