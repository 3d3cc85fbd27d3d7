/-
  For every int no and every two bytes x and y SheetBack returns true: a page (0 to 95) that is set to another one is a change, one that is set to what it was is none. No condition.
-/
import Derived.Test.YthihldepedbppaaRows
import Derived.WalkKit
import Derived.ProofKit
import Derived.OpenShut
import Derived.ShutString
import Derived.ChangeOld
import Derived.Below
import Derived.Test.YthihldepedbppaaShtI
import Derived.Test.YthihldepedbppaaOrw
namespace Go.Proofs.Ythihldepedbppaa.sheetBack
open Go.ChangeShapes Go.WideShapes Go.ChangeAt Go.RowKit
open Go.ChangeMaps (open_string shut_string)
set_option linter.unusedVariables false

theorem own : ownKnob Try.prog.godebug = none := by kernel_rfl
theorem laidOut : laidOutB Try.prog = true := by kernel_rfl

theorem pad_one {x y : Int} (h : pad [x] = pad [y]) : x = y := by
  have := congrArg (fun l => l.getD 0 0) h
  exact this
theorem back_chs {no : Nat} (hno : no < 96) {x y : Int} : (chs (put1 (fun _ => none) no (pad [y])) (bookF 0 (put1 (fun _ => none) no (pad [x]))) 96).length = if x = y then 0 else 1 := by
  rw [chs_one hno fun i hi hn => by simp [chOf, put1_other _ hn]]
  have e : bookF 0 (put1 (fun _ => none) no (pad [x])) no = some (pad [x]) := by simp [bookF, put1_same]
  by_cases h : x = y
  · subst h
    rw [if_pos rfl, chOf, put1_same, e]
    simp
  · rw [if_neg h, chOf, put1_same, e]
    simp only [Option.some.injEq]
    rw [if_neg fun q => h (pad_one q)]
    rfl

theorem back_none {no : Nat} (hno : no < 96) {x y : Int} : (chs (put1 (put1 (fun _ => none) no (pad [y])) no (pad [x])) (bookF 0 (put1 (fun _ => none) no (pad [x]))) 96).length = 0 := by
  rw [chs_one hno fun i hi hn => by simp [chOf, put1_other _ hn]]
  have e : bookF 0 (put1 (fun _ => none) no (pad [x])) no = some (pad [x]) := by simp [bookF, put1_same]
  rw [chOf, put1_same, e]
  simp

set_option maxRecDepth 100000 in
set_option maxHeartbeats 4000000 in
theorem walk (a0 : Int) (a1 : Int) (a2 : Int) (w : World) (w0 : (Lit.int .i64 a0).wf = true) (w1 : (Lit.int .u8 a1).wf = true) (w2 : (Lit.int .u8 a2).wf = true) :
    Calls Try.prog 8 #[.int .i64 a0, .int .u8 a1, .int .u8 a2] w fun e w' => e = .returned (.bool true) ∧ Below w.heap.size w w' := by
  have hx : 0 ≤ a1 ∧ a1 ≤ 255 := bounds_u8 w1
  have hy : 0 ≤ a2 ∧ a2 ≤ 255 := bounds_u8 w2
  have HX := hide hx
  have HY := hide hy
  have HXP : Hid (Pg (pad [a1])) := pad_pg (by intro z hz; rw [List.mem_singleton] at hz; rw [hz]; exact HX.out)
  have HYP : Hid (Pg (pad [a2])) := pad_pg (by intro z hz; rw [List.mem_singleton] at hz; rw [hz]; exact HY.out)
  clear w0 w1 w2 hx hy
  by_cases hr : 0 ≤ a0 ∧ a0 ≤ 95
  · obtain ⟨no, rfl⟩ := Int.eq_ofNat_of_zero_le hr.1
    have hno : no < 96 := by omega
    have hn95 : ¬ 95 < no := by omega
    have hn0 : ¬ (no : Int) < 0 := by omega
    have hn96 : ¬ (96 : Int) ≤ (no : Int) := by omega
    clear hr
    go_enter Try.func8, Try.ntmps8
    go_wp2_with fail
    refine (begun_any _).mono ?_
    rintro e x1 ⟨rfl, hB1⟩
    have HK1 := hide (Book.new x1 0)
    have HB1 := hide (hB1.trans ((below_alloc x1 (.cells (bkz 0).toArray 28)).mono hB1.size))
    have HR := hide (run_buildB x1)
    have hl1 := hB1.size
    generalize hq : bkz 0 = q at *
    clear hB1
    go_wp2_with (first
      | (refine wpList_build0T 28 q rfl rfl HR.out ?_)
      | (refine wpList_boxT 28 _ q rfl rfl rfl ?_))
    obtain ⟨gb, hgb⟩ : ∃ gb, gb = x1.heap.size := ⟨_, rfl⟩
    generalize hX2 : x1.alloc (.cells q.toArray 28) = x2 at *
    rw [← hgb] at HK1 hl1 ⊢
    clear HR hgb hq hX2
    have HL1 := hide hl1
    clear hl1
    refine wp_region_noPanic ?_
    refine wp_region_held_drew (S := fun W => Below w.heap.size w W) (by kernel_rfl) ?_ (fun hHeld => ?_)
    · exact HB1.out.drew
    refine wpAnyH_take (i := 0) (v := ?_) rfl (by kernel_rfl) (by kernel_rfl) (by kernel_rfl) (fun _ _ _ h => h) (Or.inl ⟨by kernel_rfl, ?_⟩) hHeld ?_
    rotate_left
    · intro W hW; go_simp; first | done | with_reducible rfl | rfl
    try simp only [Act.put, List.getElem_toArray, List.getElem_cons_zero, List.setIfInBounds_toArray, List.set_cons_succ, List.set_cons_zero]
    refine wpAnyH_take (i := 1) (v := ?_) rfl (by kernel_rfl) (by kernel_rfl) (by kernel_rfl) (fun _ _ _ h => h) (Or.inl ⟨by kernel_rfl, ?_⟩) hHeld ?_
    rotate_left
    · intro W hW; go_simp; first | done | with_reducible rfl | rfl
    try simp only [Act.put, List.getElem_toArray, List.getElem_cons_zero, List.getElem_cons_succ, List.setIfInBounds_toArray, List.set_cons_succ, List.set_cons_zero]
    refine wpAnyH_take (i := 2) (v := ?_) rfl (by kernel_rfl) (by kernel_rfl) (by kernel_rfl) (fun _ _ _ h => h) (Or.inl ⟨by kernel_rfl, ?_⟩) hHeld ?_
    rotate_left
    · intro W hW; go_simp; first | done | with_reducible rfl | rfl
    try simp only [Act.put, List.getElem_toArray, List.getElem_cons_zero, List.getElem_cons_succ, List.setIfInBounds_toArray, List.set_cons_succ, List.set_cons_zero]
    refine wpAnyH_take (i := 5) (v := ?_) rfl (by kernel_rfl) (by kernel_rfl) (by kernel_rfl) (fun _ _ _ h => h) (Or.inl ⟨by kernel_rfl, ?_⟩) hHeld ?_
    rotate_left
    · intro W hW; go_simp; first | done | with_reducible rfl | rfl
    try simp only [Act.put, List.getElem_toArray, List.getElem_cons_zero, List.getElem_cons_succ, List.setIfInBounds_toArray, List.set_cons_succ, List.set_cons_zero]
    refine wpAnyH_take (i := 6) (v := ?_) rfl (by kernel_rfl) (by kernel_rfl) (by kernel_rfl) (fun _ _ _ h => h) (Or.inl ⟨by kernel_rfl, ?_⟩) hHeld ?_
    rotate_left
    · intro W hW; go_simp; first | done | with_reducible rfl | rfl
    try simp only [Act.put, List.getElem_toArray, List.getElem_cons_zero, List.getElem_cons_succ, List.setIfInBounds_toArray, List.set_cons_succ, List.set_cons_zero]
    refine wpAnyH_ready (rs := [3]) (by kernel_rfl) (by simp) ?_
    refine AllReadyH.cons (o := _) rfl (fun K hK => ?_) AllReadyH.nil
    go_simp
    refine hK.out _ _ ?_ (fun hHeld => ?_)
    · exact hHeld.trans ((below_alloc _ _).mono hHeld.size)
    clear hK K
    try simp only [Act.put, List.getElem_toArray, List.getElem_cons_zero, List.getElem_cons_succ, List.setIfInBounds_toArray, List.set_cons_succ, List.set_cons_zero]
    refine wpAnyH_ready (rs := [4]) (by kernel_rfl) (by simp) ?_
    refine AllReadyH.cons (o := _) rfl (fun K hK => ?_) AllReadyH.nil
    go_simp
    refine (pof_any (Sl.later (lit_sl x2 5 (0, 0) (zs := [a1]) (by intro z hz; rw [List.mem_singleton] at hz; rw [hz]; exact HX.out) (by simp)) (Below.refl _ _).drew)).mono ?_
    rintro e x3 ⟨b3, rfl, hp3, hl3, hb⟩
    have hb3 : Below x2.heap.size x2 x3 := ((below_alloc x2 _).drew).trans (hb.mono (below_alloc x2 _).size)
    have HB3 := hide (HB1.out.trans (hb3.mono HB1.out.size))
    have HK3 := hide (HK1.out.later hb3)
    have HT3 := hide hp3
    have c3 := HK3.out.at_.cell (i := no) (by rw [HK3.out.len]; omega)
    have f3 := HK3.out.at_.frozen no
    dsimp only
    refine hK.out _ _ HB3.out (fun hHeld => ?_)
    clear hK K hp3 hl3 hb hb3
    try simp only [Act.put, List.getElem_toArray, List.getElem_cons_zero, List.getElem_cons_succ, List.setIfInBounds_toArray, List.set_cons_succ, List.set_cons_zero]
    refine wpAnyH_take (i := 7) (v := (.pointer (some ⟨gb, no, none⟩))) rfl (by kernel_rfl) (by kernel_rfl) (by kernel_rfl) (fun _ _ _ h => h) (Or.inl ⟨by kernel_rfl, ?_⟩) hHeld ?_
    · intro W hW; go_simp; first | done | with_reducible rfl | rfl
    try simp only [Act.put, List.getElem_toArray, List.getElem_cons_zero, List.getElem_cons_succ, List.setIfInBounds_toArray, List.set_cons_succ, List.set_cons_zero]
    refine wpAnyH_ready (rs := [8]) (by kernel_rfl) (by simp) ?_
    refine AllReadyH.cons (o := _) rfl (fun K hK => ?_) AllReadyH.nil
    go_simp
    have HK4 := hide (HK3.out.put (k := no) (Sl.own (tb_own HT3.out HXP.out (Nat.zero_le _)) HXP.out.2) HXP.out hno)
    have HB4 : Hid (Below w.heap.size w (x3.setCell ⟨gb, no, none⟩ (.slice (some ⟨b3, 0, none⟩) 256 256))) := Below.but HB3.out HB3.out.size (but_set x3 gb no _) (fun i e => by have := HL1.out; omega)
    refine hK.out _ _ HB4.out (fun hHeld => ?_)
    generalize x3.setCell ⟨gb, no, none⟩ (.slice (some ⟨b3, 0, none⟩) 256 256) = x4 at *
    clear hK K c3 f3 HT3 HK3 HB3 HK1 HB1
    refine wpAnyH_done (by kernel_rfl) ?_ _
    refine NoPanic.normal ?_
    go_simp
    clear hHeld
    go_wp2_with fail
    refine (Duo.new HK4.out HB4.out HB4.out.size HL1.out).mono ?_
    rintro e x5 ⟨gs, rfl, hd, -⟩
    have HD5 := hide hd
    clear hd HK4 HB4
    go_wp2_with fail
    refine (pof_any (lit_sl _ _ _ (zs := [a2]) (by intro z hz; rw [List.mem_singleton] at hz; rw [hz]; exact HY.out) (by simp))).mono ?_
    rintro e x6 ⟨b6, rfl, hp6, -, hb⟩
    have HD6 := hide (HD5.out.later ((below_alloc x5 _).trans (hb.mono (below_alloc x5 _).size)))
    have HT6 := hide hp6
    clear hp6 hb HD5
    go_wp2_with fail
    refine (HD6.out.set rfl hno (Sl.own (tb_own HT6.out HYP.out (Nat.zero_le _)) HYP.out.2) HYP.out).mono ?_
    rintro e x7 ⟨rfl, hd7, -, -⟩
    have HD7 := hide hd7
    clear hd7 HD6 HT6
    go_wp2_with fail
    refine HD7.out.changes.mono ?_
    rintro e x8 ⟨v8, L8, rfl, hL, hs8, hb⟩
    have HS8 : Hid (L8.length = if a1 = a2 then 0 else 1) := by
      show _ = _
      have := congrArg List.length hs8
      rw [say, List.length_map] at this
      rw [this, back_chs hno]
    obtain ⟨p8, n8, c8, rfl, hn8, hm8, Hn8, -⟩ := hL.loose.opens
    have HN8 : Hid (n8 = if a1 = a2 then 0 else 1) := by show _ = _; rw [Hn8.out, HS8.out]
    have HD8 := hide (HD7.out.later hb)
    clear hL hs8 hb HD7 HS8 Hn8
    go_wp2_with fail
    refine (pof_any (lit_sl _ _ _ (zs := [a1]) (by intro z hz; rw [List.mem_singleton] at hz; rw [hz]; exact HX.out) (by simp))).mono ?_
    rintro e x9 ⟨b9, rfl, hp9, -, hb⟩
    have HD9 := hide (HD8.out.later ((below_alloc x8 _).trans (hb.mono (below_alloc x8 _).size)))
    have HT9 := hide hp9
    clear hp9 hb HD8
    go_wp2_with fail
    refine (HD9.out.set rfl hno (Sl.own (tb_own HT9.out HXP.out (Nat.zero_le _)) HXP.out.2) HXP.out).mono ?_
    rintro e y1 ⟨rfl, hd1, -, -⟩
    have HE1 := hide hd1
    clear hd1 HD9 HT9
    have hq8 : (((n8 : Int) == 1) == (a1 != a2)) = true := by
      have h := HN8.out
      by_cases e : a1 = a2
      · rw [if_pos e] at h
        subst h
        simp [e]
      · rw [if_neg e] at h
        subst h
        simp [e]
    clear HN8
    go_upto_region 12 with fail
    go_wp2_with fail
    refine HE1.out.changes.mono ?_
    rintro e y2 ⟨v9, L9, rfl, hL, hs9, hb⟩
    have hl9 : L9.length = 0 := by
      have := congrArg List.length hs9
      rw [say, List.length_map] at this
      rw [this, back_none hno]
    obtain ⟨p9, n9, c9, rfl, hn9, hm9, Hn9, -⟩ := hL.loose.opens
    obtain rfl : n9 = 0 := by rw [Hn9.out, hl9]
    have HB := hide (HE1.out.later hb).bel
    clear hL hs9 hb HE1 hl9 Hn9
    go_wp2_with fail
    go_ret
    exact ⟨rfl, HB.out⟩
  · have hc : a0 < 0 ∨ (0 ≤ a0 ∧ 95 < a0) := by omega
    clear hr
    rcases hc with hc | ⟨hc, hd⟩
    all_goals
      go_enter Try.func8, Try.ntmps8
      go_wp2_with fail
      refine (begun_any _).mono ?_
      rintro e x1 ⟨rfl, hB1⟩
      go_wp2_with fail
      go_ret
      exact ⟨rfl, hB1⟩

set_option maxRecDepth 100000 in
theorem lifted (os : Os) (started : os.Started) (H : Type) (enc : TypeId × Value → H) :
    ReturnsInHanded {} Try.checked os 8 .any (Rows.sheetBackSpec.pre6 enc Try.prog Try.f8 Rows.sheetBackRow.domain false) (Rows.sheetBackSpec.post enc Try.prog Try.f8 false true false false) := by
  refine returnsInHanded_of_change (C := Try.checked) own started (by kernel_rfl) Try.func8
    (ChangeSpec.witness6 (enc := enc) (C := Try.checked) false ⟨#[], #[.int .i64 0, .int .u8 0, .int .u8 0], []⟩ 8 (by kernel_rfl) (by kernel_rfl) (by kernel_rfl) (by kernel_rfl)) ?_
  intro W base args ds gs before hval0 hW hcnd _
  have hval : ∀ (j : Nat) t v, Try.f8.params[j]? = some t → args[j]? = some v → Value.okWide Try.prog W .any base t v := hval0
  have hW' := hW
  obtain ⟨p, q, hA0, hV, rfl, hfz, hnd⟩ := hW
  have hA : DataW.TrodAll enc Try.prog W 0 (fun _ => true) true Try.f8.params.toList args.toList ds p := hA0
  rw [Try.params8] at hA hval
  obtain ⟨v0, vs0, d0, ds0, p0, q0, hargs, rfl, rfl, h0, r0⟩ := trodAll_cons hA
  obtain ⟨v1, vs1, d1, ds1, p1, q1, rfl, rfl, rfl, h1, r1⟩ := trodAll_cons r0
  obtain ⟨v2, vs2, d2, ds2, p2, q2, rfl, rfl, rfl, h2, r2⟩ := trodAll_cons r1
  obtain ⟨rfl, rfl, rfl⟩ := trodAll_nil r2
  obtain rfl : args = #[v0, v1, v2] := by cases args; simp_all
  obtain ⟨rfl, rfl⟩ := trodVars_none hV
  obtain ⟨a0, rfl, rfl, rfl, w0⟩ := open_int Try.underlying3 (hval 0 3 v0 rfl rfl) h0
  obtain ⟨a1, rfl, rfl, rfl, w1⟩ := open_int Try.underlying5 (hval 1 5 v1 rfl rfl) h1
  obtain ⟨a2, rfl, rfl, rfl, w2⟩ := open_int Try.underlying5 (hval 2 5 v2 rfl rfl) h2
  clear hA0 hval0
  refine (walk a0 a1 a2 W w0 w1 w2).mono fun e W' ⟨he, bel⟩ => ?_
  subst he
  exact ⟨_, rfl, _, _, _, [], _, [], hW', trodAll_mk1 (shut_bool Try.underlying4 _), (trodAll_cons_mk (shut_int Try.underlying3 w0) (trodAll_cons_mk (shut_int Try.underlying5 w1) (trodAll_cons_mk (shut_int Try.underlying5 w2) trodAll_mk0))), rfl, bel.frame _, fun h => by cases h⟩

theorem over : Rows.sheetBackRow.holds Try.pinned (OpenSpec.ofChange Rows.sheetBackSpec) :=
  OpenClaim.holds_of_wide 8 Try.f8 rfl rfl rfl rfl rfl rfl rfl ⟨rfl, rfl, rfl, rfl, rfl⟩ rfl rfl rfl rfl rfl (by kernel_rfl) Try.func8 (by kernel_rfl)
    (of_decide_eq_true (by kernel_rfl)) (by unfold Func.isWrapper; first | (rw [if_pos (by decide +kernel)]; kernel_rfl) | (rw [if_neg (by decide +kernel)]; exact ⟨rfl, rfl⟩))
    (fun os started H enc _ => lifted os started H enc)

theorem proved : Rows.SheetBackSaid := over
#print axioms proved
end Go.Proofs.Ythihldepedbppaa.sheetBack
