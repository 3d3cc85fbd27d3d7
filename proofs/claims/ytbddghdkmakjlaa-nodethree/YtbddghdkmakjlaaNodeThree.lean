/-
  For every three cells NodeThree returns true: of cells (their keys cut to 20 bytes, their texts to 25) that may be a leaf's together the page has room: Encode tells OK. No condition.
-/
import Derived.Test.YtbddghdkmakjlaaRows
import Derived.WalkKit
import Derived.ProofKit
import Derived.OpenShut
import Derived.ShutString
import Derived.ChangeOld
import Derived.Below
import Derived.Test.YtbddghdkmakjlaaNodH
import Derived.Test.YtbddghdkmakjlaaGg
import Derived.Test.YtbddghdkmakjlaaNodC
import Derived.Test.YtbddghdkmakjlaaGe
namespace Go.Proofs.Ytbddghdkmakjlaa.nodeThree
open Go.ChangeShapes Go.WideShapes Go.ChangeAt Go.RowKit
open Go.ChangeMaps (open_string shut_string)
set_option linter.unusedVariables false

theorem own : ownKnob Try.prog.godebug = none := by kernel_rfl
theorem laidOut : laidOutB Try.prog = true := by kernel_rfl

/-- '[]engrossref10.Cell{a, b, c}'. -/
theorem wpList_litM3 {w : World} {ops : Array Oper} {rest : List Oper} {o : Oper} {a : Act} {Q : Exit → Act → World → Prop} (x y z : Operand) (c d f : Ce) (hc : c.Ok) (hd : d.Ok) (hf : f.Ok) (hg : o.guard = none) (hop : o.op = Op.buildSlice 22 3 #[(0, x), (1, y), (2, z)]) (hx : a.eval x = .agg (cv c)) (hy : a.eval y = .agg (cv d)) (hz : a.eval z = .agg (cv f))
    (h : ∀ W, Below w.heap.size w W → Cs W (.slice (some ⟨w.heap.size, 0, none⟩) 3 3) [c, d, f] → wpList Try.prog ops Q rest (a.put o.dst (.slice (some ⟨w.heap.size, 0, none⟩) 3 3)) W) : wpList Try.prog ops Q (o :: rest) a w := by
  obtain ⟨i0, hi, hz0, hz1, hz2⟩ := info_parts infoC
  refine wpList_buildSlice hg 22 56 3 _ hop (cc [c, d, f]).toArray i0 (.agg (cv Ce.zero)) Try.underlying22 hi hz0 (by rw [hz1]; omega) (by rw [hz1]; omega) ?_ (h _ ((Below.refl _ _).alloc (Nat.le_refl _) _) ?_)
  · rw [hz1]
    have hf := Great.fill_whole (s := 8) (by omega) [.agg (cv c), .agg (cv d), .agg (cv f)] ((Array.range (3 * 8)).map ((Value.agg (cv Ce.zero)).cells[· % (Value.agg (cv Ce.zero)).cells.size]!)) (by intro v hv; simp only [List.mem_cons, List.not_mem_nil, or_false] at hv; rcases hv with rfl | rfl | rfl <;> rfl) (by simp)
    simp only [List.map_toArray, List.map_cons, List.map_nil, hx, hy, hz]
    exact hf
  · have := World.ownsRow_lit (base := 0) (e := 56) (size := 8) w (cc [c, d, f]).toArray 3 (Nat.zero_le _) (by unfold maxLen; omega) (by rw [List.size_toArray, cc_len]; rfl)
    exact Cs.own this (by intro q hq; simp only [List.mem_cons, List.not_mem_nil, or_false] at hq; rcases hq with rfl | rfl | rfl <;> assumption)

set_option maxRecDepth 100000 in
set_option maxHeartbeats 8000000 in
theorem walk (a0 a1 a2 : Ce) (w : World) (w0 : a0.Ok) (w1 : a1.Ok) (w2 : a2.Ok) :
    Calls Try.prog 5 #[.agg (cv a0), .agg (cv a1), .agg (cv a2)] w fun e w' => e = .returned (.bool true) ∧ Below w.heap.size w w' := by
  have H0 := hide w0
  have H1 := hide w1
  have H2 := hide w2
  clear w0 w1 w2
  go_enter Try.func5, Try.ntmps5
  go_wp2_with (first
    | (refine wpList_box 56 (.tmp 0) (cv a0) rfl rfl rfl ?_; intro W1 hB hX)
    | (refine wpList_box 56 (.tmp 1) (cv a1) rfl rfl rfl ?_; intro W2 hBx hY; have nhXhY := Nat.ne_of_lt hX.lt; replace hX := hX.later hBx; have lhY := hB.size; replace hB := hB.trans (hBx.mono hB.size); clear hBx)
    | (refine wpList_box 56 (.tmp 2) (cv a2) rfl rfl rfl ?_; intro W3 hBx hZ; have nhXhZ := Nat.ne_of_lt hX.lt; replace hX := hX.later hBx; have nhYhZ := Nat.ne_of_lt hY.lt; replace hY := hY.later hBx; have lhZ := hB.size; replace hB := hB.trans (hBx.mono hB.size); clear hBx))
  refine (nbegun_any _).mono ?_
  rintro e X ⟨rfl, hb⟩
  replace hX := hX.later hb
  replace hY := hY.later hb
  replace hZ := hZ.later hb
  replace hB := hB.trans (hb.mono hB.size)
  clear hb
  go_wp2_with fail
  refine wp_region_noPanic ?_
  refine wp_region_P 6 (fun W => Below X.heap.size X W) (by kernel_rfl) (Below.refl _ _).drew (fun hHeld => ?_)
  refine wpAnyP_take (i := 0) (v := .agg (cv a0)) rfl (by kernel_rfl) (by kernel_rfl) (by kernel_rfl) (by kernel_rfl) (by kernel_rfl) (by decide) (fun _ _ _ h => h) (yields_bx (by kernel_rfl) _ _ _ rfl _ rfl (cv a0) (fun W hW => hX.later hW) tyR rfl) hHeld ?_
  try simp only [Act.put, List.getElem_toArray, List.getElem_cons_zero, List.setIfInBounds_toArray, List.set_cons_succ, List.set_cons_zero]
  refine wpAnyP_takeD [3,5,6] (i := 2) (v := .agg (cv a1)) rfl (by kernel_rfl) (by kernel_rfl) (by kernel_rfl) (by kernel_rfl) (by kernel_rfl) (by kernel_rfl) (fun _ _ _ h => h) (yields_bx (by kernel_rfl) _ _ _ rfl _ rfl (cv a1) (fun W hW => hY.later hW) tyR rfl) hHeld ?_
  try simp only [Act.put, List.getElem_toArray, List.getElem_cons_zero, List.getElem_cons_succ, List.setIfInBounds_toArray, List.set_cons_succ, List.set_cons_zero]
  refine wpAnyP_takeD [5,6] (i := 4) (v := .agg (cv a2)) rfl (by kernel_rfl) (by kernel_rfl) (by kernel_rfl) (by kernel_rfl) (by kernel_rfl) (by kernel_rfl) (fun _ _ _ h => h) (yields_bx (by kernel_rfl) _ _ _ rfl _ rfl (cv a2) (fun W hW => hZ.later hW) tyR rfl) hHeld ?_
  try simp only [Act.put, List.getElem_toArray, List.getElem_cons_zero, List.getElem_cons_succ, List.setIfInBounds_toArray, List.set_cons_succ, List.set_cons_zero]
  refine wpAnyP_ready (rs := [1]) (by kernel_rfl) (by simp) ?_
  refine AllReadyP.cons (o := _) rfl (fun K hK => ?_) AllReadyP.nil
  rw [if_pos (by kernel_rfl)]
  go_simp
  refine (cut_cell a0 _ H0.out).mono ?_
  rintro e xc ⟨c, rfl, hdc, h20c, h25c, h26c, hb⟩
  dsimp only
  have hHeldN := hHeld.trans (hb.mono hHeld.size)
  refine hK.out _ _ hHeldN ?_
  clear hK K hb hHeld
  have hHeld := hHeldN
  clear hHeldN
  try simp only [Act.put, List.getElem_toArray, List.getElem_cons_zero, List.getElem_cons_succ, List.setIfInBounds_toArray, List.set_cons_succ, List.set_cons_zero]
  have Hc := hide hdc
  have Fc := hide (show c.N.size + c.V.S.size + c.W.S.size ≤ 70 by omega)
  clear hdc h20c h25c h26c
  refine wpAnyP_ready (rs := [3]) (by kernel_rfl) (by simp) ?_
  refine AllReadyP.cons (o := _) rfl (fun K hK => ?_) AllReadyP.nil
  rw [if_pos (by kernel_rfl)]
  go_simp
  refine (cut_cell a1 _ H1.out).mono ?_
  rintro e xc ⟨d, rfl, hdd, h20d, h25d, h26d, hb⟩
  dsimp only
  have hHeldN := hHeld.trans (hb.mono hHeld.size)
  refine hK.out _ _ hHeldN ?_
  clear hK K hb hHeld
  have hHeld := hHeldN
  clear hHeldN
  try simp only [Act.put, List.getElem_toArray, List.getElem_cons_zero, List.getElem_cons_succ, List.setIfInBounds_toArray, List.set_cons_succ, List.set_cons_zero]
  have Hd := hide hdd
  have Fd := hide (show d.N.size + d.V.S.size + d.W.S.size ≤ 70 by omega)
  clear hdd h20d h25d h26d
  refine wpAnyP_ready (rs := [5]) (by kernel_rfl) (by simp) ?_
  refine AllReadyP.cons (o := _) rfl (fun K hK => ?_) AllReadyP.nil
  rw [if_pos (by kernel_rfl)]
  go_simp
  refine (cut_cell a2 _ H2.out).mono ?_
  rintro e xc ⟨f, rfl, hdf, h20f, h25f, h26f, hb⟩
  dsimp only
  have hHeldN := hHeld.trans (hb.mono hHeld.size)
  refine hK.out _ _ hHeldN ?_
  clear hK K hb hHeld
  have hHeld := hHeldN
  clear hHeldN
  try simp only [Act.put, List.getElem_toArray, List.getElem_cons_zero, List.getElem_cons_succ, List.setIfInBounds_toArray, List.set_cons_succ, List.set_cons_zero]
  have Hf := hide hdf
  have Ff := hide (show f.N.size + f.V.S.size + f.W.S.size ≤ 70 by omega)
  clear hdf h20f h25f h26f
  replace hX := hX.later hHeld
  replace hY := hY.later hHeld
  replace hZ := hZ.later hHeld
  replace hB := hB.trans (hHeld.mono hB.size)
  clear hHeld
  refine wpAnyP_ready (rs := [6]) (by kernel_rfl) (by simp) ?_
  refine AllReadyP.late (o := _) rfl (by kernel_rfl) (fun K hK => ?_)
  rw [if_pos (by kernel_rfl)]
  refine wp_put 56 _ (.tmp 3) (.tmp 15) _ (cv c) _ rfl rfl rfl hX tyR rfl rfl (cv_one _) ?_
  intro Wp hbp hzp hNp
  refine hK.out _ _ ?_
  clear hK K
  try simp only [Act.put, List.getElem_toArray, List.getElem_cons_zero, List.getElem_cons_succ]
  replace hY := hY.but hbp (fun e => nhXhY e.symm)
  replace hZ := hZ.but hbp (fun e => nhXhZ e.symm)
  replace hB := Below.but hB hB.size hbp (fun k e => by omega)
  clear hX hbp hzp
  have hX := hNp
  clear hNp
  refine wpAnyP_ready (rs := [7]) (by kernel_rfl) (by simp) ?_
  refine AllReadyP.late (o := _) rfl (by kernel_rfl) (fun K hK => ?_)
  rw [if_pos (by kernel_rfl)]
  refine wp_put 56 _ (.tmp 4) (.tmp 17) _ (cv d) _ rfl rfl rfl hY tyR rfl rfl (cv_one _) ?_
  intro Wp hbp hzp hNp
  refine hK.out _ _ ?_
  clear hK K
  try simp only [Act.put, List.getElem_toArray, List.getElem_cons_zero, List.getElem_cons_succ]
  replace hX := hX.but hbp nhXhY
  replace hZ := hZ.but hbp (fun e => nhYhZ e.symm)
  replace hB := Below.but hB hB.size hbp (fun k e => by omega)
  clear hY hbp hzp
  have hY := hNp
  clear hNp
  refine wpAnyP_ready (rs := [8]) (by kernel_rfl) (by simp) ?_
  refine AllReadyP.late (o := _) rfl (by kernel_rfl) (fun K hK => ?_)
  rw [if_pos (by kernel_rfl)]
  refine wp_put 56 _ (.tmp 5) (.tmp 19) _ (cv f) _ rfl rfl rfl hZ tyR rfl rfl (cv_one _) ?_
  intro Wp hbp hzp hNp
  refine hK.out _ _ ?_
  clear hK K
  try simp only [Act.put, List.getElem_toArray, List.getElem_cons_zero, List.getElem_cons_succ]
  replace hX := hX.but hbp nhXhZ
  replace hY := hY.but hbp nhYhZ
  replace hB := Below.but hB hB.size hbp (fun k e => by omega)
  clear hZ hbp hzp
  have hZ := hNp
  clear hNp
  refine wpAnyP_done (by kernel_rfl) ?_ _
  refine NoPanic.normal ?_
  go_simp
  obtain ⟨m, hm⟩ : ∃ m, No.may ⟨true, [c, d, f], [], []⟩ = m := ⟨_, rfl⟩
  have HM := hide hm
  clear hm
  go_wp2_with (first
    | (refine wpList_get 56 _ (.tmp 3) _ (cv c) rfl rfl rfl hX tyR rfl ?_)
    | (refine wpList_get 56 _ (.tmp 4) _ (cv d) rfl rfl rfl hY tyR rfl ?_)
    | (refine wpList_get 56 _ (.tmp 5) _ (cv f) rfl rfl rfl hZ tyR rfl ?_)
    | (refine wpList_litM3 (.tmp 20) (.tmp 21) (.tmp 22) c d f Hc.out Hd.out Hf.out rfl rfl rfl rfl rfl ?_; intro W5 hb hC; replace hB := hB.trans (hb.mono hB.size); clear hb hX hY hZ)
    | (refine wpList_new 26 _ rfl rfl tyM ?_; intro Wn hBn hN0; have hN : Nb Wn _ (.slice none 0 0) (.slice none 0 0) ⟨true, [c, d, f], [], []⟩ := ⟨hC.later hBn, Ts.nil _, Is.nil _⟩)
    | (refine wpList_put 26 _ (.tmp 8) (.tmp 24) _ (nv true _ (.slice none 0 0) (.slice none 0 0)) _ rfl rfl rfl rfl hN0 tyM rfl rfl (nv_one hN) ?_; intro Wp hbp hsp hX; have hBp := newput hBn hbp; have hN1 : Nb Wp _ (.slice none 0 0) (.slice none 0 0) ⟨true, [c, d, f], [], []⟩ := ⟨hC.later hBp, Ts.nil _, Is.nil _⟩; replace hB := hB.trans (hBp.mono hB.size); clear hBn hN0 hbp hsp hBp hC hN)
    | (refine wpList_get 26 _ (.tmp 8) _ (nv true _ (.slice none 0 0) (.slice none 0 0)) rfl rfl rfl hX tyM rfl ?_))
  have HN := hide hN1
  clear hN1
  refine (refMayNode_any _ _ _ ⟨true, [c, d, f], [], []⟩ _ HN.out).mono ?_
  rintro e W6 ⟨rfl, hb⟩
  rw [HM.out]
  have HN2 := hide (HN.out.later hb)
  replace hX := hX.later hb
  replace hB := hB.trans (hb.mono hB.size)
  clear hb HN
  cases m
  · go_wp2_with fail
    go_ret
    exact ⟨rfl, hB⟩
  · have HE := hide (No.enc_ok HM.out (No.three HM.out))
    go_wp2_with (refine wpList_get 26 _ (.tmp 8) _ (nv true _ (.slice none 0 0) (.slice none 0 0)) rfl rfl rfl hX tyM rfl ?_)
    refine (nof_any _ _ _ ⟨true, [c, d, f], [], []⟩ _ HN2.out (by show 3 ≤ 100000; omega)).mono ?_
    rintro e W7 ⟨vc, rfl, hN3, hb⟩
    replace hB := hB.trans (hb.mono hB.size)
    clear hb hX
    go_wp2_with fail
    refine (encode_at hN3 (by show 3 ≤ 100000; omega) HE.out).mono ?_
    rintro e W8 ⟨v8, rfl, -, hb⟩
    replace hB := hB.trans (hb.mono hB.size)
    clear hb
    go_wp2_with fail
    go_ret
    exact ⟨rfl, hB⟩


set_option maxRecDepth 100000 in
theorem lifted (os : Os) (started : os.Started) (H : Type) (enc : TypeId × Value → H) :
    ReturnsInHanded {} Try.checked os 5 .any (Rows.nodeThreeSpec.pre6 enc Try.prog Try.f5 Rows.nodeThreeRow.domain false) (Rows.nodeThreeSpec.post enc Try.prog Try.f5 false true false false) := by
  refine returnsInHanded_of_change (C := Try.checked) own started (by kernel_rfl) Try.func5
    (ChangeSpec.witness6 (enc := enc) (C := Try.checked) false ⟨#[], #[.agg (cv Ce.zero), .agg (cv Ce.zero), .agg (cv Ce.zero)], []⟩ 8 (by kernel_rfl) (by kernel_rfl) (by kernel_rfl) (by kernel_rfl)) ?_
  intro W base args ds gs before hval0 hW hcnd _
  have hval : ∀ (j : Nat) t v, Try.f5.params[j]? = some t → args[j]? = some v → Value.okWide Try.prog W .any base t v := hval0
  have hW' := hW
  obtain ⟨p, q, hA0, hV, rfl, hfz, hnd⟩ := hW
  have hA : DataW.TrodAll enc Try.prog W 0 (fun _ => true) true Try.f5.params.toList args.toList ds p := hA0
  rw [Try.params5] at hA hval
  obtain ⟨v0, vs0, d0, ds0, p0, q0, hargs, rfl, rfl, h0, r0⟩ := trodAll_cons hA
  obtain ⟨v1, vs1, d1, ds1, p1, q1, rfl, rfl, rfl, h1, r1⟩ := trodAll_cons r0
  obtain ⟨v2, vs2, d2, ds2, p2, q2, rfl, rfl, rfl, h2, r2⟩ := trodAll_cons r1
  obtain ⟨rfl, rfl, rfl⟩ := trodAll_nil r2
  obtain rfl : args = #[v0, v1, v2] := by cases args; simp_all
  obtain ⟨rfl, rfl⟩ := trodVars_none hV
  have k0 := h0
  have lt0 : ∀ x ∈ p0, x.block < W.heap.size := by obtain ⟨m, hm⟩ := k0; exact DataW.trod_lt m _ _ _ hm
  obtain ⟨a0, rfl, w0⟩ := open_cell (hval 0 56 v0 rfl rfl) h0
  have k1 := h1
  have lt1 : ∀ x ∈ p1, x.block < W.heap.size := by obtain ⟨m, hm⟩ := k1; exact DataW.trod_lt m _ _ _ hm
  obtain ⟨a1, rfl, w1⟩ := open_cell (hval 1 56 v1 rfl rfl) h1
  have k2 := h2
  have lt2 : ∀ x ∈ p2, x.block < W.heap.size := by obtain ⟨m, hm⟩ := k2; exact DataW.trod_lt m _ _ _ hm
  obtain ⟨a2, rfl, w2⟩ := open_cell (hval 2 56 v2 rfl rfl) h2
  clear hA0 hval0
  refine (walk a0 a1 a2 W w0 w1 w2).mono fun e W' ⟨he, bel⟩ => ?_
  subst he
  exact ⟨_, rfl, _, _, _, [], _, [], hW', trodAll_mk1 (shut_bool Try.underlying4 _), (trodAll_cons_mk (Below.trod laidOut (by kernel_rfl) (of_decide_eq_true (by kernel_rfl)) k0 bel lt0) (trodAll_cons_mk (Below.trod laidOut (by kernel_rfl) (of_decide_eq_true (by kernel_rfl)) k1 bel lt1) (trodAll_cons_mk (Below.trod laidOut (by kernel_rfl) (of_decide_eq_true (by kernel_rfl)) k2 bel lt2) trodAll_mk0))), rfl, bel.frame _, fun h => by cases h⟩

theorem over : Rows.nodeThreeRow.holds Try.pinned (OpenSpec.ofChange Rows.nodeThreeSpec) :=
  OpenClaim.holds_of_wide 5 Try.f5 rfl rfl rfl rfl rfl rfl rfl ⟨rfl, rfl, rfl, rfl, rfl⟩ rfl rfl rfl rfl rfl (by kernel_rfl) Try.func5 (by kernel_rfl)
    (of_decide_eq_true (by kernel_rfl)) (by unfold Func.isWrapper; first | (rw [if_pos (by decide +kernel)]; kernel_rfl) | (rw [if_neg (by decide +kernel)]; exact ⟨rfl, rfl⟩))
    (fun os started H enc _ => lifted os started H enc)

theorem proved : Rows.NodeThreeSaid := over
#print axioms proved
end Go.Proofs.Ytbddghdkmakjlaa.nodeThree
