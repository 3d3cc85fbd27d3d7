/-
  For every slice of bytes b, every cell c, every int at and every byte x CellAny returns true: of at most 60 bytes, of the bytes of a cell that may be with one of them changed, and of their beginning, Get answers as the document's reader. No condition.
-/
import Derived.Test.YtlefhhmggaaiiaaRows
import Derived.WalkKit
import Derived.ProofKit
import Derived.OpenShut
import Derived.ShutString
import Derived.ChangeOld
import Derived.Below
import Derived.Test.YtlefhhmggaaiiaaCelL
import Derived.Test.YtlefhhmggaaiiaaCelH
import Derived.Test.YtlefhhmggaaiiaaCelO
import Derived.Test.YtlefhhmggaaiiaaCelS
import Derived.Test.YtlefhhmggaaiiaaOrw
import Derived.Test.YtlefhhmggaaiiaaOrx
import Derived.Test.YtlefhhmggaaiiaaCelQ
import Derived.Test.YtlefhhmggaaiiaaCelT
import Derived.Test.YtlefhhmggaaiiaaOpn
namespace Go.Proofs.Ytlefhhmggaaiiaa.cellAny
open Go.ChangeShapes Go.WideShapes Go.ChangeAt Go.RowKit
open Go.ChangeMaps (open_string shut_string)
set_option linter.unusedVariables false

theorem own : ownKnob Try.prog.godebug = none := by kernel_rfl
theorem laidOut : laidOutB Try.prog = true := by kernel_rfl

set_option maxRecDepth 100000 in
set_option maxHeartbeats 16000000 in
theorem walk (a0 : Option Addr) (len0 cap0 : Nat) (z0 : List Int) (a1 : Ce) (a2 : Int) (a3 : Int) (w : World) (w0 : Sl w (.slice a0 len0 cap0) z0) (w1 : a1.Ok) (w2 : (Lit.int .i64 a2).wf = true) (w3 : (Lit.int .u8 a3).wf = true) :
    Calls Try.prog 5 #[.slice a0 len0 cap0, .agg (cv a1), .int .i64 a2, .int .u8 a3] w fun e w' => e = .returned (.bool true) ∧ Below w.heap.size w w' := by
  obtain ⟨l1, l2⟩ := bounds_i64 w2
  clear w2 w3
  have H0 := hide w0
  have H1 := hide w1
  clear w0 w1
  go_enter Try.func5, Try.ntmps5
  go_wp2_with (first
    | (refine wpList_box 26 (.tmp 1) (cv a1) rfl rfl rfl ?_; intro W1 hB hX))
  refine (begun_any _).mono ?_
  rintro e X ⟨rfl, hb⟩
  replace hX := hX.later hb
  replace hB := hB.trans (hb.mono hB.size)
  clear hb
  go_wp2_with fail
  refine wp_region_noPanic ?_
  refine wp_region_P 5 (fun W => Below X.heap.size X W) (by kernel_rfl) (Below.refl _ _).drew (fun hHeld => ?_)
  refine wpAnyP_take (i := 2) (v := .agg (cv a1)) rfl (by kernel_rfl) (by kernel_rfl) (by kernel_rfl) (by kernel_rfl) (by kernel_rfl) (by decide) (fun _ _ _ h => h) (yields_bx (by kernel_rfl) _ _ _ rfl _ rfl (cv a1) (fun W hW => hX.later hW) tyR rfl) hHeld ?_
  try simp only [Act.put, List.getElem_toArray, List.getElem_cons_zero, List.getElem_cons_succ, List.setIfInBounds_toArray, List.set_cons_succ, List.set_cons_zero]
  refine wpAnyP_takeU (i := 0) (v := ?_) rfl (by kernel_rfl) (by kernel_rfl) (by kernel_rfl) (by decide) (fun _ _ _ h => h) (Or.inl ⟨by kernel_rfl, ?_⟩) hHeld ?_
  rotate_left
  · intro W hW; clear hW; go_simp; first | done | with_reducible rfl | rfl
  try simp only [Act.put, List.getElem_toArray, List.getElem_cons_zero, List.setIfInBounds_toArray, List.set_cons_succ, List.set_cons_zero]
  refine wpAnyP_ready (rs := [1]) (by kernel_rfl) (by simp) ?_
  refine AllReadyP.cons (o := _) rfl (fun K hK => ?_) AllReadyP.nil
  rw [if_pos (by kernel_rfl)]
  go_simp
  refine (short_low _ _ 60 w _ H0.out).mono ?_
  rintro e xc ⟨vB, rfl, hvB, rfl⟩
  dsimp only
  refine hK.out _ _ hHeld ?_
  clear hK K
  try simp only [Act.put, List.getElem_toArray, List.getElem_cons_zero, List.getElem_cons_succ, List.setIfInBounds_toArray, List.set_cons_succ, List.set_cons_zero]
  refine wpAnyP_ready (rs := [3]) (by kernel_rfl) (by simp) ?_
  refine AllReadyP.cons (o := _) rfl (fun K hK => ?_) AllReadyP.nil
  rw [if_pos (by kernel_rfl)]
  go_simp
  refine (cut_cell a1 _ H1.out).mono ?_
  rintro e xc ⟨c, rfl, hdc, h20c, h25c, h26c, hb⟩
  dsimp only
  have hHeldN := hHeld.trans (hb.mono hHeld.size)
  refine hK.out _ _ hHeldN ?_
  clear hK K hb hHeld
  have hHeld := hHeldN
  clear hHeldN
  try simp only [Act.put, List.getElem_toArray, List.getElem_cons_zero, List.getElem_cons_succ, List.setIfInBounds_toArray, List.set_cons_succ, List.set_cons_zero]
  have Hc := hide hdc
  have Fc := hide (show c.N.size + c.V.S.size + c.W.S.size ≤ 70 by omega)
  clear hdc h20c h25c h26c
  refine wpAnyP_takeU (i := 4) (v := ?_) rfl (by kernel_rfl) (by kernel_rfl) (by kernel_rfl) (by decide) (fun _ _ _ h => h) (Or.inl ⟨by kernel_rfl, ?_⟩) hHeld ?_
  rotate_left
  · intro W hW; clear hW; go_simp; first | done | with_reducible rfl | rfl
  try simp only [Act.put, List.getElem_toArray, List.getElem_cons_zero, List.getElem_cons_succ, List.setIfInBounds_toArray, List.set_cons_zero]
  replace hX := hX.later hHeld
  replace hB := hB.trans (hHeld.mono hB.size)
  clear hHeld
  refine wpAnyP_ready (rs := [5]) (by kernel_rfl) (by simp) ?_
  refine AllReadyP.late (o := _) rfl (by kernel_rfl) (fun K hK => ?_)
  rw [if_pos (by kernel_rfl)]
  refine wp_put 26 _ (.tmp 5) (.tmp 17) _ (cv c) _ rfl rfl rfl hX tyR rfl rfl (cv_one _) ?_
  intro Wp hbp hzp hNp
  refine hK.out _ _ ?_
  clear hK K
  try simp only [Act.put, List.getElem_toArray, List.getElem_cons_zero, List.getElem_cons_succ]
  replace hB := Below.but hB hB.size hbp (fun k e => by omega)
  clear hX hbp hzp
  have hX := hNp
  clear hNp
  refine wpAnyP_done (by kernel_rfl) ?_ _
  refine NoPanic.normal ?_
  go_simp
  generalize z0.take 60 = zs at *
  replace hvB := hvB.later hB
  clear H0
  go_wp2_with fail
  refine (tells_any _ zs _ hvB).mono ?_
  rintro e W6 ⟨rfl, hb⟩
  replace hX := hX.later hb
  replace hB := hB.trans (hb.mono hB.size)
  clear hvB
  clear hb
  go_wp2_with (first
    | (refine wpList_get 26 _ (.tmp 5) _ (cv c) rfl rfl rfl hX tyR rfl ?_))
  refine (refMay_cell c _ Hc.out).mono ?_
  rintro e W7 ⟨rfl, hb⟩
  replace hX := hX.later hb
  replace hB := hB.trans (hb.mono hB.size)
  clear hb
  cases hm : c.may
  · go_wp2_with fail
    go_ret
    exact ⟨rfl, hB⟩
  have HM := hide hm
  clear hm
  cases h1 : decide (a2 < 0)
  rotate_left
  · go_wp2_with fail
    go_ret
    exact ⟨rfl, hB⟩
  go_wp2_with (first
    | (refine wpList_get 26 _ (.tmp 5) _ (cv c) rfl rfl rfl hX tyR rfl ?_))
  refine (refBytes_cell c _ (by have := Fc.out; omega) Hc.out).mono ?_
  rintro e W8 ⟨v8, rfl, ho8, hb⟩
  have hs8 := hB.size
  replace hB := hB.trans (hb.mono hB.size)
  clear hb hX
  have hl8 : 1 ≤ (Ce.put c).length := by
    have hp := Ce.put_len c
    rw [if_pos (Ce.km_size (Ce.may_parts HM.out).1).1] at hp
    omega
  have HCB := hide (Ce.put_bd HM.out)
  rcases ho8.2 with ⟨rfl, h0⟩ | ⟨g, cp, cur, rfl, hbg, hgg, hncp, hcpm, hcur, htk⟩
  · omega
  clear hgg hcur htk cur
  unfold maxLen at hcpm
  have Hg := hide (Nat.le_trans hs8 hbg)
  generalize hP : Ce.put c = P at *
  generalize hn : P.length = n at *
  have HN := hide hn
  obtain ⟨k, hk1, hk2, hk3⟩ := rem_at (x := a2) (n := n) (by have := of_decide_eq_false h1; omega) hl8
  have ha2 : 0 ≤ a2 := by have := of_decide_eq_false h1; omega
  have hfr := ho8.frozenAt k
  have hce : W8.cell? ⟨g, k, none⟩ = some (.int .u8 (P.getD k 0)) := by
    rw [ho8.cellAt k (by omega)]
    simp [bv, List.getD, List.getElem?_eq_getElem (show k < P.length by omega)]
  generalize P.getD k 0 = y at hce
  obtain ⟨z, hz1, hz2, hz3⟩ := xor8 y a3
  have hst := ho8.stored k (.int .u8 z)
  have hS9 := Sl.own (zs := P.set k z) (by rw [← bv_set]; exact hst.1) (fun y hy => by
    rcases List.mem_or_eq_of_mem_set hy with h | h
    · exact HCB.out y h
    · rw [h]; exact ⟨hz2, hz3⟩)
  have HS9 := hide hS9
  have hBs : Below w.heap.size w (W8.setCell ⟨g, k, none⟩ (.int .u8 z)) := hB.setCell (p := ⟨g, k, none⟩) Hg.out _
  have HBs := hide hBs
  have HZ := hide (show (k : Int) ≤ (P.set k z).length by rw [List.length_set]; omega)
  clear hBs hB hS9 hst ho8 hs8 hbg hP hn HN
  go_wp2_with fail
  generalize hW9 : W8.setCell ⟨g, k, none⟩ (.int .u8 z) = W9 at *
  clear hW9
  have hB := HBs.out
  have hS := HS9.out
  refine (tells_any _ _ _ hS).mono ?_
  rintro e W10 ⟨rfl, hb⟩
  replace hS := hS.later hb
  replace hB := hB.trans (hb.mono hB.size)
  clear hb HBs HS9 hfr hce
  go_wp2_with (refine wpList_cutG rfl rfl rfl (.tmp 43) (.tmp 47) rfl _ _ (k : Int) rfl rfl hS (by omega) HZ.out ?_; intro V hV)
  refine (tells_any _ _ _ hV).mono ?_
  rintro e W11 ⟨rfl, hb⟩
  replace hB := hB.trans (hb.mono hB.size)
  clear hb
  go_wp2_with fail
  go_ret
  exact ⟨rfl, hB⟩


set_option maxRecDepth 100000 in
theorem lifted (os : Os) (started : os.Started) (H : Type) (enc : TypeId × Value → H) :
    ReturnsInHanded {} Try.checked os 5 .any (Rows.cellAnySpec.pre6 enc Try.prog Try.f5 Rows.cellAnyRow.domain false) (Rows.cellAnySpec.post enc Try.prog Try.f5 false true false false) := by
  refine returnsInHanded_of_change (C := Try.checked) own started (by kernel_rfl) Try.func5
    (ChangeSpec.witness6 (enc := enc) (C := Try.checked) false ⟨#[], #[.slice none 0 0, .agg (cv Ce.zero), .int .i64 0, .int .u8 0], []⟩ 8 (by kernel_rfl) (by kernel_rfl) (by kernel_rfl) (by kernel_rfl)) ?_
  intro W base args ds gs before hval0 hW hcnd _
  have hval : ∀ (j : Nat) t v, Try.f5.params[j]? = some t → args[j]? = some v → Value.okWide Try.prog W .any base t v := hval0
  have hW' := hW
  obtain ⟨p, q, hA0, hV, rfl, hfz, hnd⟩ := hW
  have hA : DataW.TrodAll enc Try.prog W 0 (fun _ => true) true Try.f5.params.toList args.toList ds p := hA0
  rw [Try.params5] at hA hval
  obtain ⟨v0, vs0, d0, ds0, p0, q0, hargs, rfl, rfl, h0, r0⟩ := trodAll_cons hA
  obtain ⟨v1, vs1, d1, ds1, p1, q1, rfl, rfl, rfl, h1, r1⟩ := trodAll_cons r0
  obtain ⟨v2, vs2, d2, ds2, p2, q2, rfl, rfl, rfl, h2, r2⟩ := trodAll_cons r1
  obtain ⟨v3, vs3, d3, ds3, p3, q3, rfl, rfl, rfl, h3, r3⟩ := trodAll_cons r2
  obtain ⟨rfl, rfl, rfl⟩ := trodAll_nil r3
  obtain rfl : args = #[v0, v1, v2, v3] := by cases args; simp_all
  obtain ⟨rfl, rfl⟩ := trodVars_none hV
  obtain ⟨a0, len0, cap0, rfl⟩ := okWide_slice Try.underlying47 (hval 0 47 v0 rfl rfl)
  have k0 := h0
  have lt0 : ∀ x ∈ p0, x.block < W.heap.size := by obtain ⟨m, hm⟩ := k0; exact DataW.trod_lt m _ _ _ hm
  obtain ⟨z0, w0⟩ : ∃ zs, Sl W (.slice a0 len0 cap0) zs := by
    obtain ⟨fuel, hf⟩ := h0
    obtain ⟨a, len, cap, zs, hcs, hz⟩ := open_bytes Try.underlying47 Try.underlying5 (by kernel_rfl) hf
    simp [Value.cells] at hcs
    obtain ⟨rfl, rfl, rfl⟩ := hcs
    exact ⟨zs, hz⟩
  have k1 := h1
  have lt1 : ∀ x ∈ p1, x.block < W.heap.size := by obtain ⟨m, hm⟩ := k1; exact DataW.trod_lt m _ _ _ hm
  obtain ⟨a1, rfl, w1⟩ := open_cell (hval 1 26 v1 rfl rfl) h1
  obtain ⟨a2, rfl, rfl, rfl, w2⟩ := open_int Try.underlying3 (hval 2 3 v2 rfl rfl) h2
  obtain ⟨a3, rfl, rfl, rfl, w3⟩ := open_int Try.underlying5 (hval 3 5 v3 rfl rfl) h3
  clear hA0 hval0
  refine (walk a0 len0 cap0 z0 a1 a2 a3 W w0 w1 w2 w3).mono fun e W' ⟨he, bel⟩ => ?_
  subst he
  exact ⟨_, rfl, _, _, _, [], _, [], hW', trodAll_mk1 (shut_bool Try.underlying4 _), (trodAll_cons_mk (Below.trod laidOut (by kernel_rfl) (of_decide_eq_true (by kernel_rfl)) k0 bel lt0) (trodAll_cons_mk (Below.trod laidOut (by kernel_rfl) (of_decide_eq_true (by kernel_rfl)) k1 bel lt1) (trodAll_cons_mk (shut_int Try.underlying3 w2) (trodAll_cons_mk (shut_int Try.underlying5 w3) trodAll_mk0)))), rfl, bel.frame _, fun h => by cases h⟩

theorem over : Rows.cellAnyRow.holds Try.pinned (OpenSpec.ofChange Rows.cellAnySpec) :=
  OpenClaim.holds_of_wide 5 Try.f5 rfl rfl rfl rfl rfl rfl rfl ⟨rfl, rfl, rfl, rfl, rfl⟩ rfl rfl rfl rfl rfl (by kernel_rfl) Try.func5 (by kernel_rfl)
    (of_decide_eq_true (by kernel_rfl)) (by unfold Func.isWrapper; first | (rw [if_pos (by decide +kernel)]; kernel_rfl) | (rw [if_neg (by decide +kernel)]; exact ⟨rfl, rfl⟩))
    (fun os started H enc _ => lifted os started H enc)

theorem proved : Rows.CellAnySaid := over
#print axioms proved
end Go.Proofs.Ytlefhhmggaaiiaa.cellAny
