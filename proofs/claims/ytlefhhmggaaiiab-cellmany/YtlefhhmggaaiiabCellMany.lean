/-
  For every slice of cells CellMany returns true: of the first ten those that may be (their keys cut to 20 bytes, their texts to 25), laid one behind the other by Put, are told one by one by Get, and nothing is left. No condition.
-/
import Derived.Test.YtlefhhmggaaiiabRows
import Derived.WalkKit
import Derived.ProofKit
import Derived.OpenShut
import Derived.ShutString
import Derived.ChangeOld
import Derived.Below
import Derived.Test.YtlefhhmggaaiiabCelL
import Derived.Test.YtlefhhmggaaiiabCelH
import Derived.Test.YtlefhhmggaaiiabCelO
import Derived.Test.YtlefhhmggaaiiabCelS
import Derived.Test.YtlefhhmggaaiiabOrw
import Derived.Test.YtlefhhmggaaiiabOrx
import Derived.Test.YtlefhhmggaaiiabCelN
namespace Go.Proofs.Ytlefhhmggaaiiab.cellMany
open Go.ChangeShapes Go.WideShapes Go.ChangeAt Go.RowKit
open Go.ChangeMaps (open_string shut_string)
set_option linter.unusedVariables false

theorem own : ownKnob Try.prog.godebug = none := by kernel_rfl
theorem laidOut : laidOutB Try.prog = true := by kernel_rfl

set_option maxRecDepth 100000 in
set_option maxHeartbeats 16000000 in
theorem walk (a0 : Option Addr) (len0 cap0 : Nat) (L : List Ce) (w : World) (w0 : Cs w (.slice a0 len0 cap0) L) :
    Calls Try.prog 3 #[.slice a0 len0 cap0] w fun e w' => e = .returned (.bool true) ∧ Below w.heap.size w w' := by
  obtain ⟨a, cap, e, hl, hm, hok, hc⟩ := w0
  simp only [Value.slice.injEq] at e
  obtain ⟨rfl, rfl, rfl⟩ := e
  unfold maxLen at hm
  have HC := hide hc
  have HOK := hide hok
  clear hc hok
  obtain ⟨i0, hi, hz0, hz1, hz2⟩ := info_parts infoC
  go_enter Try.func3, Try.ntmps3
  go_wp2_with fail
  refine (begun_any _).mono ?_
  rintro e x1 ⟨rfl, hb1⟩
  go_wp2_with fail
  go_loopw [4, 5, 6] (fun vb vm i wr => ∃ (k : Nat) (F : List Ce), k ≤ L.length ∧ k ≤ 10 ∧ i = .int .i64 k ∧ Hid (F.length ≤ k) ∧ Hid (∀ c ∈ F, c.Ok ∧ c.may = true) ∧ Hid (wr.ownsRow x1.heap.size 5 1 vb (Ce.cat F).length (bv (Ce.cat F))) ∧ Hid (wr.ownsRow x1.heap.size 29 8 vm F.length (cc F)) ∧ Hid (Below x1.heap.size x1 wr)) (fun _ _ i _ => 10 - (intOf i).toNat)
  case atStart => exact ⟨0, [], Nat.zero_le _, by omega, rfl, Nat.le_refl _, (by intro c hc; cases hc), World.ownsRow_nil _ _ _ _, World.ownsRow_nil _ _ _ _, Below.refl _ _⟩
  case round =>
    obtain ⟨k, F, hk, hk10, rfl, HFL, HFO, HOb, HOm, HBel⟩ := hrel
    by_cases hboth : k < L.length ∧ k < 10
    · obtain ⟨hlt, h10⟩ := hboth
      obtain ⟨q, hq⟩ : ∃ q, L[k]? = some q := ⟨_, List.getElem?_eq_getElem hlt⟩
      have hBw := hb1.trans (HBel.out.mono hb1.size)
      have Hq := hide (HOK.out q (List.mem_of_getElem? hq))
      obtain ⟨b, off, rfl, g0⟩ := HC.out k q hq
      have HG := hide (rangeAt_later g0 hBw (rangeAt_lt g0))
      clear g0 hq
      go_wp2_with (refine wpList_getM (.tmp 27) _ _ q rfl rfl rfl HG.out ?_)
      refine (cut_cell q _ Hq.out).mono ?_
      rintro e x ⟨d, rfl, hd, h20, h25, h26, hb⟩
      have Hd := hide hd
      have HFd := hide (show d.N.size + d.V.S.size + d.W.S.size ≤ 70 by omega)
      have HB0 := hide hb
      have HBx := hide hb.size
      clear hd h20 h25 h26 hb HG Hq hBw
      have hB : Below x.heap.size x x := Below.refl _ _
      go_wp2_with (first
        | (refine wpList_new 29 _ rfl rfl tyR ?_; intro Wn hBn hN)
        | (refine wpList_put 29 _ (.tmp 7) (.tmp 29) _ (cv d) _ rfl rfl rfl rfl hN tyR rfl rfl (cv_one _) ?_; intro Wp hbp hsp hX; have hBp := newput hBn hbp; replace hB := hB.trans (hBp.mono hB.size); clear hBn hN hbp hsp hBp)
        | (refine wpList_get 29 _ (.tmp 7) _ (cv d) rfl rfl rfl hX tyR rfl ?_))
      refine (refMay_cell d _ Hd.out).mono ?_
      rintro e y ⟨rfl, hb⟩
      replace hX := hX.later hb
      replace hB := hB.trans (hb.mono hB.size)
      have hB1 := HB0.out.trans (hB.mono HB0.out.size)
      clear hb hB HB0
      cases hm2 : d.may
      · go_wp2_with fail
        go_roundw
        case rel => exact ⟨k + 1, F, hlt, h10, by go_num, Nat.le_succ_of_le HFL.out, HFO, own_below HOb.out hB1, own_below HOm.out hB1, HBel.out.trans (hB1.mono HBel.out.size)⟩
        case measure => simp [intOf]; omega
      · have HM := hide hm2
        clear hm2
        have HF1 : Hid (∀ c ∈ F ++ [d], c.Ok ∧ c.may = true) := hide (fun c hc => by
          rcases List.mem_append.1 hc with h | h
          · exact HFO.out c h
          · rw [List.mem_singleton] at h; rw [h]; exact ⟨Hd.out, HM.out⟩)
        have hcl := Ce.cat_len HFO.out
        have hfl := HFL.out
        have HCB := hide (Ce.cat_bd HFO.out)
        have ho1 := own_below HOm.out hB1
        have HO1b := hide (own_below HOb.out hB1)
        have hbx := HBel.out.trans (hB1.mono HBel.out.size)
        have hys := hbx.size
        have hXb := hide hX.lt
        have hne : some x.heap.size ≠ u5.ownBlock := fun h => by have := (HOm.out.lt _ h.symm).2; have := HBx.out; omega
        obtain ⟨c0, c1, c2, c3, c4, c5, c6, c7⟩ := hX.cells
        go_wp2_with (first
          | (at_builtin; refine wpList_append_own _ rfl _ _ 22 rfl x1.heap.size 29 i0 (.agg (cv Ce.zero)) 8 88 Try.underlying22 hi hz0 hz1 hz2 rfl (by decide) _ _ _ rfl (ho1.alloc _) ⟨y.heap.size, 0, none⟩ 1 1 (cv d).toList rfl rfl (new_cells y d _) (cv_one d) (by unfold maxLen; omega) (by omega) (by simp; omega) ?_)
          | fail)
        intro v2 w2 ho2 hg2 _
        have hX2 := (hX.later ((Below.refl _ _).alloc (Nat.le_refl _) (Obj.cells (cv d) 29))).grown hg2 hne
        have hob2 := (HO1b.out.alloc _).kept hg2 (own_apart HO1b.out ho1 (by decide))
        have hb2 : Below x1.heap.size x1 w2 := (hbx.alloc hys _).grown hg2 (by simp; omega) (fun j hj => (ho1.lt j hj).1)
        have hsl2 : Sl w2 u4 (Ce.cat F) := Sl.own hob2 HCB.out
        have HO2 : Hid (w2.ownsRow x1.heap.size 29 8 v2 (F ++ [d]).length (cc (F ++ [d]))) := by
          show World.ownsRow _ _ _ _ _ _ _
          rw [cc_snoc, List.length_append]
          simpa using ho2
        have hs2 := hb2.size
        clear ho2 hg2 hob2 hbx ho1 c0 c1 c2 c3 c4 c5 c6 c7 hB1 HO1b hX hne
        go_wp2_with (refine wpList_get 29 _ (.tmp 7) _ (cv d) rfl rfl rfl hX2 tyR rfl ?_)
        refine (of_cell d _).mono ?_
        rintro e w4 ⟨rfl, hb4⟩
        replace hsl2 := hsl2.later hb4
        have HO4 := hide (own_below HO2.out hb4)
        have hb5 := hb2.trans (hb4.mono hs2)
        have hs5 := hb5.size
        clear hb4 hX2 HO2 hb2 hs2
        go_wp2_with fail
        refine (put_cell u4 (Ce.cat F) d _ hsl2 (by have := HFd.out; omega) Hd.out).mono ?_
        rintro e w3 ⟨v3, rfl, ho3, hb3⟩
        have HO3 : Hid (w3.ownsRow x1.heap.size 5 1 v3 (Ce.cat (F ++ [d])).length (bv (Ce.cat (F ++ [d])))) := by
          show World.ownsRow _ _ _ _ _ _ _
          rw [Ce.cat_snoc, List.length_append]
          exact own_mono ho3 hs5
        have HO5 := hide (own_below HO4.out hb3)
        have hb6 := hb5.trans (hb3.mono hs5)
        clear ho3 hb3 hsl2 HO4
        go_wp2_with fail
        go_roundw
        case rel => exact ⟨k + 1, F ++ [d], hlt, h10, by go_num, (by show (F ++ [d]).length ≤ k + 1; rw [List.length_append]; exact Nat.succ_le_succ HFL.out), HF1, HO3, HO5, hb6⟩
        case measure => simp [intOf]; omega
    · have hor : ¬ k < L.length ∨ (k < L.length ∧ ¬ k < 10) := by omega
      have hFl := HFL.out
      have HVs := hide (Cs.own HOm.out (fun q hq => (HFO.out q hq).1))
      have HSb : Hid (Sl wr u4 (Ce.cat (F.drop 0))) := Sl.own HOb.out (Ce.cat_bd HFO.out)
      have hBw := hb1.trans (HBel.out.mono hb1.size)
      clear HOb HOm HBel hboth HC HOK hb1 HFL
      obtain ⟨p, cpm, e5, hlm, hcm, -, hcell⟩ := HVs.out
      subst e5
      unfold maxLen at hcm
      have HCL := hide hcell
      clear hcell HVs
      generalize hn : F.length = n at *
      have Hn := hide hn
      clear hn
      rcases hor with hend | ⟨hend, hend2⟩
      all_goals
        go_wp2_with fail
        go_loopw [4, 8] (fun vb i wz => ∃ j : Nat, j ≤ n ∧ i = .int .i64 j ∧ Hid (Sl wz vb (Ce.cat (F.drop j))) ∧ Hid (Below wr.heap.size wr wz)) (fun _ i _ => n - (intOf i).toNat)
        case atStart => exact ⟨0, Nat.zero_le _, rfl, HSb, Below.refl _ _⟩
        case round =>
          obtain ⟨j, hj, rfl, HS, HBz⟩ := hrel
          clear HSb
          by_cases hjn : j < n
          · obtain ⟨q, hq⟩ : ∃ q, F[j]? = some q := ⟨_, List.getElem?_eq_getElem (by rw [Hn.out]; exact hjn)⟩
            have hqo := HFO.out q (List.mem_of_getElem? hq)
            have hD : Ce.cat (F.drop j) = Ce.put q ++ Ce.cat (F.drop (j + 1)) := by
              rw [List.drop_eq_getElem_cons (by rw [Hn.out]; exact hjn), Ce.cat_cons]
              have : F[j]'(by rw [Hn.out]; exact hjn) = q := by
                have := List.getElem?_eq_getElem (l := F) (i := j) (by rw [Hn.out]; exact hjn)
                rw [hq] at this
                exact (Option.some.inj this).symm
              rw [this]
            obtain ⟨b, off, rfl, g0⟩ := HCL.out j q hq
            have HQ := hide hqo.1
            have HGP := hide (Ce.get_put hqo.1.v.x hqo.1.w.x hqo.2 (Ce.cat (F.drop (j + 1))))
            have hS := HS.out
            rw [hD] at hS
            have HR0 := hide g0
            clear hD HS hq hqo g0
            go_wp2_with fail
            refine (get_cell_at hS HGP.out).mono ?_
            rintro e y ⟨rfl, hb⟩
            replace hS := hS.later hb
            have hB := HBz.out.trans (hb.mono HBz.out.size)
            clear hb HBz HGP
            go_wp2_with (first
              | (refine wpList_new 33 _ rfl rfl tyC ?_; intro Wn hBn hN)
              | (refine wpList_put 33 _ (.tmp 9) (.tmp 49) _ (cv q) _ rfl rfl rfl rfl hN tyC rfl rfl (cv_one _) ?_; intro Z hbp hsp hX; have hBp := newput hBn hbp; replace hS := hS.later hBp; replace hB := hB.trans (hBp.mono hB.size); clear hBn hN hbp hsp hBp))
            have HM3 : Hid (∀ w', Below Z.heap.size Z w' → w'.rangeAt b (off + j * 8) (cv q).toList) := fun w' hw' => rangeAt_later HR0.out (hB.trans (hw'.mono hB.size)) (rangeAt_lt HR0.out)
            refine wp_region_noPanic ?_
            refine wp_region_held_drew (S := fun W => Below Z.heap.size Z W) (by kernel_rfl) ?_ (fun hHeld => ?_)
            · exact (Below.refl _ _).drew
            refine wpAnyH_take (i := 0) (v := ?_) rfl (by kernel_rfl) (by kernel_rfl) (by kernel_rfl) (fun _ _ _ h => h) (Or.inl ⟨by kernel_rfl, ?_⟩) hHeld ?_
            rotate_left
            · intro W hW; go_simp; first | done | with_reducible rfl | rfl
            try simp only [Act.put, List.getElem_toArray, List.getElem_cons_zero, List.setIfInBounds_toArray, List.set_cons_succ, List.set_cons_zero]
            refine wpAnyH_take (i := 1) (v := .bool false) rfl (by kernel_rfl) (by kernel_rfl) (by kernel_rfl) (fun _ _ _ h => h) (Or.inl ⟨by kernel_rfl, ?_⟩) hHeld ?_
            · intro W hW; go_simp; first | done | with_reducible rfl | rfl
            try simp only [Act.put, List.getElem_toArray, List.getElem_cons_zero, List.getElem_cons_succ, List.setIfInBounds_toArray, List.set_cons_succ, List.set_cons_zero]
            refine wpAnyH_take (i := 2) (v := ?_) rfl (by kernel_rfl) (by kernel_rfl) (by kernel_rfl) (fun _ _ _ h => h) (Or.inl ⟨by kernel_rfl, ?_⟩) hHeld ?_
            rotate_left
            · intro W hW; go_simp; first | done | with_reducible rfl | rfl
            try simp only [Act.put, List.getElem_toArray, List.getElem_cons_zero, List.getElem_cons_succ, List.setIfInBounds_toArray, List.set_cons_succ, List.set_cons_zero]
            refine wpAnyH_take (i := 3) (v := .agg (cv q)) rfl (by kernel_rfl) (by kernel_rfl) (by kernel_rfl) (fun _ _ _ h => h) (yields_bx (by kernel_rfl) _ _ _ rfl _ rfl (cv q) (fun W hW => hX.later hW) tyC rfl) hHeld ?_
            try simp only [Act.put, List.getElem_toArray, List.getElem_cons_zero, List.getElem_cons_succ, List.setIfInBounds_toArray, List.set_cons_succ, List.set_cons_zero]
            refine wpAnyH_take (i := 5) (v := ?_) rfl (by kernel_rfl) (by kernel_rfl) (by kernel_rfl) (fun _ _ _ h => h) (Or.inl ⟨by kernel_rfl, ?_⟩) hHeld ?_
            rotate_left
            · intro W hW; go_simp; first | done | with_reducible rfl | rfl
            try simp only [Act.put, List.getElem_toArray, List.getElem_cons_zero, List.getElem_cons_succ, List.setIfInBounds_toArray, List.set_cons_succ, List.set_cons_zero]
            refine wpAnyH_take (i := 6) (v := ?_) rfl (by kernel_rfl) (by kernel_rfl) (by kernel_rfl) (fun _ _ _ h => h) (Or.inl ⟨by kernel_rfl, ?_⟩) hHeld ?_
            rotate_left
            · intro W hW; go_simp; first | done | with_reducible rfl | rfl
            try simp only [Act.put, List.getElem_toArray, List.getElem_cons_zero, List.getElem_cons_succ, List.setIfInBounds_toArray, List.set_cons_succ, List.set_cons_zero]
            refine wpAnyH_take (i := 7) (v := .pointer (some ⟨b, off + j * 8, none⟩)) rfl (by kernel_rfl) (by kernel_rfl) (by kernel_rfl) (fun _ _ _ h => h) (Or.inl ⟨by kernel_rfl, ?_⟩) hHeld ?_
            · intro W hW; go_simp; first | done | with_reducible rfl | rfl
            try simp only [Act.put, List.getElem_toArray, List.getElem_cons_zero, List.getElem_cons_succ, List.setIfInBounds_toArray, List.set_cons_succ, List.set_cons_zero]
            refine wpAnyH_take (i := 8) (v := .agg (cv q)) rfl (by kernel_rfl) (by kernel_rfl) (by kernel_rfl) (fun _ _ _ h => h) (yields_mid (by kernel_rfl) _ rfl _ _ rfl (fun W hW => HM3.out W hW)) hHeld ?_
            try simp only [Act.put, List.getElem_toArray, List.getElem_cons_zero, List.getElem_cons_succ, List.setIfInBounds_toArray, List.set_cons_succ, List.set_cons_zero]
            refine wpAnyH_callB (i := 4) rfl (by kernel_rfl) (by kernel_rfl) (by kernel_rfl) (back_cell q _) hHeld ?_
            intro xc hb4 hHeld
            try simp only [Act.put, List.getElem_toArray, List.getElem_cons_zero, List.getElem_cons_succ, List.setIfInBounds_toArray, List.set_cons_succ, List.set_cons_zero]
            replace hX := hX.later hHeld
            replace hS := hS.later hHeld
            replace hB := hB.trans (hHeld.mono hB.size)
            clear hHeld hb4
            have hHeld : Below xc.heap.size xc xc := Below.refl _ _
            refine wpAnyH_callB (i := 9) rfl (by kernel_rfl) (by kernel_rfl) (by kernel_rfl) (refEq_cell q q _ HQ.out HQ.out) hHeld ?_
            intro xc hb4 hHeld
            rw [Ce.eq_refl]
            try simp only [Act.put, List.getElem_toArray, List.getElem_cons_zero, List.getElem_cons_succ, List.setIfInBounds_toArray, List.set_cons_succ, List.set_cons_zero]
            replace hX := hX.later hHeld
            replace hS := hS.later hHeld
            replace hB := hB.trans (hHeld.mono hB.size)
            clear hHeld hb4
            have hHeld : Below xc.heap.size xc xc := Below.refl _ _
            refine wpAnyH_take (i := 10) (v := .bool false) rfl (by kernel_rfl) (by kernel_rfl) (by kernel_rfl) (fun _ _ _ h => h) (Or.inl ⟨by kernel_rfl, ?_⟩) hHeld ?_
            · intro W hW; go_simp; first | done | with_reducible rfl | rfl
            try simp only [Act.put, List.getElem_toArray, List.getElem_cons_zero, List.getElem_cons_succ, List.setIfInBounds_toArray, List.set_cons_succ, List.set_cons_zero]
            refine wpAnyH_take (i := 11) (v := .bool false) rfl (by kernel_rfl) (by kernel_rfl) (by kernel_rfl) (fun _ _ _ h => h) (Or.inl ⟨by kernel_rfl, ?_⟩) hHeld ?_
            · intro W hW; go_simp; first | done | with_reducible rfl | rfl
            try simp only [Act.put, List.getElem_toArray, List.getElem_cons_zero, List.getElem_cons_succ, List.setIfInBounds_toArray, List.set_cons_succ, List.set_cons_zero]
            refine wpAnyH_done (by kernel_rfl) ?_ _
            refine NoPanic.normal ?_
            go_simp
            clear hHeld hX HM3
            go_wp2_with (refine wpList_cut rfl (.tmp 64) (.tmp 65) rfl _ _ ((Ce.put q).length : Int) rfl rfl hS (by omega) (by rw [List.length_append]; omega) ?_; intro V hV)
            rw [Int.toNat_natCast, List.drop_left] at hV
            go_roundw
            case rel => exact ⟨j + 1, by omega, by go_num, hV, hB⟩
            case measure => simp [intOf]; omega
          · have hnil : Ce.cat (F.drop j) = [] := by rw [List.drop_eq_nil_of_le (by rw [Hn.out]; omega)]; rfl
            have hSS := HS.out
            rw [hnil] at hSS
            obtain ⟨pb, cb, rfl, hlb, hcb, -, -⟩ := hSS
            clear hnil HS
            go_wp2_with fail
            go_ret
            exact ⟨rfl, hBw.trans (HBz.out.mono hBw.size)⟩


set_option maxRecDepth 100000 in
theorem lifted (os : Os) (started : os.Started) (H : Type) (enc : TypeId × Value → H) :
    ReturnsInHanded {} Try.checked os 3 .any (Rows.cellManySpec.pre6 enc Try.prog Try.f3 Rows.cellManyRow.domain false) (Rows.cellManySpec.post enc Try.prog Try.f3 false true false false) := by
  refine returnsInHanded_of_change (C := Try.checked) own started (by kernel_rfl) Try.func3
    (ChangeSpec.witness6 (enc := enc) (C := Try.checked) false ⟨#[], #[.slice none 0 0], []⟩ 8 (by kernel_rfl) (by kernel_rfl) (by kernel_rfl) (by kernel_rfl)) ?_
  intro W base args ds gs before hval0 hW hcnd _
  have hval : ∀ (j : Nat) t v, Try.f3.params[j]? = some t → args[j]? = some v → Value.okWide Try.prog W .any base t v := hval0
  have hW' := hW
  obtain ⟨p, q, hA0, hV, rfl, hfz, hnd⟩ := hW
  have hA : DataW.TrodAll enc Try.prog W 0 (fun _ => true) true Try.f3.params.toList args.toList ds p := hA0
  rw [Try.params3] at hA hval
  obtain ⟨v0, vs0, d0, ds0, p0, q0, hargs, rfl, rfl, h0, r0⟩ := trodAll_cons hA
  obtain ⟨rfl, rfl, rfl⟩ := trodAll_nil r0
  obtain rfl : args = #[v0] := by cases args; simp_all
  obtain ⟨rfl, rfl⟩ := trodVars_none hV
  obtain ⟨a0, len0, cap0, rfl⟩ := okWide_slice Try.underlying22 (hval 0 22 v0 rfl rfl)
  have k0 := h0
  have lt0 : ∀ x ∈ p0, x.block < W.heap.size := by obtain ⟨m, hm⟩ := k0; exact DataW.trod_lt m _ _ _ hm
  obtain ⟨z0, w0⟩ : ∃ zs, Cs W (.slice a0 len0 cap0) zs := by
    obtain ⟨fuel, hf⟩ := h0
    obtain ⟨a, len, cap, zs, hcs, hz⟩ := open_cells hf
    simp [Value.cells] at hcs
    obtain ⟨rfl, rfl, rfl⟩ := hcs
    exact ⟨zs, hz⟩
  clear hA0 hval0
  refine (walk a0 len0 cap0 z0 W w0).mono fun e W' ⟨he, bel⟩ => ?_
  subst he
  exact ⟨_, rfl, _, _, _, [], _, [], hW', trodAll_mk1 (shut_bool Try.underlying4 _), (trodAll_cons_mk (Below.trod laidOut (by kernel_rfl) (of_decide_eq_true (by kernel_rfl)) k0 bel lt0) trodAll_mk0), rfl, bel.frame _, fun h => by cases h⟩

theorem over : Rows.cellManyRow.holds Try.pinned (OpenSpec.ofChange Rows.cellManySpec) :=
  OpenClaim.holds_of_wide 3 Try.f3 rfl rfl rfl rfl rfl rfl rfl ⟨rfl, rfl, rfl, rfl, rfl⟩ rfl rfl rfl rfl rfl (by kernel_rfl) Try.func3 (by kernel_rfl)
    (of_decide_eq_true (by kernel_rfl)) (by unfold Func.isWrapper; first | (rw [if_pos (by decide +kernel)]; kernel_rfl) | (rw [if_neg (by decide +kernel)]; exact ⟨rfl, rfl⟩))
    (fun os started H enc _ => lifted os started H enc)

theorem proved : Rows.CellManySaid := over
#print axioms proved
end Go.Proofs.Ytlefhhmggaaiiab.cellMany
