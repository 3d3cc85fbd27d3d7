/-
  The helper 'tells' of the laws of package node returns true, whatever the bytes are.
-/
import Derived.Test.YtbddghdkmakjlaaNodH
import Derived.Test.YtbddghdkmakjlaaGl
namespace Go.Proofs.Ytbddghdkmakjlaa
set_option maxRecDepth 100000
set_option linter.unusedVariables false
open Go.RowKit

set_option maxRecDepth 100000 in
set_option maxHeartbeats 8000000 in
theorem ntells_any (v : Value) (zs : List Int) (w : World) (h : Sl w v zs) :
    Calls Try.prog 23 #[v] w fun e w' => e = .returned (.bool true) ∧ Below w.heap.size w w' := by
  obtain ⟨p, m, cp, rfl, hn1, hn2, HN, HS⟩ := h.opens
  have hn := HN.out
  subst hn
  have hbd := h.bd
  clear h HN
  obtain ⟨n, x, hd⟩ : ∃ n x, No.dec zs = (n, x) := ⟨_, _, rfl⟩
  have HD := hide hd
  rcases No.dec_said hd with ⟨rfl, rfl⟩ | ⟨rfl, he, hr, hl⟩
  · clear hd
    go_enter Try.func23, Try.ntmps23
    go_wp2_with fail
    have hB : Below w.heap.size w w := Below.refl _ _
    refine (decode_at HS.out HD.out).mono ?_
    rintro e W1 ⟨hb, vc, vk, vi, rfl, hN, -⟩
    replace hB := hB.trans (hb.mono hB.size)
    clear hb
    obtain ⟨pc, nc, cc, rfl, -, -, hn1, -⟩ := hN.c.opens
    obtain ⟨pi, ni, ci, rfl, -, -, hn3, -⟩ := hN.i.opens
    obtain rfl : nc = 0 := hn1.out
    obtain rfl : ni = 0 := hn3.out
    go_wp2_with (first
      | (refine wpList_new 36 _ rfl rfl tyN ?_; intro Wn hBn hN0)
      | (refine wpList_put 36 _ (.tmp 3) (.tmp 8) _ (nv false (.slice pc 0 cc) vk (.slice pi 0 ci)) _ rfl rfl rfl rfl hN0 tyN rfl rfl (nv_one (hN.later hBn)) ?_; intro Wp hbp hsp hX; have hBp := newput hBn hbp; replace hN := hN.later hBp; replace hB := hB.trans (hBp.mono hB.size); clear hBn hN0 hbp hsp hBp; obtain ⟨g0, g1, g2, g3⟩ := hX.nodes))
    go_ret
    exact ⟨rfl, hB⟩
  · obtain ⟨hm, hlen, hp⟩ := No.enc_said he
    have HRE : Hid (No.whole n.refB = zs) := hide (by rw [No.refB_is hm, hp]; exact No.whole_is hlen)
    have HWB : Hid (∀ z ∈ No.whole n.refB, 0 ≤ z ∧ z ≤ 255) := hide (by rw [HRE.out]; exact hbd)
    have HRB : Hid (∀ z ∈ n.refB, 0 ≤ z ∧ z ≤ 255) := hide (by
      intro z hz
      rw [No.refB_is hm] at hz
      exact hbd z (by rw [hp]; exact List.mem_append_left _ hz))
    have HEQ : Hid (strOfNums (No.whole n.refB) = strOfNums zs) := hide (by rw [HRE.out])
    clear hd he hr hl hm hlen hp hbd
    go_enter Try.func23, Try.ntmps23
    go_wp2_with fail
    have hB : Below w.heap.size w w := Below.refl _ _
    refine (decode_at HS.out HD.out).mono ?_
    rintro e W1 ⟨hb, vc, vk, vi, rfl, hN, hf⟩
    have hSl := HS.out.later hb
    replace hB := hB.trans (hb.mono hB.size)
    have HF := hide hf
    clear hb hf
    go_wp2_with (first
      | (refine wpList_new 36 _ rfl rfl tyN ?_; intro Wn hBn hN0)
      | (refine wpList_put 36 _ (.tmp 3) (.tmp 8) _ (nv n.L vc vk vi) _ rfl rfl rfl rfl hN0 tyN rfl rfl (nv_one (hN.later hBn)) ?_; intro Wp hbp hsp hX; have hBp := newput hBn hbp; replace hN := hN.later hBp; replace hSl := hSl.later hBp; replace hB := hB.trans (hBp.mono hB.size); clear hBn hN0 hbp hsp hBp))
    refine wp_region_noPanic ?_
    refine wp_region_held_drew (S := fun W => Below Wp.heap.size Wp W) (by kernel_rfl) ?_ (fun hHeld => ?_)
    · exact (Below.refl _ _).drew
    refine wpAnyH_take (i := 0) (v := .agg (nv n.L vc vk vi)) rfl (by kernel_rfl) (by kernel_rfl) (by kernel_rfl) (fun _ _ _ h => h) (yields_bx (by kernel_rfl) _ _ _ rfl _ rfl (nv n.L vc vk vi) (fun W hW => hX.later hW) tyN rfl) hHeld ?_
    try simp only [Act.put, List.getElem_toArray, List.getElem_cons_zero, List.setIfInBounds_toArray, List.set_cons_succ, List.set_cons_zero]
    refine wpAnyH_take (i := 5) (v := ?_) rfl (by kernel_rfl) (by kernel_rfl) (by kernel_rfl) (fun _ _ _ h => h) (Or.inl ⟨by kernel_rfl, ?_⟩) hHeld ?_
    rotate_left
    · intro W hW; go_simp; first | done | with_reducible rfl | rfl
    try simp only [Act.put, List.getElem_toArray, List.getElem_cons_zero, List.getElem_cons_succ, List.setIfInBounds_toArray, List.set_cons_succ, List.set_cons_zero]
    refine wpAnyH_take (i := 6) (v := .string (strOfNums (zs))) rfl (by kernel_rfl) (by kernel_rfl) (by kernel_rfl) (fun _ _ _ h => h) (Or.inl ⟨by kernel_rfl, ?_⟩) hHeld ?_
    · intro W hW; have hcv := (hSl.later hW).conv (P := Try.prog) 30 9 5 Try.underlying30 Try.underlying5 Try.underlying9; go_simp
    try simp only [Act.put, List.getElem_toArray, List.getElem_cons_zero, List.getElem_cons_succ, List.setIfInBounds_toArray, List.set_cons_succ, List.set_cons_zero]
    refine wpAnyH_ready (rs := [1]) (by kernel_rfl) (by simp) ?_
    refine AllReadyH.cons (o := _) rfl (fun K hK => ?_) AllReadyH.nil
    rw [if_pos (by kernel_rfl)]; go_simp
    refine (nback_any vc vk vi n _ (hN.later hHeld) HF.out).mono ?_
    rintro e xc ⟨vc', rfl, hN', hb4⟩
    dsimp only
    refine hK.out _ _ ?_ (fun hHeld => ?_)
    · exact hHeld.trans (hb4.mono hHeld.size)
    clear hK K
    try simp only [Act.put, List.getElem_toArray, List.getElem_cons_zero, List.getElem_cons_succ, List.setIfInBounds_toArray, List.set_cons_succ, List.set_cons_zero]
    refine held_mono (S' := fun W => Below xc.heap.size xc W) (fun W h => hHeld.trans (h.mono hHeld.size)) _ _ _ _ ?_
    replace hX := hX.later hHeld
    replace hN := hN.later hHeld
    replace hSl := hSl.later hHeld
    replace hB := hB.trans (hHeld.mono hB.size)
    clear hHeld hb4
    have hHeld : Below xc.heap.size xc xc := Below.refl _ _

    refine wpAnyH_ready (rs := [2]) (by kernel_rfl) (by simp) ?_
    refine AllReadyH.cons (o := _) rfl (fun K hK => ?_) AllReadyH.nil
    rw [if_pos (by kernel_rfl)]; go_simp
    refine (refNodeBytes_any vc' vk vi n _ hN' HF.out).mono ?_
    rintro e xc ⟨vb, rfl, ho4, hb4⟩
    dsimp only
    refine hK.out _ _ ?_ (fun hHeld => ?_)
    · exact hHeld.trans (hb4.mono hHeld.size)
    clear hK K
    try simp only [Act.put, List.getElem_toArray, List.getElem_cons_zero, List.getElem_cons_succ, List.setIfInBounds_toArray, List.set_cons_succ, List.set_cons_zero]
    refine held_mono (S' := fun W => Below xc.heap.size xc W) (fun W h => hHeld.trans (h.mono hHeld.size)) _ _ _ _ ?_
    replace hX := hX.later hHeld
    replace hSl := hSl.later hHeld
    replace hB := hB.trans (hHeld.mono hB.size)
    have hvb : Sl xc vb (n.refB) := Sl.own (by simpa using ho4) HRB.out
    clear hHeld hb4 ho4
    have hHeld : Below xc.heap.size xc xc := Below.refl _ _
    refine wpAnyH_ready (rs := [3]) (by kernel_rfl) (by simp) ?_
    refine AllReadyH.cons (o := _) rfl (fun K hK => ?_) AllReadyH.nil
    rw [if_pos (by kernel_rfl)]; go_simp
    refine (whole_any vb _ _ hvb).mono ?_
    rintro e xc ⟨vz, rfl, ho4, hb4⟩
    dsimp only
    refine hK.out _ _ ?_ (fun hHeld => ?_)
    · exact hHeld.trans (hb4.mono hHeld.size)
    clear hK K
    try simp only [Act.put, List.getElem_toArray, List.getElem_cons_zero, List.getElem_cons_succ, List.setIfInBounds_toArray, List.set_cons_succ, List.set_cons_zero]
    refine held_mono (S' := fun W => Below xc.heap.size xc W) (fun W h => hHeld.trans (h.mono hHeld.size)) _ _ _ _ ?_
    replace hX := hX.later hHeld
    replace hSl := hSl.later hHeld
    replace hB := hB.trans (hHeld.mono hB.size)
    have hvz : Sl xc vz (No.whole n.refB) := Sl.own (by simpa using ho4) HWB.out
    clear hHeld hb4 ho4
    have hHeld : Below xc.heap.size xc xc := Below.refl _ _
    refine wpAnyH_take (i := 4) (v := .string (strOfNums (No.whole n.refB))) rfl (by kernel_rfl) (by kernel_rfl) (by kernel_rfl) (fun _ _ _ h => h) (Or.inl ⟨by kernel_rfl, ?_⟩) hHeld ?_
    · intro W hW; have hcv := (hvz.later hW).conv (P := Try.prog) 30 9 5 Try.underlying30 Try.underlying5 Try.underlying9; go_simp
    try simp only [Act.put, List.getElem_toArray, List.getElem_cons_zero, List.getElem_cons_succ, List.setIfInBounds_toArray, List.set_cons_succ, List.set_cons_zero]
    refine wpAnyH_take (i := 7) (v := .bool true) rfl (by kernel_rfl) (by kernel_rfl) (by kernel_rfl) (fun _ _ _ h => h) (Or.inl ⟨by kernel_rfl, ?_⟩) hHeld ?_
    · intro W hW; have e0 := HEQ.out; clear hW; go_simp; first | done | with_reducible rfl | rfl
    try simp only [Act.put, List.getElem_toArray, List.getElem_cons_zero, List.getElem_cons_succ, List.setIfInBounds_toArray, List.set_cons_succ, List.set_cons_zero]
    refine wpAnyH_take (i := 8) (v := ?_) rfl (by kernel_rfl) (by kernel_rfl) (by kernel_rfl) (fun _ _ _ h => h) (Or.inl ⟨by kernel_rfl, ?_⟩) hHeld ?_
    rotate_left
    · intro W hW; go_simp; first | done | with_reducible rfl | rfl
    try simp only [Act.put, List.getElem_toArray, List.getElem_cons_zero, List.getElem_cons_succ, List.setIfInBounds_toArray, List.set_cons_succ, List.set_cons_zero]
    refine wpAnyH_done (by kernel_rfl) ?_ _
    refine NoPanic.normal ?_
    go_simp
    go_wp2_with fail
    go_ret
    exact ⟨rfl, hB⟩
end Go.Proofs.Ytbddghdkmakjlaa
