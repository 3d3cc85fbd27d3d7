/-
  The contract of the document's Bytes of a cell over the translated program.
-/
import Derived.Test.YtlefhhmggaaiiaaCelP
import Derived.Test.YtlefhhmggaaiiaaDatS
import Derived.Test.YtlefhhmggaaiiaaApn
namespace Go.Proofs.Ytlefhhmggaaiiaa
open Go.RowKit

set_option maxRecDepth 100000 in
set_option maxHeartbeats 4000000 in
theorem refBytes_cell (c : Ce) (w : World) (hl : c.N.size + c.V.S.size + c.W.S.size ≤ 140737488330000) (hc : c.Ok) :
    Calls Try.prog 29 #[.agg (cv c)] w fun e w' => ∃ v', e = .returned v' ∧
      w'.ownsRow w.heap.size 5 1 v' (Ce.put c).length (bv (Ce.put c)) ∧ Below w.heap.size w w' := by
  have hb2 : ∀ z ∈ Dt.put c.V.K c.V.X c.V.S, 0 ≤ z ∧ z ≤ 255 := Dt.put_bd hc.v.k0 hc.v.k1 (by omega)
  have hb4 : ∀ z ∈ Dt.put c.W.K c.W.X c.W.S, 0 ≤ z ∧ z ≤ 255 := Dt.put_bd hc.w.k0 hc.w.k1 (by omega)
  have hb2b := hide hb2
  have hb3b := hide (Nm.num_bd c.T hc.t0 hc.t1)
  have hb4b := hide hb4
  have l1 := Nm.text_len (sb c.N)
  have l2 := Nm.num_len ((sb c.N).length : Int)
  have l3 := sb_len c.N
  have l4 := hide (show (Dt.put c.V.K c.V.X c.V.S).length ≤ 20 + c.V.S.size from Dt.put_len.2)
  have l5 := hide (Nm.num_len c.T)
  have l6 := hide (show (Dt.put c.W.K c.W.X c.W.S).length ≤ 20 + c.W.S.size from Dt.put_len.2)
  replace l1 := hide (show (Nm.text (sb c.N)).length ≤ 10 + c.N.size by omega)
  replace hl := hide hl
  clear l2 l3 hb2 hb4
  by_cases ht : 0 < c.T
  · have HE := hide (cput_pos ht)
    go_enter Try.func29, Try.ntmps29
    go_wp2_with (refine wpList_box 26 (.tmp 0) (cv c) rfl rfl rfl ?_; intro W1 hBw hX)
    have HA : Hid (∀ w', Below W1.heap.size W1 w' → _) := fun w' hb => (hX.later hb).cells
    have hB : Below W1.heap.size W1 W1 := Below.refl _ _
    refine wp_region_noPanic ?_
    refine wp_region_held_drew (S := fun W => Below W1.heap.size W1 W) (by kernel_rfl) ?_ (fun hHeld => ?_)
    · exact (Below.refl _ _).drew
    refine wpAnyH_take (i := 0) (v := ?_) rfl (by kernel_rfl) (by kernel_rfl) (by kernel_rfl) (fun _ _ _ h => h) (Or.inl ⟨by kernel_rfl, ?_⟩) hHeld ?_
    rotate_left
    · intro W hW; go_simp; first | done | with_reducible rfl | rfl
    try simp only [Act.put]
    refine wpAnyH_take (i := 1) (v := .string c.N) rfl (by kernel_rfl) (by kernel_rfl) (by kernel_rfl) (fun _ _ _ h => h) (Or.inl ⟨by kernel_rfl, ?_⟩) hHeld ?_
    · intro W hW; have hq := HA.out W (hB.trans (Below.mono hW hB.size)); obtain ⟨c0, c1, c2, c3, c4, c5, c6, c7⟩ := hq; clear hW; go_simp; first | done | with_reducible rfl | rfl
    try simp only [Act.put]
    refine wpAnyH_take (i := 3) (v := ?_) rfl (by kernel_rfl) (by kernel_rfl) (by kernel_rfl) (fun _ _ _ h => h) (Or.inl ⟨by kernel_rfl, ?_⟩) hHeld ?_
    rotate_left
    · intro W hW; go_simp; first | done | with_reducible rfl | rfl
    try simp only [Act.put]
    refine wpAnyH_take (i := 4) (v := .agg #[.int .i64 c.V.K, .float .f64 c.V.X, .string c.V.S]) rfl (by kernel_rfl) (by kernel_rfl) (by kernel_rfl) (fun _ _ _ h => h) (Or.inl ⟨by kernel_rfl, ?_⟩) hHeld ?_
    · intro W hW; have hq := HA.out W (hB.trans (Below.mono hW hB.size)); obtain ⟨c0, c1, c2, c3, c4, c5, c6, c7⟩ := hq; clear hW; go_simp; first | done | with_reducible rfl | rfl
    try simp only [Act.put]
    refine wpAnyH_ready (rs := [2]) (by kernel_rfl) (by simp) ?_
    refine AllReadyH.cons (o := _) rfl (fun K hK => ?_) AllReadyH.nil
    go_simp
    refine (refPutText_any c.N _ (by have := hl.out; omega)).mono ?_
    rintro e x2 ⟨v2, rfl, ho2, hb2⟩
    dsimp only
    refine hK.out _ _ ?_ (fun hHeld => ?_)
    · exact hHeld.trans (hb2.mono hHeld.size)
    clear hK K
    try simp only [Act.put]
    have ho2' := own_mono ho2 (show W1.heap.size ≤ _ from hB.drew.size)
    clear hb2 ho2
    refine wpAnyH_ready (rs := [5]) (by kernel_rfl) (by simp) ?_
    refine AllReadyH.cons (o := _) rfl (fun K hK => ?_) AllReadyH.nil
    go_simp
    refine (refPutVal_any c.V.K c.V.X c.V.S _ (by have := hl.out; omega) hc.v.k0 hc.v.k1 hc.v.x).mono ?_
    rintro e x3 ⟨v3, rfl, ho3, hb3⟩
    dsimp only
    refine hK.out _ _ ?_ (fun hHeld => ?_)
    · exact hHeld.trans (hb3.mono hHeld.size)
    clear hK K
    try simp only [Act.put]
    have hs3 := Sl.own ho3 hb2b.out
    replace ho2' := own_below ho2' hb3
    clear hb3 ho3
    refine wpAnyH_ready (rs := [6]) (by kernel_rfl) (by simp) ?_
    refine AllReadyH.cons (o := _) rfl (fun K hK => ?_) AllReadyH.nil
    rw [if_pos (by kernel_rfl)]
    refine wp_append_sl (.tmp 6) (.tmp 9) 47 rfl W1.heap.size 5 Try.underlying47 Try.info5 v2 _ _ rfl ho2' v3 _ rfl hs3 (by have := hl.out; have := l1.out; have := l4.out; omega) hHeld.size ?_
    intro v4 x4 ho4 hg4
    refine hK.out _ _ ?_ (fun hHeld => ?_)
    · exact hHeld.grown hg4 hHeld.size (fun j hj => (ho2'.lt j hj).1)
    clear hK K
    try simp only [Act.put]
    clear ho2' hs3 hg4
    refine wpAnyH_take (i := 7) (v := ?_) rfl (by kernel_rfl) (by kernel_rfl) (by kernel_rfl) (fun _ _ _ h => h) (Or.inl ⟨by kernel_rfl, ?_⟩) hHeld ?_
    rotate_left
    · intro W hW; go_simp; first | done | with_reducible rfl | rfl
    try simp only [Act.put]
    refine wpAnyH_done (by kernel_rfl) ?_ _
    refine NoPanic.normal ?_
    go_simp
    obtain ⟨c0, c1, c2, c3, c4, c5, c6, c7⟩ := HA.out _ hHeld
    go_wp2_with fail
    refine (refPut_any c.T _ hc.t0 hc.t1).mono ?_
    rintro e x5 ⟨v5, rfl, ho5, hb5⟩
    have hs5 := Sl.own ho5 hb3b.out
    replace ho4 := own_below ho4 hb5
    replace hHeld := hHeld.trans (hb5.mono hHeld.size)
    clear hb5 ho5 c0 c1 c2 c3 c4 c5 c6 c7
    have hsz5 := hHeld.size
    obtain ⟨c0, c1, c2, c3, c4, c5, c6, c7⟩ := HA.out _ hHeld
    go_wp2_with (refine wpList_append_sl rfl (.tmp 11) (.tmp 14) 47 rfl W1.heap.size 5 Try.underlying47 Try.info5 v4 _ _ rfl ho4 v5 _ rfl hs5 (by have := hl.out; have := l1.out; have := l4.out; have := l5.out; omega) hsz5 ?_; intro v6 x6 ho6 hg6; replace hHeld := hHeld.grown hg6 hsz5 (fun j hj => (ho4.lt j hj).1); clear c0 c1 c2 c3 c4 c5 c6 c7 ho4 hs5 hg6 hsz5; obtain ⟨c0, c1, c2, c3, c4, c5, c6, c7⟩ := HA.out _ hHeld)
    refine (refPutVal_any c.W.K c.W.X c.W.S _ (by have := hl.out; omega) hc.w.k0 hc.w.k1 hc.w.x).mono ?_
    rintro e x7 ⟨v7, rfl, ho7, hb7⟩
    have hs7 := Sl.own ho7 hb4b.out
    replace ho6 := own_below ho6 hb7
    replace hHeld := hHeld.trans (hb7.mono hHeld.size)
    clear hb7 ho7 c0 c1 c2 c3 c4 c5 c6 c7
    have hsz7 := hHeld.size
    go_wp2_with (refine wpList_append_sl rfl (.tmp 19) (.tmp 22) 47 rfl W1.heap.size 5 Try.underlying47 Try.info5 v6 _ _ rfl ho6 v7 _ rfl hs7 (by have := hl.out; have := l1.out; have := l4.out; have := l5.out; have := l6.out; omega) hsz7 ?_; intro v8 x8 ho8 hg8; replace hHeld := hHeld.grown hg8 hsz7 (fun j hj => (ho6.lt j hj).1))
    go_ret
    refine ⟨_, rfl, ?_, hBw.trans (hHeld.mono hBw.size)⟩
    have e1 : Ce.put c = ((Nm.text (sb c.N) ++ Dt.put c.V.K c.V.X c.V.S) ++ Nm.num c.T) ++ Dt.put c.W.K c.W.X c.W.S := by rw [HE.out]; simp [Va.put]
    rw [e1, List.length_append, List.length_append, List.length_append]
    exact own_mono ho8 hBw.size
  · have HE := hide (cput_none ht)
    go_enter Try.func29, Try.ntmps29
    go_wp2_with (refine wpList_box 26 (.tmp 0) (cv c) rfl rfl rfl ?_; intro W1 hBw hX)
    have HA : Hid (∀ w', Below W1.heap.size W1 w' → _) := fun w' hb => (hX.later hb).cells
    have hB : Below W1.heap.size W1 W1 := Below.refl _ _
    refine wp_region_noPanic ?_
    refine wp_region_held_drew (S := fun W => Below W1.heap.size W1 W) (by kernel_rfl) ?_ (fun hHeld => ?_)
    · exact (Below.refl _ _).drew
    refine wpAnyH_take (i := 0) (v := ?_) rfl (by kernel_rfl) (by kernel_rfl) (by kernel_rfl) (fun _ _ _ h => h) (Or.inl ⟨by kernel_rfl, ?_⟩) hHeld ?_
    rotate_left
    · intro W hW; go_simp; first | done | with_reducible rfl | rfl
    try simp only [Act.put]
    refine wpAnyH_take (i := 1) (v := .string c.N) rfl (by kernel_rfl) (by kernel_rfl) (by kernel_rfl) (fun _ _ _ h => h) (Or.inl ⟨by kernel_rfl, ?_⟩) hHeld ?_
    · intro W hW; have hq := HA.out W (hB.trans (Below.mono hW hB.size)); obtain ⟨c0, c1, c2, c3, c4, c5, c6, c7⟩ := hq; clear hW; go_simp; first | done | with_reducible rfl | rfl
    try simp only [Act.put]
    refine wpAnyH_take (i := 3) (v := ?_) rfl (by kernel_rfl) (by kernel_rfl) (by kernel_rfl) (fun _ _ _ h => h) (Or.inl ⟨by kernel_rfl, ?_⟩) hHeld ?_
    rotate_left
    · intro W hW; go_simp; first | done | with_reducible rfl | rfl
    try simp only [Act.put]
    refine wpAnyH_take (i := 4) (v := .agg #[.int .i64 c.V.K, .float .f64 c.V.X, .string c.V.S]) rfl (by kernel_rfl) (by kernel_rfl) (by kernel_rfl) (fun _ _ _ h => h) (Or.inl ⟨by kernel_rfl, ?_⟩) hHeld ?_
    · intro W hW; have hq := HA.out W (hB.trans (Below.mono hW hB.size)); obtain ⟨c0, c1, c2, c3, c4, c5, c6, c7⟩ := hq; clear hW; go_simp; first | done | with_reducible rfl | rfl
    try simp only [Act.put]
    refine wpAnyH_ready (rs := [2]) (by kernel_rfl) (by simp) ?_
    refine AllReadyH.cons (o := _) rfl (fun K hK => ?_) AllReadyH.nil
    go_simp
    refine (refPutText_any c.N _ (by have := hl.out; omega)).mono ?_
    rintro e x2 ⟨v2, rfl, ho2, hb2⟩
    dsimp only
    refine hK.out _ _ ?_ (fun hHeld => ?_)
    · exact hHeld.trans (hb2.mono hHeld.size)
    clear hK K
    try simp only [Act.put]
    have ho2' := own_mono ho2 (show W1.heap.size ≤ _ from hB.drew.size)
    clear hb2 ho2
    refine wpAnyH_ready (rs := [5]) (by kernel_rfl) (by simp) ?_
    refine AllReadyH.cons (o := _) rfl (fun K hK => ?_) AllReadyH.nil
    go_simp
    refine (refPutVal_any c.V.K c.V.X c.V.S _ (by have := hl.out; omega) hc.v.k0 hc.v.k1 hc.v.x).mono ?_
    rintro e x3 ⟨v3, rfl, ho3, hb3⟩
    dsimp only
    refine hK.out _ _ ?_ (fun hHeld => ?_)
    · exact hHeld.trans (hb3.mono hHeld.size)
    clear hK K
    try simp only [Act.put]
    have hs3 := Sl.own ho3 hb2b.out
    replace ho2' := own_below ho2' hb3
    clear hb3 ho3
    refine wpAnyH_ready (rs := [6]) (by kernel_rfl) (by simp) ?_
    refine AllReadyH.cons (o := _) rfl (fun K hK => ?_) AllReadyH.nil
    rw [if_pos (by kernel_rfl)]
    refine wp_append_sl (.tmp 6) (.tmp 9) 47 rfl W1.heap.size 5 Try.underlying47 Try.info5 v2 _ _ rfl ho2' v3 _ rfl hs3 (by have := hl.out; have := l1.out; have := l4.out; omega) hHeld.size ?_
    intro v4 x4 ho4 hg4
    refine hK.out _ _ ?_ (fun hHeld => ?_)
    · exact hHeld.grown hg4 hHeld.size (fun j hj => (ho2'.lt j hj).1)
    clear hK K
    try simp only [Act.put]
    clear ho2' hs3 hg4
    refine wpAnyH_take (i := 7) (v := ?_) rfl (by kernel_rfl) (by kernel_rfl) (by kernel_rfl) (fun _ _ _ h => h) (Or.inl ⟨by kernel_rfl, ?_⟩) hHeld ?_
    rotate_left
    · intro W hW; go_simp; first | done | with_reducible rfl | rfl
    try simp only [Act.put]
    refine wpAnyH_done (by kernel_rfl) ?_ _
    refine NoPanic.normal ?_
    go_simp
    obtain ⟨c0, c1, c2, c3, c4, c5, c6, c7⟩ := HA.out _ hHeld
    go_wp2_with fail
    refine (refPut_any c.T _ hc.t0 hc.t1).mono ?_
    rintro e x5 ⟨v5, rfl, ho5, hb5⟩
    have hs5 := Sl.own ho5 hb3b.out
    replace ho4 := own_below ho4 hb5
    replace hHeld := hHeld.trans (hb5.mono hHeld.size)
    clear hb5 ho5 c0 c1 c2 c3 c4 c5 c6 c7
    have hsz5 := hHeld.size
    obtain ⟨c0, c1, c2, c3, c4, c5, c6, c7⟩ := HA.out _ hHeld
    go_wp2_with (refine wpList_append_sl rfl (.tmp 11) (.tmp 14) 47 rfl W1.heap.size 5 Try.underlying47 Try.info5 v4 _ _ rfl ho4 v5 _ rfl hs5 (by have := hl.out; have := l1.out; have := l4.out; have := l5.out; omega) hsz5 ?_; intro v6 x6 ho6 hg6; replace hHeld := hHeld.grown hg6 hsz5 (fun j hj => (ho4.lt j hj).1); clear c0 c1 c2 c3 c4 c5 c6 c7 ho4 hs5 hg6 hsz5; obtain ⟨c0, c1, c2, c3, c4, c5, c6, c7⟩ := HA.out _ hHeld)
    go_ret
    refine ⟨_, rfl, ?_, hBw.trans (hHeld.mono hBw.size)⟩
    have e1 : Ce.put c = (Nm.text (sb c.N) ++ Dt.put c.V.K c.V.X c.V.S) ++ Nm.num c.T := by rw [HE.out]; simp [Va.put]
    rw [e1, List.length_append, List.length_append]
    exact own_mono ho6 hBw.size
end Go.Proofs.Ytlefhhmggaaiiaa
