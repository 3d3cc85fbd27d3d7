/-
  Contracts of cell.Put and of the document's Bytes over the translated program.
-/
import Derived.Test.YtlefhhmggaaiiabCelW
namespace Go.Proofs.Ytlefhhmggaaiiab
open Go.RowKit

theorem cput_pos {c : Ce} (h : 0 < c.T) : Ce.put c = Nm.text (sb c.N) ++ (c.V.put ++ (Nm.num c.T ++ c.W.put)) := by simp [Ce.put, h]
theorem cput_none {c : Ce} (h : ¬ 0 < c.T) : Ce.put c = Nm.text (sb c.N) ++ (c.V.put ++ Nm.num c.T) := by simp [Ce.put, h]

set_option maxHeartbeats 4000000 in
theorem put_cell (v : Value) (zs : List Int) (c : Ce) (w : World) (h : Sl w v zs) (hl : zs.length + c.N.size + c.V.S.size + c.W.S.size ≤ 140737488330000) (hc : c.Ok) :
    Calls Try.prog 7 #[v, .agg (cv c)] w fun e w' => ∃ v', e = .returned v' ∧
      w'.ownsRow w.heap.size 5 1 v' (zs.length + (Ce.put c).length) (bv (zs ++ Ce.put c)) ∧ Below w.heap.size w w' := by
  have hbd := h.bd
  have hb1 := text_bd c.N (by omega)
  have hb2 : ∀ z ∈ Dt.put c.V.K c.V.X c.V.S, 0 ≤ z ∧ z ≤ 255 := Dt.put_bd hc.v.k0 hc.v.k1 (by omega)
  have hb3 := Nm.num_bd c.T hc.t0 hc.t1
  have l1 := Nm.text_len (sb c.N)
  have l2 := Nm.num_len ((sb c.N).length : Int)
  have l3 := sb_len c.N
  have l4 : 1 ≤ (Dt.put c.V.K c.V.X c.V.S).length ∧ (Dt.put c.V.K c.V.X c.V.S).length ≤ 20 + c.V.S.size := Dt.put_len
  have l5 := Nm.num_len c.T
  replace hl := hide hl
  replace l1 := hide (show (Nm.text (sb c.N)).length ≤ 10 + c.N.size by omega)
  clear l2 l3
  replace l4 := hide l4
  replace l5 := hide l5
  replace hbd := hide hbd
  replace hb1 := hide hb1
  replace hb2 := hide hb2
  replace hb3 := hide hb3
  by_cases ht : 0 < c.T
  · have HA := hide (show decide (0 < c.T) = true by simpa using ht)
    have HE := hide (cput_pos ht)
    clear ht
    go_enter Try.func7, Try.ntmps7
    go_wp2_with (refine wpList_box 33 (.tmp 1) (cv c) rfl rfl rfl ?_; intro W1 hB hX; replace h := h.later hB; obtain ⟨c0, c1, c2, c3, c4, c5, c6, c7⟩ := hX.cells)
    refine (putText_any v zs c.N _ h (by have := hl.out; omega)).mono ?_
    rintro e W2 ⟨v2, rfl, ho2, hB2⟩
    have S2 := Sl.own ho2 (bd_app hbd.out hb1.out)
    clear ho2 h
    replace hX := hX.later hB2
    replace hB := hB.trans (hB2.mono hB.size)
    clear c0 c1 c2 c3 c4 c5 c6 c7 hB2
    obtain ⟨c0, c1, c2, c3, c4, c5, c6, c7⟩ := hX.cells
    go_wp2_with fail
    refine (dput_any v2 _ c.V.K c.V.X c.V.S _ S2 (by have := hl.out; have := l1.out; rw [List.length_append]; omega) hc.v.k0 hc.v.k1 hc.v.x).mono ?_
    rintro e W3 ⟨v3, rfl, ho3, hB3⟩
    have S3 := Sl.own ho3 (bd_app (bd_app hbd.out hb1.out) hb2.out)
    clear ho3 S2
    replace hX := hX.later hB3
    replace hB := hB.trans (hB3.mono hB.size)
    clear c0 c1 c2 c3 c4 c5 c6 c7 hB3
    obtain ⟨c0, c1, c2, c3, c4, c5, c6, c7⟩ := hX.cells
    go_wp2_with fail
    refine (put_any v3 _ c.T _ S3 (by have := hl.out; have := l1.out; have := l4.out; rw [List.length_append, List.length_append]; omega) hc.t0 hc.t1).mono ?_
    rintro e W4 ⟨v4, rfl, ho4, hB4⟩
    have S4 := Sl.own ho4 (bd_app (bd_app (bd_app hbd.out hb1.out) hb2.out) hb3.out)
    replace hX := hX.later hB4
    have hsz := hB.size
    replace hB := hB.trans (hB4.mono hB.size)
    clear c0 c1 c2 c3 c4 c5 c6 c7 S3
    go_wp2_with (refine wpList_get 33 _ (.tmp 3) _ (cv c) rfl rfl rfl hX tyC rfl ?_)
    refine (hasTxn_any c _).mono ?_
    rintro e W5 ⟨rfl, hB5⟩
    rw [HA.out]
    replace hX := hX.later hB5
    have hsz5 := hB.size
    replace hB := hB.trans (hB5.mono hB.size)
    replace S4 := S4.later hB5
    clear ho4 hB4 hB5
    obtain ⟨c0, c1, c2, c3, c4, c5, c6, c7⟩ := hX.cells
    go_wp2_with fail
    refine (dput_any v4 _ c.W.K c.W.X c.W.S _ S4 (by have := hl.out; have := l1.out; have := l4.out; have := l5.out; rw [List.length_append, List.length_append, List.length_append]; omega) hc.w.k0 hc.w.k1 hc.w.x).mono ?_
    rintro e W6 ⟨v6, rfl, ho6, hB6⟩
    have hsz6 := hB.size
    replace hB := hB.trans (hB6.mono hB.size)
    clear c0 c1 c2 c3 c4 c5 c6 c7 S4
    go_wp2_with fail
    go_ret
    refine ⟨_, rfl, ?_, hB⟩
    have e1 : zs ++ Ce.put c = (((zs ++ Nm.text (sb c.N)) ++ Dt.put c.V.K c.V.X c.V.S) ++ Nm.num c.T) ++ Dt.put c.W.K c.W.X c.W.S := by rw [HE.out]; simp [Va.put]
    have e2 : zs.length + (Ce.put c).length = ((((zs ++ Nm.text (sb c.N)) ++ Dt.put c.V.K c.V.X c.V.S) ++ Nm.num c.T)).length + (Dt.put c.W.K c.W.X c.W.S).length := by rw [← List.length_append, ← List.length_append, e1]
    rw [e2, e1]
    exact own_mono ho6 hsz6
  · have HA := hide (show decide (0 < c.T) = false by simpa using ht)
    have HE := hide (cput_none ht)
    clear ht
    go_enter Try.func7, Try.ntmps7
    go_wp2_with (refine wpList_box 33 (.tmp 1) (cv c) rfl rfl rfl ?_; intro W1 hB hX; replace h := h.later hB; obtain ⟨c0, c1, c2, c3, c4, c5, c6, c7⟩ := hX.cells)
    refine (putText_any v zs c.N _ h (by have := hl.out; omega)).mono ?_
    rintro e W2 ⟨v2, rfl, ho2, hB2⟩
    have S2 := Sl.own ho2 (bd_app hbd.out hb1.out)
    clear ho2 h
    replace hX := hX.later hB2
    replace hB := hB.trans (hB2.mono hB.size)
    clear c0 c1 c2 c3 c4 c5 c6 c7 hB2
    obtain ⟨c0, c1, c2, c3, c4, c5, c6, c7⟩ := hX.cells
    go_wp2_with fail
    refine (dput_any v2 _ c.V.K c.V.X c.V.S _ S2 (by have := hl.out; have := l1.out; rw [List.length_append]; omega) hc.v.k0 hc.v.k1 hc.v.x).mono ?_
    rintro e W3 ⟨v3, rfl, ho3, hB3⟩
    have S3 := Sl.own ho3 (bd_app (bd_app hbd.out hb1.out) hb2.out)
    clear ho3 S2
    replace hX := hX.later hB3
    replace hB := hB.trans (hB3.mono hB.size)
    clear c0 c1 c2 c3 c4 c5 c6 c7 hB3
    obtain ⟨c0, c1, c2, c3, c4, c5, c6, c7⟩ := hX.cells
    go_wp2_with fail
    refine (put_any v3 _ c.T _ S3 (by have := hl.out; have := l1.out; have := l4.out; rw [List.length_append, List.length_append]; omega) hc.t0 hc.t1).mono ?_
    rintro e W4 ⟨v4, rfl, ho4, hB4⟩
    have S4 := Sl.own ho4 (bd_app (bd_app (bd_app hbd.out hb1.out) hb2.out) hb3.out)
    replace hX := hX.later hB4
    have hsz := hB.size
    replace hB := hB.trans (hB4.mono hB.size)
    clear c0 c1 c2 c3 c4 c5 c6 c7 S3
    go_wp2_with (refine wpList_get 33 _ (.tmp 3) _ (cv c) rfl rfl rfl hX tyC rfl ?_)
    refine (hasTxn_any c _).mono ?_
    rintro e W5 ⟨rfl, hB5⟩
    rw [HA.out]
    replace hX := hX.later hB5
    have hsz5 := hB.size
    replace hB := hB.trans (hB5.mono hB.size)
    replace ho4 := own_below ho4 hB5
    clear hB4 hB5 S4
    go_wp2_with fail
    go_ret
    refine ⟨_, rfl, ?_, hB⟩
    have e1 : zs ++ Ce.put c = ((zs ++ Nm.text (sb c.N)) ++ Dt.put c.V.K c.V.X c.V.S) ++ Nm.num c.T := by rw [HE.out]; simp [Va.put]
    have e2 : zs.length + (Ce.put c).length = ((zs ++ Nm.text (sb c.N)) ++ Dt.put c.V.K c.V.X c.V.S).length + (Nm.num c.T).length := by rw [← List.length_append, ← List.length_append, e1]
    rw [e2, e1]
    exact own_mono ho4 hsz
end Go.Proofs.Ytlefhhmggaaiiab
