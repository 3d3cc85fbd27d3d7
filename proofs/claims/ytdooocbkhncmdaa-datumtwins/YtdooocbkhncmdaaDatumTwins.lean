/-
  For any two values (each by its kind, its bits and its text cut at 25 bytes) DatumTwins returns true: of two that may be datum.Put writes the same bytes just if datum.Eq says that they are the same, and datum.Eq asks the same the other way about. No condition.
-/
import Derived.Test.YtdooocbkhncmdaaRows
import Derived.WalkKit
import Derived.ProofKit
import Derived.OpenShut
import Derived.ShutString
import Derived.Test.YtdooocbkhncmdaaDatB
import Derived.ChangeOld
import Derived.Below
namespace Go.Proofs.Ytdooocbkhncmdaa.datumTwins
open Go.ChangeShapes Go.WideShapes Go.ChangeAt Go.RowKit
open Go.ChangeMaps (open_string shut_string)
set_option linter.unusedVariables false

theorem own : ownKnob Try.prog.godebug = none := by kernel_rfl

set_option maxRecDepth 100000 in
set_option maxHeartbeats 2000000 in
theorem walk (a0 : Int) (a1 : Int) (a2 : ByteArray) (a3 : Int) (a4 : Int) (a5 : ByteArray) (w0 : (Lit.int .i64 a0).wf = true) (w1 : (Lit.int .u64 a1).wf = true) (w2 : a2.size ≤ maxLen) (w3 : (Lit.int .i64 a3).wf = true) (w4 : (Lit.int .u64 a4).wf = true) (w5 : a5.size ≤ maxLen) (w : World) :
    Calls Try.prog 6 #[.int .i64 a0, .int .u64 a1, .string a2, .int .i64 a3, .int .u64 a4, .string a5] w fun e w' => e = .returned (.bool true) ∧ Below w.heap.size w w' := by
  obtain ⟨h0, h1⟩ := bounds_i64 w0
  obtain ⟨g0, g1⟩ := bounds_u64 w1
  obtain ⟨X, rfl⟩ := Int.eq_ofNat_of_zero_le g0
  have hX : X < 18446744073709551616 := by omega
  obtain ⟨k0, k1⟩ := bounds_i64 w3
  obtain ⟨l0, l1⟩ := bounds_u64 w4
  obtain ⟨Y, rfl⟩ := Int.eq_ofNat_of_zero_le l0
  have hY : Y < 18446744073709551616 := by omega
  clear w0 w1 w3 w4 g0 g1 l0 l1
  have hsf := st_float
  go_enter Try.func6, Try.ntmps6
  go_wp2_with fail
  refine (begun_any _).mono ?_
  rintro e x1 ⟨rfl, hb1⟩
  go_wp2_with fail
  refine (val_any a0 X a2 _ w2).mono ?_
  rintro e x2 ⟨s, rfl, hs, hb2⟩
  have hBw := hb1.trans (hb2.mono hb1.size)
  clear hb1 hb2 w2
  go_wp2_with fail
  refine (val_any a3 Y a5 _ w5).mono ?_
  rintro e x3 ⟨t, rfl, ht, hb3⟩
  replace hBw := hBw.trans (hb3.mono hBw.size)
  clear hb3 w5
  have hsm : s.size ≤ maxLen := by unfold maxLen; omega
  have htm : t.size ≤ maxLen := by unfold maxLen; omega
  go_wp2_with fail
  generalize hW : (World.alloc _ _).alloc _ = W0
  have hB0 : Below x3.heap.size x3 W0 := by rw [← hW]; exact ((Below.refl _ _).alloc (Nat.le_refl _) _).alloc (by simp) _
  have HA : Hid (∀ w', Below W0.heap.size W0 w' → _) := fun w' hb => two_boxes (w := x3) (w' := w') (by rw [hW]; exact hb)
  replace hBw := hBw.trans (hB0.mono hBw.size)
  clear hW hB0
  have hB : Below W0.heap.size W0 W0 := Below.refl _ _
  obtain ⟨c0, c1, c2, d0, d1, d2⟩ := HA.out _ hB
  cases hm : Dt.may a0 X s
  · have HM := hide hm
    clear hm
    with_reducible refine (refMay_any a0 X s _ hsm hX).mono ?_
    rintro e x ⟨rfl, hb⟩
    rw [HM.out]
    replace hB := hB.trans (hb.mono hB.size)
    clear hb c0 c1 c2 d0 d1 d2
    obtain ⟨c0, c1, c2, d0, d1, d2⟩ := HA.out _ hB
    go_wp2_with fail
    go_ret
    exact ⟨rfl, hBw.trans (hB.mono hBw.size)⟩
  · cases hn : Dt.may a3 Y t
    · have HM := hide hm
      have HN := hide hn
      clear hm hn
      with_reducible refine (refMay_any a0 X s _ hsm hX).mono ?_
      rintro e x ⟨rfl, hb⟩
      rw [HM.out]
      replace hB := hB.trans (hb.mono hB.size)
      clear hb c0 c1 c2 d0 d1 d2
      obtain ⟨c0, c1, c2, d0, d1, d2⟩ := HA.out _ hB
      go_wp2_with fail
      with_reducible refine (refMay_any a3 Y t _ htm hY).mono ?_
      rintro e x ⟨rfl, hb⟩
      rw [HN.out]
      replace hB := hB.trans (hb.mono hB.size)
      clear hb c0 c1 c2 d0 d1 d2
      obtain ⟨c0, c1, c2, d0, d1, d2⟩ := HA.out _ hB
      go_wp2_with fail
      go_ret
      exact ⟨rfl, hBw.trans (hB.mono hBw.size)⟩
    · have HM := hide hm
      have HN := hide hn
      have HPE := hide (Dt.put_eq hX hY hm hn)
      have HPX := hide (Dt.put_bd (x := X) h0 h1 (show s.size ≤ 140737488350000 by omega))
      have HPY := hide (Dt.put_bd (x := Y) k0 k1 (show t.size ≤ 140737488350000 by omega))
      obtain ⟨l, hl⟩ : ∃ l, Dt.eq a0 X s a3 Y t = l := ⟨_, rfl⟩
      have HL := hide hl
      have HL2 := hide ((Dt.eq_symm a0 X s a3 Y t).trans hl)
      rw [hl] at HPE
      clear hm hn hl
      with_reducible refine (refMay_any a0 X s _ hsm hX).mono ?_
      rintro e x ⟨rfl, hb⟩
      rw [HM.out]
      replace hB := hB.trans (hb.mono hB.size)
      clear hb c0 c1 c2 d0 d1 d2
      obtain ⟨c0, c1, c2, d0, d1, d2⟩ := HA.out _ hB
      go_wp2_with fail
      with_reducible refine (refMay_any a3 Y t _ htm hY).mono ?_
      rintro e x ⟨rfl, hb⟩
      rw [HN.out]
      replace hB := hB.trans (hb.mono hB.size)
      clear hb c0 c1 c2 d0 d1 d2
      obtain ⟨c0, c1, c2, d0, d1, d2⟩ := HA.out _ hB
      go_wp2_with fail
      clear c0 c1 c2 d0 d1 d2
      refine wp_region_noPanic ?_
      refine wp_region_held_drew (S := fun W => Below x.heap.size x W) (by kernel_rfl) ?_ (fun hHeld => ?_)
      · exact (Below.refl _ _).drew
      refine wpAnyH_take (i := 0) (v := .agg #[.int .i64 a0, .float .f64 X, .string s]) rfl (by kernel_rfl) (by kernel_rfl) (by kernel_rfl) (fun _ _ _ h => h) (Or.inl ⟨by kernel_rfl, ?_⟩) hHeld ?_
      · intro W hW; have hq := HA.out W (hB.trans (Below.mono hW hB.size)); obtain ⟨c0, c1, c2, d0, d1, d2⟩ := hq; clear hW; go_simp; first | done | with_reducible rfl
      try simp only [Act.put]
      refine wpAnyH_take (i := 3) (v := .agg #[.int .i64 a3, .float .f64 Y, .string t]) rfl (by kernel_rfl) (by kernel_rfl) (by kernel_rfl) (fun _ _ _ h => h) (Or.inl ⟨by kernel_rfl, ?_⟩) hHeld ?_
      · intro W hW; have hq := HA.out W (hB.trans (Below.mono hW hB.size)); obtain ⟨c0, c1, c2, d0, d1, d2⟩ := hq; clear hW; go_simp; first | done | with_reducible rfl
      try simp only [Act.put]
      refine wpAnyH_take (i := 7) (v := .agg #[.int .i64 a0, .float .f64 X, .string s]) rfl (by kernel_rfl) (by kernel_rfl) (by kernel_rfl) (fun _ _ _ h => h) (Or.inl ⟨by kernel_rfl, ?_⟩) hHeld ?_
      · intro W hW; have hq := HA.out W (hB.trans (Below.mono hW hB.size)); obtain ⟨c0, c1, c2, d0, d1, d2⟩ := hq; clear hW; go_simp; first | done | with_reducible rfl
      try simp only [Act.put]
      refine wpAnyH_take (i := 8) (v := .agg #[.int .i64 a3, .float .f64 Y, .string t]) rfl (by kernel_rfl) (by kernel_rfl) (by kernel_rfl) (fun _ _ _ h => h) (Or.inl ⟨by kernel_rfl, ?_⟩) hHeld ?_
      · intro W hW; have hq := HA.out W (hB.trans (Below.mono hW hB.size)); obtain ⟨c0, c1, c2, d0, d1, d2⟩ := hq; clear hW; go_simp; first | done | with_reducible rfl
      try simp only [Act.put]
      refine wpAnyH_ready (rs := [1]) (by kernel_rfl) (by simp) ?_
      refine AllReadyH.cons (o := _) rfl (fun K hK => ?_) AllReadyH.nil
      go_simp
      refine (dput_any _ [] a0 X s _ (Sl.nil _) (by simp; omega) h0 h1 hX).mono ?_
      rintro e xc ⟨V1, rfl, ho4, hb4⟩
      dsimp only
      refine hK.out _ _ ?_ (fun hHeld => ?_)
      · exact hHeld.trans (hb4.mono hHeld.size)
      clear hK K
      try simp only [Act.put]
      refine held_mono (S' := fun W => Below xc.heap.size xc W) (fun W h => hHeld.trans (h.mono hHeld.size)) _ _ _ _ ?_
      replace hB := hB.trans (hHeld.mono hB.size)
      have hV1 : Sl xc V1 (Dt.put a0 X s) := Sl.own (by simpa using ho4) HPX.out
      clear hHeld hb4 ho4
      have hHeld : Below xc.heap.size xc xc := Below.refl _ _
      refine wpAnyH_take (i := 2) (v := .string (strOfNums (Dt.put a0 X s))) rfl (by kernel_rfl) (by kernel_rfl) (by kernel_rfl) (fun _ _ _ h => h) (Or.inl ⟨by kernel_rfl, ?_⟩) hHeld ?_
      · intro W hW; have hcv := (hV1.later hW).conv (P := Try.prog) 23 9 5 Try.underlying23 Try.underlying5 Try.underlying9; go_simp
      try simp only [Act.put]
      refine wpAnyH_ready (rs := [4]) (by kernel_rfl) (by simp) ?_
      refine AllReadyH.cons (o := _) rfl (fun K hK => ?_) AllReadyH.nil
      go_simp
      refine (dput_any _ [] a3 Y t _ (Sl.nil _) (by simp; omega) k0 k1 hY).mono ?_
      rintro e xc ⟨V2, rfl, ho4, hb4⟩
      dsimp only
      refine hK.out _ _ ?_ (fun hHeld => ?_)
      · exact hHeld.trans (hb4.mono hHeld.size)
      clear hK K
      try simp only [Act.put]
      refine held_mono (S' := fun W => Below xc.heap.size xc W) (fun W h => hHeld.trans (h.mono hHeld.size)) _ _ _ _ ?_
      replace hB := hB.trans (hHeld.mono hB.size)
      have hV2 : Sl xc V2 (Dt.put a3 Y t) := Sl.own (by simpa using ho4) HPY.out
      clear hHeld hb4 ho4
      have hHeld : Below xc.heap.size xc xc := Below.refl _ _
      refine wpAnyH_take (i := 5) (v := .string (strOfNums (Dt.put a3 Y t))) rfl (by kernel_rfl) (by kernel_rfl) (by kernel_rfl) (fun _ _ _ h => h) (Or.inl ⟨by kernel_rfl, ?_⟩) hHeld ?_
      · intro W hW; have hcv := (hV2.later hW).conv (P := Try.prog) 23 9 5 Try.underlying23 Try.underlying5 Try.underlying9; go_simp
      try simp only [Act.put]
      have hpe := HPE.out
      refine wpAnyH_take (i := 6) (v := .bool l) rfl (by kernel_rfl) (by kernel_rfl) (by kernel_rfl) (fun _ _ _ h => h) (Or.inl ⟨by kernel_rfl, ?_⟩) hHeld ?_
      · intro W hW; go_simp; first | done | with_reducible rfl
      try simp only [Act.put]
      clear hpe
      refine wpAnyH_ready (rs := [9]) (by kernel_rfl) (by simp) ?_
      refine AllReadyH.cons (o := _) rfl (fun K hK => ?_) AllReadyH.nil
      go_simp
      refine (eqv_any a0 X s a3 Y t _ hX hY).mono ?_
      rintro e xc ⟨rfl, hb4⟩
      rw [HL.out]
      dsimp only
      refine hK.out _ _ ?_ (fun hHeld => ?_)
      · exact hHeld.trans (hb4.mono hHeld.size)
      clear hK K
      try simp only [Act.put]
      refine held_mono (S' := fun W => Below xc.heap.size xc W) (fun W h => hHeld.trans (h.mono hHeld.size)) _ _ _ _ ?_
      replace hB := hB.trans (hHeld.mono hB.size)
      clear hHeld hb4
      have hHeld : Below xc.heap.size xc xc := Below.refl _ _
      refine wpAnyH_take (i := 10) (v := .bool true) rfl (by kernel_rfl) (by kernel_rfl) (by kernel_rfl) (fun _ _ _ h => h) (Or.inl ⟨by kernel_rfl, ?_⟩) hHeld ?_
      · intro W hW; go_simp; first | done | with_reducible rfl
      try simp only [Act.put]
      refine wpAnyH_take (i := 11) (v := ?_) rfl (by kernel_rfl) (by kernel_rfl) (by kernel_rfl) (fun _ _ _ h => h) (Or.inl ⟨by kernel_rfl, ?_⟩) hHeld ?_
      rotate_left
      · intro W hW; go_simp; first | done | with_reducible rfl
      try simp only [Act.put]
      refine wpAnyH_take (i := 12) (v := .agg #[.int .i64 a0, .float .f64 X, .string s]) rfl (by kernel_rfl) (by kernel_rfl) (by kernel_rfl) (fun _ _ _ h => h) (Or.inl ⟨by kernel_rfl, ?_⟩) hHeld ?_
      · intro W hW; have hq := HA.out W (hB.trans (Below.mono hW hB.size)); obtain ⟨c0, c1, c2, d0, d1, d2⟩ := hq; clear hW; go_simp; first | done | with_reducible rfl
      try simp only [Act.put]
      refine wpAnyH_take (i := 13) (v := .agg #[.int .i64 a3, .float .f64 Y, .string t]) rfl (by kernel_rfl) (by kernel_rfl) (by kernel_rfl) (fun _ _ _ h => h) (Or.inl ⟨by kernel_rfl, ?_⟩) hHeld ?_
      · intro W hW; have hq := HA.out W (hB.trans (Below.mono hW hB.size)); obtain ⟨c0, c1, c2, d0, d1, d2⟩ := hq; clear hW; go_simp; first | done | with_reducible rfl
      try simp only [Act.put]
      refine wpAnyH_take (i := 15) (v := .agg #[.int .i64 a3, .float .f64 Y, .string t]) rfl (by kernel_rfl) (by kernel_rfl) (by kernel_rfl) (fun _ _ _ h => h) (Or.inl ⟨by kernel_rfl, ?_⟩) hHeld ?_
      · intro W hW; have hq := HA.out W (hB.trans (Below.mono hW hB.size)); obtain ⟨c0, c1, c2, d0, d1, d2⟩ := hq; clear hW; go_simp; first | done | with_reducible rfl
      try simp only [Act.put]
      refine wpAnyH_take (i := 16) (v := .agg #[.int .i64 a0, .float .f64 X, .string s]) rfl (by kernel_rfl) (by kernel_rfl) (by kernel_rfl) (fun _ _ _ h => h) (Or.inl ⟨by kernel_rfl, ?_⟩) hHeld ?_
      · intro W hW; have hq := HA.out W (hB.trans (Below.mono hW hB.size)); obtain ⟨c0, c1, c2, d0, d1, d2⟩ := hq; clear hW; go_simp; first | done | with_reducible rfl
      try simp only [Act.put]
      refine wpAnyH_ready (rs := [14]) (by kernel_rfl) (by simp) ?_
      refine AllReadyH.cons (o := _) rfl (fun K hK => ?_) AllReadyH.nil
      go_simp
      refine (eqv_any a0 X s a3 Y t _ hX hY).mono ?_
      rintro e xc ⟨rfl, hb4⟩
      rw [HL.out]
      dsimp only
      refine hK.out _ _ ?_ (fun hHeld => ?_)
      · exact hHeld.trans (hb4.mono hHeld.size)
      clear hK K
      try simp only [Act.put]
      refine held_mono (S' := fun W => Below xc.heap.size xc W) (fun W h => hHeld.trans (h.mono hHeld.size)) _ _ _ _ ?_
      replace hB := hB.trans (hHeld.mono hB.size)
      clear hHeld hb4
      have hHeld : Below xc.heap.size xc xc := Below.refl _ _
      refine wpAnyH_ready (rs := [17]) (by kernel_rfl) (by simp) ?_
      refine AllReadyH.cons (o := _) rfl (fun K hK => ?_) AllReadyH.nil
      go_simp
      refine (eqv_any a3 Y t a0 X s _ hY hX).mono ?_
      rintro e xc ⟨rfl, hb4⟩
      rw [HL2.out]
      dsimp only
      refine hK.out _ _ ?_ (fun hHeld => ?_)
      · exact hHeld.trans (hb4.mono hHeld.size)
      clear hK K
      try simp only [Act.put]
      refine held_mono (S' := fun W => Below xc.heap.size xc W) (fun W h => hHeld.trans (h.mono hHeld.size)) _ _ _ _ ?_
      replace hB := hB.trans (hHeld.mono hB.size)
      clear hHeld hb4
      have hHeld : Below xc.heap.size xc xc := Below.refl _ _
      refine wpAnyH_take (i := 18) (v := .bool true) rfl (by kernel_rfl) (by kernel_rfl) (by kernel_rfl) (fun _ _ _ h => h) (Or.inl ⟨by kernel_rfl, ?_⟩) hHeld ?_
      · intro W hW; go_simp; first | done | with_reducible rfl
      try simp only [Act.put]
      refine wpAnyH_take (i := 19) (v := .bool true) rfl (by kernel_rfl) (by kernel_rfl) (by kernel_rfl) (fun _ _ _ h => h) (Or.inl ⟨by kernel_rfl, ?_⟩) hHeld ?_
      · intro W hW; go_simp; first | done | with_reducible rfl
      try simp only [Act.put]
      refine wpAnyH_take (i := 20) (v := ?_) rfl (by kernel_rfl) (by kernel_rfl) (by kernel_rfl) (fun _ _ _ h => h) (Or.inl ⟨by kernel_rfl, ?_⟩) hHeld ?_
      rotate_left
      · intro W hW; go_simp; first | done | with_reducible rfl
      try simp only [Act.put]
      refine wpAnyH_done (by kernel_rfl) ?_ _
      refine NoPanic.normal ?_
      clear hHeld hV1 hV2
      go_simp
      go_wp2_with fail
      go_ret
      exact ⟨rfl, hBw.trans (hB.mono hBw.size)⟩

set_option maxRecDepth 100000 in
theorem lifted (os : Os) (started : os.Started) (H : Type) (enc : TypeId × Value → H) :
    ReturnsInHanded {} Try.checked os 6 .any (Rows.datumTwinsSpec.pre6 enc Try.prog Try.f6 Rows.datumTwinsRow.domain false) (Rows.datumTwinsSpec.post enc Try.prog Try.f6 false true false false) := by
  refine returnsInHanded_of_change (C := Try.checked) own started (by kernel_rfl) Try.func6
    (ChangeSpec.witness6 (enc := enc) (C := Try.checked) false ⟨#[], #[.int .i64 0, .int .u64 0, .string ByteArray.empty, .int .i64 0, .int .u64 0, .string ByteArray.empty], []⟩ 8 (by kernel_rfl) (by kernel_rfl) (by kernel_rfl) (by kernel_rfl)) ?_
  intro W base args ds gs before hval0 hW hcnd _
  have hval : ∀ (j : Nat) t v, Try.f6.params[j]? = some t → args[j]? = some v → Value.okWide Try.prog W .any base t v := hval0
  have hW' := hW
  obtain ⟨p, q, hA0, hV, rfl, hfz, hnd⟩ := hW
  have hA : DataW.TrodAll enc Try.prog W 0 (fun _ => true) true Try.f6.params.toList args.toList ds p := hA0
  rw [Try.params6] at hA hval
  obtain ⟨v0, vs0, d0, ds0, p0, q0, hargs, rfl, rfl, h0, r0⟩ := trodAll_cons hA
  obtain ⟨v1, vs1, d1, ds1, p1, q1, rfl, rfl, rfl, h1, r1⟩ := trodAll_cons r0
  obtain ⟨v2, vs2, d2, ds2, p2, q2, rfl, rfl, rfl, h2, r2⟩ := trodAll_cons r1
  obtain ⟨v3, vs3, d3, ds3, p3, q3, rfl, rfl, rfl, h3, r3⟩ := trodAll_cons r2
  obtain ⟨v4, vs4, d4, ds4, p4, q4, rfl, rfl, rfl, h4, r4⟩ := trodAll_cons r3
  obtain ⟨v5, vs5, d5, ds5, p5, q5, rfl, rfl, rfl, h5, r5⟩ := trodAll_cons r4
  obtain ⟨rfl, rfl, rfl⟩ := trodAll_nil r5
  obtain rfl : args = #[v0, v1, v2, v3, v4, v5] := by cases args; simp_all
  obtain ⟨rfl, rfl⟩ := trodVars_none hV
  obtain ⟨a0, rfl, rfl, rfl, w0⟩ := open_int Try.underlying3 (hval 0 3 v0 rfl rfl) h0
  obtain ⟨a1, rfl, rfl, rfl, w1⟩ := open_int Try.underlying22 (hval 1 22 v1 rfl rfl) h1
  obtain ⟨a2, rfl, rfl, rfl, w2⟩ := open_string Try.underlying9 (hval 2 9 v2 rfl rfl) h2
  obtain ⟨a3, rfl, rfl, rfl, w3⟩ := open_int Try.underlying3 (hval 3 3 v3 rfl rfl) h3
  obtain ⟨a4, rfl, rfl, rfl, w4⟩ := open_int Try.underlying22 (hval 4 22 v4 rfl rfl) h4
  obtain ⟨a5, rfl, rfl, rfl, w5⟩ := open_string Try.underlying9 (hval 5 9 v5 rfl rfl) h5
  clear hA0 hval0
  refine (walk a0 a1 a2 a3 a4 a5 w0 w1 w2 w3 w4 w5 W).mono fun e W' ⟨he, bel⟩ => ?_
  subst he
  exact ⟨_, rfl, _, _, _, [], _, [], hW', trodAll_mk1 (shut_bool Try.underlying4 _), (trodAll_cons_mk (shut_int Try.underlying3 w0) (trodAll_cons_mk (shut_int Try.underlying22 w1) (trodAll_cons_mk (shut_string Try.underlying9 w2) (trodAll_cons_mk (shut_int Try.underlying3 w3) (trodAll_cons_mk (shut_int Try.underlying22 w4) (trodAll_cons_mk (shut_string Try.underlying9 w5) trodAll_mk0)))))), rfl, bel.frame _, fun h => by cases h⟩

theorem over : Rows.datumTwinsRow.holds Try.pinned (OpenSpec.ofChange Rows.datumTwinsSpec) :=
  OpenClaim.holds_of_wide 6 Try.f6 rfl rfl rfl rfl rfl rfl rfl ⟨rfl, rfl, rfl, rfl, rfl⟩ rfl rfl rfl rfl rfl (by kernel_rfl) Try.func6 (by kernel_rfl)
    (of_decide_eq_true (by kernel_rfl)) (by unfold Func.isWrapper; first | (rw [if_pos (by decide +kernel)]; kernel_rfl) | (rw [if_neg (by decide +kernel)]; exact ⟨rfl, rfl⟩))
    (fun os started H enc _ => lifted os started H enc)

theorem proved : Rows.DatumTwinsSaid :=
  over
#print axioms proved
end Go.Proofs.Ytdooocbkhncmdaa.datumTwins
