/-
  For every uint64 x FloatNext returns true: of two floats whose bits are next to one another float.Less and the order of float.Bytes say that the greater one stands behind. No condition.
-/
import Derived.Test.YtnkmfaddgodefabRows
import Derived.WalkKit
import Derived.ProofKit
import Derived.OpenShut
import Derived.ShutString
import Derived.Test.YtnkmfaddgodefabFltT
import Derived.ChangeOld
import Derived.Below
namespace Go.Proofs.Ytnkmfaddgodefab.floatNext
open Go.ChangeShapes Go.WideShapes Go.ChangeAt Go.RowKit
open Go.ChangeMaps (open_string shut_string)
set_option linter.unusedVariables false

theorem own : ownKnob Try.prog.godebug = none := by kernel_rfl

theorem next_key {X : Nat} (hX : X + 1 < 18446744073709551616) (nx : Fl.nan X = false) (ny : Fl.nan (X + 1) = false) :
    ∃ up : Bool, ∃ d : Int, (X : Int) / 9223372036854775808 = d ∧ ((X : Int) + 1) / 9223372036854775808 = d ∧ (d == 0) = up ∧
      decide (Fl.rk X < Fl.rk (X + 1)) = up ∧ decide (Fl.rk (X + 1) < Fl.rk X) = !up := by
  have n1 := nx
  unfold Fl.nan Fl.rg at n1
  simp at n1
  by_cases hs : X < 9223372036854775807
  · have e1 := Fl.rk_lo nx (by omega)
    have e2 := Fl.rk_lo ny (by omega)
    exact ⟨true, 0, by omega, by omega, rfl, decide_eq_true (by omega), decide_eq_false (by omega)⟩
  · have e1 := Fl.rk_hi (by omega) nx (by omega)
    have e2 := Fl.rk_hi (by omega) ny (by omega)
    exact ⟨false, 1, by omega, by omega, rfl, decide_eq_false (by omega), decide_eq_true (by omega)⟩

set_option maxRecDepth 100000 in
set_option maxHeartbeats 1000000 in
theorem walk (a0 : Int) (w0 : (Lit.int .u64 a0).wf = true) (w : World) :
    Calls Try.prog 6 #[.int .u64 a0] w fun e w' => e = .returned (.bool true) ∧ Below w.heap.size w w' := by
  obtain ⟨h0, h1⟩ := bounds_u64 w0
  obtain ⟨X, rfl⟩ := Int.eq_ofNat_of_zero_le h0
  have hX : X < 18446744073709551616 := by omega
  clear w0 h0 h1
  cases nx : Fl.nan X
  · have hX1 : X + 1 < 18446744073709551616 := by
      unfold Fl.nan Fl.rg at nx
      simp at nx
      omega
    cases ny : Fl.nan (X + 1)
    · have key := next_key hX1 nx ny
      obtain ⟨up, d, hd1, hd2, hd, hL, hG⟩ := key
      have TL := tl_less (Fl.rk_bd hX) (Fl.rk_bd hX1) up hL
      have HL := hide hL
      have HG := hide hG
      have NX := hide nx
      have NY := hide ny
      clear hL hG nx ny
      cases up
      all_goals
        go_enter Try.func6, Try.ntmps6
        go_wp2_with fail
        refine (begun_any _).mono ?_
        rintro e x1 ⟨rfl, hb1⟩
        go_wp2_with fail
        with_reducible refine (of_any X _).mono ?_
        rintro e x ⟨rfl, rfl⟩
        go_wp2_with fail
        with_reducible refine (ofc_any ((X : Int) + 1) (X + 1) rfl _).mono ?_
        rintro e x ⟨rfl, rfl⟩
        go_wp2_with fail
        generalize X + 1 = Y at *
        with_reducible refine (refNaN_any X _ hX).mono ?_
        rintro e x ⟨rfl, rfl⟩
        rw [NX.out]
        go_wp2_with fail
        with_reducible refine (refNaN_any Y _ hX1).mono ?_
        rintro e x ⟨rfl, rfl⟩
        rw [NY.out]
        go_wp2_with fail
        refine wp_region_noPanic ?_
        refine wp_region_held_drew (S := fun W => Below x.heap.size x W) (by kernel_rfl) ?_ (fun hHeld => ?_)
        · exact (Below.refl _ _).drew
        refine wpAnyH_take (i := 0) (v := ?_) rfl (by kernel_rfl) (by kernel_rfl) (by kernel_rfl) (fun _ _ _ h => h) (Or.inl ⟨by kernel_rfl, ?_⟩) hHeld ?_
        rotate_left
        · intro W hW; go_simp; first | done | with_reducible rfl
        try simp only [Act.put]
        refine wpAnyH_take (i := 1) (v := ?_) rfl (by kernel_rfl) (by kernel_rfl) (by kernel_rfl) (fun _ _ _ h => h) (Or.inl ⟨by kernel_rfl, ?_⟩) hHeld ?_
        rotate_left
        · intro W hW; go_simp; first | done | with_reducible rfl
        try simp only [Act.put]
        refine wpAnyH_take (i := 3) (v := ?_) rfl (by kernel_rfl) (by kernel_rfl) (by kernel_rfl) (fun _ _ _ h => h) (Or.inl ⟨by kernel_rfl, ?_⟩) hHeld ?_
        rotate_left
        · intro W hW; go_simp; first | done | with_reducible rfl
        try simp only [Act.put]
        refine wpAnyH_ready (rs := [2]) (by kernel_rfl) (by simp) ?_
        refine AllReadyH.cons (o := _) rfl (fun K hK => ?_) AllReadyH.nil
        go_simp
        refine (less_any X Y _ hX hX1).mono ?_
        rintro e x2 ⟨rfl, rfl⟩
        rw [HL.out]
        dsimp only
        refine hK.out _ _ ?_ (fun hHeld => ?_)
        · exact hHeld
        clear hK K
        try simp only [Act.put]
        refine wpAnyH_take (i := 4) (v := .bool true) rfl (by kernel_rfl) (by kernel_rfl) (by kernel_rfl) (fun _ _ _ h => h) (Or.inl ⟨by kernel_rfl, ?_⟩) hHeld ?_
        · intro W hW; go_simp; first | done | with_reducible rfl
        try simp only [Act.put]
        refine wpAnyH_take (i := 5) (v := ?_) rfl (by kernel_rfl) (by kernel_rfl) (by kernel_rfl) (fun _ _ _ h => h) (Or.inl ⟨by kernel_rfl, ?_⟩) hHeld ?_
        rotate_left
        · intro W hW; go_simp; first | done | with_reducible rfl
        try simp only [Act.put]
        refine wpAnyH_take (i := 6) (v := ?_) rfl (by kernel_rfl) (by kernel_rfl) (by kernel_rfl) (fun _ _ _ h => h) (Or.inl ⟨by kernel_rfl, ?_⟩) hHeld ?_
        rotate_left
        · intro W hW; go_simp; first | done | with_reducible rfl
        try simp only [Act.put]
        refine wpAnyH_take (i := 7) (v := ?_) rfl (by kernel_rfl) (by kernel_rfl) (by kernel_rfl) (fun _ _ _ h => h) (Or.inl ⟨by kernel_rfl, ?_⟩) hHeld ?_
        rotate_left
        · intro W hW; go_simp; first | done | with_reducible rfl
        try simp only [Act.put]
        refine wpAnyH_take (i := 9) (v := ?_) rfl (by kernel_rfl) (by kernel_rfl) (by kernel_rfl) (fun _ _ _ h => h) (Or.inl ⟨by kernel_rfl, ?_⟩) hHeld ?_
        rotate_left
        · intro W hW; go_simp; first | done | with_reducible rfl
        try simp only [Act.put]
        refine wpAnyH_ready (rs := [8]) (by kernel_rfl) (by simp) ?_
        refine AllReadyH.cons (o := _) rfl (fun K hK => ?_) AllReadyH.nil
        go_simp
        refine (less_any Y X _ hX1 hX).mono ?_
        rintro e x3 ⟨rfl, rfl⟩
        rw [HG.out]
        dsimp only
        refine hK.out _ _ ?_ (fun hHeld => ?_)
        · exact hHeld
        clear hK K
        try simp only [Act.put]
        refine wpAnyH_take (i := 10) (v := .bool true) rfl (by kernel_rfl) (by kernel_rfl) (by kernel_rfl) (fun _ _ _ h => h) (Or.inl ⟨by kernel_rfl, ?_⟩) hHeld ?_
        · intro W hW; go_simp; first | done | with_reducible rfl
        try simp only [Act.put]
        refine wpAnyH_take (i := 11) (v := .bool true) rfl (by kernel_rfl) (by kernel_rfl) (by kernel_rfl) (fun _ _ _ h => h) (Or.inl ⟨by kernel_rfl, ?_⟩) hHeld ?_
        · intro W hW; go_simp; first | done | with_reducible rfl
        try simp only [Act.put]
        refine wpAnyH_take (i := 12) (v := ?_) rfl (by kernel_rfl) (by kernel_rfl) (by kernel_rfl) (fun _ _ _ h => h) (Or.inl ⟨by kernel_rfl, ?_⟩) hHeld ?_
        rotate_left
        · intro W hW; go_simp; first | done | with_reducible rfl
        try simp only [Act.put]
        refine wpAnyH_take (i := 13) (v := ?_) rfl (by kernel_rfl) (by kernel_rfl) (by kernel_rfl) (fun _ _ _ h => h) (Or.inl ⟨by kernel_rfl, ?_⟩) hHeld ?_
        rotate_left
        · intro W hW; go_simp; first | done | with_reducible rfl
        try simp only [Act.put]
        refine wpAnyH_take (i := 16) (v := ?_) rfl (by kernel_rfl) (by kernel_rfl) (by kernel_rfl) (fun _ _ _ h => h) (Or.inl ⟨by kernel_rfl, ?_⟩) hHeld ?_
        rotate_left
        · intro W hW; go_simp; first | done | with_reducible rfl
        try simp only [Act.put]
        refine wpAnyH_take (i := 20) (v := ?_) rfl (by kernel_rfl) (by kernel_rfl) (by kernel_rfl) (fun _ _ _ h => h) (Or.inl ⟨by kernel_rfl, ?_⟩) hHeld ?_
        rotate_left
        · intro W hW; go_simp; first | done | with_reducible rfl
        try simp only [Act.put]
        refine wpAnyH_ready (rs := [14]) (by kernel_rfl) (by simp) ?_
        refine AllReadyH.cons (o := _) rfl (fun K hK => ?_) AllReadyH.nil
        go_simp
        refine (bytes_any X _ hX).mono ?_
        rintro e x4 ⟨v4, rfl, ho4, hb4⟩
        dsimp only
        refine hK.out _ _ ?_ (fun hHeld => ?_)
        · exact hHeld.trans (hb4.mono hHeld.size)
        clear hK K
        try simp only [Act.put]
        refine held_mono (S' := fun W => Below x4.heap.size x4 W) (fun W h => hHeld.trans (h.mono hHeld.size)) _ _ _ _ ?_
        have hB4 := hb1.trans (hHeld.mono hb1.size)
        have hS4 : Sl x4 v4 (Fl.be (Fl.rk X)) := Sl.own ho4 (Fl.be_bd _)
        clear hHeld hb4 ho4
        have hHeld : Below x4.heap.size x4 x4 := Below.refl _ _
        refine wpAnyH_take (i := 15) (v := .string (strOfNums (Fl.be (Fl.rk X)))) rfl (by kernel_rfl) (by kernel_rfl) (by kernel_rfl) (fun _ _ _ h => h) (Or.inl ⟨by kernel_rfl, ?_⟩) hHeld ?_
        · intro W hW; have hcv := (hS4.later hW).conv (P := Try.prog) 25 9 5 Try.underlying25 Try.underlying5 Try.underlying9; go_simp
        try simp only [Act.put]
        refine wpAnyH_ready (rs := [17]) (by kernel_rfl) (by simp) ?_
        refine AllReadyH.cons (o := _) rfl (fun K hK => ?_) AllReadyH.nil
        go_simp
        refine (bytes_any Y _ hX1).mono ?_
        rintro e x5 ⟨v5, rfl, ho5, hb5⟩
        dsimp only
        refine hK.out _ _ ?_ (fun hHeld => ?_)
        · exact hHeld.trans hb5
        clear hK K
        try simp only [Act.put]
        refine held_mono (S' := fun W => Below x5.heap.size x5 W) (fun W h => hHeld.trans (h.mono hHeld.size)) _ _ _ _ ?_
        have hB5 := hB4.trans (hHeld.mono hB4.size)
        have hS5 : Sl x5 v5 (Fl.be (Fl.rk Y)) := Sl.own ho5 (Fl.be_bd _)
        clear hHeld hb5 ho5
        have hHeld : Below x5.heap.size x5 x5 := Below.refl _ _
        refine wpAnyH_take (i := 18) (v := .string (strOfNums (Fl.be (Fl.rk Y)))) rfl (by kernel_rfl) (by kernel_rfl) (by kernel_rfl) (fun _ _ _ h => h) (Or.inl ⟨by kernel_rfl, ?_⟩) hHeld ?_
        · intro W hW; have hcv := (hS5.later hW).conv (P := Try.prog) 25 9 5 Try.underlying25 Try.underlying5 Try.underlying9; go_simp
        try simp only [Act.put]
        first
          | (
            refine wpAnyH_take (i := 19) (v := .bool true) rfl (by kernel_rfl) (by kernel_rfl) (by kernel_rfl) (fun _ _ _ h => h) (Or.inl ⟨by kernel_rfl, ?_⟩) hHeld ?_
            · intro W hW; go_simp; first | done | with_reducible rfl
            try simp only [Act.put]
            )
          | (
            refine wpAnyH_take (i := 19) (v := .bool false) rfl (by kernel_rfl) (by kernel_rfl) (by kernel_rfl) (fun _ _ _ h => h) (Or.inl ⟨by kernel_rfl, ?_⟩) hHeld ?_
            · intro W hW; go_simp; first | done | with_reducible rfl
            try simp only [Act.put]
            )
        refine wpAnyH_take (i := 21) (v := .bool true) rfl (by kernel_rfl) (by kernel_rfl) (by kernel_rfl) (fun _ _ _ h => h) (Or.inl ⟨by kernel_rfl, ?_⟩) hHeld ?_
        · intro W hW; go_simp; first | done | with_reducible rfl
        try simp only [Act.put]
        refine wpAnyH_take (i := 22) (v := .bool true) rfl (by kernel_rfl) (by kernel_rfl) (by kernel_rfl) (fun _ _ _ h => h) (Or.inl ⟨by kernel_rfl, ?_⟩) hHeld ?_
        · intro W hW; go_simp; first | done | with_reducible rfl
        try simp only [Act.put]
        refine wpAnyH_take (i := 23) (v := ?_) rfl (by kernel_rfl) (by kernel_rfl) (by kernel_rfl) (fun _ _ _ h => h) (Or.inl ⟨by kernel_rfl, ?_⟩) hHeld ?_
        rotate_left
        · intro W hW; go_simp; first | done | with_reducible rfl
        try simp only [Act.put]
        refine wpAnyH_done (by kernel_rfl) ?_ _
        refine NoPanic.normal ?_
        clear hHeld hS4 hS5
        go_simp
        go_wp2_with fail
        go_ret
        exact ⟨rfl, hB5⟩
    · have NX := hide nx
      have NY := hide ny
      clear nx ny
      go_enter Try.func6, Try.ntmps6
      go_wp2_with fail
      refine (begun_any _).mono ?_
      rintro e x1 ⟨rfl, hb1⟩
      go_wp2_with fail
      with_reducible refine (of_any X _).mono ?_
      rintro e x ⟨rfl, rfl⟩
      go_wp2_with fail
      with_reducible refine (ofc_any ((X : Int) + 1) (X + 1) rfl _).mono ?_
      rintro e x ⟨rfl, rfl⟩
      go_wp2_with fail
      generalize X + 1 = Y at *
      with_reducible refine (refNaN_any X _ hX).mono ?_
      rintro e x ⟨rfl, rfl⟩
      rw [NX.out]
      go_wp2_with fail
      with_reducible refine (refNaN_any Y _ hX1).mono ?_
      rintro e x ⟨rfl, rfl⟩
      rw [NY.out]
      go_wp2_with fail
      go_ret
      exact ⟨rfl, hb1⟩
  · have NX := hide nx
    clear nx
    by_cases hX1 : X = 18446744073709551615
    · subst hX1
      go_enter Try.func6, Try.ntmps6
      go_wp2_with fail
      refine (begun_any _).mono ?_
      rintro e x1 ⟨rfl, hb1⟩
      go_wp2_with fail
      with_reducible refine (ofc_any 18446744073709551615 18446744073709551615 rfl _).mono ?_
      rintro e x ⟨rfl, rfl⟩
      go_wp2_with fail
      with_reducible refine (ofc_any (IntKind.u64.wrap 18446744073709551616) 0 rfl _).mono ?_
      rintro e x ⟨rfl, rfl⟩
      go_wp2_with fail
      with_reducible refine (refNaN_any 18446744073709551615 _ hX).mono ?_
      rintro e x ⟨rfl, rfl⟩
      rw [NX.out]
      go_wp2_with fail
      go_ret
      exact ⟨rfl, hb1⟩
    · have hX2 : X + 1 < 18446744073709551616 := by omega
      go_enter Try.func6, Try.ntmps6
      go_wp2_with fail
      refine (begun_any _).mono ?_
      rintro e x1 ⟨rfl, hb1⟩
      go_wp2_with fail
      with_reducible refine (of_any X _).mono ?_
      rintro e x ⟨rfl, rfl⟩
      go_wp2_with fail
      with_reducible refine (ofc_any ((X : Int) + 1) (X + 1) rfl _).mono ?_
      rintro e x ⟨rfl, rfl⟩
      go_wp2_with fail
      with_reducible refine (refNaN_any X _ hX).mono ?_
      rintro e x ⟨rfl, rfl⟩
      rw [NX.out]
      go_wp2_with fail
      go_ret
      exact ⟨rfl, hb1⟩

set_option maxRecDepth 100000 in
theorem lifted (os : Os) (started : os.Started) (H : Type) (enc : TypeId × Value → H) :
    ReturnsInHanded {} Try.checked os 6 .any (Rows.floatNextSpec.pre6 enc Try.prog Try.f6 Rows.floatNextRow.domain false) (Rows.floatNextSpec.post enc Try.prog Try.f6 false true false false) := by
  refine returnsInHanded_of_change (C := Try.checked) own started (by kernel_rfl) Try.func6
    (ChangeSpec.witness6 (enc := enc) (C := Try.checked) false ⟨#[], #[.int .u64 0], []⟩ 8 (by kernel_rfl) (by kernel_rfl) (by kernel_rfl) (by kernel_rfl)) ?_
  intro W base args ds gs before hval0 hW hcnd _
  have hval : ∀ (j : Nat) t v, Try.f6.params[j]? = some t → args[j]? = some v → Value.okWide Try.prog W .any base t v := hval0
  have hW' := hW
  obtain ⟨p, q, hA0, hV, rfl, hfz, hnd⟩ := hW
  have hA : DataW.TrodAll enc Try.prog W 0 (fun _ => true) true Try.f6.params.toList args.toList ds p := hA0
  rw [Try.params6] at hA hval
  obtain ⟨v0, vs0, d0, ds0, p0, q0, hargs, rfl, rfl, h0, r0⟩ := trodAll_cons hA
  obtain ⟨rfl, rfl, rfl⟩ := trodAll_nil r0
  obtain rfl : args = #[v0] := by cases args; simp_all
  obtain ⟨rfl, rfl⟩ := trodVars_none hV
  obtain ⟨a0, rfl, rfl, rfl, w0⟩ := open_int Try.underlying29 (hval 0 29 v0 rfl rfl) h0
  clear hA0 hval0
  refine (walk a0 w0 W).mono fun e W' ⟨he, bel⟩ => ?_
  subst he
  exact ⟨_, rfl, _, _, _, [], _, [], hW', trodAll_mk1 (shut_bool Try.underlying4 _), (trodAll_cons_mk (shut_int Try.underlying29 w0) trodAll_mk0), rfl, bel.frame _, fun h => by cases h⟩

theorem over : Rows.floatNextRow.holds Try.pinned (OpenSpec.ofChange Rows.floatNextSpec) :=
  OpenClaim.holds_of_wide 6 Try.f6 rfl rfl rfl rfl rfl rfl rfl ⟨rfl, rfl, rfl, rfl, rfl⟩ rfl rfl rfl rfl rfl (by kernel_rfl) Try.func6 (by kernel_rfl)
    (of_decide_eq_true (by kernel_rfl)) (by unfold Func.isWrapper; first | (rw [if_pos (by decide +kernel)]; kernel_rfl) | (rw [if_neg (by decide +kernel)]; exact ⟨rfl, rfl⟩))
    (fun os started H enc _ => lifted os started H enc)

theorem proved : Rows.FloatNextSaid :=
  over
#print axioms proved
end Go.Proofs.Ytnkmfaddgodefab.floatNext
