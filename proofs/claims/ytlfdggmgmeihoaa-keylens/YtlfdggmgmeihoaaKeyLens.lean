/-
  For every int n and every byte x KeyLens returns true: a text of n times x (n from 0 to 40) may be a key by key.May just if n is from one to sixteen. No condition.
-/
import Derived.Test.YtlfdggmgmeihoaaRows
import Derived.WalkKit
import Derived.ProofKit
import Derived.OpenShut
import Derived.ShutString
import Derived.Test.YtlfdggmgmeihoaaKeyB
import Derived.ChangeOld
import Derived.Below
namespace Go.Proofs.Ytlfdggmgmeihoaa.keyLens
open Go.ChangeShapes Go.WideShapes Go.ChangeAt Go.RowKit
open Go.ChangeMaps (open_string shut_string)
set_option linter.unusedVariables false

theorem own : ownKnob Try.prog.godebug = none := by kernel_rfl

theorem rep_at (x : Int) {n k : Nat} (h : k < n) : (List.replicate n x).getD k 0 = x := by
  rw [getD_at (by rw [List.length_replicate]; exact h)]
  simp
theorem rep_bd {x : Int} (h0 : 0 ≤ x) (h1 : x ≤ 255) (n : Nat) : ∀ z ∈ List.replicate n x, 0 ≤ z ∧ z ≤ 255 := by
  intro z hz
  obtain ⟨_, rfl⟩ := List.mem_replicate.1 hz
  exact ⟨h0, h1⟩

set_option maxRecDepth 100000 in
set_option maxHeartbeats 2000000 in
theorem walk (a0 : Int) (a1 : Int) (w0 : (Lit.int .i64 a0).wf = true) (w1 : (Lit.int .u8 a1).wf = true) (w : World) :
    Calls Try.prog 8 #[.int .i64 a0, .int .u8 a1] w fun e w' => e = .returned (.bool true) ∧ Below w.heap.size w w' := by
  obtain ⟨h0, h1⟩ := bounds_i64 w0
  obtain ⟨g0, g1⟩ := bounds_u8 w1
  obtain ⟨i0, hi, hz0, hz1, hz2⟩ := info_parts Try.info5
  clear w0 w1
  by_cases hn0 : a0 < 0
  · skip
    go_enter Try.func8, Try.ntmps8
    go_wp2_with fail
    refine (begun_any _).mono ?_
    rintro e x1 ⟨rfl, hb1⟩
    go_wp2_with fail
    go_ret
    exact ⟨rfl, hb1⟩
  · by_cases hn1 : 40 < a0
    · skip
      go_enter Try.func8, Try.ntmps8
      go_wp2_with fail
      refine (begun_any _).mono ?_
      rintro e x1 ⟨rfl, hb1⟩
      go_wp2_with fail
      go_ret
      exact ⟨rfl, hb1⟩
    · obtain ⟨n, rfl⟩ := Int.eq_ofNat_of_zero_le (show 0 ≤ a0 by omega)
      have hn : n ≤ 40 := by omega
      have HMK := hide (fun (w : World) => run_make_full (P := Try.prog) w w.heap.size 28 5 i0 (.int .u8 0) 1 Try.underlying28 hi hz0 hz1 .i64 .i64 n (by rw [hz2]; omega) (by unfold maxLen; omega) (Nat.le_refl _))
      clear hn0 hn1 h0 h1
      have HR := hide (rep_bd g0 g1 n)
      have HL : Hid ((List.replicate n a1).length = n) := by show _ = _; simp
      have HAt := hide (fun k (h : k < n) => rep_at a1 h)
      generalize List.replicate n a1 = D at *
      go_enter Try.func8, Try.ntmps8
      go_wp2_with fail
      refine (begun_any _).mono ?_
      rintro e x1 ⟨rfl, hb1⟩
      obtain ⟨x2, hmk, ho2, hg2⟩ := HMK.out x1
      have HO : Hid (x2.ownsRow x1.heap.size 5 1 (.slice (some ⟨x1.heap.size, 0, none⟩) n n) n (bv (Fl.fill D 0))) := by
        show World.ownsRow _ _ _ _ _ _ _
        rw [Fl.fill_zero, HL.out]
        have e : (madeCells (Value.int IntKind.u8 0).cells (n * 1)).toList = bv (List.replicate n 0) := by
          rw [Nat.mul_one]
          show (madeCells #[Value.int IntKind.u8 0] n).toList = _
          rw [toList_madeCells_one]
          simp [bv]
        rw [e] at ho2
        exact ho2
      have hb2 : Below x1.heap.size x1 x2 := (Below.refl _ _).grown hg2 (Nat.le_refl _) (fun k hk => by cases hk)
      clear ho2 hg2 HMK
      generalize hg : x1.heap.size = g at *
      have HG := hide hg
      clear hg
      go_wp2_with fail
      go_loopw [21] (fun i wr => ∃ k : Nat, k ≤ n ∧ i = .int .i64 k ∧ Hid (wr.ownsRow g 5 1 (.slice (some ⟨g, 0, none⟩) n n) n (bv (Fl.fill D k))) ∧ Hid (Below g x1 wr)) (fun i _ => n - (intOf i).toNat)
      case atStart => exact ⟨0, by omega, rfl, HO, hide hb2⟩
      case round =>
        obtain ⟨k, hk, rfl, HO, HBel⟩ := hrel
        clear hb2
        by_cases hlt : k < n
        · have HS := hide (Fl.fill_set D k (by rw [HL.out]; exact hlt))
          have hfr := HO.out.frozenAt k
          obtain ⟨old, hco⟩ : ∃ u, wr.cell? ⟨g, k, none⟩ = some (.int .u8 u) := by
            rw [HO.out.cellAt k (by omega)]
            have hkl : k < (Fl.fill D k).length := by rw [Fl.fill_len _ k (by rw [HL.out]; exact hk), HL.out]; exact hlt
            exact ⟨(Fl.fill D k)[k], by simp [bv, List.getElem?_eq_getElem hkl]⟩
          have hst := HO.out.stored k (.int .u8 (D.getD k 0))
          rw [bv_set, HS.out, HAt.out k hlt] at hst
          have HST := hide hst
          clear hst
          go_wp2_with fail
          have HO2 := hide HST.out.1
          have HBel2 := hide (HBel.out.grown HST.out.2 (by have := HBel.out.size; rw [HG.out] at this; exact this) (fun j hj => by cases hj; exact Nat.le_refl _))
          clear HST HS HO HBel
          go_roundw
          case rel => exact ⟨k + 1, by omega, by go_num, HO2, HBel2⟩
          case measure => simp [intOf]; omega
        · have hkN : k = D.length := by rw [HL.out]; omega
          have HF := HO.out
          rw [hkN, Fl.fill_all] at HF
          have HSL : Hid (Sl wr (.slice (some ⟨g, 0, none⟩) n n) D) := Sl.own HF HR.out
          have hBw := hb1.trans (HBel.out.mono (by rw [← HG.out]; exact hb1.size))
          clear HF HO HBel hkN hb1 hmk
          have hsz : (strOfNums D).size = n := by rw [← HL.out, ← sb_len, sb_nums _ HR.out]
          cases d1 : decide (1 ≤ (n : Int))
          all_goals
            go_wp2_with (first | (refine wpList_conv rfl (.tmp 29) 28 9 5 rfl Try.underlying28 Try.underlying5 Try.underlying9 _ D rfl ?_ ?_; exact HSL.out) | fail)
            with_reducible refine (kmay_any _ _ (by rw [hsz]; omega)).mono ?_
            rintro e x ⟨rfl, rfl⟩
            rw [hsz, d1]
            go_wp2_with fail
            go_ret
            exact ⟨ret_bool (by simp), hBw⟩

set_option maxRecDepth 100000 in
theorem lifted (os : Os) (started : os.Started) (H : Type) (enc : TypeId × Value → H) :
    ReturnsInHanded {} Try.checked os 8 .any (Rows.keyLensSpec.pre6 enc Try.prog Try.f8 Rows.keyLensRow.domain false) (Rows.keyLensSpec.post enc Try.prog Try.f8 false true false false) := by
  refine returnsInHanded_of_change (C := Try.checked) own started (by kernel_rfl) Try.func8
    (ChangeSpec.witness6 (enc := enc) (C := Try.checked) false ⟨#[], #[.int .i64 0, .int .u8 0], []⟩ 8 (by kernel_rfl) (by kernel_rfl) (by kernel_rfl) (by kernel_rfl)) ?_
  intro W base args ds gs before hval0 hW hcnd _
  have hval : ∀ (j : Nat) t v, Try.f8.params[j]? = some t → args[j]? = some v → Value.okWide Try.prog W .any base t v := hval0
  have hW' := hW
  obtain ⟨p, q, hA0, hV, rfl, hfz, hnd⟩ := hW
  have hA : DataW.TrodAll enc Try.prog W 0 (fun _ => true) true Try.f8.params.toList args.toList ds p := hA0
  rw [Try.params8] at hA hval
  obtain ⟨v0, vs0, d0, ds0, p0, q0, hargs, rfl, rfl, h0, r0⟩ := trodAll_cons hA
  obtain ⟨v1, vs1, d1, ds1, p1, q1, rfl, rfl, rfl, h1, r1⟩ := trodAll_cons r0
  obtain ⟨rfl, rfl, rfl⟩ := trodAll_nil r1
  obtain rfl : args = #[v0, v1] := by cases args; simp_all
  obtain ⟨rfl, rfl⟩ := trodVars_none hV
  obtain ⟨a0, rfl, rfl, rfl, w0⟩ := open_int Try.underlying3 (hval 0 3 v0 rfl rfl) h0
  obtain ⟨a1, rfl, rfl, rfl, w1⟩ := open_int Try.underlying5 (hval 1 5 v1 rfl rfl) h1
  clear hA0 hval0
  refine (walk a0 a1 w0 w1 W).mono fun e W' ⟨he, bel⟩ => ?_
  subst he
  exact ⟨_, rfl, _, _, _, [], _, [], hW', trodAll_mk1 (shut_bool Try.underlying4 _), (trodAll_cons_mk (shut_int Try.underlying3 w0) (trodAll_cons_mk (shut_int Try.underlying5 w1) trodAll_mk0)), rfl, bel.frame _, fun h => by cases h⟩

theorem over : Rows.keyLensRow.holds Try.pinned (OpenSpec.ofChange Rows.keyLensSpec) :=
  OpenClaim.holds_of_wide 8 Try.f8 rfl rfl rfl rfl rfl rfl rfl ⟨rfl, rfl, rfl, rfl, rfl⟩ rfl rfl rfl rfl rfl (by kernel_rfl) Try.func8 (by kernel_rfl)
    (of_decide_eq_true (by kernel_rfl)) (by unfold Func.isWrapper; first | (rw [if_pos (by decide +kernel)]; kernel_rfl) | (rw [if_neg (by decide +kernel)]; exact ⟨rfl, rfl⟩))
    (fun os started H enc _ => lifted os started H enc)

theorem proved : Rows.KeyLensSaid :=
  over
#print axioms proved
end Go.Proofs.Ytlfdggmgmeihoaa.keyLens
