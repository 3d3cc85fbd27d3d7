/-
  For every int n and every byte x DatumTexts returns true: a text of n bytes (any from x on, n from 0 to 40) is a value by datum.May just if it has at most twenty bytes, and then datum.Get reads back what datum.Put wrote of it. No condition.
-/
import Derived.Test.YtdooocbkhncmdaaRows
import Derived.WalkKit
import Derived.ProofKit
import Derived.OpenShut
import Derived.ShutString
import Derived.Test.YtdooocbkhncmdaaDatB
import Derived.ChangeOld
import Derived.Below
namespace Go.Proofs.Ytdooocbkhncmdaa.datumTexts
open Go.ChangeShapes Go.WideShapes Go.ChangeAt Go.RowKit
open Go.ChangeMaps (open_string shut_string)
set_option linter.unusedVariables false

theorem own : ownKnob Try.prog.godebug = none := by kernel_rfl

/-- The bytes from x on. -/
def seqb (x : Int) (n : Nat) : List Int := (List.range n).map fun (i : Nat) => (x + (i : Int)) % 256
theorem seqb_len (x : Int) (n : Nat) : (seqb x n).length = n := by simp [seqb]
theorem seqb_bd (x : Int) (n : Nat) : ∀ z ∈ seqb x n, 0 ≤ z ∧ z ≤ 255 := by
  intro z hz
  simp [seqb] at hz
  obtain ⟨i, _, rfl⟩ := hz
  omega
theorem seqb_at (x : Int) {n k : Nat} (h : k < n) : (seqb x n).getD k 0 = (x + (k : Int)) % 256 := by
  rw [getD_at (by rw [seqb_len]; exact h)]
  simp [seqb]

set_option maxRecDepth 100000 in
set_option maxHeartbeats 2000000 in
theorem walk (a0 : Int) (a1 : Int) (w0 : (Lit.int .i64 a0).wf = true) (w1 : (Lit.int .u8 a1).wf = true) (w : World) :
    Calls Try.prog 8 #[.int .i64 a0, .int .u8 a1] w fun e w' => e = .returned (.bool true) ∧ Below w.heap.size w w' := by
  obtain ⟨h0, h1⟩ := bounds_i64 w0
  obtain ⟨g0, g1⟩ := bounds_u8 w1
  obtain ⟨i0, hi, hz0, hz1, hz2⟩ := info_parts Try.info5
  clear w0 w1
  have hsf := st_float
  by_cases hn0 : a0 < 0
  · skip
    go_enter Try.func8, Try.ntmps8
    go_wp2_with fail
    refine (begun_any _).mono ?_
    rintro e x1 ⟨rfl, hb1⟩
    go_wp2_with fail
    go_ret
    exact ⟨rfl, hb1⟩
  · by_cases hn1 : 40 < a0
    · skip
      go_enter Try.func8, Try.ntmps8
      go_wp2_with fail
      refine (begun_any _).mono ?_
      rintro e x1 ⟨rfl, hb1⟩
      go_wp2_with fail
      go_ret
      exact ⟨rfl, hb1⟩
    · obtain ⟨n, rfl⟩ := Int.eq_ofNat_of_zero_le (show 0 ≤ a0 by omega)
      have hn : n ≤ 40 := by omega
      have HMK := hide (fun (w : World) => run_make_full (P := Try.prog) w w.heap.size 23 5 i0 (.int .u8 0) 1 Try.underlying23 hi hz0 hz1 .i64 .i64 n (by rw [hz2]; omega) (by unfold maxLen; omega) (Nat.le_refl _))
      clear hn0 hn1 h0 h1
      go_enter Try.func8, Try.ntmps8
      go_wp2_with fail
      refine (begun_any _).mono ?_
      rintro e x1 ⟨rfl, hb1⟩
      obtain ⟨x2, hmk, ho2, hg2⟩ := HMK.out x1
      have HO : Hid (x2.ownsRow x1.heap.size 5 1 (.slice (some ⟨x1.heap.size, 0, none⟩) n n) n (bv (Fl.fill (seqb a1 n) 0))) := by
        show World.ownsRow _ _ _ _ _ _ _
        rw [Fl.fill_zero, seqb_len]
        have e : (madeCells (Value.int IntKind.u8 0).cells (n * 1)).toList = bv (List.replicate n 0) := by
          rw [Nat.mul_one]
          show (madeCells #[Value.int IntKind.u8 0] n).toList = _
          rw [toList_madeCells_one]
          simp [bv]
        rw [e] at ho2
        exact ho2
      have hb2 : Below x1.heap.size x1 x2 := (Below.refl _ _).grown hg2 (Nat.le_refl _) (fun k hk => by cases hk)
      clear ho2 hg2 HMK
      generalize hg : x1.heap.size = g at *
      have HG := hide hg
      clear hg
      go_wp2_with fail
      go_loopw [25] (fun i wr => ∃ k : Nat, k ≤ n ∧ i = .int .i64 k ∧ Hid (wr.ownsRow g 5 1 (.slice (some ⟨g, 0, none⟩) n n) n (bv (Fl.fill (seqb a1 n) k))) ∧ Hid (Below g x1 wr)) (fun i _ => n - (intOf i).toNat)
      case atStart => exact ⟨0, by omega, rfl, HO, hide hb2⟩
      case round =>
        obtain ⟨k, hk, rfl, HO, HBel⟩ := hrel
        clear hb2
        by_cases hlt : k < n
        · have HS := hide (Fl.fill_set (seqb a1 n) k (by rw [seqb_len]; exact hlt))
          have hfr := HO.out.frozenAt k
          obtain ⟨old, hco⟩ : ∃ u, wr.cell? ⟨g, k, none⟩ = some (.int .u8 u) := by
            rw [HO.out.cellAt k (by omega)]
            have hkl : k < (Fl.fill (seqb a1 n) k).length := by rw [Fl.fill_len _ k (by rw [seqb_len]; exact hk), seqb_len]; exact hlt
            exact ⟨(Fl.fill (seqb a1 n) k)[k], by simp [bv, List.getElem?_eq_getElem hkl]⟩
          have hst := HO.out.stored k (.int .u8 ((seqb a1 n).getD k 0))
          rw [bv_set, HS.out, seqb_at a1 hlt] at hst
          have HST := hide hst
          clear hst
          go_wp2_with fail
          have HO2 := hide HST.out.1
          have HBel2 := hide (HBel.out.grown HST.out.2 (by have := HBel.out.size; rw [HG.out] at this; exact this) (fun j hj => by cases hj; exact Nat.le_refl _))
          clear HST HS HO HBel
          go_roundw
          case rel => exact ⟨k + 1, by omega, by go_num, HO2, HBel2⟩
          case measure => simp [intOf]; omega
        · have hkN : k = (seqb a1 n).length := by rw [seqb_len]; omega
          have HF := HO.out
          rw [hkN, Fl.fill_all] at HF
          have HSL : Hid (Sl wr (.slice (some ⟨g, 0, none⟩) n n) (seqb a1 n)) := Sl.own HF (seqb_bd _ _)
          have hBw := hb1.trans (HBel.out.mono (by rw [← HG.out]; exact hb1.size))
          clear HF HO HBel hkN hb1 hmk
          have hsz : (strOfNums (seqb a1 n)).size = n := by rw [Dt.size_nums, seqb_len]
          have hsbk : sb (strOfNums (seqb a1 n)) = seqb a1 n := sb_nums _ (seqb_bd _ _)
          go_wp2_with (first | (refine wpList_conv rfl (.tmp 36) 23 9 5 rfl Try.underlying23 Try.underlying5 Try.underlying9 _ (seqb a1 n) rfl ?_ ?_; exact HSL.out) | fail)
          generalize hS : strOfNums (seqb a1 n) = S at *
          have HSz := hide hsz
          have HSb := hide hS
          clear hsz hsbk HSL hS
          generalize hW : World.alloc _ _ = W0
          have hB0 : Below wr.heap.size wr W0 := by rw [← hW]; exact (Below.refl _ _).alloc (Nat.le_refl _) _
          have HA : Hid (∀ w', Below W0.heap.size W0 w' → _) := fun w' hb => box_cells (w := wr) (w' := w') (by rw [hW]; exact hb)
          replace hBw := hBw.trans (hB0.mono hBw.size)
          clear hW hB0
          have hB : Below W0.heap.size W0 W0 := Below.refl _ _
          obtain ⟨c0, c1, c2⟩ := HA.out _ hB
          by_cases h20 : n ≤ 20
          · have hd20 : decide ((n : Int) ≤ 20) = true := decide_eq_true (by omega)
            have hd21 : decide (20 < (n : Int)) = false := decide_eq_false (by omega)
            have hm : Dt.may 2 0 S = true := by rw [may_2, HSz.out]; simp; omega
            have HM := hide hm
            have HG := hide (Dt.get_put' (by decide) hm)
            have HPL : Hid (((Dt.put 2 0 S).length : Int) = n + 2) := by
              show _ = _
              rw [put_2, Nm.text, sb_len, HSz.out]
              have e1 : (Nm.num n).length = 1 := by
                unfold Nm.num Nm.fold
                rw [if_neg (by omega), Nm.enc_last (by omega)]
                rfl
              have e2 : (Nm.num 2).length = 1 := by decide
              simp only [List.length_append, e1, e2, sb_len, HSz.out]
              omega
            have HPB := hide (Dt.put_bd (k := 2) (x := 0) (by decide) (by decide) (show S.size ≤ 140737488350000 by rw [HSz.out]; omega))
            clear hm
            with_reducible refine (may_any 2 0 S _ (by rw [HSz.out]; unfold maxLen; omega)).mono ?_
            rintro e x ⟨rfl, hb⟩
            rw [HM.out]
            replace hB := hB.trans (hb.mono hB.size)
            clear hb c0 c1 c2
            obtain ⟨c0, c1, c2⟩ := HA.out _ hB
            go_wp2_with fail
            refine (dput_any _ [] 2 0 S _ (Sl.nil _) (by simp; rw [HSz.out]; omega) (by decide) (by decide) (by decide)).mono ?_
            rintro e y ⟨v, rfl, ho, hb⟩
            replace hB := hB.trans (hb.mono hB.size)
            have hsl : Sl y v (Dt.put 2 0 S) := Sl.own (by simpa using ho) HPB.out
            clear ho hb c0 c1 c2
            go_wp2_with fail
            refine (dget_at hsl HG.out).mono ?_
            rintro e z ⟨rfl, hb⟩
            replace hB := hB.trans (hb.mono hB.size)
            rw [sb_back, HPL.out]
            clear hb hsl
            obtain ⟨c0, c1, c2⟩ := HA.out _ (hB.alloc hB.size (Obj.cells #[Value.int IntKind.i64 2, Value.float FloatKind.f64 0, Value.string S] 27))
            go_wp2_with fail
            go_ret
            exact ⟨rfl, (hBw.trans (hB.mono hBw.size)).alloc (by have := hBw.size; have := hB.size; omega) _⟩
          · have hd20 : decide ((n : Int) ≤ 20) = false := decide_eq_false (by omega)
            have hd21 : decide (20 < (n : Int)) = true := decide_eq_true (by omega)
            have hm : Dt.may 2 0 S = false := by rw [may_2, HSz.out]; simp; omega
            have HM := hide hm
            clear hm
            with_reducible refine (may_any 2 0 S _ (by rw [HSz.out]; unfold maxLen; omega)).mono ?_
            rintro e x ⟨rfl, hb⟩
            rw [HM.out]
            replace hB := hB.trans (hb.mono hB.size)
            clear hb c0 c1 c2
            obtain ⟨c0, c1, c2⟩ := HA.out _ hB
            go_wp2_with fail
            go_ret
            exact ⟨rfl, hBw.trans (hB.mono hBw.size)⟩

set_option maxRecDepth 100000 in
theorem lifted (os : Os) (started : os.Started) (H : Type) (enc : TypeId × Value → H) :
    ReturnsInHanded {} Try.checked os 8 .any (Rows.datumTextsSpec.pre6 enc Try.prog Try.f8 Rows.datumTextsRow.domain false) (Rows.datumTextsSpec.post enc Try.prog Try.f8 false true false false) := by
  refine returnsInHanded_of_change (C := Try.checked) own started (by kernel_rfl) Try.func8
    (ChangeSpec.witness6 (enc := enc) (C := Try.checked) false ⟨#[], #[.int .i64 0, .int .u8 0], []⟩ 8 (by kernel_rfl) (by kernel_rfl) (by kernel_rfl) (by kernel_rfl)) ?_
  intro W base args ds gs before hval0 hW hcnd _
  have hval : ∀ (j : Nat) t v, Try.f8.params[j]? = some t → args[j]? = some v → Value.okWide Try.prog W .any base t v := hval0
  have hW' := hW
  obtain ⟨p, q, hA0, hV, rfl, hfz, hnd⟩ := hW
  have hA : DataW.TrodAll enc Try.prog W 0 (fun _ => true) true Try.f8.params.toList args.toList ds p := hA0
  rw [Try.params8] at hA hval
  obtain ⟨v0, vs0, d0, ds0, p0, q0, hargs, rfl, rfl, h0, r0⟩ := trodAll_cons hA
  obtain ⟨v1, vs1, d1, ds1, p1, q1, rfl, rfl, rfl, h1, r1⟩ := trodAll_cons r0
  obtain ⟨rfl, rfl, rfl⟩ := trodAll_nil r1
  obtain rfl : args = #[v0, v1] := by cases args; simp_all
  obtain ⟨rfl, rfl⟩ := trodVars_none hV
  obtain ⟨a0, rfl, rfl, rfl, w0⟩ := open_int Try.underlying3 (hval 0 3 v0 rfl rfl) h0
  obtain ⟨a1, rfl, rfl, rfl, w1⟩ := open_int Try.underlying5 (hval 1 5 v1 rfl rfl) h1
  clear hA0 hval0
  refine (walk a0 a1 w0 w1 W).mono fun e W' ⟨he, bel⟩ => ?_
  subst he
  exact ⟨_, rfl, _, _, _, [], _, [], hW', trodAll_mk1 (shut_bool Try.underlying4 _), (trodAll_cons_mk (shut_int Try.underlying3 w0) (trodAll_cons_mk (shut_int Try.underlying5 w1) trodAll_mk0)), rfl, bel.frame _, fun h => by cases h⟩

theorem over : Rows.datumTextsRow.holds Try.pinned (OpenSpec.ofChange Rows.datumTextsSpec) :=
  OpenClaim.holds_of_wide 8 Try.f8 rfl rfl rfl rfl rfl rfl rfl ⟨rfl, rfl, rfl, rfl, rfl⟩ rfl rfl rfl rfl rfl (by kernel_rfl) Try.func8 (by kernel_rfl)
    (of_decide_eq_true (by kernel_rfl)) (by unfold Func.isWrapper; first | (rw [if_pos (by decide +kernel)]; kernel_rfl) | (rw [if_neg (by decide +kernel)]; exact ⟨rfl, rfl⟩))
    (fun os started H enc _ => lifted os started H enc)

theorem proved : Rows.DatumTextsSaid :=
  over
#print axioms proved
end Go.Proofs.Ytdooocbkhncmdaa.datumTexts
