/-
  For all bytes a, b and c CrcThree returns true: of three texts of one length (100 bytes) crc.Sum of their exclusive or is the exclusive or of their sums. Condition: the package-level table crc.half holds what its initialiser lays when the call begins (the card ties it to the program's text).
-/
import Derived.Test.YtoppefilekakjaaDoorCards
import Derived.Test.YtoppefilekakjaaDoorTie
import Derived.WalkKit
import Derived.ProofKit
import Derived.OpenShut
import Derived.ShutString
import Derived.ChangeOld
import Derived.Below
import Derived.Deep.DeepHandedRow
import Derived.Lib.LaidTab
import Derived.Test.YtoppefilekakjaaDoorCrcB
import Derived.Test.YtoppefilekakjaaDoorCrcT
import Derived.Test.YtoppefilekakjaaDoorRow
import Derived.Deep.DeepCutAuto
import Derived.BigRegion
import Derived.BigQuiet
namespace Go.Proofs.YtoppefilekakjaaDoor.crcThree
open Go.ChangeShapes Go.WideShapes Go.ChangeAt Go.RowKit
open Go.ChangeMaps (open_string shut_string)
set_option linter.unusedVariables false

theorem own : ownKnob Tryd.prog.godebug = none := by kernel_rfl
theorem laidOut : laidOutB Tryd.prog = true := by kernel_rfl

set_option maxRecDepth 100000 in
set_option maxHeartbeats 2000000 in
theorem walk (a0 : Option Addr) (len0 cap0 : Nat) (z0 : List Int) (a1 : Option Addr) (len1 cap1 : Nat) (z1 : List Int) (a2 : Option Addr) (len2 cap2 : Nat) (z2 : List Int) (w : World) (w0 : IsRow .u8 w a0 len0 cap0 z0) (w1 : IsRow .u8 w a1 len1 cap1 z1) (w2 : IsRow .u8 w a2 len2 cap2 z2) (hT : Tab w) :
    Calls Tryd.prog 5 #[.slice a0 len0 cap0, .slice a1 len1 cap1, .slice a2 len2 cap2] w fun e w' => e = .returned (.bool true) ∧ Below w.heap.size w w' := by
  have S0 := hide (row_sl w0)
  have S1 := hide (row_sl w1)
  have S2 := hide (row_sl w2)
  obtain ⟨hn0, hc0, hm0⟩ := S0.out.lens
  obtain ⟨hn1, hc1, hm1⟩ := S1.out.lens
  obtain ⟨hn2, hc2, hm2⟩ := S2.out.lens
  have HT := hide hT
  generalize z0.take len0 = A at *
  generalize z1.take len1 = B at *
  generalize z2.take len2 = C at *
  have HA := hide hn0
  have HB := hide hn1
  have HC := hide hn2
  clear w0 w1 w2 hT hn0 hn1 hn2
  obtain ⟨i0, hi, hz0, hz1, hz2⟩ := info_parts Tryd.info5
  obtain ⟨N, hN⟩ : ∃ N, N = min (min len0 100) (min len1 len2) := ⟨_, rfl⟩
  have hN0 : N ≤ len0 := by omega
  have hN1 : N ≤ len1 := by omega
  have hN2 : N ≤ len2 := by omega
  have hN100 : N ≤ 100 := by omega
  have HN := hide hN
  clear hN
  go_enter Tryd.func5, Tryd.ntmps5
  go_wp2_with fail
  refine (begun_any _ HT.out).mono ?_
  rintro e x1 ⟨rfl, hb1⟩
  go_upto_region 4 with fail
  go_cut [8] from 14 to 23 (fun s wx => s = .int .i64 (N : Int) ∧ wx = x1)
  case first =>
    have hN := HN.out
    clear HN
    go_wp2_with fail
    all_goals
      go_meet
      case rel => exact ⟨by rw [hN]; congr 1; omega, rfl⟩
  case rest =>
    obtain ⟨rfl, rfl⟩ := hcut
    have hMS := Cr.sum_three (A.take N) (B.take N) (C.take N) (by simp; rw [← HA.out, ← HB.out]; omega) (by simp; rw [← HA.out, ← HC.out]; omega)
    have hDg : ∀ k, k < N → (List.zipWith Cr.xr (List.zipWith Cr.xr (A.take N) (B.take N)) (C.take N)).getD k 0 = Cr.xr (Cr.xr (A.getD k 0) (B.getD k 0)) (C.getD k 0) := fun k hk => by
      have h0 := HA.out
      have h1 := HB.out
      have h2 := HC.out
      rw [Cr.zip_getD _ _ _ (by simp; omega) (by simp; omega), Cr.zip_getD _ _ _ (by simp; omega) (by simp; omega), Cr.take_getD _ _ _ hk, Cr.take_getD _ _ _ hk, Cr.take_getD _ _ _ hk]
    have hDl : (List.zipWith Cr.xr (List.zipWith Cr.xr (A.take N) (B.take N)) (C.take N)).length = N := by
      have h0 := HA.out
      have h1 := HB.out
      have h2 := HC.out
      simp
      omega
    have hDb : ∀ z ∈ List.zipWith Cr.xr (List.zipWith Cr.xr (A.take N) (B.take N)) (C.take N), 0 ≤ z ∧ z ≤ 255 :=
      Cr.zip_bd (Cr.zip_bd (fun z hz => S0.out.bd z (List.mem_of_mem_take hz)) (fun z hz => S1.out.bd z (List.mem_of_mem_take hz))) (fun z hz => S2.out.bd z (List.mem_of_mem_take hz))
    have HMS := hide hMS
    have HDg := hide hDg
    have HDl := hide hDl
    have HDb := hide hDb
    clear hMS hDg hDl hDb
    generalize List.zipWith Cr.xr (List.zipWith Cr.xr (A.take N) (B.take N)) (C.take N) = D at *
    obtain ⟨x5, hmk, ho5, hg5⟩ := run_make_full (P := Tryd.prog) wc w.heap.size 22 5 i0 (.int .u8 0) 1 Tryd.underlying22 hi hz0 hz1 .i64 .i64 N (by rw [hz2]; omega) (by unfold maxLen; omega) hb1.size
    have HO : Hid (x5.ownsRow w.heap.size 5 1 (.slice (some ⟨wc.heap.size, 0, none⟩) N N) N (bv (Cr.fill D 0))) := by
      show World.ownsRow _ _ _ _ _ _ _
      rw [Cr.fill_zero, HDl.out]
      have e : (madeCells (Value.int IntKind.u8 0).cells (N * 1)).toList = bv (List.replicate N 0) := by
        rw [Nat.mul_one]
        show (madeCells #[Value.int IntKind.u8 0] N).toList = _
        rw [toList_madeCells_one]
        simp [bv]
      rw [e] at ho5
      exact ho5
    have hb5 : Below w.heap.size w x5 := hb1.grown hg5 hb1.size (fun k hk => by cases hk)
    have hgw := hb1.size
    clear ho5 hg5 hb1
    generalize wc.heap.size = g at *
    go_wp2_with fail
    go_loopw [10] (fun i wr => ∃ k : Nat, k ≤ N ∧ i = .int .i64 k ∧ Hid (wr.ownsRow w.heap.size 5 1 (.slice (some ⟨g, 0, none⟩) N N) N (bv (Cr.fill D k))) ∧ Hid (Below w.heap.size w wr)) (fun i _ => N - (intOf i).toNat)
    case atStart => exact ⟨0, by omega, rfl, HO, hide hb5⟩
    case round =>
      obtain ⟨k, hk, rfl, HO, HBel⟩ := hrel
      clear hb5
      by_cases hlt : k < N
      · obtain ⟨b0, o0, rfl, hcA, hA0, hA1⟩ := (S0.out.later HBel.out).cell (i := k) (by omega)
        obtain ⟨b1, o1, rfl, hcB, hB0, hB1⟩ := (S1.out.later HBel.out).cell (i := k) (by omega)
        obtain ⟨b2, o2, rfl, hcC, hC0, hC1⟩ := (S2.out.later HBel.out).cell (i := k) (by omega)
        have HS := hide (Cr.fill_set D k (by rw [HDl.out]; exact hlt))
        rw [HDg.out k hlt] at HS
        have hx1 := Cr.x8 ⟨hA0, hA1⟩ ⟨hB0, hB1⟩
        have hxb := Cr.xr_bd ⟨hA0, hA1⟩ ⟨hB0, hB1⟩
        have hx2 := Cr.x8 hxb ⟨hC0, hC1⟩
        have hfr := HO.out.frozenAt k
        obtain ⟨old, hco⟩ : ∃ u, wr.cell? ⟨g, k, none⟩ = some (.int .u8 u) := by
          rw [HO.out.cellAt k (by omega)]
          have hkl : k < (Cr.fill D k).length := by rw [Cr.fill_len D k (by rw [HDl.out]; exact hk), HDl.out]; exact hlt
          exact ⟨(Cr.fill D k)[k], by simp [bv, List.getElem?_eq_getElem hkl]⟩
        have hst := HO.out.stored k (.int .u8 (Cr.xr (Cr.xr (A.getD k 0) (B.getD k 0)) (C.getD k 0)))
        rw [bv_set, HS.out] at hst
        generalize A.getD k 0 = a at *
        generalize B.getD k 0 = b at *
        generalize C.getD k 0 = c at *
        generalize Cr.xr a b = ab at *
        generalize Cr.xr ab c = abc at *
        have HST := hide hst
        clear hst
        go_wp2_with fail
        go_region
        have HO2 := hide HST.out.1.drew
        have HBel2 := hide (HBel.out.grown HST.out.2 HBel.out.size (fun j hj => by cases hj; exact hgw)).drew
        clear HST HS HO HBel
        go_wp2_with fail
        go_roundw
        case rel => exact ⟨k + 1, by omega, by go_num, HO2, HBel2⟩
        case measure => simp [intOf]; omega
      · have hkN : k = D.length := by rw [HDl.out]; omega
        have HSD : Hid (Sl wr (.slice (some ⟨g, 0, none⟩) N N) D) := by
          show Sl _ _ _
          have h1 := HO.out
          rw [hkN, Cr.fill_all] at h1
          exact Sl.own h1 HDb.out
        have HS0 := hide ((S0.out.later HBel.out).head (m := N) (by rw [← HA.out]; exact hN0))
        have HS1 := hide ((S1.out.later HBel.out).head (m := N) (by rw [← HB.out]; exact hN1))
        have HS2 := hide ((S2.out.later HBel.out).head (m := N) (by rw [← HC.out]; exact hN2))
        have HTr := hide (HT.out.later HBel.out)
        have hl0 := Cr.more_lt (s := 0) (by decide) HS0.out.bd
        have hl1 := Cr.more_lt (s := 0) (by decide) HS1.out.bd
        have hl2 := Cr.more_lt (s := 0) (by decide) HS2.out.bd
        have hx1 := x32 _ _ hl0 hl1
        have hx2 := x32 _ _ (Cr.x_lt hl0 hl1) hl2
        have HQ0 : Hid (∀ n, Calls Tryd.prog 9 #[.slice a0 N cap0] (wr.drewN n) fun e w' => e = .returned (.int .u32 ((Cr.sum (A.take N) : Nat) : Int)) ∧ w' = wr.drewN n) := fun n => sum_any _ _ _ HS0.out HTr.out
        have HQ1 : Hid (∀ n, Calls Tryd.prog 9 #[.slice a1 N cap1] (wr.drewN n) fun e w' => e = .returned (.int .u32 ((Cr.sum (B.take N) : Nat) : Int)) ∧ w' = wr.drewN n) := fun n => sum_any _ _ _ HS1.out HTr.out
        have HQ2 : Hid (∀ n, Calls Tryd.prog 9 #[.slice a2 N cap2] (wr.drewN n) fun e w' => e = .returned (.int .u32 ((Cr.sum (C.take N) : Nat) : Int)) ∧ w' = wr.drewN n) := fun n => sum_any _ _ _ HS2.out HTr.out
        have HQ3 : Hid (∀ n, Calls Tryd.prog 9 #[.slice (some ⟨g, 0, none⟩) N N] (wr.drewN n) fun e w' => e = .returned (.int .u32 ((Cr.sum D : Nat) : Int)) ∧ w' = wr.drewN n) := fun n => sum_any _ _ _ HSD.out HTr.out
        rw [HMS.out] at HQ3
        change bits .xor .u32 ((Cr.sum (A.take N) : Nat) : Int) ((Cr.sum (B.take N) : Nat) : Int) = ((Cr.sum (A.take N) ^^^ Cr.sum (B.take N) : Nat) : Int) at hx1
        change bits .xor .u32 ((Cr.sum (A.take N) ^^^ Cr.sum (B.take N) : Nat) : Int) ((Cr.sum (C.take N) : Nat) : Int) = ((Cr.sum (A.take N) ^^^ Cr.sum (B.take N) ^^^ Cr.sum (C.take N) : Nat) : Int) at hx2
        clear HS0 HS1 HS2 HTr HSD HO hl0 hl1 hl2 HMS HDb HDg hkN
        generalize Cr.sum (A.take N) ^^^ Cr.sum (B.take N) ^^^ Cr.sum (C.take N) = t3 at *
        generalize Cr.sum (A.take N) ^^^ Cr.sum (B.take N) = t2 at *
        generalize Cr.sum (A.take N) = s0 at *
        generalize Cr.sum (B.take N) = s1 at *
        generalize Cr.sum (C.take N) = s2 at *
        go_wp2_with fail
        go_quiet (first | (go_at_call 9; first | exact Calls.quiet_of_same (HQ3.out _) | exact Calls.quiet_of_same (HQ0.out _) | exact Calls.quiet_of_same (HQ1.out _) | exact Calls.quiet_of_same (HQ2.out _)))
        go_wp2_with fail
        go_ret
        exact ⟨rfl, ⟨HBel.out.os, HBel.out.tape, HBel.out.output, HBel.out.size, HBel.out.block⟩⟩

theorem contract (H : Type) (enc : TypeId × Value → H) (W : World) (base : Nat) (args : Array Value) (ds gs : List (DataW H)) (before : List MemPlace)
    (hval : ∀ (j : Nat) t v, Tryd.f5.params[j]? = some t → args[j]? = some v → Value.okWide Tryd.prog W .any base t v)
    (hW : DataW.Whole enc Tryd.prog Tryd.f5.params.toList Rows.crcThreeSpec.vars false W args.toList ds gs before) (hL : laidMetH Tryd.prog Rows.crcThreeRow.laid W) :
    Calls Tryd.prog 5 args W fun e W' => ∃ v, e = .returned v ∧ Rows.crcThreeSpec.post enc Tryd.prog Tryd.f5 false true false false W args v W' := by
  have hW' := hW
  obtain ⟨p, q, hA0, hV, rfl, hfz, hnd⟩ := hW
  have hA : DataW.TrodAll enc Tryd.prog W 0 (fun _ => true) true Tryd.f5.params.toList args.toList ds p := hA0
  rw [Tryd.params5] at hA hval
  obtain ⟨v0, vs0, d0, ds0, p0, q0, hargs, rfl, rfl, h0, r0⟩ := trodAll_cons hA
  obtain ⟨v1, vs1, d1, ds1, p1, q1, rfl, rfl, rfl, h1, r1⟩ := trodAll_cons r0
  obtain ⟨v2, vs2, d2, ds2, p2, q2, rfl, rfl, rfl, h2, r2⟩ := trodAll_cons r1
  obtain ⟨rfl, rfl, rfl⟩ := trodAll_nil r2
  obtain rfl : args = #[v0, v1, v2] := by cases args; simp_all
  obtain ⟨rfl, rfl⟩ := trodVars_none hV
  obtain ⟨a0, len0, cap0, rfl⟩ := okWide_slice Tryd.underlying22 (hval 0 22 v0 rfl rfl)
  have k0 := h0
  have lt0 : ∀ x ∈ p0, x.block < W.heap.size := by obtain ⟨m, hm⟩ := k0; exact DataW.trod_lt m _ _ _ hm
  obtain ⟨z0, w0⟩ : ∃ zs, IsRow .u8 W a0 len0 cap0 zs := by
    obtain ⟨fuel, hf⟩ := h0
    rcases open_ints Tryd.underlying22 Tryd.underlying5 (by kernel_rfl) hf with ⟨hcs, _⟩ | ⟨x, l, c, zs, hcs, _, hl, hm, hz, _, hcell, hwz⟩
    · simp [Value.cells] at hcs
      obtain ⟨rfl, rfl, rfl⟩ := hcs
      exact ⟨[], .inl ⟨rfl, rfl, rfl, rfl⟩⟩
    · simp [Value.cells] at hcs
      obtain ⟨rfl, rfl, rfl⟩ := hcs
      exact ⟨zs, .inr ⟨_, rfl, hl, hm, by simpa using hz, hcell, hwz⟩⟩
  obtain ⟨a1, len1, cap1, rfl⟩ := okWide_slice Tryd.underlying22 (hval 1 22 v1 rfl rfl)
  have k1 := h1
  have lt1 : ∀ x ∈ p1, x.block < W.heap.size := by obtain ⟨m, hm⟩ := k1; exact DataW.trod_lt m _ _ _ hm
  obtain ⟨z1, w1⟩ : ∃ zs, IsRow .u8 W a1 len1 cap1 zs := by
    obtain ⟨fuel, hf⟩ := h1
    rcases open_ints Tryd.underlying22 Tryd.underlying5 (by kernel_rfl) hf with ⟨hcs, _⟩ | ⟨x, l, c, zs, hcs, _, hl, hm, hz, _, hcell, hwz⟩
    · simp [Value.cells] at hcs
      obtain ⟨rfl, rfl, rfl⟩ := hcs
      exact ⟨[], .inl ⟨rfl, rfl, rfl, rfl⟩⟩
    · simp [Value.cells] at hcs
      obtain ⟨rfl, rfl, rfl⟩ := hcs
      exact ⟨zs, .inr ⟨_, rfl, hl, hm, by simpa using hz, hcell, hwz⟩⟩
  obtain ⟨a2, len2, cap2, rfl⟩ := okWide_slice Tryd.underlying22 (hval 2 22 v2 rfl rfl)
  have k2 := h2
  have lt2 : ∀ x ∈ p2, x.block < W.heap.size := by obtain ⟨m, hm⟩ := k2; exact DataW.trod_lt m _ _ _ hm
  obtain ⟨z2, w2⟩ : ∃ zs, IsRow .u8 W a2 len2 cap2 zs := by
    obtain ⟨fuel, hf⟩ := h2
    rcases open_ints Tryd.underlying22 Tryd.underlying5 (by kernel_rfl) hf with ⟨hcs, _⟩ | ⟨x, l, c, zs, hcs, _, hl, hm, hz, _, hcell, hwz⟩
    · simp [Value.cells] at hcs
      obtain ⟨rfl, rfl, rfl⟩ := hcs
      exact ⟨[], .inl ⟨rfl, rfl, rfl, rfl⟩⟩
    · simp [Value.cells] at hcs
      obtain ⟨rfl, rfl, rfl⟩ := hcs
      exact ⟨zs, .inr ⟨_, rfl, hl, hm, by simpa using hz, hcell, hwz⟩⟩
  clear hA0
  refine (walk a0 len0 cap0 z0 a1 len1 cap1 z1 a2 len2 cap2 z2 W w0 w1 w2 (tab_laid hL)).mono fun e W' ⟨he, bel⟩ => ?_
  subst he
  exact ⟨_, rfl, _, _, _, [], _, [], hW', trodAll_mk1 (shut_bool Tryd.underlying4 _), (trodAll_cons_mk (Below.trod laidOut (by kernel_rfl) (of_decide_eq_true (by kernel_rfl)) k0 bel lt0) (trodAll_cons_mk (Below.trod laidOut (by kernel_rfl) (of_decide_eq_true (by kernel_rfl)) k1 bel lt1) (trodAll_cons_mk (Below.trod laidOut (by kernel_rfl) (of_decide_eq_true (by kernel_rfl)) k2 bel lt2) trodAll_mk0))), rfl, bel.frame _, fun h => by cases h⟩

theorem laid_met (os : Os) : laidMet Tryd.prog Rows.crcThreeRow.laid ((laidWorld os).forCall (fun _ _ => 0) ⟨#[], #[.slice none 0 0, .slice none 0 0, .slice none 0 0], []⟩).memory :=
  laidMet_of_run' 8 (by kernel_rfl) (by kernel_rfl)
theorem reads (os : Os) {H : Type} (enc : TypeId × Value → H) : ∃ places, DataW.whole enc Tryd.prog ((laidWorld os).forCall (fun _ _ => 0) ⟨#[], #[.slice none 0 0, .slice none 0 0, .slice none 0 0], []⟩).memory Tryd.f5.params.toList Rows.crcThreeSpec.vars false (#[.slice none 0 0, .slice none 0 0, .slice none 0 0] : Array Value).toList 8 = some ([.nil, .nil, .nil], [], places) :=
  ⟨[], by kernel_rfl⟩

set_option maxRecDepth 100000 in
theorem lifted (os : Os) (started : os.Started) (H : Type) (enc : TypeId × Value → H) (F : Stop.Interp) :
    ReturnsInHanded {} Tryd.checked os 5 .any ((OpenSpec.ofChange Rows.crcThreeSpec).preRow enc Tryd.prog Tryd.f5 Rows.crcThreeRow.domain false Rows.crcThreeRow.laid) (((OpenSpec.ofChange Rows.crcThreeSpec).at F).post enc Tryd.prog Tryd.f5 false true false false) := by
  obtain ⟨places, hx⟩ := reads os enc
  refine returnsInHanded_of_row (C := Tryd.checked) (s := OpenSpec.ofChange Rows.crcThreeSpec) own started (by kernel_rfl) Tryd.func5
    (witness_row_at (enc := enc) (C := Tryd.checked) false (laidWorld os) #[.slice none 0 0, .slice none 0 0, .slice none 0 0] rfl (by kernel_rfl) (by kernel_rfl) (by kernel_rfl)
      (OpenSpec.preRow_of_cond 8 hx (by kernel_rfl) (fun k hk => by cases hk) (by kernel_rfl) (laid_met os))) ?_
  intro W base args ds gs before hval hW _ _ _ hL _ _
  exact contract H enc W base args ds gs before hval hW hL

theorem over : Rows.CrcThreeSaid :=
  OpenClaim.holds_of_cond 5 Tryd.f5 rfl rfl rfl rfl rfl rfl rfl ⟨rfl, rfl, rfl, rfl, rfl⟩ rfl rfl rfl rfl rfl (by kernel_rfl) Tryd.func5 (by kernel_rfl)
    (of_decide_eq_true (by kernel_rfl)) (by unfold Func.isWrapper; first | (rw [if_pos (by decide +kernel)]; kernel_rfl) | (rw [if_neg (by decide +kernel)]; exact ⟨rfl, rfl⟩))
    (fun os started H enc _ F => by rw [OpenClaim.pre_eq_preRow]; exact lifted os started H enc F)

theorem plain (f : FuncId) (fn : Func) (hf : Tryd.pinned.checked.prog.funcNamed "engross/engrosslaw2.CrcThree" = some f) (hfn : Tryd.pinned.checked.prog.funcs[f]? = some fn) :
    false = Tryd.pinned.checked.prog.looks [] ∧ ∀ (j : Nat) t, fn.params[j]? = some t → Tryd.pinned.checked.prog.wantsStandIn t = false := by
  obtain rfl : f = 5 := Option.some.inj ((show Tryd.prog.funcNamed "engross/engrosslaw2.CrcThree" = some 5 by kernel_rfl).symm.trans hf) |>.symm
  obtain rfl : fn = Tryd.f5 := (Option.some.inj (Tryd.func5.symm.trans hfn)).symm
  refine ⟨by kernel_rfl, fun j t ht => ?_⟩
  rw [Tryd.params5] at ht
  have hm := Array.mem_of_getElem? ht
  simp at hm
  have u22 : Tryd.prog.wantsStandIn 22 = false := by kernel_rfl
  first
    | (subst hm; assumption)
    | (rcases hm with rfl | rfl <;> assumption)
    | (rcases hm with rfl | rfl | rfl <;> assumption)
    | (rcases hm with rfl | rfl | rfl | rfl <;> assumption)

theorem proved : Rows.CrcThreeCardSaid :=
  Claim7.holds_tied_plain_at .later [] _ _ _ _ over (fun _ h => by cases h) (by kernel_rfl) (fun _ h => by cases h) crcThree_row_tie rfl ⟨rfl, rfl⟩ (by kernel_rfl) rfl plain (by kernel_rfl)
#print axioms proved
end Go.Proofs.YtoppefilekakjaaDoor.crcThree
