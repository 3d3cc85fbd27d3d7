/-
  P8.1: whatever texts are saved one behind the other, the last one of at most 40 bytes is there again with its turn, on the device and behind a crash of it.
-/
import Derived.Test.YtiaicpdbobgkoaaDoorCards
import Derived.Test.YtiaicpdbobgkoaaDoorTie
import Derived.WalkKit
import Derived.ProofKit
import Derived.OpenShut
import Derived.ShutString
import Derived.ChangeOld
import Derived.Below
import Derived.Deep.DeepHandedRow
import Derived.Lib.LaidTab
import Derived.Test.YtiaicpdbobgkoaaDoorSupB
import Derived.Test.YtiaicpdbobgkoaaDoorCrcT
import Derived.Test.YtiaicpdbobgkoaaDoorSupV
import Derived.Test.YtiaicpdbobgkoaaDoorSho
namespace Go.Proofs.YtiaicpdbobgkoaaDoor.superSaves
open Go.ChangeShapes Go.WideShapes Go.ChangeAt Go.RowKit
open Go.ChangeMaps (open_string shut_string)
set_option linter.unusedVariables false

theorem own : ownKnob Tryd.prog.godebug = none := by kernel_rfl
theorem laidOut : laidOutB Tryd.prog = true := by kernel_rfl

set_option maxRecDepth 100000 in
set_option maxHeartbeats 4000000 in
theorem walk (a0 a1 : Int) (a2 : Option Addr) (len2 cap2 : Nat) (z2 : List (List Int)) (w : World) (w0 : (Lit.int .i64 a0).wf = true) (w1 : (Lit.int .i64 a1).wf = true) (w2 : Bss w (.slice a2 len2 cap2) z2) (hT : Tab w) :
    Calls Tryd.prog 3 #[.int .i64 a0, .int .i64 a1, .slice a2 len2 cap2] w fun e w' => e = .returned (.bool true) ∧ Below w.heap.size w w' := by
  clear w0
  have hz1 := bounds_i64 w1
  obtain ⟨hlc, hcm⟩ := w2.len
  have HO := hide w2
  have HT := hide hT
  have hpos := hT.pos
  clear w2 hT w1
  obtain ⟨n, hn1, hn8, hmn⟩ : ∃ n : Nat, 1 ≤ n ∧ n ≤ 8 ∧ max 1 (min a0 8) = (n : Int) := ⟨(max 1 (min a0 8)).toNat, by omega, by omega, by omega⟩
  go_enter Tryd.func3, Tryd.ntmps3
  go_wp2_with fail
  refine (begun_any _ HT.out).mono ?_
  rintro e x1 ⟨rfl, hB1⟩
  have HB1 := hide hB1
  have HT1 := hide (HT.out.later hB1)
  clear hB1 HT
  go_wp2_with fail
  refine (new_dn HB1.out HB1.out.size HT1.out hpos n rfl hn1 (by omega)).mono ?_
  rintro e x2 ⟨g, bl, bm, rfl, h2, -, -⟩
  have H2 := hide h2
  clear h2 HB1 HT1
  by_cases hat : 0 ≤ a1 ∧ a1 < (n : Int) - 1
  · obtain ⟨at_, rfl⟩ : ∃ k : Nat, a1 = (k : Int) := ⟨a1.toNat, by omega⟩
    have hroom : at_ + 1 < n := by omega
    have hok1 : decide ((at_ : Int) > (n : Int) - 2) = false := by simp; omega
    go_wp2_with fail
    refine (make_dn H2.out rfl (by simp [Dv.new]) at_ rfl hroom (zs := []) (Sl.nil _) (by decide)).mono ?_
    rintro e x3 ⟨sb, bm3, rfl, hs3, h3, hsb3, -⟩
    have hF1 : Sp.Fits 1 [] := ⟨by omega, by omega, by decide, by decide⟩
    have hsb : w.heap.size ≤ sb := Nat.le_trans H2.out.big hsb3
    have H3 := hide h3
    have HS3 := hide hs3
    have HH3 := hide (mk2_hold (d := Dv.new n) (Dv.new_ok hn1 (by omega)) (by simp [Dv.new]) hroom hF1)
    have HF3 : Hid (Still (mk2 (Dv.new n) at_ []) ∧ (mk2 (Dv.new n) at_ []).fuse = none ∧ (mk2 (Dv.new n) at_ []).n = n ∧ (mk2 (Dv.new n) at_ []).calls ≤ 3 + 2 * 0 ∧ 1 ≤ 1 + 0) := ⟨mk2_still _ _ _, rfl, rfl, by simp [mk2_calls, Dv.new], by omega⟩
    have Hsb := hide hsb
    clear h3 hs3 hsb3 H2 hF1 hsb
    go_wp2_with fail
    go_loopw [11, 12, 13] (fun s u i wr => ∃ (k now t bm : Nat) (d : Dv) (zs : List Int), k ≤ len2 ∧ k ≤ 12 ∧ s = .string (strOfNums zs) ∧ u = .int .i64 (t : Int) ∧ i = .int .i64 k ∧ Hid (Dn w.heap.size w wr g bl bm d) ∧ Hid (Su wr sb g at_ now t zs) ∧ Hid (Hold d at_ now t zs) ∧ Hid (Still d ∧ d.fuse = none ∧ d.n = n ∧ d.calls ≤ 3 + 2 * k ∧ t ≤ 1 + k)) (fun _ _ i _ => 12 - (RowKit.intOf i).toNat)
    case atStart => exact ⟨0, 0, 1, bm3, _, [], by omega, by omega, rfl, rfl, rfl, H3, HS3, HH3, HF3⟩
    case round =>
      obtain ⟨k, now, t, bm4, d, zs, hk1, hk2, rfl, rfl, rfl, H4, HS4, HH4, HF4⟩ := hrel
      clear H3 HS3 HH3 HF3
      have hsb := Hsb.out
      by_cases hk : k < len2 ∧ k < 12
      · obtain ⟨hkl, hk12⟩ := hk
        obtain ⟨b, off, p, m, c, q, rfl, hcell, HQ⟩ := HO.out.at_ H4.out.bel hkl
        have hcal : d.calls < 900000 := by have := HF4.out.2.2.2.1; omega
        have htt : t < 1000000 := by have := HF4.out.2.2.2.2; omega
        have Hrm : Hid (at_ + 1 < d.n) := by rw [HF4.out.2.2.1]; exact hroom
        go_wp2_with fail
        refine (short_low _ _ 45 _ _ HQ.out).mono ?_
        rintro e x4 ⟨vb, rfl, hvb, rfl⟩
        have hbd := hide hvb.bd
        have hq45 : (q.take 45).length ≤ 45 := List.length_take_le _ _
        generalize q.take 45 = zs' at *
        obtain ⟨p', m', c', rfl, hmc, hcc, Hm', HV⟩ := hvb.opens
        clear hvb HQ
        by_cases hl : zs'.length ≤ 40
        · have hm40 : m' ≤ 40 := by rw [Hm'.out]; exact hl
          go_wp2_with fail
          refine (save_free H4.out HS4.out hsb HF4.out.2.1 hcal Hrm.out HH4.out.side htt (HV.out.later H4.out.bel) hl).mono ?_
          rintro e W5 ⟨rfl, bm', h5, hs5, -⟩
          have HH5 := hide (HH4.out.save H4.out.ok ⟨by omega, by omega, hl, hbd.out⟩)
          have HF5 : Hid (Still (sv1 d at_ now t zs') ∧ (sv1 d at_ now t zs').fuse = none ∧ (sv1 d at_ now t zs').n = n ∧ (sv1 d at_ now t zs').calls ≤ 3 + 2 * (k + 1) ∧ t + 1 ≤ 1 + (k + 1)) := ⟨sv1_still _ _ _ _ _, sv1_fuse HF4.out.2.1 _ _ _ _, HF4.out.2.2.1, by rw [sv1_calls]; have := HF4.out.2.2.2.1; omega, by have := HF4.out.2.2.2.2; omega⟩
          have H5 := hide h5
          have HS5 := hide hs5
          have hcv := (HV.out.later H5.out.bel).conv (P := Tryd.prog) 30 9 5 Tryd.underlying30 Tryd.underlying5 Tryd.underlying9
          clear h5 hs5 H4 HS4 HH4 HF4 Hrm hcell
          generalize sv1 d at_ now t zs' = d' at *
          generalize 1 - now = now' at *
          obtain ⟨t', ht'⟩ : ∃ t', t + 1 = t' := ⟨_, rfl⟩
          rw [ht'] at HS5 HH5 HF5
          have hti : (t : Int) + 1 = (t' : Int) := by omega
          have htt' : t' ≤ 1000000 := by omega
          go_wp2_with fail
          refine (open_dn H5.out HH5.out rfl).mono ?_
          rintro e W6 ⟨sb6, rfl, hs6, -, hB6⟩
          have HT6 := hide hs6
          have H6 := hide (H5.out.later hB6)
          have HS6 := hide (HS5.out.later hB6)
          clear hs6 hB6 H5 HS5
          go_wp2_with fail
          refine (crash_dn H6.out (ks := []) (Rw.nil _)).mono ?_
          rintro e W7 ⟨g7, bl7, bm7, rfl, h7, -, hB7⟩
          have HC7 := hide h7
          have H7 := hide (H6.out.later hB7)
          have HS7 := hide (HS6.out.later hB7)
          have HT7 := hide (HT6.out.later hB7)
          clear h7 hB7 H6 HS6 HT6
          go_wp2_with fail
          refine (open_dn HC7.out (HH5.out.crash HF5.out.1 []) rfl).mono ?_
          rintro e W8 ⟨sb8, rfl, hs8, -, hB8⟩
          have HU8 := hide hs8
          have H8 := hide (H7.out.later hB8)
          have HS8 := hide (HS7.out.later hB8)
          have HT8 := hide (HT7.out.later hB8)
          clear hs8 hB8 H7 HS7 HT7 HC7
          go_wp2_with fail
          refine (text_any HT8.out HH5.out.fits).mono ?_
          rintro e W9 ⟨v9, rfl, hv9, hB9⟩
          have hq := hv9.conv (P := Tryd.prog) 30 9 5 Tryd.underlying30 Tryd.underlying5 Tryd.underlying9
          have H9 := hide (H8.out.later hB9)
          have HS9 := hide (HS8.out.later hB9)
          have HT9 := hide (HT8.out.later hB9)
          have HU9 := hide (HU8.out.later hB9)
          clear hB9 H8 HS8 HT8 HU8 hv9
          go_wp2_with fail
          refine (turn_any HT9.out).mono ?_
          rintro e W9 ⟨rfl, rfl⟩
          clear hq
          go_wp2_with fail
          refine (text_any HU9.out HH5.out.fits).mono ?_
          rintro e W10 ⟨v10, rfl, hv10, hB10⟩
          have hq := hv10.conv (P := Tryd.prog) 30 9 5 Tryd.underlying30 Tryd.underlying5 Tryd.underlying9
          have H10 := hide (H9.out.later hB10)
          have HS10 := hide (HS9.out.later hB10)
          clear hB10 H9 HS9 HT9 HU9 hv10
          go_wp2_with fail
          refine (text_any HS10.out HH5.out.fits).mono ?_
          rintro e W11 ⟨v11, rfl, hv11, hB11⟩
          clear hq
          have hq := hv11.conv (P := Tryd.prog) 30 9 5 Tryd.underlying30 Tryd.underlying5 Tryd.underlying9
          have H11 := hide (H10.out.later hB11)
          have HS11 := hide (HS10.out.later hB11)
          clear hB11 H10 HS10 hv11
          go_wp2_with fail
          refine (turn_any HS11.out).mono ?_
          rintro e W11 ⟨rfl, rfl⟩
          clear hq
          go_wp2_with fail
          go_roundw
          case rel => exact ⟨k + 1, now', t', bm', d', zs', by omega, by omega, rfl, rfl, by go_num, H11, HS11, HH5, HF5⟩
          case measure => simp [RowKit.intOf]; omega
        · have hm40 : 40 < m' := by rw [Hm'.out]; omega
          go_wp2_with fail
          refine (save_long (HV.out.later H4.out.bel) (by omega)).mono ?_
          rintro e W5 ⟨rfl, rfl⟩
          have HF5 : Hid (Still d ∧ d.fuse = none ∧ d.n = n ∧ d.calls ≤ 3 + 2 * (k + 1) ∧ t ≤ 1 + (k + 1)) := ⟨HF4.out.1, HF4.out.2.1, HF4.out.2.2.1, by have := HF4.out.2.2.2.1; omega, by have := HF4.out.2.2.2.2; omega⟩
          have H5 := H4
          have HS5 := HS4
          have HH5 := HH4
          clear H4 HS4 HH4 HF4 Hrm hcell HV hbd Hm' hq45 hl
          clear zs'
          obtain ⟨zs', rfl⟩ : ∃ x, x = zs := ⟨_, rfl⟩
          obtain ⟨t', rfl⟩ : ∃ x, x = t := ⟨_, rfl⟩
          obtain ⟨now', rfl⟩ : ∃ x, x = now := ⟨_, rfl⟩
          obtain ⟨d', rfl⟩ : ∃ x, x = d := ⟨_, rfl⟩
          obtain ⟨bm', rfl⟩ : ∃ x, x = bm4 := ⟨_, rfl⟩
          go_wp2_with fail
          refine (open_dn H5.out HH5.out rfl).mono ?_
          rintro e W6 ⟨sb6, rfl, hs6, -, hB6⟩
          have HT6 := hide hs6
          have H6 := hide (H5.out.later hB6)
          have HS6 := hide (HS5.out.later hB6)
          clear hs6 hB6 H5 HS5
          go_wp2_with fail
          refine (crash_dn H6.out (ks := []) (Rw.nil _)).mono ?_
          rintro e W7 ⟨g7, bl7, bm7, rfl, h7, -, hB7⟩
          have HC7 := hide h7
          have H7 := hide (H6.out.later hB7)
          have HS7 := hide (HS6.out.later hB7)
          have HT7 := hide (HT6.out.later hB7)
          clear h7 hB7 H6 HS6 HT6
          go_wp2_with fail
          refine (open_dn HC7.out (HH5.out.crash HF5.out.1 []) rfl).mono ?_
          rintro e W8 ⟨sb8, rfl, hs8, -, hB8⟩
          have HU8 := hide hs8
          have H8 := hide (H7.out.later hB8)
          have HS8 := hide (HS7.out.later hB8)
          have HT8 := hide (HT7.out.later hB8)
          clear hs8 hB8 H7 HS7 HT7 HC7
          go_wp2_with fail
          refine (text_any HT8.out HH5.out.fits).mono ?_
          rintro e W9 ⟨v9, rfl, hv9, hB9⟩
          have hq := hv9.conv (P := Tryd.prog) 30 9 5 Tryd.underlying30 Tryd.underlying5 Tryd.underlying9
          have H9 := hide (H8.out.later hB9)
          have HS9 := hide (HS8.out.later hB9)
          have HT9 := hide (HT8.out.later hB9)
          have HU9 := hide (HU8.out.later hB9)
          clear hB9 H8 HS8 HT8 HU8 hv9
          go_wp2_with fail
          refine (turn_any HT9.out).mono ?_
          rintro e W9 ⟨rfl, rfl⟩
          clear hq
          go_wp2_with fail
          refine (text_any HU9.out HH5.out.fits).mono ?_
          rintro e W10 ⟨v10, rfl, hv10, hB10⟩
          have hq := hv10.conv (P := Tryd.prog) 30 9 5 Tryd.underlying30 Tryd.underlying5 Tryd.underlying9
          have H10 := hide (H9.out.later hB10)
          have HS10 := hide (HS9.out.later hB10)
          clear hB10 H9 HS9 HT9 HU9 hv10
          go_wp2_with fail
          refine (text_any HS10.out HH5.out.fits).mono ?_
          rintro e W11 ⟨v11, rfl, hv11, hB11⟩
          clear hq
          have hq := hv11.conv (P := Tryd.prog) 30 9 5 Tryd.underlying30 Tryd.underlying5 Tryd.underlying9
          have H11 := hide (H10.out.later hB11)
          have HS11 := hide (HS10.out.later hB11)
          clear hB11 H10 HS10 hv11
          go_wp2_with fail
          refine (turn_any HS11.out).mono ?_
          rintro e W11 ⟨rfl, rfl⟩
          clear hq
          go_wp2_with fail
          go_roundw
          case rel => exact ⟨k + 1, now', t', bm', d', zs', by omega, by omega, rfl, rfl, by go_num, H11, HS11, HH5, HF5⟩
          case measure => simp [RowKit.intOf]; omega
      · have hd12 : ¬ k < len2 ∨ ¬ k < 12 := by omega
        have HL := hide HF4.out.1.los
        clear HH4
        rcases hd12 with hx | hx
        · go_wp2_with fail
          refine (loose_any H4.out.dev).mono ?_
          rw [HL.out]
          rintro e W5 ⟨lv, rfl, ho5, hB5⟩
          have H5 := hide (H4.out.later hB5)
          obtain ⟨-, ho⟩ := ho5
          clear hB5 H4
          rcases ho with ⟨rfl, -⟩ | ⟨lg, lc, lcur, rfl, -, -, -, -, -, -⟩
          · go_wp2_with fail
            go_ret
            exact ⟨rfl, H5.out.bel⟩
          · go_wp2_with fail
            go_ret
            exact ⟨rfl, H5.out.bel⟩
        · have hx2 : k < len2 ∨ ¬ k < len2 := by omega
          rcases hx2 with hx2 | hx2
          all_goals
            go_wp2_with fail
            refine (loose_any H4.out.dev).mono ?_
            rw [HL.out]
            rintro e W5 ⟨lv, rfl, ho5, hB5⟩
            have H5 := hide (H4.out.later hB5)
            obtain ⟨-, ho⟩ := ho5
            clear hB5 H4
            rcases ho with ⟨rfl, -⟩ | ⟨lg, lc, lcur, rfl, -, -, -, -, -, -⟩
            · go_wp2_with fail
              go_ret
              exact ⟨rfl, H5.out.bel⟩
            · go_wp2_with fail
              go_ret
              exact ⟨rfl, H5.out.bel⟩
  · have hns : ¬ (0 ≤ a1 ∧ a1 < ((Dv.new n).n : Int) - 1) := hat
    by_cases ha0 : a1 < 0
    · go_wp2_with fail
      refine (make_out H2.out.dev hns (Sl.nil _) (by decide)).mono ?_
      rintro e W2 ⟨rfl, rfl⟩
      go_wp2_with fail
      go_ret
      exact ⟨rfl, H2.out.bel⟩
    · have hgt : (n : Int) - 2 < a1 := by omega
      go_wp2_with fail
      refine (make_out H2.out.dev hns (Sl.nil _) (by decide)).mono ?_
      rintro e W2 ⟨rfl, rfl⟩
      clear hns hat
      go_wp2_with fail
      go_ret
      exact ⟨rfl, H2.out.bel⟩

theorem contract (H : Type) (enc : TypeId × Value → H) (W : World) (base : Nat) (args : Array Value) (ds gs : List (DataW H)) (before : List MemPlace)
    (hval : ∀ (j : Nat) t v, Tryd.f3.params[j]? = some t → args[j]? = some v → Value.okWide Tryd.prog W .any base t v)
    (hW : DataW.Whole enc Tryd.prog Tryd.f3.params.toList Rows.superSavesSpec.vars false W args.toList ds gs before) (hL : laidMetH Tryd.prog Rows.superSavesRow.laid W) :
    Calls Tryd.prog 3 args W fun e W' => ∃ v, e = .returned v ∧ Rows.superSavesSpec.post enc Tryd.prog Tryd.f3 false true false false W args v W' := by
  have hW' := hW
  obtain ⟨p, q, hA0, hV, rfl, hfz, hnd⟩ := hW
  have hA : DataW.TrodAll enc Tryd.prog W 0 (fun _ => true) true Tryd.f3.params.toList args.toList ds p := hA0
  rw [Tryd.params3] at hA hval
  obtain ⟨v0, vs0, d0, ds0, p0, q0, hargs, rfl, rfl, h0, r0⟩ := trodAll_cons hA
  obtain ⟨v1, vs1, d1, ds1, p1, q1, rfl, rfl, rfl, h1, r1⟩ := trodAll_cons r0
  obtain ⟨v2, vs2, d2, ds2, p2, q2, rfl, rfl, rfl, h2, r2⟩ := trodAll_cons r1
  obtain ⟨rfl, rfl, rfl⟩ := trodAll_nil r2
  obtain rfl : args = #[v0, v1, v2] := by cases args; simp_all
  obtain ⟨rfl, rfl⟩ := trodVars_none hV
  obtain ⟨a0, rfl, rfl, rfl, w0⟩ := open_int Tryd.underlying3 (hval 0 3 v0 rfl rfl) h0
  obtain ⟨a1, rfl, rfl, rfl, w1⟩ := open_int Tryd.underlying3 (hval 1 3 v1 rfl rfl) h1
  obtain ⟨a2, len2, cap2, rfl⟩ := okWide_slice Tryd.underlying22 (hval 2 22 v2 rfl rfl)
  have k2 := h2
  have lt2 : ∀ x ∈ p2, x.block < W.heap.size := by obtain ⟨m, hm⟩ := k2; exact DataW.trod_lt m _ _ _ hm
  obtain ⟨z2, w2⟩ : ∃ zs, Bss W (.slice a2 len2 cap2) zs := by
    obtain ⟨fuel, hf⟩ := h2
    obtain ⟨a, len, cap, zs, hcs, hz⟩ := open_bss hf
    simp [Value.cells] at hcs
    obtain ⟨rfl, rfl, rfl⟩ := hcs
    exact ⟨zs, hz⟩
  clear hA0
  refine (walk a0 a1 a2 len2 cap2 z2 W w0 w1 w2 (tab_laid hL)).mono fun e W' ⟨he, bel⟩ => ?_
  subst he
  exact ⟨_, rfl, _, _, _, [], _, [], hW', trodAll_mk1 (shut_bool Tryd.underlying4 _), (trodAll_cons_mk (shut_int Tryd.underlying3 w0) (trodAll_cons_mk (shut_int Tryd.underlying3 w1) (trodAll_cons_mk (Below.trod laidOut (by kernel_rfl) (of_decide_eq_true (by kernel_rfl)) k2 bel lt2) trodAll_mk0))), rfl, bel.frame _, fun h => by cases h⟩

theorem laid_met (os : Os) : laidMet Tryd.prog Rows.superSavesRow.laid ((laidWorld os).forCall (fun _ _ => 0) ⟨#[], #[.int .i64 0, .int .i64 0, .slice none 0 0], []⟩).memory :=
  laidMet_of_run' 8 (by kernel_rfl) (by kernel_rfl)
theorem reads (os : Os) {H : Type} (enc : TypeId × Value → H) : ∃ places, DataW.whole enc Tryd.prog ((laidWorld os).forCall (fun _ _ => 0) ⟨#[], #[.int .i64 0, .int .i64 0, .slice none 0 0], []⟩).memory Tryd.f3.params.toList Rows.superSavesSpec.vars false (#[.int .i64 0, .int .i64 0, .slice none 0 0] : Array Value).toList 8 = some ([.lit (.int .i64 0), .lit (.int .i64 0), .nil], [], places) :=
  ⟨[], by kernel_rfl⟩

set_option maxRecDepth 100000 in
theorem lifted (os : Os) (started : os.Started) (H : Type) (enc : TypeId × Value → H) (F : Stop.Interp) :
    ReturnsInHanded {} Tryd.checked os 3 .any ((OpenSpec.ofChange Rows.superSavesSpec).preRow enc Tryd.prog Tryd.f3 Rows.superSavesRow.domain false Rows.superSavesRow.laid) (((OpenSpec.ofChange Rows.superSavesSpec).at F).post enc Tryd.prog Tryd.f3 false true false false) := by
  obtain ⟨places, hx⟩ := reads os enc
  refine returnsInHanded_of_row (C := Tryd.checked) (s := OpenSpec.ofChange Rows.superSavesSpec) own started (by kernel_rfl) Tryd.func3
    (witness_row_at (enc := enc) (C := Tryd.checked) false (laidWorld os) #[.int .i64 0, .int .i64 0, .slice none 0 0] rfl (by kernel_rfl) (by kernel_rfl) (by kernel_rfl)
      (OpenSpec.preRow_of_cond 8 hx (by kernel_rfl) (fun k hk => by cases hk) (by kernel_rfl) (laid_met os))) ?_
  intro W base args ds gs before hval hW _ _ _ hL _ _
  exact contract H enc W base args ds gs before hval hW hL

theorem over : Rows.SuperSavesSaid :=
  OpenClaim.holds_of_cond 3 Tryd.f3 rfl rfl rfl rfl rfl rfl rfl ⟨rfl, rfl, rfl, rfl, rfl⟩ rfl rfl rfl rfl rfl (by kernel_rfl) Tryd.func3 (by kernel_rfl)
    (of_decide_eq_true (by kernel_rfl)) (by unfold Func.isWrapper; first | (rw [if_pos (by decide +kernel)]; kernel_rfl) | (rw [if_neg (by decide +kernel)]; exact ⟨rfl, rfl⟩))
    (fun os started H enc _ F => by rw [OpenClaim.pre_eq_preRow]; exact lifted os started H enc F)

theorem plain (f : FuncId) (fn : Func) (hf : Tryd.pinned.checked.prog.funcNamed "engross/engrosslaw8.SuperSaves" = some f) (hfn : Tryd.pinned.checked.prog.funcs[f]? = some fn) :
    false = Tryd.pinned.checked.prog.looks [] ∧ ∀ (j : Nat) t, fn.params[j]? = some t → Tryd.pinned.checked.prog.wantsStandIn t = false := by
  obtain rfl : f = 3 := Option.some.inj ((show Tryd.prog.funcNamed "engross/engrosslaw8.SuperSaves" = some 3 by kernel_rfl).symm.trans hf) |>.symm
  obtain rfl : fn = Tryd.f3 := (Option.some.inj (Tryd.func3.symm.trans hfn)).symm
  refine ⟨by kernel_rfl, fun j t ht => ?_⟩
  rw [Tryd.params3] at ht
  have hm := Array.mem_of_getElem? ht
  simp at hm
  have u3 : Tryd.prog.wantsStandIn 3 = false := by kernel_rfl
  have u22 : Tryd.prog.wantsStandIn 22 = false := by kernel_rfl
  first
    | (subst hm; show Tryd.prog.wantsStandIn _ = false; with_reducible assumption)
    | (rcases hm with rfl | rfl <;> (show Tryd.prog.wantsStandIn _ = false; with_reducible assumption))
    | (rcases hm with rfl | rfl | rfl <;> (show Tryd.prog.wantsStandIn _ = false; with_reducible assumption))
    | (rcases hm with rfl | rfl | rfl | rfl <;> (show Tryd.prog.wantsStandIn _ = false; with_reducible assumption))
    | (rcases hm with rfl | rfl | rfl | rfl | rfl <;> (show Tryd.prog.wantsStandIn _ = false; with_reducible assumption))

theorem proved : Rows.SuperSavesCardSaid :=
  Claim7.holds_tied_plain_at .later [] _ _ _ _ over (fun _ h => by cases h) (by kernel_rfl) (fun _ h => by cases h) superSaves_row_tie rfl ⟨rfl, rfl⟩ (by kernel_rfl) rfl plain (by kernel_rfl)
#print axioms proved
end Go.Proofs.YtiaicpdbobgkoaaDoor.superSaves
