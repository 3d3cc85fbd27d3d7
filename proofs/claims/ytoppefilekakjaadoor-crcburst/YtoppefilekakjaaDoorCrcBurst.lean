/-
  For all bytes b, every int at and all bytes x CrcBurst returns true: of b (200 bytes) with up to four bytes changed behind one another at the place at, not all by nought, crc.Sum is another. Condition: the package-level table crc.half holds what its initialiser lays when the call begins (the card ties it to the program's text).
-/
import Derived.Test.YtoppefilekakjaaDoorCards
import Derived.Test.YtoppefilekakjaaDoorTie
import Derived.WalkKit
import Derived.ProofKit
import Derived.OpenShut
import Derived.ShutString
import Derived.ChangeOld
import Derived.Below
import Derived.Deep.DeepHandedRow
import Derived.Lib.LaidTab
import Derived.Test.YtoppefilekakjaaDoorCrcB
import Derived.Test.YtoppefilekakjaaDoorCrcT
import Derived.Test.YtoppefilekakjaaDoorRow
import Derived.Deep.DeepCutAuto
import Derived.BigRegion
import Derived.BigQuiet
namespace Go.Proofs.YtoppefilekakjaaDoor.crcBurst
open Go.ChangeShapes Go.WideShapes Go.ChangeAt Go.RowKit
open Go.ChangeMaps (open_string shut_string)
set_option linter.unusedVariables false

theorem own : ownKnob Tryd.prog.godebug = none := by kernel_rfl
theorem laidOut : laidOutB Tryd.prog = true := by kernel_rfl

set_option maxRecDepth 100000 in
set_option maxHeartbeats 2000000 in
theorem walk (a0 : Option Addr) (len0 cap0 : Nat) (z0 : List Int) (a1 : Int) (a2 : Option Addr) (len2 cap2 : Nat) (z2 : List Int) (w : World) (w0 : IsRow .u8 w a0 len0 cap0 z0) (w1 : (Lit.int .i64 a1).wf = true) (w2 : IsRow .u8 w a2 len2 cap2 z2) (hT : Tab w) :
    Calls Tryd.prog 4 #[.slice a0 len0 cap0, .int .i64 a1, .slice a2 len2 cap2] w fun e w' => e = .returned (.bool true) ∧ Below w.heap.size w w' := by
  have S0 := hide (row_sl w0)
  have S2 := hide (row_sl w2)
  obtain ⟨ht0, ht1⟩ := bounds_i64 w1
  have HT := hide hT
  clear w0 w1 w2 hT
  go_enter Tryd.func4, Tryd.ntmps4
  go_wp2_with fail
  refine (begun_any _ HT.out).mono ?_
  rintro e x1 ⟨rfl, hb1⟩
  go_wp2_with fail
  refine (short_any _ _ 200 _ (S0.out.later hb1)).mono ?_
  rintro e x2 ⟨vb, rfl, hB, rfl⟩
  go_wp2_with fail
  refine (short_any _ _ 4 _ (S2.out.later hb1)).mono ?_
  rintro e x3 ⟨vx, rfl, hX, rfl⟩
  have hBl : ((z0.take len0).take 200).length ≤ 200 := List.length_take_le _ _
  have hXl : ((z2.take len2).take 4).length ≤ 4 := List.length_take_le _ _
  generalize (z0.take len0).take 200 = B at *
  generalize (z2.take len2).take 4 = X at *
  obtain ⟨pb, nb, cb, rfl, hnb1, hnb2, HNB, HSB⟩ := hB.opens
  obtain ⟨px, nx, cx, rfl, hnx1, hnx2, HNX, HSX⟩ := hX.opens
  have hb200 : nb ≤ 200 := by rw [HNB.out]; exact hBl
  have hx4 : nx ≤ 4 := by rw [HNX.out]; exact hXl
  clear S0 S2 hB hX hBl hXl
  go_wp2_with fail
  go_loop [8, 9] (fun s i => ∃ (k : Nat) (b : Bool), k ≤ nx ∧ i = .int .i64 k ∧ s = .bool b ∧ Hid (b = true ↔ ∃ z ∈ X.take k, z ≠ 0)) (fun _ i => nx - (intOf i).toNat)
  case atStart => exact ⟨0, false, by omega, rfl, rfl, by show _ ↔ _; simp⟩
  case round =>
    obtain ⟨k, b, hk, rfl, rfl, he⟩ := hrel
    by_cases hlt : k < nx
    · obtain ⟨bx, ox, rfl, hcx, hx0, hx1⟩ := HSX.out.cell hlt
      have hkX : k < X.length := by rw [← HNX.out]; exact hlt
      have HK : Hid (X.take (k + 1) = X.take k ++ [X.getD k 0]) := by
        show _ = _
        rw [List.take_succ_eq_append_getElem hkX, getD_at hkX]
      generalize X.getD k 0 = c at *
      clear hkX
      cases b
      · have HF : Hid ((c != 0) = true ↔ ∃ z ∈ X.take (k + 1), z ≠ 0) := by
          show _ ↔ _
          rw [HK.out]
          have h1 : ¬ ∃ z ∈ X.take k, z ≠ 0 := fun h => by have := he.out.2 h; simp at this
          constructor
          · intro h
            exact ⟨c, by simp, by simpa using h⟩
          · rintro ⟨z, hz, hz0⟩
            rcases List.mem_append.1 hz with hz | hz
            · exact absurd ⟨z, hz, hz0⟩ h1
            · simp at hz
              subst hz
              simpa using hz0
        go_wp2_with fail
        go_round
        case rel => exact ⟨k + 1, c != 0, by omega, by go_num, rfl, HF⟩
        case measure => simp [intOf]; omega
      · have HF : Hid (true = true ↔ ∃ z ∈ X.take (k + 1), z ≠ 0) := by
          show _ ↔ _
          rw [HK.out]
          obtain ⟨z, hz, hz0⟩ := he.out.1 rfl
          exact ⟨fun _ => ⟨z, by simp [hz], hz0⟩, fun _ => rfl⟩
        go_wp2_with fail
        go_round
        case rel => exact ⟨k + 1, true, by omega, by go_num, rfl, HF⟩
        case measure => simp [intOf]; omega
    · have hkn : X.take k = X := List.take_of_length_le (by rw [← HNX.out]; omega)
      rw [hkn] at he
      clear hkn
      by_cases hA : a1 < 0
      · go_wp2_with fail
        go_ret
        exact ⟨rfl, hb1⟩
      · by_cases hA2 : (nb : Int) - (nx : Int) < a1
        · go_wp2_with fail
          go_ret
          exact ⟨rfl, hb1⟩
        · cases b
          · go_wp2_with fail
            go_ret
            exact ⟨rfl, hb1⟩
          · obtain ⟨t, rfl⟩ : ∃ t : Nat, a1 = (t : Int) := ⟨a1.toNat, by omega⟩
            have htn : t + nx ≤ nb := by omega
            have HXb := hide HSX.out.bd
            have HBb := hide HSB.out.bd
            have hBn := HNB.out
            have hXn := HNX.out
            have HNE : Hid ((((Cr.sum B : Nat) : Int) != ((Cr.sum (Cr.over B t X nx) : Nat) : Int)) = true) := by
              show _ = _
              simp only [bne_iff_ne, ne_eq]
              intro h
              have h1 : Cr.sum B = Cr.sum (Cr.over B t X X.length) := by rw [hXn] at h; omega
              obtain ⟨z, hz, hz0⟩ := he.out.1 rfl
              exact hz0 (Cr.sum_over B t X (by omega) HXb.out (by omega) h1 z hz)
            have hnx0 : 0 < nx := by
              obtain ⟨z, hz, _⟩ := he.out.1 rfl
              rw [hXn]
              exact List.length_pos_of_mem hz
            clear he hBn hXn
            have hBl : B.length ≤ 200 := by rw [← HNB.out]; exact hb200
            go_wp2_with (refine wpList_append_sl rfl (.const (.slice none 0 0)) (.tmp 48) 22 rfl x3.heap.size 5 Tryd.underlying22 Tryd.info5 _ 0 [] rfl (World.ownsRow_nil _ _ _ _) _ B rfl HSB.out (by omega) (Nat.le_refl _) ?_; intro v4 x4 ho4 hg4)
            have hb4 : Below w.heap.size w x4 := hb1.trans ((below_new hg4).mono hb1.size)
            have hbx : Below x3.heap.size x3 x4 := below_new hg4
            rw [Nat.zero_add, List.nil_append] at ho4
            obtain ⟨g, cc, rfl, hgg, hcc, hcm⟩ : ∃ g cc, v4 = .slice (some ⟨g, 0, none⟩) B.length cc ∧ x3.heap.size ≤ g ∧ B.length ≤ cc ∧ cc ≤ maxLen := by
              rcases ho4.2 with ⟨_, h0⟩ | ⟨g, cc, cur, h, hg, _, h1, h2, _⟩
              · have := HNB.out
                omega
              · exact ⟨g, cc, h, hg, h1, h2⟩
            have HO : Hid (x4.ownsRow x3.heap.size 5 1 (.slice (some ⟨g, 0, none⟩) nb cc) nb (bv (Cr.over B t X 0))) := by
              show World.ownsRow _ _ _ _ _ _ _
              rw [HNB.out]
              exact ho4
            rw [← HNB.out] at hcc
            have eB : B.length = nb := HNB.out.symm
            unfold maxLen at hcm
            have hgw : w.heap.size ≤ g := Nat.le_trans hb1.size hgg
            clear ho4 hg4 hBl hlt hk hA hA2
            rw [eB]
            clear eB
            go_wp2_with fail
            go_loopw [11] (fun i wr => ∃ k : Nat, k ≤ nx ∧ i = .int .i64 k ∧ Hid (wr.ownsRow x3.heap.size 5 1 (.slice (some ⟨g, 0, none⟩) nb cc) nb (bv (Cr.over B t X k))) ∧ Hid (Below w.heap.size w wr) ∧ Hid (Below x3.heap.size x3 wr)) (fun i _ => nx - (intOf i).toNat)
            case atStart => exact ⟨0, by omega, rfl, HO, hide hb4, hide hbx⟩
            case round =>
              obtain ⟨j, hj, rfl, HO, HBel, HBx⟩ := hrel
              clear hb4 hbx
              by_cases hjl : j < nx
              · obtain ⟨bx, ox, rfl, hcx, hx0, hx1⟩ := (HSX.out.later HBx.out).cell hjl
                have htx : t + X.length ≤ B.length := by have h1 := HNB.out; have h2 := HNX.out; omega
                have hjX : j ≤ X.length := by have h2 := HNX.out; omega
                have hol : t + j < (Cr.over B t X j).length := by have h1 := HNB.out; rw [Cr.over_len]; omega
                have hob := Cr.over_bd HBb.out HXb.out htx j hjX ((Cr.over B t X j).getD (t + j) 0) (by rw [getD_at hol]; exact List.getElem_mem hol)
                have hx8 := Cr.x8 hob ⟨hx0, hx1⟩
                have hfr := HO.out.frozenAt (t + j)
                have hco : wr.cell? ⟨g, t + j, none⟩ = some (.int .u8 ((Cr.over B t X j).getD (t + j) 0)) := by
                  rw [HO.out.cellAt (t + j) (by omega), getD_at hol]
                  simp [bv, List.getElem?_eq_getElem hol]
                have hst := HO.out.stored (t + j) (.int .u8 (Cr.xr ((Cr.over B t X j).getD (t + j) 0) (X.getD j 0)))
                rw [bv_set] at hst
                change World.ownsRow _ _ _ _ _ _ (bv (Cr.over B t X (j + 1))) ∧ _ at hst
                have HST := hide hst
                have etj : ((t : Int) + (j : Int)).toNat = t + j := by omega
                clear hst htx hjX hol
                generalize (Cr.over B t X j).getD (t + j) 0 = old at *
                generalize X.getD j 0 = c at *
                generalize Cr.xr old c = new at *
                go_wp2_with fail
                go_region
                have HO2 := hide HST.out.1.drew
                have HBel2 := hide (HBel.out.grown HST.out.2 HBel.out.size (fun j hj => by cases hj; exact hgw)).drew
                have HBx2 := hide (HBx.out.grown HST.out.2 HBx.out.size (fun j hj => by cases hj; exact hgg)).drew
                clear HST HO HBel HBx
                go_wp2_with fail
                go_roundw
                case rel => exact ⟨j + 1, by omega, by go_num, HO2, HBel2, HBx2⟩
                case measure => simp [intOf]; omega
              · obtain rfl : j = nx := by omega
                have HTr := hide (HT.out.later HBel.out)
                have htx : t + X.length ≤ B.length := by have h1 := HNB.out; have h2 := HNX.out; omega
                have HSO : Hid (Sl wr (.slice (some ⟨g, 0, none⟩) nb cc) (Cr.over B t X j)) := Sl.own HO.out (Cr.over_bd HBb.out HXb.out htx j (by rw [← HNX.out]; exact hj))
                have HSB2 := hide (HSB.out.later HBx.out)
                clear htx
                go_wp2_with fail
                refine (sum_any _ _ _ HSB2.out HTr.out).mono ?_
                rintro e y ⟨rfl, rfl⟩
                go_wp2_with fail
                refine (sum_any _ _ _ HSO.out HTr.out).mono ?_
                rintro e y1 ⟨rfl, rfl⟩
                have hne := HNE.out
                go_wp2_with fail
                go_ret
                exact ⟨rfl, HBel.out⟩

theorem contract (H : Type) (enc : TypeId × Value → H) (W : World) (base : Nat) (args : Array Value) (ds gs : List (DataW H)) (before : List MemPlace)
    (hval : ∀ (j : Nat) t v, Tryd.f4.params[j]? = some t → args[j]? = some v → Value.okWide Tryd.prog W .any base t v)
    (hW : DataW.Whole enc Tryd.prog Tryd.f4.params.toList Rows.crcBurstSpec.vars false W args.toList ds gs before) (hL : laidMetH Tryd.prog Rows.crcBurstRow.laid W) :
    Calls Tryd.prog 4 args W fun e W' => ∃ v, e = .returned v ∧ Rows.crcBurstSpec.post enc Tryd.prog Tryd.f4 false true false false W args v W' := by
  have hW' := hW
  obtain ⟨p, q, hA0, hV, rfl, hfz, hnd⟩ := hW
  have hA : DataW.TrodAll enc Tryd.prog W 0 (fun _ => true) true Tryd.f4.params.toList args.toList ds p := hA0
  rw [Tryd.params4] at hA hval
  obtain ⟨v0, vs0, d0, ds0, p0, q0, hargs, rfl, rfl, h0, r0⟩ := trodAll_cons hA
  obtain ⟨v1, vs1, d1, ds1, p1, q1, rfl, rfl, rfl, h1, r1⟩ := trodAll_cons r0
  obtain ⟨v2, vs2, d2, ds2, p2, q2, rfl, rfl, rfl, h2, r2⟩ := trodAll_cons r1
  obtain ⟨rfl, rfl, rfl⟩ := trodAll_nil r2
  obtain rfl : args = #[v0, v1, v2] := by cases args; simp_all
  obtain ⟨rfl, rfl⟩ := trodVars_none hV
  obtain ⟨a0, len0, cap0, rfl⟩ := okWide_slice Tryd.underlying22 (hval 0 22 v0 rfl rfl)
  have k0 := h0
  have lt0 : ∀ x ∈ p0, x.block < W.heap.size := by obtain ⟨m, hm⟩ := k0; exact DataW.trod_lt m _ _ _ hm
  obtain ⟨z0, w0⟩ : ∃ zs, IsRow .u8 W a0 len0 cap0 zs := by
    obtain ⟨fuel, hf⟩ := h0
    rcases open_ints Tryd.underlying22 Tryd.underlying5 (by kernel_rfl) hf with ⟨hcs, _⟩ | ⟨x, l, c, zs, hcs, _, hl, hm, hz, _, hcell, hwz⟩
    · simp [Value.cells] at hcs
      obtain ⟨rfl, rfl, rfl⟩ := hcs
      exact ⟨[], .inl ⟨rfl, rfl, rfl, rfl⟩⟩
    · simp [Value.cells] at hcs
      obtain ⟨rfl, rfl, rfl⟩ := hcs
      exact ⟨zs, .inr ⟨_, rfl, hl, hm, by simpa using hz, hcell, hwz⟩⟩
  obtain ⟨a1, rfl, rfl, rfl, w1⟩ := open_int Tryd.underlying3 (hval 1 3 v1 rfl rfl) h1
  obtain ⟨a2, len2, cap2, rfl⟩ := okWide_slice Tryd.underlying22 (hval 2 22 v2 rfl rfl)
  have k2 := h2
  have lt2 : ∀ x ∈ p2, x.block < W.heap.size := by obtain ⟨m, hm⟩ := k2; exact DataW.trod_lt m _ _ _ hm
  obtain ⟨z2, w2⟩ : ∃ zs, IsRow .u8 W a2 len2 cap2 zs := by
    obtain ⟨fuel, hf⟩ := h2
    rcases open_ints Tryd.underlying22 Tryd.underlying5 (by kernel_rfl) hf with ⟨hcs, _⟩ | ⟨x, l, c, zs, hcs, _, hl, hm, hz, _, hcell, hwz⟩
    · simp [Value.cells] at hcs
      obtain ⟨rfl, rfl, rfl⟩ := hcs
      exact ⟨[], .inl ⟨rfl, rfl, rfl, rfl⟩⟩
    · simp [Value.cells] at hcs
      obtain ⟨rfl, rfl, rfl⟩ := hcs
      exact ⟨zs, .inr ⟨_, rfl, hl, hm, by simpa using hz, hcell, hwz⟩⟩
  clear hA0
  refine (walk a0 len0 cap0 z0 a1 a2 len2 cap2 z2 W w0 w1 w2 (tab_laid hL)).mono fun e W' ⟨he, bel⟩ => ?_
  subst he
  exact ⟨_, rfl, _, _, _, [], _, [], hW', trodAll_mk1 (shut_bool Tryd.underlying4 _), (trodAll_cons_mk (Below.trod laidOut (by kernel_rfl) (of_decide_eq_true (by kernel_rfl)) k0 bel lt0) (trodAll_cons_mk (shut_int Tryd.underlying3 w1) (trodAll_cons_mk (Below.trod laidOut (by kernel_rfl) (of_decide_eq_true (by kernel_rfl)) k2 bel lt2) trodAll_mk0))), rfl, bel.frame _, fun h => by cases h⟩

theorem laid_met (os : Os) : laidMet Tryd.prog Rows.crcBurstRow.laid ((laidWorld os).forCall (fun _ _ => 0) ⟨#[], #[.slice none 0 0, .int .i64 0, .slice none 0 0], []⟩).memory :=
  laidMet_of_run' 8 (by kernel_rfl) (by kernel_rfl)
theorem reads (os : Os) {H : Type} (enc : TypeId × Value → H) : ∃ places, DataW.whole enc Tryd.prog ((laidWorld os).forCall (fun _ _ => 0) ⟨#[], #[.slice none 0 0, .int .i64 0, .slice none 0 0], []⟩).memory Tryd.f4.params.toList Rows.crcBurstSpec.vars false (#[.slice none 0 0, .int .i64 0, .slice none 0 0] : Array Value).toList 8 = some ([.nil, .lit (.int .i64 0), .nil], [], places) :=
  ⟨[], by kernel_rfl⟩

set_option maxRecDepth 100000 in
theorem lifted (os : Os) (started : os.Started) (H : Type) (enc : TypeId × Value → H) (F : Stop.Interp) :
    ReturnsInHanded {} Tryd.checked os 4 .any ((OpenSpec.ofChange Rows.crcBurstSpec).preRow enc Tryd.prog Tryd.f4 Rows.crcBurstRow.domain false Rows.crcBurstRow.laid) (((OpenSpec.ofChange Rows.crcBurstSpec).at F).post enc Tryd.prog Tryd.f4 false true false false) := by
  obtain ⟨places, hx⟩ := reads os enc
  refine returnsInHanded_of_row (C := Tryd.checked) (s := OpenSpec.ofChange Rows.crcBurstSpec) own started (by kernel_rfl) Tryd.func4
    (witness_row_at (enc := enc) (C := Tryd.checked) false (laidWorld os) #[.slice none 0 0, .int .i64 0, .slice none 0 0] rfl (by kernel_rfl) (by kernel_rfl) (by kernel_rfl)
      (OpenSpec.preRow_of_cond 8 hx (by kernel_rfl) (fun k hk => by cases hk) (by kernel_rfl) (laid_met os))) ?_
  intro W base args ds gs before hval hW _ _ _ hL _ _
  exact contract H enc W base args ds gs before hval hW hL

theorem over : Rows.CrcBurstSaid :=
  OpenClaim.holds_of_cond 4 Tryd.f4 rfl rfl rfl rfl rfl rfl rfl ⟨rfl, rfl, rfl, rfl, rfl⟩ rfl rfl rfl rfl rfl (by kernel_rfl) Tryd.func4 (by kernel_rfl)
    (of_decide_eq_true (by kernel_rfl)) (by unfold Func.isWrapper; first | (rw [if_pos (by decide +kernel)]; kernel_rfl) | (rw [if_neg (by decide +kernel)]; exact ⟨rfl, rfl⟩))
    (fun os started H enc _ F => by rw [OpenClaim.pre_eq_preRow]; exact lifted os started H enc F)

theorem plain (f : FuncId) (fn : Func) (hf : Tryd.pinned.checked.prog.funcNamed "engross/engrosslaw2.CrcBurst" = some f) (hfn : Tryd.pinned.checked.prog.funcs[f]? = some fn) :
    false = Tryd.pinned.checked.prog.looks [] ∧ ∀ (j : Nat) t, fn.params[j]? = some t → Tryd.pinned.checked.prog.wantsStandIn t = false := by
  obtain rfl : f = 4 := Option.some.inj ((show Tryd.prog.funcNamed "engross/engrosslaw2.CrcBurst" = some 4 by kernel_rfl).symm.trans hf) |>.symm
  obtain rfl : fn = Tryd.f4 := (Option.some.inj (Tryd.func4.symm.trans hfn)).symm
  refine ⟨by kernel_rfl, fun j t ht => ?_⟩
  rw [Tryd.params4] at ht
  have hm := Array.mem_of_getElem? ht
  simp at hm
  have u3 : Tryd.prog.wantsStandIn 3 = false := by kernel_rfl
  have u22 : Tryd.prog.wantsStandIn 22 = false := by kernel_rfl
  first
    | (subst hm; assumption)
    | (rcases hm with rfl | rfl <;> assumption)
    | (rcases hm with rfl | rfl | rfl <;> assumption)
    | (rcases hm with rfl | rfl | rfl | rfl <;> assumption)

theorem proved : Rows.CrcBurstCardSaid :=
  Claim7.holds_tied_plain_at .later [] _ _ _ _ over (fun _ h => by cases h) (by kernel_rfl) (fun _ h => by cases h) crcBurst_row_tie rfl ⟨rfl, rfl⟩ (by kernel_rfl) rfl plain (by kernel_rfl)
#print axioms proved
end Go.Proofs.YtoppefilekakjaaDoor.crcBurst
