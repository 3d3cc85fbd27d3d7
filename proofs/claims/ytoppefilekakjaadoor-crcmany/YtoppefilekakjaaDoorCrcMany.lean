/-
  For all bytes b and all ints sizes CrcMany returns true: b (300 bytes) summed piece by piece by crc.More has at each of its places the sum of what came so far. Condition: the package-level table crc.half holds what its initialiser lays when the call begins (the card ties it to the program's text).
-/
import Derived.Test.YtoppefilekakjaaDoorCards
import Derived.Test.YtoppefilekakjaaDoorTie
import Derived.WalkKit
import Derived.ProofKit
import Derived.OpenShut
import Derived.ShutString
import Derived.ChangeOld
import Derived.Below
import Derived.Deep.DeepHandedRow
import Derived.Lib.LaidTab
import Derived.Test.YtoppefilekakjaaDoorCrcB
import Derived.Test.YtoppefilekakjaaDoorCrcT
import Derived.Test.YtoppefilekakjaaDoorRow
namespace Go.Proofs.YtoppefilekakjaaDoor.crcMany
open Go.ChangeShapes Go.WideShapes Go.ChangeAt Go.RowKit
open Go.ChangeMaps (open_string shut_string)
set_option linter.unusedVariables false

theorem own : ownKnob Tryd.prog.godebug = none := by kernel_rfl
theorem laidOut : laidOutB Tryd.prog = true := by kernel_rfl

/-- A number that is taken modulo 40, twice. -/
theorem mod40 (x : Int) : ∃ (y : Int) (m : Nat), x.tmod 40 = y ∧ -39 ≤ y ∧ y ≤ 39 ∧ (y + 40).tmod 40 = (m : Int) ∧ m ≤ 39 := by
  have h1 := Int.tmod_lt_of_pos x (show (0 : Int) < 40 by decide)
  have h2 := Int.lt_tmod_of_pos x (show (0 : Int) < 40 by decide)
  have h3 := Int.tmod_nonneg 40 (show (0 : Int) ≤ x.tmod 40 + 40 by omega)
  have h4 := Int.tmod_lt_of_pos (x.tmod 40 + 40) (show (0 : Int) < 40 by decide)
  exact ⟨x.tmod 40, ((x.tmod 40 + 40).tmod 40).toNat, rfl, by omega, by omega, by omega, by omega⟩

set_option maxRecDepth 100000 in
set_option maxHeartbeats 2000000 in
theorem walk (a0 : Option Addr) (len0 cap0 : Nat) (z0 : List Int) (a1 : Option Addr) (len1 cap1 : Nat) (z1 : List Int) (w : World) (w0 : IsRow .u8 w a0 len0 cap0 z0) (w1 : IsRow .i64 w a1 len1 cap1 z1) (hT : Tab w) :
    Calls Tryd.prog 6 #[.slice a0 len0 cap0, .slice a1 len1 cap1] w fun e w' => e = .returned (.bool true) ∧ Below w.heap.size w w' := by
  have S0 := hide (row_sl w0)
  obtain ⟨hl1, hm1, hz1, hbd1, hcell1⟩ := row_ints w1
  have HC := hide hcell1
  have HBD := hide hbd1
  have HT := hide hT
  clear w0 w1 hT hcell1 hbd1
  go_enter Tryd.func6, Tryd.ntmps6
  go_wp2_with fail
  refine (begun_any _ HT.out).mono ?_
  rintro e x1 ⟨rfl, hb1⟩
  go_wp2_with fail
  refine (short_any _ _ 300 _ (S0.out.later hb1)).mono ?_
  rintro e x2 ⟨vb, rfl, hB, rfl⟩
  have hBl : ((z0.take len0).take 300).length ≤ 300 := List.length_take_le _ _
  generalize (z0.take len0).take 300 = B at *
  have HT1 := hide (HT.out.later hb1)
  have HC1 : Hid (∀ i, i < len1 → ∃ b off, a1 = some ⟨b, off, none⟩ ∧ x2.cell? ⟨b, off + i, none⟩ = some (.int .i64 (z1.getD i 0))) := fun i hi => by
    obtain ⟨b, off, e, hc⟩ := HC.out i hi
    exact ⟨b, off, e, by rw [hb1.cell (p := ⟨b, off + i, none⟩) (cell_lt hc), hc]⟩
  have HBb := hide hB.bd
  obtain ⟨p, n, cp, rfl, hnc, hcm, Hn, HS⟩ := hB.opens
  have hn300 : n ≤ 300 := by rw [Hn.out]; exact hBl
  clear S0 HC HT hB hBl
  go_wp2_with fail
  go_loop [6, 7, 8] (fun s t i => ∃ k q : Nat, k ≤ len1 ∧ k ≤ 40 ∧ i = .int .i64 k ∧ q ≤ n ∧ t = .int .i64 q ∧ s = .int .u32 ((Cr.sum (B.take q) : Nat) : Int)) (fun _ _ i => 40 - (intOf i).toNat)
  case atStart => exact ⟨0, 0, by omega, by omega, rfl, by omega, rfl, by rw [List.take_zero, nil_sum]; rfl⟩
  case round =>
    obtain ⟨k, q, hk, hk40, rfl, hq, rfl, rfl⟩ := hrel
    by_cases hg1 : k < len1
    · by_cases hg2 : k < 40
      · obtain ⟨b, off, rfl, hcell⟩ := HC1.out k hg1
        have hxb := HBD.out (z1.getD k 0) (by rw [getD_at (by omega : k < z1.length)]; exact List.getElem_mem _)
        generalize z1.getD k 0 = x at *
        obtain ⟨y, m, hy, hy1, hy2, hm40, hm39⟩ := mod40 x
        obtain ⟨d, hd⟩ : ∃ d : Nat, (n : Int) - (q : Int) = (d : Int) := ⟨n - q, by omega⟩
        by_cases hmd : d ≤ m
        · have hqE : q + d ≤ n := by omega
          have HL : Hid (B.take (q + d) = B.take q ++ (B.drop q).take d) := by show _ = _; rw [List.take_add]
          have HM : Hid (Cr.more (Cr.sum (B.take q)) ((B.drop q).take d) = Cr.sum (B.take (q + d))) := by show _ = _; rw [Cr.more_sum, HL.out]
          have hlt := Cr.more_lt (s := 0) (zs := B.take q) (by decide) (fun z hz => HBb.out z (List.mem_of_mem_take hz))
          have HP := hide (HS.out.part (l := q) (m := q + d) (by omega) (by rw [← Hn.out]; exact hqE) _ rfl)
          have HH := hide (HS.out.head (m := q + d) (by rw [← Hn.out]; exact hqE))
          have eE : q + d - q = d := by omega
          have HE := hide eE
          have e2 : ((q : Int) + (d : Int)).toNat = q + d := by omega
          clear eE
          by_cases hcq : cp = q
          · subst hcq
            have HP2 : Hid (Sl x2 (.slice p d 0) ((B.drop cp).take d)) := by
              show Sl _ _ _
              have := HP.out
              rw [if_pos rfl, HE.out, Nat.sub_self] at this
              exact this
            clear HP
            go_wp2_with fail
            refine (more_any (Cr.sum (B.take cp)) _ _ x2 HP2.out hlt HT1.out).mono ?_
            rintro e y ⟨rfl, rfl⟩
            rw [HM.out]
            go_wp2_with fail
            refine (sum_any _ _ y HH.out HT1.out).mono ?_
            rintro e y1 ⟨rfl, rfl⟩
            have hne : ∀ s : Int, (s != s) = false := fun s => by simp
            go_wp2_with fail
            go_round
            case rel => exact ⟨k + 1, cp + d, by omega, by omega, by go_num, by omega, by go_num, rfl⟩
            case measure => simp [intOf]; omega
          · have HP2 : Hid (Sl x2 (.slice (Option.map (fun x : Addr => x.add q) p) d (cp - q)) ((B.drop q).take d)) := by
              show Sl _ _ _
              have := HP.out
              rw [if_neg hcq, HE.out] at this
              simpa using this
            clear HP
            go_wp2_with fail
            refine (more_any (Cr.sum (B.take q)) _ _ x2 HP2.out hlt HT1.out).mono ?_
            rintro e y ⟨rfl, rfl⟩
            rw [HM.out]
            go_wp2_with fail
            refine (sum_any _ _ y HH.out HT1.out).mono ?_
            rintro e y1 ⟨rfl, rfl⟩
            have hne : ∀ s : Int, (s != s) = false := fun s => by simp
            go_wp2_with fail
            go_round
            case rel => exact ⟨k + 1, q + d, by omega, by omega, by go_num, by omega, by go_num, rfl⟩
            case measure => simp [intOf]; omega
        · have hqE : q + m ≤ n := by omega
          have HL : Hid (B.take (q + m) = B.take q ++ (B.drop q).take m) := by show _ = _; rw [List.take_add]
          have HM : Hid (Cr.more (Cr.sum (B.take q)) ((B.drop q).take m) = Cr.sum (B.take (q + m))) := by show _ = _; rw [Cr.more_sum, HL.out]
          have hlt := Cr.more_lt (s := 0) (zs := B.take q) (by decide) (fun z hz => HBb.out z (List.mem_of_mem_take hz))
          have HP := hide (HS.out.part (l := q) (m := q + m) (by omega) (by rw [← Hn.out]; exact hqE) _ rfl)
          have HH := hide (HS.out.head (m := q + m) (by rw [← Hn.out]; exact hqE))
          have eE : q + m - q = m := by omega
          have HE := hide eE
          have e2 : ((q : Int) + (m : Int)).toNat = q + m := by omega
          clear eE
          by_cases hcq : cp = q
          · omega
          · have HP2 : Hid (Sl x2 (.slice (Option.map (fun x : Addr => x.add q) p) m (cp - q)) ((B.drop q).take m)) := by
              show Sl _ _ _
              have := HP.out
              rw [if_neg hcq, HE.out] at this
              simpa using this
            clear HP
            go_wp2_with fail
            refine (more_any (Cr.sum (B.take q)) _ _ x2 HP2.out hlt HT1.out).mono ?_
            rintro e y ⟨rfl, rfl⟩
            rw [HM.out]
            go_wp2_with fail
            refine (sum_any _ _ y HH.out HT1.out).mono ?_
            rintro e y1 ⟨rfl, rfl⟩
            have hne : ∀ s : Int, (s != s) = false := fun s => by simp
            go_wp2_with fail
            go_round
            case rel => exact ⟨k + 1, q + m, by omega, by omega, by go_num, by omega, by go_num, rfl⟩
            case measure => simp [intOf]; omega
      · have HQ : Hid (Cr.more (Cr.sum (B.take q)) (B.drop q) = Cr.sum B) := by show _ = _; rw [Cr.more_sum, List.take_append_drop]
        have hlt := Cr.more_lt (s := 0) (zs := B.take q) (by decide) (fun z hz => HBb.out z (List.mem_of_mem_take hz))
        have HP := hide (HS.out.rest (l := q) (by rw [← Hn.out]; exact hq) _ rfl)
        by_cases hcq : cp = q
        · subst hcq
          have HP2 : Hid (Sl x2 (.slice p (n - cp) 0) (B.drop cp)) := by
            show Sl _ _ _
            have := HP.out
            rw [if_pos rfl, Nat.sub_self] at this
            exact this
          have hnq : n - cp = 0 := by omega
          clear HP
          rw [hnq] at HP2
          go_wp2_with fail
          refine (more_any (Cr.sum (B.take cp)) _ _ x2 HP2.out hlt HT1.out).mono ?_
          rintro e y ⟨rfl, rfl⟩
          rw [HQ.out]
          go_wp2_with fail
          refine (sum_any _ _ y HS.out HT1.out).mono ?_
          rintro e y1 ⟨rfl, rfl⟩
          go_wp2_with fail
          go_ret
          exact ⟨rfl, hb1⟩
        · have HP2 : Hid (Sl x2 (.slice (Option.map (fun x : Addr => x.add q) p) (n - q) (cp - q)) (B.drop q)) := by
            show Sl _ _ _
            have := HP.out
            rw [if_neg hcq] at this
            exact this
          clear HP
          go_wp2_with fail
          refine (more_any (Cr.sum (B.take q)) _ _ x2 HP2.out hlt HT1.out).mono ?_
          rintro e y ⟨rfl, rfl⟩
          rw [HQ.out]
          go_wp2_with fail
          refine (sum_any _ _ y HS.out HT1.out).mono ?_
          rintro e y1 ⟨rfl, rfl⟩
          go_wp2_with fail
          go_ret
          exact ⟨rfl, hb1⟩
    · have HQ : Hid (Cr.more (Cr.sum (B.take q)) (B.drop q) = Cr.sum B) := by show _ = _; rw [Cr.more_sum, List.take_append_drop]
      have hlt := Cr.more_lt (s := 0) (zs := B.take q) (by decide) (fun z hz => HBb.out z (List.mem_of_mem_take hz))
      have HP := hide (HS.out.rest (l := q) (by rw [← Hn.out]; exact hq) _ rfl)
      by_cases hcq : cp = q
      · subst hcq
        have HP2 : Hid (Sl x2 (.slice p (n - cp) 0) (B.drop cp)) := by
          show Sl _ _ _
          have := HP.out
          rw [if_pos rfl, Nat.sub_self] at this
          exact this
        have hnq : n - cp = 0 := by omega
        clear HP
        rw [hnq] at HP2
        go_wp2_with fail
        refine (more_any (Cr.sum (B.take cp)) _ _ x2 HP2.out hlt HT1.out).mono ?_
        rintro e y ⟨rfl, rfl⟩
        rw [HQ.out]
        go_wp2_with fail
        refine (sum_any _ _ y HS.out HT1.out).mono ?_
        rintro e y1 ⟨rfl, rfl⟩
        go_wp2_with fail
        go_ret
        exact ⟨rfl, hb1⟩
      · have HP2 : Hid (Sl x2 (.slice (Option.map (fun x : Addr => x.add q) p) (n - q) (cp - q)) (B.drop q)) := by
          show Sl _ _ _
          have := HP.out
          rw [if_neg hcq] at this
          exact this
        clear HP
        go_wp2_with fail
        refine (more_any (Cr.sum (B.take q)) _ _ x2 HP2.out hlt HT1.out).mono ?_
        rintro e y ⟨rfl, rfl⟩
        rw [HQ.out]
        go_wp2_with fail
        refine (sum_any _ _ y HS.out HT1.out).mono ?_
        rintro e y1 ⟨rfl, rfl⟩
        go_wp2_with fail
        go_ret
        exact ⟨rfl, hb1⟩

theorem contract (H : Type) (enc : TypeId × Value → H) (W : World) (base : Nat) (args : Array Value) (ds gs : List (DataW H)) (before : List MemPlace)
    (hval : ∀ (j : Nat) t v, Tryd.f6.params[j]? = some t → args[j]? = some v → Value.okWide Tryd.prog W .any base t v)
    (hW : DataW.Whole enc Tryd.prog Tryd.f6.params.toList Rows.crcManySpec.vars false W args.toList ds gs before) (hL : laidMetH Tryd.prog Rows.crcManyRow.laid W) :
    Calls Tryd.prog 6 args W fun e W' => ∃ v, e = .returned v ∧ Rows.crcManySpec.post enc Tryd.prog Tryd.f6 false true false false W args v W' := by
  have hW' := hW
  obtain ⟨p, q, hA0, hV, rfl, hfz, hnd⟩ := hW
  have hA : DataW.TrodAll enc Tryd.prog W 0 (fun _ => true) true Tryd.f6.params.toList args.toList ds p := hA0
  rw [Tryd.params6] at hA hval
  obtain ⟨v0, vs0, d0, ds0, p0, q0, hargs, rfl, rfl, h0, r0⟩ := trodAll_cons hA
  obtain ⟨v1, vs1, d1, ds1, p1, q1, rfl, rfl, rfl, h1, r1⟩ := trodAll_cons r0
  obtain ⟨rfl, rfl, rfl⟩ := trodAll_nil r1
  obtain rfl : args = #[v0, v1] := by cases args; simp_all
  obtain ⟨rfl, rfl⟩ := trodVars_none hV
  obtain ⟨a0, len0, cap0, rfl⟩ := okWide_slice Tryd.underlying22 (hval 0 22 v0 rfl rfl)
  have k0 := h0
  have lt0 : ∀ x ∈ p0, x.block < W.heap.size := by obtain ⟨m, hm⟩ := k0; exact DataW.trod_lt m _ _ _ hm
  obtain ⟨z0, w0⟩ : ∃ zs, IsRow .u8 W a0 len0 cap0 zs := by
    obtain ⟨fuel, hf⟩ := h0
    rcases open_ints Tryd.underlying22 Tryd.underlying5 (by kernel_rfl) hf with ⟨hcs, _⟩ | ⟨x, l, c, zs, hcs, _, hl, hm, hz, _, hcell, hwz⟩
    · simp [Value.cells] at hcs
      obtain ⟨rfl, rfl, rfl⟩ := hcs
      exact ⟨[], .inl ⟨rfl, rfl, rfl, rfl⟩⟩
    · simp [Value.cells] at hcs
      obtain ⟨rfl, rfl, rfl⟩ := hcs
      exact ⟨zs, .inr ⟨_, rfl, hl, hm, by simpa using hz, hcell, hwz⟩⟩
  obtain ⟨a1, len1, cap1, rfl⟩ := okWide_slice Tryd.underlying31 (hval 1 31 v1 rfl rfl)
  have k1 := h1
  have lt1 : ∀ x ∈ p1, x.block < W.heap.size := by obtain ⟨m, hm⟩ := k1; exact DataW.trod_lt m _ _ _ hm
  obtain ⟨z1, w1⟩ : ∃ zs, IsRow .i64 W a1 len1 cap1 zs := by
    obtain ⟨fuel, hf⟩ := h1
    rcases open_ints Tryd.underlying31 Tryd.underlying3 (by kernel_rfl) hf with ⟨hcs, _⟩ | ⟨x, l, c, zs, hcs, _, hl, hm, hz, _, hcell, hwz⟩
    · simp [Value.cells] at hcs
      obtain ⟨rfl, rfl, rfl⟩ := hcs
      exact ⟨[], .inl ⟨rfl, rfl, rfl, rfl⟩⟩
    · simp [Value.cells] at hcs
      obtain ⟨rfl, rfl, rfl⟩ := hcs
      exact ⟨zs, .inr ⟨_, rfl, hl, hm, by simpa using hz, hcell, hwz⟩⟩
  clear hA0
  refine (walk a0 len0 cap0 z0 a1 len1 cap1 z1 W w0 w1 (tab_laid hL)).mono fun e W' ⟨he, bel⟩ => ?_
  subst he
  exact ⟨_, rfl, _, _, _, [], _, [], hW', trodAll_mk1 (shut_bool Tryd.underlying4 _), (trodAll_cons_mk (Below.trod laidOut (by kernel_rfl) (of_decide_eq_true (by kernel_rfl)) k0 bel lt0) (trodAll_cons_mk (Below.trod laidOut (by kernel_rfl) (of_decide_eq_true (by kernel_rfl)) k1 bel lt1) trodAll_mk0)), rfl, bel.frame _, fun h => by cases h⟩

theorem laid_met (os : Os) : laidMet Tryd.prog Rows.crcManyRow.laid ((laidWorld os).forCall (fun _ _ => 0) ⟨#[], #[.slice none 0 0, .slice none 0 0], []⟩).memory :=
  laidMet_of_run' 8 (by kernel_rfl) (by kernel_rfl)
theorem reads (os : Os) {H : Type} (enc : TypeId × Value → H) : ∃ places, DataW.whole enc Tryd.prog ((laidWorld os).forCall (fun _ _ => 0) ⟨#[], #[.slice none 0 0, .slice none 0 0], []⟩).memory Tryd.f6.params.toList Rows.crcManySpec.vars false (#[.slice none 0 0, .slice none 0 0] : Array Value).toList 8 = some ([.nil, .nil], [], places) :=
  ⟨[], by kernel_rfl⟩

set_option maxRecDepth 100000 in
theorem lifted (os : Os) (started : os.Started) (H : Type) (enc : TypeId × Value → H) (F : Stop.Interp) :
    ReturnsInHanded {} Tryd.checked os 6 .any ((OpenSpec.ofChange Rows.crcManySpec).preRow enc Tryd.prog Tryd.f6 Rows.crcManyRow.domain false Rows.crcManyRow.laid) (((OpenSpec.ofChange Rows.crcManySpec).at F).post enc Tryd.prog Tryd.f6 false true false false) := by
  obtain ⟨places, hx⟩ := reads os enc
  refine returnsInHanded_of_row (C := Tryd.checked) (s := OpenSpec.ofChange Rows.crcManySpec) own started (by kernel_rfl) Tryd.func6
    (witness_row_at (enc := enc) (C := Tryd.checked) false (laidWorld os) #[.slice none 0 0, .slice none 0 0] rfl (by kernel_rfl) (by kernel_rfl) (by kernel_rfl)
      (OpenSpec.preRow_of_cond 8 hx (by kernel_rfl) (fun k hk => by cases hk) (by kernel_rfl) (laid_met os))) ?_
  intro W base args ds gs before hval hW _ _ _ hL _ _
  exact contract H enc W base args ds gs before hval hW hL

theorem over : Rows.CrcManySaid :=
  OpenClaim.holds_of_cond 6 Tryd.f6 rfl rfl rfl rfl rfl rfl rfl ⟨rfl, rfl, rfl, rfl, rfl⟩ rfl rfl rfl rfl rfl (by kernel_rfl) Tryd.func6 (by kernel_rfl)
    (of_decide_eq_true (by kernel_rfl)) (by unfold Func.isWrapper; first | (rw [if_pos (by decide +kernel)]; kernel_rfl) | (rw [if_neg (by decide +kernel)]; exact ⟨rfl, rfl⟩))
    (fun os started H enc _ F => by rw [OpenClaim.pre_eq_preRow]; exact lifted os started H enc F)

theorem plain (f : FuncId) (fn : Func) (hf : Tryd.pinned.checked.prog.funcNamed "engross/engrosslaw2.CrcMany" = some f) (hfn : Tryd.pinned.checked.prog.funcs[f]? = some fn) :
    false = Tryd.pinned.checked.prog.looks [] ∧ ∀ (j : Nat) t, fn.params[j]? = some t → Tryd.pinned.checked.prog.wantsStandIn t = false := by
  obtain rfl : f = 6 := Option.some.inj ((show Tryd.prog.funcNamed "engross/engrosslaw2.CrcMany" = some 6 by kernel_rfl).symm.trans hf) |>.symm
  obtain rfl : fn = Tryd.f6 := (Option.some.inj (Tryd.func6.symm.trans hfn)).symm
  refine ⟨by kernel_rfl, fun j t ht => ?_⟩
  rw [Tryd.params6] at ht
  have hm := Array.mem_of_getElem? ht
  simp at hm
  have u22 : Tryd.prog.wantsStandIn 22 = false := by kernel_rfl
  have u31 : Tryd.prog.wantsStandIn 31 = false := by kernel_rfl
  first
    | (subst hm; assumption)
    | (rcases hm with rfl | rfl <;> assumption)
    | (rcases hm with rfl | rfl | rfl <;> assumption)
    | (rcases hm with rfl | rfl | rfl | rfl <;> assumption)

theorem proved : Rows.CrcManyCardSaid :=
  Claim7.holds_tied_plain_at .later [] _ _ _ _ over (fun _ h => by cases h) (by kernel_rfl) (fun _ h => by cases h) crcMany_row_tie rfl ⟨rfl, rfl⟩ (by kernel_rfl) rfl plain (by kernel_rfl)
#print axioms proved
end Go.Proofs.YtoppefilekakjaaDoor.crcMany
