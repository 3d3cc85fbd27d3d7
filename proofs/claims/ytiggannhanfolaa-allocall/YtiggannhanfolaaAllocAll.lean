/-
  For every byte b and every slice of operations AllocAll returns true: of the first 60 operations Take answers the least free page, all noughts, Free gives one back, SetRoot keeps the tree's first page; Used, Count and Root say so behind each; the bits of the pages 0 and 1 and the bytes behind the fifth stay. No condition.
-/
import Derived.Test.YtiggannhanfolaaRows
import Derived.WalkKit
import Derived.ProofKit
import Derived.OpenShut
import Derived.ShutString
import Derived.ChangeOld
import Derived.Below
import Derived.Test.YtiggannhanfolaaAllG
import Derived.Test.YtiggannhanfolaaOrw
import Derived.Deep.CutBlock
namespace Go.Proofs.Ytiggannhanfolaa.allocAll
open Go.ChangeShapes Go.WideShapes Go.ChangeAt Go.RowKit
open Go.ChangeMaps (open_string shut_string)
set_option linter.unusedVariables false

theorem own : ownKnob Try.prog.godebug = none := by kernel_rfl
theorem laidOut : laidOutB Try.prog = true := by kernel_rfl

theorem and3 {x : Int} (h0 : 0 ≤ x) (h1 : x ≤ 255) : 0 ≤ bits .and .u8 x 3 ∧ bits .and .u8 x 3 ≤ 3 ∧ bits .and .u8 x 3 = (if x.toNat.testBit 0 then 1 else 0) + (if x.toNat.testBit 1 then 2 else 0) ∧ bits .and .u8 (bits .and .u8 x 3) 3 = bits .and .u8 x 3 := by
  have : ∀ n : Fin 256, 0 ≤ bits .and .u8 ((n : Nat) : Int) 3 ∧ bits .and .u8 ((n : Nat) : Int) 3 ≤ 3 ∧ bits .and .u8 ((n : Nat) : Int) 3 = (if (n : Nat).testBit 0 then 1 else 0) + (if (n : Nat).testBit 1 then 2 else 0) ∧ bits .and .u8 (bits .and .u8 ((n : Nat) : Int) 3) 3 = bits .and .u8 ((n : Nat) : Int) 3 := by decide +kernel
  obtain ⟨n, rfl⟩ := Int.eq_ofNat_of_zero_le h0
  exact this ⟨n, by omega⟩

theorem rep_false (n k : Nat) : (List.replicate n false).getD k false = false := by
  by_cases h : k < n
  · simp [List.getD, h]
  · simp [List.getD, List.getElem?_eq_none (show (List.replicate n false).length ≤ k by rw [List.length_replicate]; omega)]

theorem rel_new {zs : List Int} (hz : Pg zs) (h : ∀ j, j < 5 → zs.getD j 0 = 0) {x : Int} (h0 : 0 ≤ x) (h3 : x ≤ 3) : Rel (zs.set 0 x) (zs.set 0 x) (List.replicate 32 false) 0 := by
  have g : ∀ j, j < 5 → (zs.set 0 x).getD j 0 = if j = 0 then x else 0 := fun j hj => by
    rw [getD_seti _ _ _ _ (by rw [hz.1]; omega), h j hj]
  refine ⟨fun k h1 h2 => ?_, by rw [g 4 (by omega)]; rfl, rfl, fun _ _ => rfl, fun _ _ _ => rfl⟩
  rw [rep_false, us, g _ (by omega)]
  by_cases e : k / 8 = 0
  · rw [if_pos e]
    have : ∀ (n : Fin 4) (k : Fin 8), 2 ≤ (k : Nat) → (n : Nat).testBit k = false := by decide +kernel
    exact this ⟨x.toNat, by omega⟩ ⟨k % 8, by omega⟩ (by show 2 ≤ k % 8; omega)
  · rw [if_neg e]
    simp

/-- The page K is in use, the bytes say (of any number). -/
def inU (zs : List Int) (K : Int) : Bool := (decide (2 ≤ K) && decide (K < 32)) && us zs K.toNat
theorem inU_out (zs : List Int) {K : Int} (h : ¬ (2 ≤ K ∧ K < 32)) : inU zs K = false := by
  unfold inU
  rw [show (decide (2 ≤ K) && decide (K < 32)) = false by simp; omega]
  rfl
theorem inU_in (zs : List Int) {no : Nat} (h : 2 ≤ no ∧ no < 32) : inU zs (no : Int) = us zs no := by
  unfold inU
  rw [show (decide (2 ≤ (no : Int)) && decide ((no : Int) < 32)) = true by simp; omega]
  simp
theorem Al.usedI {B : Nat} {w W : World} {g k : Nat} {m f : Nat → Option (List Int)} {zs : List Int} (h : Al B w W g k m f zs) (K : Int) :
    Calls Try.prog 15 #[.iface 29 (.pointer (some ⟨g, 0, none⟩)), .int .i64 K] W fun e W' => e = .returned (.tuple #[.bool (inU zs K), .int .i64 0]) ∧ Below W.heap.size W W' := by
  by_cases hr : 2 ≤ K ∧ K < 32
  · obtain ⟨no, rfl⟩ := Int.eq_ofNat_of_zero_le (show 0 ≤ K by omega)
    rw [inU_in zs (by omega)]
    exact h.used rfl (by omega)
  · rw [inU_out zs hr]
    exact h.usedOut hr
theorem Al.freeNot {B : Nat} {w W : World} {g k : Nat} {m f : Nat → Option (List Int)} {zs : List Int} (h : Al B w W g k m f zs) {z : Int} (hu : inU zs z = false) :
    Calls Try.prog 13 #[.pointer (some ⟨g, 0, none⟩), .int .i64 z] W fun e W' => e = .returned (.int .i64 6) ∧ Below W.heap.size W W' := by
  by_cases hr : 2 ≤ z ∧ z < 32
  · obtain ⟨no, rfl⟩ := Int.eq_ofNat_of_zero_le (show 0 ≤ z by omega)
    rw [inU_in zs (by omega)] at hu
    exact h.freeNone rfl (by omega) hu
  · exact (free_out hr).mono fun e W' q => ⟨q.1, by rw [q.2]; exact Below.refl _ _⟩
/-- What the law's first loop has found when it comes to t. -/
def Wnt (ks : List Bool) (t a : Nat) : Prop :=
  (a = 0 ∧ ∀ q, t < q → q < 32 → ks.getD q false = true) ∨ (t < a ∧ a < 32 ∧ ks.getD a false = false ∧ ∀ q, t < q → q < a → ks.getD q false = true)
theorem Wnt.yes {ks : List Bool} {t a : Nat} (h : Wnt ks t a) (ht : 1 ≤ t) (hu : ks.getD t false = true) : Wnt ks (t - 1) a := by
  have e : ∀ q, t - 1 < q → q = t ∨ t < q := fun q hq => by omega
  rcases h with ⟨h1, h2⟩ | ⟨h1, h2, h3, h4⟩
  · exact .inl ⟨h1, fun q q1 q2 => by rcases e q q1 with rfl | h; exact hu; exact h2 q h q2⟩
  · exact .inr ⟨by omega, h2, h3, fun q q1 q2 => by rcases e q q1 with rfl | h; exact hu; exact h4 q h q2⟩
theorem Wnt.no {ks : List Bool} {t : Nat} (ht : 1 ≤ t) (h32 : t < 32) (hu : ks.getD t false = false) : Wnt ks (t - 1) t :=
  .inr ⟨by omega, h32, hu, fun q q1 q2 => by omega⟩
theorem nu_step (zs : List Int) (t : Nat) (K : Int) (hK : K = (t : Int) - 1) (ht : t < 35) : nu (us zs) (min (t + 1 - 1) 32) = nu (us zs) (min (t - 1) 32) + (if inU zs K then 1 else 0) ∧ nu (us zs) (min (t - 1) 32) ≤ 32 := by
  refine ⟨?_, Nat.le_trans (nu_le _ _) (Nat.min_le_right _ _)⟩
  by_cases hr : 2 ≤ K ∧ K < 32
  · obtain ⟨no, rfl⟩ := Int.eq_ofNat_of_zero_le (show 0 ≤ K by omega)
    rw [inU_in zs (by omega), show min (t + 1 - 1) 32 = no + 1 by omega, show min (t - 1) 32 = no by omega, nu_succ, show decide (2 ≤ no) = true by simp; omega, Bool.true_and]
  · rw [inU_out zs hr]
    by_cases h33 : 33 ≤ t
    · rw [show min (t + 1 - 1) 32 = 32 by omega, show min (t - 1) 32 = 32 by omega]
      rfl
    · by_cases h1 : t = 0
      · subst h1; rfl
      · rw [show min (t + 1 - 1) 32 = (t - 1) + 1 by omega, show min (t - 1) 32 = t - 1 by omega, nu_succ, show decide (2 ≤ t - 1) = false by simp; omega]
        rfl

set_option maxRecDepth 100000 in
set_option maxHeartbeats 40000000 in
theorem walk (a0 : Int) (a1 : Option Addr) (len1 cap1 : Nat) (z1 : List (Int × Int)) (w : World) (w0 : (Lit.int .u8 a0).wf = true) (w1 : Ops w (.slice a1 len1 cap1) z1) :
    Calls Try.prog 3 #[.int .u8 a0, .slice a1 len1 cap1] w fun e w' => e = .returned (.bool true) ∧ Below w.heap.size w w' := by
  have HX := hide (bounds_u8 w0)
  have HI := hide w1
  obtain ⟨hq0, hq1⟩ := w1.len
  have H3 := hide (and3 HX.out.1 HX.out.2)
  obtain ⟨i0, hi, hz0, hz1, hz2⟩ := info_parts Try.info5
  have HN : Hid ((madeCells (Value.int IntKind.u8 0).cells (256 * 1)).toList = bv zer) := made_noughts 256
  clear w0 w1
  go_enter Try.func3, Try.ntmps3
  go_wp2_with fail
  refine (abegun_any _).mono ?_
  rintro e x1 ⟨rfl, hB1⟩
  have HB1 := hide hB1
  have HL1 := hide hB1.size
  have HR := hide (run_buildB x1)
  have hT : Tb (x1.alloc (.cells (bkz 0).toArray 28)) 28 x1.heap.size (bkz 0) := Tb.new _ _ _
  have HT := hide hT
  have HA := hide (below_alloc x1 (.cells (bkz 0).toArray 28))
  clear hB1 hT
  generalize hq : bkz 0 = q at *
  go_upto_region 5 with (first
    | (refine wpList_build0T 28 q rfl rfl HR.out ?_)
    | (refine wpList_boxT 28 _ q rfl rfl rfl ?_))
  have HB2 := hide (HB1.out.trans (HA.out.mono HB1.out.size))
  generalize x1.alloc (.cells q.toArray 28) = x2 at *
  generalize x1.heap.size = gb at *
  clear HB1 HA HR
  go_wp2_with (first
    | (at_make; refine wpList_make_full _ rfl _ _ 25 rfl x2.heap.size 5 i0 (.int .u8 0) 1 Try.underlying25 hi hz0 hz1 _ _ _ _ 256 rfl rfl rfl rfl (by rw [hz2]; omega) (by unfold maxLen; omega) (Nat.le_refl _) ?_; intro x3 ho1 hg1; have HO3 := hide ho1; have HB3 := hide (below_new hg1); clear ho1 hg1))
  have hp3 := HO3.out
  rw [HN.out] at hp3
  have HP3 := hide (own_tb hp3)
  have HT3 := hide (HT.out.later HB3.out)
  have HL2 : Hid (w.heap.size ≤ x2.heap.size) := HB2.out.size
  have HB4 := hide (HB2.out.trans (HB3.out.mono HB2.out.size))
  clear hp3 HO3 HT HB3 HB2 HN
  generalize x2.heap.size = pb at *
  go_loopw [8] (fun i wr => ∃ (k : Nat) (zs : List Int), 5 ≤ k ∧ k ≤ 256 ∧ i = .int .i64 k ∧ Hid (Tb wr 5 pb (bv zs)) ∧ Hid (Pg zs) ∧ Hid (∀ j, j < 5 → zs.getD j 0 = 0) ∧ Hid (Tb wr 28 gb q) ∧ Hid (Below w.heap.size w wr)) (fun i _ => 256 - (RowKit.intOf i).toNat)
  case atStart => exact ⟨5, zer, by omega, by omega, rfl, HP3, zer_pg, (fun j hj => by
    have : ∀ j : Fin 5, zer.getD j 0 = 0 := by decide +kernel
    exact this ⟨j, hj⟩), HT3, HB4⟩
  case round =>
    clear HP3 HT3 HB4
    obtain ⟨k, zs, hk5, hk, rfl, HP, HZ, H0, HT, HB⟩ := hrel
    by_cases hlt : k < 256
    · have hk2 : (k : Int) < 256 := by omega
      have c0 := HP.out.cell (i := k) (by rw [bv_len, HZ.out.1]; exact hlt)
      have f0 := HP.out.frozen k
      have hd : (bv zs).getD k undef = .int .u8 (zs.getD k 0) := by simp [bv, List.getD, List.getElem?_eq_getElem (show k < zs.length by rw [HZ.out.1]; exact hlt)]
      rw [hd] at c0
      clear hd
      have HP2 : Hid (Tb (wr.setCell ⟨pb, k, none⟩ (.int .u8 a0)) 5 pb (bv (zs.set k a0))) := by
        show Tb _ _ _ _
        rw [← bv_set]
        exact HP.out.set _ _
      have HZ2 := hide (pg_set HZ.out k HX.out)
      have H02 : Hid (∀ j, j < 5 → (zs.set k a0).getD j 0 = 0) := fun j hj => by
        rw [getD_seti _ _ _ _ (by rw [HZ.out.1]; exact hlt), if_neg (by omega)]
        exact H0.out j hj
      have HT2 : Hid (Tb (wr.setCell ⟨pb, k, none⟩ (.int .u8 a0)) 28 gb q) := HT.out.but (but_set _ _ _ _) (HT.out.apart HP.out (by decide))
      have HB2 : Hid (Below w.heap.size w (wr.setCell ⟨pb, k, none⟩ (.int .u8 a0))) := Tb.butBelow HB.out HB.out.size k _ HL2.out
      clear HP HZ H0 HT HB
      generalize zs.set k a0 = zs2 at *
      generalize zs.getD k 0 = y at *
      go_wp2_with fail
      go_roundw
      case rel => exact ⟨k + 1, zs2, by omega, by omega, by go_num, HP2, HZ2, H02, HT2, HB2⟩
      case measure => simp [RowKit.intOf]; omega
    · obtain rfl : k = 256 := by omega
      have c0 := HP.out.cell (i := 0) (by rw [bv_len, HZ.out.1]; omega)
      have f0 := HP.out.frozen 0
      have hd : (bv zs).getD 0 undef = .int .u8 (zs.getD 0 0) := by simp [bv, List.getD, List.getElem?_eq_getElem (show 0 < zs.length by rw [HZ.out.1]; omega)]
      rw [hd] at c0
      clear hd hk5 hk hlt
      generalize zs.getD 0 0 = y at *
      obtain ⟨n3, hn3⟩ : ∃ n3, n3 = bits .and .u8 a0 3 := ⟨_, rfl⟩
      have hv0 := H3.out.1
      have hv3 := H3.out.2.1
      rw [← hn3] at hv0 hv3
      have HN3 := hide hn3
      clear hn3
      have HP2 : Hid (Tb (wr.setCell ⟨pb, 0, none⟩ (.int .u8 n3)) 5 pb (bv (zs.set 0 n3))) := by
        show Tb _ _ _ _
        rw [← bv_set]
        exact HP.out.set _ _
      have HZ2 := hide (pg_set HZ.out 0 (x := n3) (by omega))
      have HRel := hide (rel_new HZ.out H0.out hv0 hv3)
      have HT2 : Hid (Tb (wr.setCell ⟨pb, 0, none⟩ (.int .u8 n3)) 28 gb q) := HT.out.but (but_set _ _ _ _) (HT.out.apart HP.out (by decide))
      have HB2 : Hid (Below w.heap.size w (wr.setCell ⟨pb, 0, none⟩ (.int .u8 n3))) := Tb.butBelow HB.out HB.out.size 0 _ HL2.out
      have H30 : Hid ((zs.set 0 n3).getD 0 0 = n3) := by show _ = _; rw [getD_seti _ _ _ _ (by rw [HZ.out.1]; omega), if_pos rfl]
      clear HP HZ H0 HT HB hv0 hv3
      generalize zs.set 0 n3 = pz at *
      go_upto_region 11 with fail
      rw [← HN3.out, show ((256 : Nat) : Int) = 256 from rfl]
      generalize wr.setCell ⟨pb, 0, none⟩ (.int .u8 n3) = x4 at *
      clear c0 f0
      subst hq
      have HK1 := hide (B1.make HT2.out HP2.out HZ2.out (base := w.heap.size) ⟨HL1.out, HL2.out⟩)
      have c1 := HT2.out.cell (i := 1) (by rw [bkz_len]; omega)
      have f1 := HT2.out.frozen 1
      have HB5 := hide (Tb.butBelow HB2.out HB2.out.size 1 (.slice (some ⟨pb, 0, none⟩) 256 256) HL1.out)
      clear HB2 HP2 HT2
      generalize hqq : bkz 0 = q at *
      go_upto_region 12 with fail
      generalize x4.setCell ⟨gb, 1, none⟩ (.slice (some ⟨pb, 0, none⟩) 256 256) = x5 at *
      clear c1 f1
      go_wp2_with fail
      refine (Al.new HK1.out.book HB5.out HB5.out.size HL1.out (zs := pz) rfl HZ2.out).mono ?_
      rintro e x6 ⟨gs, rfl, ha6, hb6⟩
      have HA6 := hide ha6
      have HP6 := hide (HK1.out.own.later hb6)
      clear ha6 hb6 HK1 HB5 HL1
      go_wp2_with (first
        | (refine wpList_alloc32 rfl rfl ?_; intro x7 hb7 ht7; have HSA : Hid (Sa w.heap.size w x7 gs gb pb x6.heap.size pz (fun _ => none) pz (List.replicate 32 false)) := ⟨HA6.out.later hb7, ht7, List.length_replicate, HP6.out.later hb7, HA6.out.duo.big, HL2.out⟩; clear hb7 ht7 HA6 HP6))
      generalize x6.heap.size = ub at *
      generalize List.replicate 32 false = ks0 at *
      go_loopw [11, 12] (fun r i wr => ∃ (j : Nat) (m : Nat → Option (List Int)) (zs : List Int) (ks : List Bool) (rt : Int), j ≤ 60 ∧ j ≤ len1 ∧ i = .int .i64 j ∧ r = .int .i64 rt ∧ Hid (Sa w.heap.size w wr gs gb pb ub pz m zs ks) ∧ Hid (Rel zs pz ks rt)) (fun _ i _ => 60 - (RowKit.intOf i).toNat)
      case atStart => exact ⟨0, _, _, _, _, by omega, by omega, rfl, rfl, HSA, HRel⟩
      case round =>
        clear HSA HRel
        obtain ⟨j, m, zs, ks, rt, hj, hjl, rfl, rfl, HS, HRl⟩ := hrel
        obtain ⟨c16, hc16⟩ : ∃ c, c = decide (j < len1 ∧ j < 60) := ⟨_, rfl⟩
        go_upto_region 16 with fail
        go_cut [67] from 265 (fun s W => s = .bool c16 ∧ W = wr)
        case first =>
          have hx : (¬ j < len1) ∨ (j < len1 ∧ ¬ j < 60) ∨ (j < len1 ∧ j < 60) := by omega
          rcases hx with hx | ⟨hx, hy⟩ | ⟨hx, hy⟩
          all_goals
            go_wp2_with fail
            go_meet
            case rel => exact ⟨(by rw [hc16]; simp [*] <;> omega), rfl⟩
        case rest =>
          obtain ⟨rfl, rfl⟩ := hcut
          cases c16 with
          | false =>
            as_aux_lemma =>
              clear hc16
              go_wp2_with fail
              refine (HS.out.al.duo.page (no := 1) rfl (by omega)).mono ?_
              rw [HS.out.al.one]
              rintro e y4 ⟨v4, rfl, ho4, hp4, hb4⟩
              have HS4 := hide (HS.out.later hb4)
              have hsl := Sl.own ho4 hp4.2
              obtain ⟨b4, c4, us4, rfl, -, hc4, hd4, -, hf4⟩ := own_row ho4
              have HD : Hid (zs.drop 5 = pz.drop 5) := by
                show _ = _
                apply List.ext_getElem
                · rw [List.length_drop, List.length_drop, hp4.1, HZ2.out.1]
                · intro i h1 h2
                  rw [List.length_drop, hp4.1] at h1
                  have := HRl.out.rest (5 + i) (by omega) (by omega)
                  rw [getD_at (by rw [hp4.1]; omega), getD_at (by rw [HZ2.out.1]; omega)] at this
                  rw [List.getElem_drop, List.getElem_drop]
                  exact this
              have HSY : Hid (Sl y4 (.slice (some ⟨b4, 5, none⟩) 251 (c4 - 5)) (pz.drop 5)) := by
                rw [← HD.out]
                exact hsl.rest (l := 5) (by rw [hp4.1]; omega) (some ⟨b4, 5, none⟩) (by rw [if_neg (by omega)]; rfl)
              have HSP : Hid (Sl y4 (.slice (some ⟨pb, 5, none⟩) 251 251) (pz.drop 5)) :=
                (Sl.own (tb_own HS4.out.p HZ2.out (Nat.zero_le _)) HZ2.out.2).rest (l := 5) (by rw [HZ2.out.1]; omega) (some ⟨pb, 5, none⟩) rfl
              have HC4 := hide (hf4 0 (by omega))
              have HE : Hid (bits .and .u8 (zs.getD 0 0) 3 = bits .and .u8 a0 3) := by
                show _ = _
                have h0 := pg_at hp4 (i := 0) (by omega)
                have g0 := HRl.out.low 0 (by omega)
                have g1 := HRl.out.low 1 (by omega)
                unfold us at g0 g1
                rw [H30.out] at g0 g1
                have hn := H3.out
                rw [← HN3.out] at hn
                have hm := and3 (x := n3) hn.1 (by omega)
                rw [(and3 h0.1 h0.2).2.2.1, ← HN3.out]
                rw [HN3.out, ← H3.out.2.2.2, ← HN3.out, hm.2.2.1]
                simp only [Nat.reduceDiv, Nat.reduceMod, Nat.zero_div, Nat.zero_mod] at g0 g1
                rw [g0, g1]
              generalize zs.getD 0 0 = x0 at *
              clear ho4 hp4 hb4 hsl hf4 HS HRl
              go_upto_region 65 with fail
              refine wp_region_noPanic ?_
              refine wp_region_held_drew (S := fun W => Below y4.heap.size y4 W) (by kernel_rfl) ?_ (fun hHeld => ?_)
              · exact (Below.refl _ _).drew
              have HBF := hide (HS4.out.al.duo.bel.trans (hHeld.mono HS4.out.al.duo.big))
              generalize y4.drew = y5 at *
              have hc45 : ¬ c4 = 5 := by omega
              have hsy := HSY.out
              have hsp := HSP.out
              refine wpAnyH_take (i := 0) (v := ?_) rfl (by kernel_rfl) (by kernel_rfl) (by kernel_rfl) (fun _ _ _ h => h) (Or.inl ⟨by kernel_rfl, ?_⟩) hHeld ?_
              rotate_left
              · intro W hW; go_simp; first | done | with_reducible rfl | rfl
              try simp only [Act.put, List.getElem_toArray, List.getElem_cons_zero, List.setIfInBounds_toArray, List.set_cons_succ, List.set_cons_zero]
              refine wpAnyH_take (i := 1) (v := (.pointer (some ⟨b4, 0, none⟩))) rfl (by kernel_rfl) (by kernel_rfl) (by kernel_rfl) (fun _ _ _ h => h) (Or.inl ⟨by kernel_rfl, ?_⟩) hHeld ?_
              · intro W hW; go_simp; first | done | with_reducible rfl | rfl
              try simp only [Act.put, List.getElem_toArray, List.getElem_cons_zero, List.getElem_cons_succ, List.setIfInBounds_toArray, List.set_cons_succ, List.set_cons_zero]
              refine wpAnyH_take (i := 2) (v := .int .u8 x0) rfl (by kernel_rfl) (by kernel_rfl) (by kernel_rfl) (fun _ _ _ h => h) (Or.inl ⟨by kernel_rfl, ?_⟩) hHeld ?_
              · intro W hW; have cc : W.cell? ⟨b4, 0, none⟩ = some (.int .u8 x0) := (by rw [hW.cell (p := ⟨b4, 0, none⟩) (cell_lt HC4.out)]; exact HC4.out); clear hW; go_simp; first | done | with_reducible rfl | rfl
              try simp only [Act.put, List.getElem_toArray, List.getElem_cons_zero, List.getElem_cons_succ, List.setIfInBounds_toArray, List.set_cons_succ, List.set_cons_zero]
              refine wpAnyH_take (i := 3) (v := (.int .u8 (bits .and .u8 x0 3))) rfl (by kernel_rfl) (by kernel_rfl) (by kernel_rfl) (fun _ _ _ h => h) (Or.inl ⟨by kernel_rfl, ?_⟩) hHeld ?_
              · intro W hW; go_simp; first | done | with_reducible rfl | rfl
              try simp only [Act.put, List.getElem_toArray, List.getElem_cons_zero, List.getElem_cons_succ, List.setIfInBounds_toArray, List.set_cons_succ, List.set_cons_zero]
              refine wpAnyH_take (i := 4) (v := ?_) rfl (by kernel_rfl) (by kernel_rfl) (by kernel_rfl) (fun _ _ _ h => h) (Or.inl ⟨by kernel_rfl, ?_⟩) hHeld ?_
              rotate_left
              · intro W hW; go_simp; first | done | with_reducible rfl | rfl
              try simp only [Act.put, List.getElem_toArray, List.getElem_cons_zero, List.getElem_cons_succ, List.setIfInBounds_toArray, List.set_cons_succ, List.set_cons_zero]
              refine wpAnyH_take (i := 5) (v := (.int .u8 (bits .and .u8 a0 3))) rfl (by kernel_rfl) (by kernel_rfl) (by kernel_rfl) (fun _ _ _ h => h) (Or.inl ⟨by kernel_rfl, ?_⟩) hHeld ?_
              · intro W hW; go_simp; first | done | with_reducible rfl | rfl
              try simp only [Act.put, List.getElem_toArray, List.getElem_cons_zero, List.getElem_cons_succ, List.setIfInBounds_toArray, List.set_cons_succ, List.set_cons_zero]
              refine wpAnyH_take (i := 6) (v := .bool true) rfl (by kernel_rfl) (by kernel_rfl) (by kernel_rfl) (fun _ _ _ h => h) (Or.inl ⟨by kernel_rfl, ?_⟩) hHeld ?_
              · intro W hW; have hh := HE.out; clear hW; go_simp; first | done | with_reducible rfl | rfl
              try simp only [Act.put, List.getElem_toArray, List.getElem_cons_zero, List.getElem_cons_succ, List.setIfInBounds_toArray, List.set_cons_succ, List.set_cons_zero]
              refine wpAnyH_take (i := 7) (v := ?_) rfl (by kernel_rfl) (by kernel_rfl) (by kernel_rfl) (fun _ _ _ h => h) (Or.inl ⟨by kernel_rfl, ?_⟩) hHeld ?_
              rotate_left
              · intro W hW; go_simp; first | done | with_reducible rfl | rfl
              try simp only [Act.put, List.getElem_toArray, List.getElem_cons_zero, List.getElem_cons_succ, List.setIfInBounds_toArray, List.set_cons_succ, List.set_cons_zero]
              refine wpAnyH_take (i := 8) (v := ?_) rfl (by kernel_rfl) (by kernel_rfl) (by kernel_rfl) (fun _ _ _ h => h) (Or.inl ⟨by kernel_rfl, ?_⟩) hHeld ?_
              rotate_left
              · intro W hW; go_simp; first | done | with_reducible rfl | rfl
              try simp only [Act.put, List.getElem_toArray, List.getElem_cons_zero, List.getElem_cons_succ, List.setIfInBounds_toArray, List.set_cons_succ, List.set_cons_zero]
              refine wpAnyH_take (i := 9) (v := (.slice (some ⟨b4, 5, none⟩) 251 (c4 - 5))) rfl (by kernel_rfl) (by kernel_rfl) (by kernel_rfl) (fun _ _ _ h => h) (Or.inl ⟨by kernel_rfl, ?_⟩) hHeld ?_
              · intro W hW; go_simp; first | done | with_reducible rfl | rfl
              try simp only [Act.put, List.getElem_toArray, List.getElem_cons_zero, List.getElem_cons_succ, List.setIfInBounds_toArray, List.set_cons_succ, List.set_cons_zero]
              refine wpAnyH_take (i := 10) (v := .string (strOfNums ((pz.drop 5)))) rfl (by kernel_rfl) (by kernel_rfl) (by kernel_rfl) (fun _ _ _ h => h) (Or.inl ⟨by kernel_rfl, ?_⟩) hHeld ?_
              · intro W hW; have hcv := (hsy.later hW).conv (P := Try.prog) 25 9 5 Try.underlying25 Try.underlying5 Try.underlying9; go_simp
              try simp only [Act.put, List.getElem_toArray, List.getElem_cons_zero, List.getElem_cons_succ, List.setIfInBounds_toArray, List.set_cons_succ, List.set_cons_zero]
              refine wpAnyH_take (i := 11) (v := ?_) rfl (by kernel_rfl) (by kernel_rfl) (by kernel_rfl) (fun _ _ _ h => h) (Or.inl ⟨by kernel_rfl, ?_⟩) hHeld ?_
              rotate_left
              · intro W hW; go_simp; first | done | with_reducible rfl | rfl
              try simp only [Act.put, List.getElem_toArray, List.getElem_cons_zero, List.getElem_cons_succ, List.setIfInBounds_toArray, List.set_cons_succ, List.set_cons_zero]
              refine wpAnyH_take (i := 12) (v := (.slice (some ⟨pb, 5, none⟩) 251 251)) rfl (by kernel_rfl) (by kernel_rfl) (by kernel_rfl) (fun _ _ _ h => h) (Or.inl ⟨by kernel_rfl, ?_⟩) hHeld ?_
              · intro W hW; go_simp; first | done | with_reducible rfl | rfl
              try simp only [Act.put, List.getElem_toArray, List.getElem_cons_zero, List.getElem_cons_succ, List.setIfInBounds_toArray, List.set_cons_succ, List.set_cons_zero]
              refine wpAnyH_take (i := 13) (v := .string (strOfNums ((pz.drop 5)))) rfl (by kernel_rfl) (by kernel_rfl) (by kernel_rfl) (fun _ _ _ h => h) (Or.inl ⟨by kernel_rfl, ?_⟩) hHeld ?_
              · intro W hW; have hcv := (hsp.later hW).conv (P := Try.prog) 25 9 5 Try.underlying25 Try.underlying5 Try.underlying9; go_simp
              try simp only [Act.put, List.getElem_toArray, List.getElem_cons_zero, List.getElem_cons_succ, List.setIfInBounds_toArray, List.set_cons_succ, List.set_cons_zero]
              refine wpAnyH_take (i := 14) (v := (.bool true)) rfl (by kernel_rfl) (by kernel_rfl) (by kernel_rfl) (fun _ _ _ h => h) (Or.inl ⟨by kernel_rfl, ?_⟩) hHeld ?_
              · intro W hW; go_simp; first | done | with_reducible rfl | rfl
              try simp only [Act.put, List.getElem_toArray, List.getElem_cons_zero, List.getElem_cons_succ, List.setIfInBounds_toArray, List.set_cons_succ, List.set_cons_zero]
              refine wpAnyH_take (i := 15) (v := (.bool true)) rfl (by kernel_rfl) (by kernel_rfl) (by kernel_rfl) (fun _ _ _ h => h) (Or.inl ⟨by kernel_rfl, ?_⟩) hHeld ?_
              · intro W hW; go_simp; first | done | with_reducible rfl | rfl
              try simp only [Act.put, List.getElem_toArray, List.getElem_cons_zero, List.getElem_cons_succ, List.setIfInBounds_toArray, List.set_cons_succ, List.set_cons_zero]
              refine wpAnyH_take (i := 16) (v := ?_) rfl (by kernel_rfl) (by kernel_rfl) (by kernel_rfl) (fun _ _ _ h => h) (Or.inl ⟨by kernel_rfl, ?_⟩) hHeld ?_
              rotate_left
              · intro W hW; go_simp; first | done | with_reducible rfl | rfl
              try simp only [Act.put, List.getElem_toArray, List.getElem_cons_zero, List.getElem_cons_succ, List.setIfInBounds_toArray, List.set_cons_succ, List.set_cons_zero]
              refine wpAnyH_done (by kernel_rfl) ?_ _
              refine NoPanic.normal ?_
              go_simp
              clear hHeld hsy hsp
              go_wp2_with fail
              go_ret
              exact ⟨rfl, HBF.out⟩
          | true =>
            obtain ⟨t1, t2⟩ : j < len1 ∧ j < 60 := by simpa using hc16.symm
            clear hc16
            obtain ⟨bo1, oo1, kind, z, rfl, HQ⟩ := HI.out.at_ t1
            obtain ⟨q0, q1⟩ := HQ.out wc HS.out.al.duo.bel
            have hk0 := q0
            go_upto_region 19 with (first
              | (refine wpList_loadO (.tmp 72) rfl rfl bo1 (oo1 + j * 2) kind z rfl q0 q1 ?_)
              | (refine wpList_allocO rfl rfl ?_; intro y2 hb2 ht2)
              | (refine wpList_storeO (.tmp 13) (.tmp 73) rfl rfl wc.heap.size kind z [.int .i64 0, .int .i64 0] rfl rfl ht2 rfl ?_; intro y3 hb3 ht3; have HSB : Hid (Sb w.heap.size w y3 gs gb pb ub wc.heap.size pz m zs ks kind z) := ⟨HS.out.later (Below.but hb2 hb2.size hb3 (fun k e => by omega)), ht3⟩; clear hb3 ht3))
            generalize wc.heap.size = ob at *
            clear q0 q1 hk0 HQ ht2 hb2
            simp only [Act.put, List.setIfInBounds_toArray, List.set_cons_succ, List.set_cons_zero]
            have q0 := HSB.out.sort
            go_upto_block 4 with fail
            go_cut [11] (fun r W => ∃ (m' : Nat → Option (List Int)) (zs' : List Int) (ks' : List Bool) (rt' : Int), r = .int .i64 rt' ∧ Hid (Sa w.heap.size w W gs gb pb ub pz m' zs' ks') ∧ Hid (Rel zs' pz ks' rt'))
            case first =>
              clear HS q0
              by_cases hk0 : kind = 0
              · as_aux_lemma =>
                  subst hk0
                  have HPZ : Hid (Pg zs) := HSB.out.sa.al.pg
                  have HLK : Hid (ks.length = 32) := HSB.out.sa.len
                  go_wp2_with fail
                  go_loopw [14, 15] (fun wv kv wr => ∃ t a : Nat, 1 ≤ t ∧ t ≤ 31 ∧ kv = .int .i64 t ∧ wv = .int .i64 a ∧ wr = y3 ∧ Hid (Wnt ks t a)) (fun _ kv _ => (RowKit.intOf kv).toNat)
                  case atStart => exact ⟨31, 0, by omega, by omega, rfl, rfl, rfl, .inl ⟨rfl, fun q h1 h2 => by omega⟩⟩
                  case round =>
                    obtain ⟨t, a, ht1, ht31, rfl, rfl, rfl, HW⟩ := hrel
                    by_cases h2 : 2 ≤ t
                    · have c0 := (HSB.out.sa.cell (i := t) (by omega)).1
                      have hti : 2 ≤ (t : Int) := by omega
                      have ht32 : (t : Int) < 32 := by omega
                      cases hu : ks.getD t false
                      all_goals
                        have HU := hide hu
                        rw [hu] at c0
                        clear hu
                        go_wp2_with fail
                        go_roundw
                        case measure => simp [RowKit.intOf]; omega
                      case rel => exact ⟨t - 1, t, by omega, by omega, by go_num, by first | rfl | trivial, by first | rfl | trivial, Wnt.no (by omega) (by omega) HU.out⟩
                      case rel => exact ⟨t - 1, a, by omega, by omega, by go_num, by first | rfl | trivial, by first | rfl | trivial, HW.out.yes (by omega) HU.out⟩
                    · obtain rfl : t = 1 := by omega
                      rcases HW.out with ⟨rfl, h1⟩ | ⟨ha1, ha32, h3, h4⟩
                      · have HF : Hid (∀ k, 2 ≤ k → k < 32 → us zs k = true) := fun k q1 q2 => by rw [HRl.out.use_ k q1 q2]; exact h1 k (by omega) q2
                        clear h1 HW
                        go_wp2_with fail
                        refine (HSB.out.sa.al.takeNone HF.out).mono ?_
                        rintro e y4 ⟨rfl, hb⟩
                        have HS4 := hide (HSB.out.sa.later hb)
                        clear hb HSB HF
                        go_wp2_with fail
                        go_meet
                        case rel => exact ⟨m, zs, ks, rt, rfl, HS4, HRl⟩
                      · have HU : Hid (us zs a = false) := by show _ = _; rw [HRl.out.use_ a (by omega) ha32]; exact h3
                        have HF : Hid (∀ k, 2 ≤ k → k < a → us zs k = true) := fun k q1 q2 => by rw [HRl.out.use_ k q1 (by omega)]; exact h4 k (by omega) q2
                        have ha0 : (0 : Int) < (a : Int) := by omega
                        have hai : (a : Int) < 32 := by omega
                        have H3 := hide h3
                        clear h3 h4 HW
                        go_wp2_with fail
                        refine (HSB.out.sa.al.takeAt (a := a) ⟨ha1, ha32⟩ HU.out HF.out).mono ?_
                        rintro e y4 ⟨rfl, ha4, hb4⟩
                        have HS4 := hide (HSB.out.turn ha4 hb4)
                        obtain ⟨c0, f0⟩ := HS4.out.sa.cell (i := a) ha32
                        rw [H3.out] at c0
                        clear ha4 hb4 HSB HU HF
                        go_upto_region 37 with fail
                        have HS5 := hide (HS4.out.set a true)
                        clear HS4 c0 f0
                        generalize y4.setCell ⟨ub, a, none⟩ (.bool true) = y5 at *
                        go_wp2_with fail
                        refine (HS5.out.sa.al.duo.page (no := a) rfl (by omega)).mono ?_
                        rw [show orE (put1 (put1 m a zer) 1 (mark zs a)) (bookF 0 (put1 (fun _ => none) 1 pz)) a = some zer by simp [orE, put1_other _ (show a ≠ 1 by omega), put1_same]]
                        rintro e y6 ⟨v6, rfl, ho6, -, hb6⟩
                        have HV6 := hide (Sl.own ho6 zer_bd)
                        obtain ⟨b6, c6, us6, rfl, hl6, hc6, hd6, ht6, hf6⟩ := own_row ho6
                        have HO6 := hide ho6
                        have HB6 := hide hb6
                        have HL6 := hide hl6
                        have HT6 := hide ht6
                        have HC6 : Hid (y6.cell? ⟨b6, 0, none⟩ = some (.int .u8 0)) := hf6 0 (by omega)
                        clear ho6 hb6 hl6 ht6 hf6
                        go_upto_region 38 with fail
                        refine wp_region_noPanic ?_
                        refine wp_region_held_drew (S := fun W => Below y6.heap.size y6 W) (by kernel_rfl) ?_ (fun hHeld => ?_)
                        · exact (Below.refl _ _).drew
                        generalize y6.drew = y7 at *
                        have hs6 := HV6.out
                        refine wpAnyH_take (i := 0) (v := ?_) rfl (by kernel_rfl) (by kernel_rfl) (by kernel_rfl) (fun _ _ _ h => h) (Or.inl ⟨by kernel_rfl, ?_⟩) hHeld ?_
                        rotate_left
                        · intro W hW; go_simp; first | done | with_reducible rfl | rfl
                        try simp only [Act.put, List.getElem_toArray, List.getElem_cons_zero, List.setIfInBounds_toArray, List.set_cons_succ, List.set_cons_zero]
                        refine wpAnyH_take (i := 1) (v := (.bool false)) rfl (by kernel_rfl) (by kernel_rfl) (by kernel_rfl) (fun _ _ _ h => h) (Or.inl ⟨by kernel_rfl, ?_⟩) hHeld ?_
                        · intro W hW; go_simp; first | done | with_reducible rfl | rfl
                        try simp only [Act.put, List.getElem_toArray, List.getElem_cons_zero, List.getElem_cons_succ, List.setIfInBounds_toArray, List.set_cons_succ, List.set_cons_zero]
                        refine wpAnyH_take (i := 2) (v := ?_) rfl (by kernel_rfl) (by kernel_rfl) (by kernel_rfl) (fun _ _ _ h => h) (Or.inl ⟨by kernel_rfl, ?_⟩) hHeld ?_
                        rotate_left
                        · intro W hW; go_simp; first | done | with_reducible rfl | rfl
                        try simp only [Act.put, List.getElem_toArray, List.getElem_cons_zero, List.getElem_cons_succ, List.setIfInBounds_toArray, List.set_cons_succ, List.set_cons_zero]
                        refine wpAnyH_take (i := 3) (v := ?_) rfl (by kernel_rfl) (by kernel_rfl) (by kernel_rfl) (fun _ _ _ h => h) (Or.inl ⟨by kernel_rfl, ?_⟩) hHeld ?_
                        rotate_left
                        · intro W hW; go_simp; first | done | with_reducible rfl | rfl
                        try simp only [Act.put, List.getElem_toArray, List.getElem_cons_zero, List.getElem_cons_succ, List.setIfInBounds_toArray, List.set_cons_succ, List.set_cons_zero]
                        refine wpAnyH_take (i := 4) (v := .string (strOfNums (zer))) rfl (by kernel_rfl) (by kernel_rfl) (by kernel_rfl) (fun _ _ _ h => h) (Or.inl ⟨by kernel_rfl, ?_⟩) hHeld ?_
                        · intro W hW; have hcv := (hs6.later hW).conv (P := Try.prog) 25 9 5 Try.underlying25 Try.underlying5 Try.underlying9; go_simp
                        try simp only [Act.put, List.getElem_toArray, List.getElem_cons_zero, List.getElem_cons_succ, List.setIfInBounds_toArray, List.set_cons_succ, List.set_cons_zero]
                        have hmk := fun (w : World) => run_make (P := Try.prog) w 25 5 i0 (.int .u8 0) Try.underlying25 hi hz0 .i64 .i64 256 256 (by omega) (by omega) (by rw [hz2]; omega) (by omega)
                        refine wpAnyH_ready (rs := [5]) (by kernel_rfl) (by simp) ?_
                        refine AllReadyH.cons (o := _) rfl (fun K hK => ?_) AllReadyH.nil
                        go_simp
                        clear hmk
                        have hA := made_tb y7
                        have hb := below_alloc y7 (.cells (madeCells #[Value.int IntKind.u8 0] 256) 5)
                        refine hK.out _ _ (hHeld.trans (hb.mono hHeld.size)) (fun hHeld2 => ?_)
                        clear hK K hHeld hb hs6
                        generalize y7.alloc (.cells (madeCells #[Value.int IntKind.u8 0] 256) 5) = y8 at *
                        generalize y7.heap.size = bm at *
                        try simp only [Act.put, List.getElem_toArray, List.getElem_cons_zero, List.getElem_cons_succ, List.setIfInBounds_toArray, List.set_cons_succ, List.set_cons_zero]
                        refine held_mono (S' := fun W => Below y8.heap.size y8 W) (fun W h => hHeld2.trans (h.mono hHeld2.size)) _ _ _ _ ?_
                        have hs8 : Sl y8 (.slice (some ⟨bm, 0, none⟩) 256 256) zer := Sl.own (tb_own hA zer_pg (Nat.zero_le _)) zer_bd
                        have HB8 := hide hHeld2
                        have hHeld : Below y8.heap.size y8 y8 := Below.refl _ _
                        clear hHeld2 hA
                        refine wpAnyH_take (i := 6) (v := .string (strOfNums (zer))) rfl (by kernel_rfl) (by kernel_rfl) (by kernel_rfl) (fun _ _ _ h => h) (Or.inl ⟨by kernel_rfl, ?_⟩) hHeld ?_
                        · intro W hW; have hcv := (hs8.later hW).conv (P := Try.prog) 25 9 5 Try.underlying25 Try.underlying5 Try.underlying9; go_simp
                        try simp only [Act.put, List.getElem_toArray, List.getElem_cons_zero, List.getElem_cons_succ, List.setIfInBounds_toArray, List.set_cons_succ, List.set_cons_zero]
                        clear hs8
                        refine wpAnyH_take (i := 7) (v := (.bool false)) rfl (by kernel_rfl) (by kernel_rfl) (by kernel_rfl) (fun _ _ _ h => h) (Or.inl ⟨by kernel_rfl, ?_⟩) hHeld ?_
                        · intro W hW; go_simp; first | done | with_reducible rfl | rfl
                        try simp only [Act.put, List.getElem_toArray, List.getElem_cons_zero, List.getElem_cons_succ, List.setIfInBounds_toArray, List.set_cons_succ, List.set_cons_zero]
                        refine wpAnyH_take (i := 8) (v := (.bool false)) rfl (by kernel_rfl) (by kernel_rfl) (by kernel_rfl) (fun _ _ _ h => h) (Or.inl ⟨by kernel_rfl, ?_⟩) hHeld ?_
                        · intro W hW; go_simp; first | done | with_reducible rfl | rfl
                        try simp only [Act.put, List.getElem_toArray, List.getElem_cons_zero, List.getElem_cons_succ, List.setIfInBounds_toArray, List.set_cons_succ, List.set_cons_zero]
                        refine wpAnyH_done (by kernel_rfl) ?_ _
                        refine NoPanic.normal ?_
                        go_simp
                        clear hHeld
                        have c0 : y8.cell? ⟨b6, 0, none⟩ = some (.int .u8 0) := by rw [HB8.out.cell (p := ⟨b6, 0, none⟩) (cell_lt HC6.out)]; exact HC6.out
                        have f0 := (HT6.out.later HB8.out).frozen 0
                        have HO8 := hide (own_later HO6.out HB8.out)
                        have HS8 : Hid (Sb w.heap.size w (y8.setCell ⟨b6, 0, none⟩ (.int .u8 7)) gs gb pb ub ob pz (put1 (put1 m a zer) 1 (mark zs a)) (mark zs a) (ks.set a true) 0 z) :=
                          HS5.out.later (Below.but (HB6.out.trans (HB8.out.mono HB6.out.size)) (Nat.le_trans HB6.out.size HB8.out.size) (but_set y8 b6 0 _) (fun i e => by have := HL6.out; omega))
                        have HO9 := hide (own_seti HO8.out 0 7)
                        have HP9 := hide (pg_set zer_pg 0 (x := 7) (by omega))
                        clear HO8 HO6 HB6 HB8 HC6 HT6 HL6 HV6 HS5
                        generalize zer.set 0 7 = z7 at *
                        go_upto_region 41 with fail
                        clear c0 f0
                        generalize y8.setCell ⟨b6, 0, none⟩ (.int .u8 7) = y9 at *
                        go_wp2_with fail
                        obtain ⟨vs9, hs9⟩ := HS8.out.sa.al.duo.sheet
                        refine (set_any hs9 a (by omega) (Sl.own HO9.out HP9.out.2) HP9.out).mono ?_
                        rintro e y10 ⟨rfl, vs10, hs10, hb10⟩
                        have HS10 := hide (HS8.out.sa.turn (HS8.out.sa.al.turn hs10 hb10 (by rw [put1_other _ (show 1 ≠ a by omega), put1_same]) HS8.out.sa.al.pg) hb10)
                        have HR10 := hide (HRl.out.mark HPZ.out HLK.out (a := a) ⟨ha1, ha32⟩)
                        clear hs9 hs10 hb10 HS8 HO9
                        go_wp2_with fail
                        go_meet
                        case rel => exact ⟨_, _, _, rt, rfl, HS10, HR10⟩
              · by_cases hk1 : kind = 1
                · as_aux_lemma =>
                    subst hk1
                    have q1 := HSB.out.no
                    generalize hc : inU zs z = c20
                    have HC := hide hc
                    clear hc hk0
                    go_upto_region 43 with fail
                    go_cut [20] from 265 (fun s W => s = .bool c20 ∧ W = y3)
                    case first =>
                      have hx : (¬ 2 ≤ z) ∨ (2 ≤ z ∧ ¬ z ≤ 31) ∨ (2 ≤ z ∧ z ≤ 31) := by omega
                      rcases hx with hx | ⟨hx, hy⟩ | ⟨hx, hy⟩
                      · have e := HC.out
                        rw [inU_out _ (by omega)] at e
                        subst e
                        clear HC HSB HRl
                        go_wp2_with fail
                        go_meet
                        case rel => exact ⟨rfl, rfl⟩
                      · have e := HC.out
                        rw [inU_out _ (by omega)] at e
                        subst e
                        clear HC HSB HRl
                        go_wp2_with fail
                        go_meet
                        case rel => exact ⟨rfl, rfl⟩
                      · obtain ⟨no, rfl⟩ := Int.eq_ofNat_of_zero_le (show 0 ≤ z by omega)
                        have c0 := (HSB.out.sa.cell (i := no) (by omega)).1
                        rw [← HRl.out.use_ no (by omega) (by omega), ← inU_in zs (no := no) (by omega), HC.out] at c0
                        have hK32 : (no : Int) < 32 := by omega
                        clear HC HSB HRl
                        go_wp2_with fail
                        go_meet
                        case rel => exact ⟨rfl, rfl⟩
                    case rest =>
                      obtain ⟨rfl, rfl⟩ := hcut
                      cases c20 with
                      | false =>
                        go_wp2_with fail
                        refine (Al.freeNot HSB.out.sa.al HC.out).mono ?_
                        rintro e y4 ⟨rfl, hb⟩
                        have HS4 := hide (HSB.out.sa.later hb)
                        clear hb HSB HC q1
                        go_wp2_with fail
                        go_meet
                        case rel => exact ⟨m, zs, ks, rt, rfl, HS4, HRl⟩
                      | true =>
                        have hr : 2 ≤ z ∧ z < 32 := by
                          apply Classical.byContradiction
                          intro hn
                          have := HC.out
                          rw [inU_out zs hn] at this
                          cases this
                        obtain ⟨no, rfl⟩ := Int.eq_ofNat_of_zero_le (show 0 ≤ z by omega)
                        have hno : 2 ≤ no ∧ no < 32 := by omega
                        have HU : Hid (us zs no = true) := by show _ = _; rw [← inU_in zs hno]; exact HC.out
                        obtain ⟨c0, f0⟩ := HSB.out.sa.cell (i := no) hno.2
                        have h32 : (no : Int) < 32 := hr.2
                        have HS4 := hide (HSB.out.set no false)
                        clear HC hr
                        generalize ks.getD no false = kb at *
                        go_upto_region 48 with fail
                        clear c0 f0 q1 HSB
                        generalize wc.setCell ⟨ub, no, none⟩ (.bool false) = y4 at *
                        have q1 := HS4.out.no
                        go_wp2_with fail
                        refine (HS4.out.sa.al.free (no := no) rfl hno HU.out).mono ?_
                        rintro e y5 ⟨rfl, ha5, hb5⟩
                        have HR5 := hide (HRl.out.strike HS4.out.sa.al.pg (by have := HS4.out.sa.len; rwa [List.length_set] at this) hno)
                        have HS5 := hide (HS4.out.sa.turn ha5 hb5)
                        clear ha5 hb5 HS4 q1 HU
                        go_wp2_with fail
                        go_meet
                        case rel => exact ⟨_, _, _, rt, rfl, HS5, HR5⟩
                · as_aux_lemma =>
                    have hk0b : (kind == 0) = false := by simpa using hk0
                    have hk1b : (kind == 1) = false := by simpa using hk1
                    have q1 := HSB.out.no
                    generalize hc : mb z = c22
                    have HC := hide hc
                    clear hc hk0 hk1
                    go_upto_region 20 with fail
                    go_cut [22] from 265 (fun s W => s = .bool c22 ∧ W = y3)
                    case first =>
                      have hx : z = 0 ∨ (z ≠ 0 ∧ ¬ 2 ≤ z) ∨ (2 ≤ z ∧ ¬ z ≤ 31) ∨ (2 ≤ z ∧ z ≤ 31) := by omega
                      rcases hx with rfl | ⟨hz0', hx⟩ | ⟨hx, hy⟩ | ⟨hx, hy⟩
                      · have e : true = c22 := HC.out
                        subst e
                        clear HC HSB HRl
                        go_wp2_with fail
                        go_meet
                        case rel => exact ⟨rfl, rfl⟩
                      · have e := HC.out
                        rw [show mb z = false by simp [mb]; omega] at e
                        subst e
                        have hzb : (z == 0) = false := by simpa using hz0'
                        clear HC HSB HRl hz0'
                        go_wp2_with fail
                        go_meet
                        case rel => exact ⟨rfl, rfl⟩
                      · have e := HC.out
                        rw [show mb z = false by simp [mb]; omega] at e
                        subst e
                        have hzb : (z == 0) = false := by simp; omega
                        clear HC HSB HRl
                        go_wp2_with fail
                        go_meet
                        case rel => exact ⟨rfl, rfl⟩
                      · have e := HC.out
                        rw [show mb z = true by simp [mb]; omega] at e
                        subst e
                        have hzb : (z == 0) = false := by simp; omega
                        clear HC HSB HRl
                        go_wp2_with fail
                        go_meet
                        case rel => exact ⟨rfl, rfl⟩
                    case rest =>
                      obtain ⟨rfl, rfl⟩ := hcut
                      cases c22 with
                      | false =>
                        go_wp2_with fail
                        obtain ⟨vs3, hs3⟩ := HSB.out.sa.al.duo.sheet
                        refine (setroot_out hs3 HC.out).mono ?_
                        clear hs3
                        rintro e y4 ⟨rfl, rfl⟩
                        have HS4 := hide HSB.out.sa
                        clear HSB HC q1
                        go_wp2_with fail
                        go_meet
                        case rel => exact ⟨m, zs, ks, rt, rfl, HS4, HRl⟩
                      | true =>
                        go_wp2_with fail
                        refine (HSB.out.sa.al.setRoot HC.out).mono ?_
                        rintro e y4 ⟨rfl, ha4, hb4⟩
                        have HR4 := hide (HRl.out.put HSB.out.sa.al.pg HC.out)
                        have HS4 := hide (HSB.out.turn ha4 hb4)
                        clear ha4 hb4 HSB q1 HC
                        have q1 := HS4.out.no
                        go_wp2_with fail
                        go_meet
                        case rel => exact ⟨_, _, _, z, rfl, hide HS4.out.sa, HR4⟩
            case rest =>
              clear HS HSB q0
              obtain ⟨m', zs', ks', rt', rfl, HS, HR⟩ := hcut
              clear HRl
              go_wp2_with fail
              go_loopw [23, 24] (fun n i wr => ∃ t : Nat, t ≤ 35 ∧ i = .int .i64 ((t : Int) - 1) ∧ n = .int .i64 (nu (us zs') (min (t - 1) 32) : Nat) ∧ Hid (Below wc.heap.size wc wr)) (fun _ i _ => (34 - RowKit.intOf i).toNat)
              case atStart => exact ⟨0, by omega, rfl, rfl, Below.refl _ _⟩
              case round =>
                obtain ⟨t, ht, rfl, rfl, HB⟩ := hrel
                as_aux_lemma =>
                  have HS2 := hide (HS.out.later HB.out)
                  obtain ⟨K, hK⟩ : ∃ K : Int, K = (t : Int) - 1 := ⟨_, rfl⟩
                  rw [← hK]
                  by_cases htl : t < 35
                  · have hK33 : K ≤ 33 := by omega
                    have HN := hide (nu_step zs' t K hK htl)
                    generalize nu (us zs') (min (t - 1) 32) = nn at *
                    have hn32 : nn ≤ 32 := HN.out.2
                    have hKl : -1 ≤ K := by omega
                    have HK := hide hK
                    clear hK htl
                    generalize hc : inU zs' K = c25 at HN
                    have HC := hide hc
                    clear hc
                    go_upto_region 54 with fail
                    go_cut [25] from 265 (fun s W => s = .bool c25 ∧ W = wr)
                    case first =>
                      have hx : (¬ 2 ≤ K) ∨ (2 ≤ K ∧ ¬ K ≤ 31) ∨ (2 ≤ K ∧ K ≤ 31) := by omega
                      rcases hx with hx | ⟨hx, hy⟩ | ⟨hx, hy⟩
                      · have e := HC.out
                        rw [inU_out _ (by omega)] at e
                        subst e
                        clear HN HC HK HB HS2
                        go_wp2_with fail
                        go_meet
                        case rel => exact ⟨rfl, rfl⟩
                      · have e := HC.out
                        rw [inU_out _ (by omega)] at e
                        subst e
                        clear HN HC HK HB HS2
                        go_wp2_with fail
                        go_meet
                        case rel => exact ⟨rfl, rfl⟩
                      · obtain ⟨no, rfl⟩ := Int.eq_ofNat_of_zero_le (show 0 ≤ K by omega)
                        have c0 := (HS2.out.cell (i := no) (by omega)).1
                        rw [← HR.out.use_ no (by omega) (by omega), ← inU_in zs' (no := no) (by omega), HC.out] at c0
                        have hK32 : (no : Int) < 32 := by omega
                        clear HN HC HK HB HS2
                        go_wp2_with fail
                        go_meet
                        case rel => exact ⟨rfl, rfl⟩
                    case rest =>
                      obtain ⟨rfl, rfl⟩ := hcut
                      cases c25
                      all_goals
                        go_wp2_with fail
                        refine (Al.usedI HS2.out.al K).mono ?_
                        rw [HC.out]
                        rintro e wq ⟨rfl, hb⟩
                        have HBq := hide (HB.out.trans (hb.mono HB.out.size))
                        clear hb HB HS2 HC
                        go_wp2_with fail
                        go_roundw
                        case measure => simp [RowKit.intOf]; omega
                        case rel => exact ⟨t + 1, by have := HK.out; omega, by rw [show ((t + 1 : Nat) : Int) - 1 = K + 1 by have := HK.out; omega], by rw [HN.out.1]; first | rfl | (refine congrArg _ ?_; simp), HBq⟩
                  · obtain rfl : t = 35 := by omega
                    obtain rfl : K = 34 := by omega
                    rw [show nu (us zs') (min (35 - 1) 32) = nu (us zs') 32 from rfl]
                    go_wp2_with fail
                    refine HS2.out.al.count.mono ?_
                    rintro e wq ⟨rfl, hb⟩
                    have HS3 := hide (HS2.out.later hb)
                    clear hb HB HS2
                    go_wp2_with fail
                    refine (HS3.out.al.root HR.out.root HR.out.may).mono ?_
                    rintro e wq2 ⟨rfl, hb⟩
                    have HS4 := hide (HS3.out.later hb)
                    clear hb HS3
                    go_wp2_with fail
                    go_roundw
                    case rel => exact ⟨j + 1, _, _, _, _, by omega, by omega, by go_num, rfl, HS4, HR⟩
                    case measure => simp [RowKit.intOf]; omega

set_option maxRecDepth 100000 in
theorem lifted (os : Os) (started : os.Started) (H : Type) (enc : TypeId × Value → H) :
    ReturnsInHanded {} Try.checked os 3 .any (Rows.allocAllSpec.pre6 enc Try.prog Try.f3 Rows.allocAllRow.domain false) (Rows.allocAllSpec.post enc Try.prog Try.f3 false true false false) := by
  refine returnsInHanded_of_change (C := Try.checked) own started (by kernel_rfl) Try.func3
    (ChangeSpec.witness6 (enc := enc) (C := Try.checked) false ⟨#[], #[.int .u8 0, .slice none 0 0], []⟩ 8 (by kernel_rfl) (by kernel_rfl) (by kernel_rfl) (by kernel_rfl)) ?_
  intro W base args ds gs before hval0 hW hcnd _
  have hval : ∀ (j : Nat) t v, Try.f3.params[j]? = some t → args[j]? = some v → Value.okWide Try.prog W .any base t v := hval0
  have hW' := hW
  obtain ⟨p, q, hA0, hV, rfl, hfz, hnd⟩ := hW
  have hA : DataW.TrodAll enc Try.prog W 0 (fun _ => true) true Try.f3.params.toList args.toList ds p := hA0
  rw [Try.params3] at hA hval
  obtain ⟨v0, vs0, d0, ds0, p0, q0, hargs, rfl, rfl, h0, r0⟩ := trodAll_cons hA
  obtain ⟨v1, vs1, d1, ds1, p1, q1, rfl, rfl, rfl, h1, r1⟩ := trodAll_cons r0
  obtain ⟨rfl, rfl, rfl⟩ := trodAll_nil r1
  obtain rfl : args = #[v0, v1] := by cases args; simp_all
  obtain ⟨rfl, rfl⟩ := trodVars_none hV
  obtain ⟨a0, rfl, rfl, rfl, w0⟩ := open_int Try.underlying5 (hval 0 5 v0 rfl rfl) h0
  obtain ⟨a1, len1, cap1, rfl⟩ := okWide_slice Try.underlying22 (hval 1 22 v1 rfl rfl)
  have k1 := h1
  have lt1 : ∀ x ∈ p1, x.block < W.heap.size := by obtain ⟨m, hm⟩ := k1; exact DataW.trod_lt m _ _ _ hm
  obtain ⟨z1, w1⟩ : ∃ zs, Ops W (.slice a1 len1 cap1) zs := by
    obtain ⟨fuel, hf⟩ := h1
    obtain ⟨a, len, cap, zs, hcs, hz⟩ := open_Op hf
    simp [Value.cells] at hcs
    obtain ⟨rfl, rfl, rfl⟩ := hcs
    exact ⟨zs, hz⟩
  clear hA0 hval0
  refine (walk a0 a1 len1 cap1 z1 W w0 w1).mono fun e W' ⟨he, bel⟩ => ?_
  subst he
  exact ⟨_, rfl, _, _, _, [], _, [], hW', trodAll_mk1 (shut_bool Try.underlying4 _), (trodAll_cons_mk (shut_int Try.underlying5 w0) (trodAll_cons_mk (Below.trod laidOut (by kernel_rfl) (of_decide_eq_true (by kernel_rfl)) k1 bel lt1) trodAll_mk0)), rfl, bel.frame _, fun h => by cases h⟩

theorem over : Rows.allocAllRow.holds Try.pinned (OpenSpec.ofChange Rows.allocAllSpec) :=
  OpenClaim.holds_of_wide 3 Try.f3 rfl rfl rfl rfl rfl rfl rfl ⟨rfl, rfl, rfl, rfl, rfl⟩ rfl rfl rfl rfl rfl (by kernel_rfl) Try.func3 (by kernel_rfl)
    (of_decide_eq_true (by kernel_rfl)) (by unfold Func.isWrapper; first | (rw [if_pos (by decide +kernel)]; kernel_rfl) | (rw [if_neg (by decide +kernel)]; exact ⟨rfl, rfl⟩))
    (fun os started H enc _ => lifted os started H enc)

theorem proved : Rows.AllocAllSaid := over
#print axioms proved
end Go.Proofs.Ytiggannhanfolaa.allocAll
