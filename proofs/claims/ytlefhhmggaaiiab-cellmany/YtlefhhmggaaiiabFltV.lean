/-
  Contracts of float.Bytes and float.Of over the translated program.
-/
import Derived.Test.YtlefhhmggaaiiabFltW
import Derived.Test.YtlefhhmggaaiiabInf
namespace Go.Proofs.Ytlefhhmggaaiiab
open Go.RowKit

set_option maxHeartbeats 1000000 in
theorem bytes_any (x : Nat) (w : World) (hx : x < 18446744073709551616) :
    Calls Try.prog 39 #[.float .f64 x] w fun e w' => ∃ v, e = .returned v ∧ w'.ownsRow w.heap.size 5 1 v 8 (bv (Fl.be (Fl.rk x))) ∧ Below w.heap.size w w' := by
  obtain ⟨i0, hi, hz0, hz1, hz2⟩ := info_parts Try.info5
  have hr := Fl.rk_bd hx
  obtain ⟨x5, hmk, ho5, hg5⟩ := run_make_full (P := Try.prog) w w.heap.size 24 5 i0 (.int .u8 0) 1 Try.underlying24 hi hz0 hz1 .i64 .i64 8 (by rw [hz2]; omega) (by unfold maxLen; omega) (Nat.le_refl _)
  rw [show ((8 : Nat) : Int) = 8 from rfl] at hmk
  have HO : Hid (x5.ownsRow w.heap.size 5 1 (.slice (some ⟨w.heap.size, 0, none⟩) 8 8) 8 (bv (Fl.fill (Fl.be (Fl.rk x)) 0))) := by
    show World.ownsRow _ _ _ _ _ _ _
    rw [Fl.fill_zero, Fl.be_len]
    have e : (madeCells (Value.int IntKind.u8 0).cells (8 * 1)).toList = bv (List.replicate 8 0) := by
      rw [Nat.mul_one]
      show (madeCells #[Value.int IntKind.u8 0] 8).toList = _
      rw [toList_madeCells_one]
      simp [bv]
    rw [e] at ho5
    exact ho5
  have hb5 : Below w.heap.size w x5 := (Below.refl _ _).grown hg5 (Nat.le_refl _) (fun k hk => by cases hk)
  clear ho5 hg5
  go_enter Try.func39, Try.ntmps39
  go_wp2_with fail
  refine (rank_any x _ hx).mono ?_
  rintro e w1 ⟨rfl, rfl⟩
  generalize hgx : Fl.rk x = r at *
  have HGX := hide hgx
  clear hgx
  generalize hg : w1.heap.size = g at *
  have HG := hide hg
  clear hg
  go_wp2_with fail
  go_loopw [11] (fun i wr => ∃ k : Nat, k ≤ 8 ∧ i = .int .i64 k ∧ Hid (wr.ownsRow g 5 1 (.slice (some ⟨g, 0, none⟩) 8 8) 8 (bv (Fl.fill (Fl.be r) k))) ∧ Hid (Below g w1 wr)) (fun i _ => 8 - (intOf i).toNat)
  case atStart => exact ⟨0, by omega, rfl, HO, hide hb5⟩
  case round =>
    obtain ⟨k, hk, rfl, HO, HBel⟩ := hrel
    clear hb5
    by_cases hlt : k < 8
    · have HS := hide (Fl.fill_set (Fl.be r) k (by rw [Fl.be_len]; exact hlt))
      have hfr := HO.out.frozenAt k
      obtain ⟨old, hco⟩ : ∃ u, wr.cell? ⟨g, k, none⟩ = some (.int .u8 u) := by
        rw [HO.out.cellAt k (by omega)]
        have hkl : k < (Fl.fill (Fl.be r) k).length := by rw [Fl.fill_len _ k (by rw [Fl.be_len]; exact hk), Fl.be_len]; exact hlt
        exact ⟨(Fl.fill (Fl.be r) k)[k], by simp [bv, List.getElem?_eq_getElem hkl]⟩
      have hst := HO.out.stored k (.int .u8 ((Fl.be r).getD k 0))
      rw [bv_set, HS.out] at hst
      rw [Fl.be_at r k hlt] at hst
      have HST := hide hst
      clear hst
      go_wp2_with fail
      have HO2 := hide HST.out.1
      have HBel2 := hide (HBel.out.grown HST.out.2 (by have := HBel.out.size; rw [HG.out] at this; exact this) (fun j hj => by cases hj; exact Nat.le_refl _))
      clear HST HS HO HBel
      go_roundw
      case rel => exact ⟨k + 1, by omega, by go_num, HO2, HBel2⟩
      case measure => simp [intOf]; omega
    · have hkN : k = (Fl.be r).length := by rw [Fl.be_len]; omega
      have HF := HO.out
      rw [hkN, Fl.fill_all] at HF
      have HF' := hide HF
      clear HF HO
      go_wp2_with fail
      go_ret
      exact ⟨_, rfl, by rw [HG.out, HGX.out]; exact HF'.out, by rw [HG.out]; exact HBel.out⟩

set_option maxHeartbeats 1000000 in
theorem ofBytes_any (v : Value) (zs : List Int) (w : World) (h : Sl w v zs) :
    Calls Try.prog 55 #[v] w fun e w' => e = .returned (.tuple #[.float .f64 (Fl.fo zs).1, .bool (Fl.fo zs).2]) ∧ w' = w := by
  have HS := hide h
  have HB := hide h.bd
  obtain ⟨p, n, cp, rfl, hn, hc, Hn, -⟩ := h.opens
  clear h
  by_cases h8 : n = 8
  · subst h8
    go_enter Try.func55, Try.ntmps55
    go_wp2_with fail
    go_loop [4, 13] (fun u i => ∃ (k t : Nat), k ≤ 8 ∧ i = .int .i64 k ∧ u = .int .u64 (t : Int) ∧ Hid (t = Fl.bn (zs.take k))) (fun _ i => 8 - (intOf i).toNat)
    case atStart => exact ⟨0, 0, by omega, rfl, rfl, by show _ = _; simp [Fl.bn]⟩
    case round =>
      obtain ⟨k, t, hk, rfl, rfl, HT⟩ := hrel
      by_cases hlt : k < 8
      · obtain ⟨b, off, rfl, hcell, hz0, hz1⟩ := HS.out.cell (i := k) hlt
        have ht : t < 72057594037927936 := by
          have h1 := Fl.bn_lt (zs.take k) (fun z hz => HB.out z (List.mem_of_mem_take hz))
          rw [← HT.out] at h1
          have h2 : (zs.take k).length ≤ 7 := by simp; omega
          have h3 := Nat.pow_le_pow_right (show 256 > 0 by decide) h2
          omega
        have HN : Hid (t * 256 + (zs.getD k 0).toNat = Fl.bn (zs.take (k + 1))) := by
          show _ = _
          have hkl : k < zs.length := by rw [← Hn.out]; exact hlt
          rw [List.take_succ_eq_append_getElem hkl, Fl.bn_snoc, ← HT.out, getD_at hkl]
        obtain ⟨c, hc⟩ := Int.eq_ofNat_of_zero_le hz0
        rw [hc] at hcell hz1 HN
        rw [Int.toNat_natCast] at HN
        have hor := Fl.or_byte t c ht (by omega)
        have hq : t * 256 + c < 18446744073709551616 := by omega
        generalize t * 256 + c = q at *
        clear hc hz0 HT
        go_wp2_with fail
        go_round
        case rel => exact ⟨k + 1, q, by omega, by go_num, rfl, HN⟩
        case measure => simp [intOf]; omega
      · obtain rfl : k = 8 := by omega
        have hz8 : zs.length = 8 := Hn.out.symm
        have HZ : Hid (t = Fl.bn zs) := by
          show _ = _
          rw [HT.out, List.take_of_length_le (by omega)]
        have ht : t < 18446744073709551616 := by
          have h1 := Fl.bn_lt zs HB.out
          rw [← HZ.out, hz8] at h1
          omega
        have hu := Fl.un_lt t ht
        by_cases hr : Fl.rk (Fl.un t) = t
        · have HF : Hid (Fl.fo zs = (Fl.cl (Fl.un t), true)) := by
            show _ = _
            unfold Fl.fo
            rw [if_pos hz8, ← HZ.out, if_pos hr]
          have HR := hide hr
          clear HT hz8 hr
          go_wp2_with fail
          refine (ranked_any t _ ht).mono ?_
          rintro e w1 ⟨rfl, rfl⟩
          go_wp2_with fail
          refine (rank_any (Fl.un t) _ hu).mono ?_
          rintro e w2 ⟨rfl, rfl⟩
          rw [HR.out]
          go_wp2_with fail
          refine (clean_any (Fl.un t) _).mono ?_
          rintro e w3 ⟨rfl, rfl⟩
          go_wp2_with fail
          go_ret2
          exact ⟨by rw [HF.out]; rfl, rfl⟩
        · have HF : Hid (Fl.fo zs = (0, false)) := by
            show _ = _
            unfold Fl.fo
            rw [if_pos hz8, ← HZ.out, if_neg hr]
          generalize hgx : Fl.rk (Fl.un t) = r at *
          have HGX := hide hgx
          have hne : ((r : Int) == (t : Int)) = false := by simp; omega
          clear HT hz8 hgx hr
          go_wp2_with fail
          refine (ranked_any t _ ht).mono ?_
          rintro e w1 ⟨rfl, rfl⟩
          go_wp2_with fail
          refine (rank_any (Fl.un t) _ hu).mono ?_
          rintro e w2 ⟨rfl, rfl⟩
          rw [HGX.out]
          go_wp2_with fail
          go_ret2
          exact ⟨by rw [HF.out]; rfl, rfl⟩
  · have HF : Hid (Fl.fo zs = (0, false)) := by
      show _ = _
      unfold Fl.fo
      rw [if_neg (by rw [← Hn.out]; exact h8)]
    have hne : ((n : Int) == 8) = false := by simp; omega
    clear h8
    go_enter Try.func55, Try.ntmps55
    go_wp2_with fail
    go_ret2
    exact ⟨by rw [HF.out]; rfl, rfl⟩
end Go.Proofs.Ytlefhhmggaaiiab
