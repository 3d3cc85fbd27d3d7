/-
  Contracts of engrossref1.FloatBytes and engrossref1.FloatOf over the translated program.
-/
import Derived.Test.YtlefhhmggaaiiaaFltP
import Derived.Test.YtlefhhmggaaiiaaFltT
import Derived.Test.YtlefhhmggaaiiaaInf
import Derived.Deep.DeepCutAuto
namespace Go.Proofs.Ytlefhhmggaaiiaa
open Go.RowKit

theorem place_u (r : Nat) (h : r < 18446744073709551616) : ∃ P U : Int, (r : Int) - 9223372036854775808 = P ∧ IntKind.u64.wrap P = U ∧ IntKind.u64.wrap (U + 9223372036854775808) = (r : Int) := by
  refine ⟨_, _, rfl, rfl, ?_⟩
  rw [IntKind.wrap_u64, IntKind.wrap_u64]
  omega

theorem be_take (r k : Nat) (h : k < 8) : bv ((Fl.be r).take (k + 1)) = bv ((Fl.be r).take k) ++ [.int .u8 ((r : Int) / 2 ^ (56 - 8 * k) % 256)] := by
  have hkl : k < (Fl.be r).length := by rw [Fl.be_len]; exact h
  have e := Fl.be_at r k h
  rw [getD_at hkl] at e
  rw [List.take_succ_eq_append_getElem hkl, bv_app, e]
  rfl

theorem be_take_zero (k : Nat) (h : k < 8) : bv ((Fl.be 0).take (k + 1)) = bv ((Fl.be 0).take k) ++ [.int .u8 0] := by
  have := be_take 0 k h
  simpa using this

set_option maxHeartbeats 1000000 in
theorem refBytes_any (X : Nat) (w : World) (hx : X < 18446744073709551616) :
    Calls Try.prog 62 #[.float .f64 X] w fun e w' => ∃ v, e = .returned v ∧ w'.ownsRow w.heap.size 5 1 v 8 (bv (Fl.be (Fl.rk X))) ∧ Below w.heap.size w w' := by
  obtain ⟨i0, hi, hz0, hz1, hz2⟩ := info_parts Try.info5
  have hr := Fl.rk_bd hx
  obtain ⟨P, U, hP, hU, hR⟩ := place_u _ hr
  have HP := hide hP
  have HRB := hide hr
  cases hn : Fl.nan X
  · have HN := hide hn
    generalize hgx : Fl.rk X = r at *
    have HGX := hide hgx
    clear hP hgx hr hn
    go_enter Try.func62, Try.ntmps62
    go_wp2_with fail
    with_reducible refine (place_any X _ hx).mono ?_
    rintro e x1 ⟨rfl, rfl⟩
    rw [HGX.out, HP.out]
    go_wp2_with fail
    with_reducible refine (refNaN_any X _ hx).mono ?_
    rintro e x ⟨rfl, rfl⟩
    rw [HN.out]
    go_wp2_with fail
    have hrb := HRB.out
    go_loopw [4, 5] (fun v i wr => ∃ k : Nat, k ≤ 8 ∧ i = .int .i64 (56 - 8 * (k : Int)) ∧ Hid (wr.ownsRow x.heap.size 5 1 v k (bv ((Fl.be r).take k))) ∧ Hid (Below x.heap.size x wr)) (fun _ i _ => (intOf i + 8).toNat)
    case atStart => exact ⟨0, by omega, rfl, by show World.ownsRow _ _ _ _ _ _ _; simpa [bv] using World.ownsRow_nil _ _ _ _, hide (Below.refl _ _)⟩
    case round =>
      obtain ⟨k, hk, rfl, HO, HBel⟩ := hrel
      have hbs := HBel.out.size
      by_cases hlt : k < 8
      · have HT := hide (be_take r k hlt)
        go_wp2_with (first
          | (at_builtin; refine wpList_append_own _ rfl _ _ 47 rfl x.heap.size 5 i0 (.int .u8 0) 1 1 Try.underlying47 hi hz0 hz1 hz2 rfl (by decide) _ k _ rfl (HO.out.alloc _) ⟨wr.heap.size, 0, none⟩ 1 1 [.int .u8 ((r : Int) / 2 ^ (56 - 8 * k) % 256)] rfl rfl (cell_one_new _ _ _) (by intro q hq; simp at hq; subst hq; rfl) (by unfold maxLen; omega) (by omega) (by simp; omega) ?_)
          | fail)
        intro v1 w1 hown hgrow _
        rw [← HT.out] at hown
        have HO2 := hide hown
        have HBel2 : Hid (Below x.heap.size x w1) := (HBel.out.alloc hbs _).grown hgrow (by simp; omega) (fun j hj => (HO.out.lt j hj).1)
        clear hown hgrow HO HBel HT
        go_wp2_with fail
        go_roundw
        case rel => exact ⟨k + 1, by omega, by go_num, HO2, HBel2⟩
        case measure => simp [intOf]; omega
      · have h8 : k = 8 := by omega
        have HF : Hid (wr.ownsRow x.heap.size 5 1 u4 8 (bv (Fl.be r))) := by
          have := HO.out
          rw [h8, List.take_of_length_le (by rw [Fl.be_len]; exact Nat.le_refl _)] at this
          exact this
        clear HO
        go_wp2_with fail
        go_ret
        exact ⟨_, rfl, HF.out, HBel.out⟩
  · have HN := hide hn
    have HGX := hide (Fl.rk_nan hn)
    rw [Fl.rk_nan hn] at HP hR
    clear hP hr hn
    go_enter Try.func62, Try.ntmps62
    go_wp2_with fail
    with_reducible refine (place_any X _ hx).mono ?_
    rintro e x1 ⟨rfl, rfl⟩
    rw [HGX.out, HP.out]
    go_wp2_with fail
    with_reducible refine (refNaN_any X _ hx).mono ?_
    rintro e x ⟨rfl, rfl⟩
    rw [HN.out]
    go_wp2_with fail
    go_loopw [4, 5] (fun v i wr => ∃ k : Nat, k ≤ 8 ∧ i = .int .i64 (56 - 8 * (k : Int)) ∧ Hid (wr.ownsRow x.heap.size 5 1 v k (bv ((Fl.be 0).take k))) ∧ Hid (Below x.heap.size x wr)) (fun _ i _ => (intOf i + 8).toNat)
    case atStart => exact ⟨0, by omega, rfl, by show World.ownsRow _ _ _ _ _ _ _; simpa [bv] using World.ownsRow_nil _ _ _ _, hide (Below.refl _ _)⟩
    case round =>
      obtain ⟨k, hk, rfl, HO, HBel⟩ := hrel
      have hbs := HBel.out.size
      by_cases hlt : k < 8
      · have HT := hide (be_take_zero k hlt)
        go_wp2_with (first
          | (at_builtin; refine wpList_append_own _ rfl _ _ 47 rfl x.heap.size 5 i0 (.int .u8 0) 1 1 Try.underlying47 hi hz0 hz1 hz2 rfl (by decide) _ k _ rfl (HO.out.alloc _) ⟨wr.heap.size, 0, none⟩ 1 1 [.int .u8 0] rfl rfl (cell_one_new _ _ _) (by intro q hq; simp at hq; subst hq; rfl) (by unfold maxLen; omega) (by omega) (by simp; omega) ?_)
          | fail)
        intro v1 w1 hown hgrow _
        rw [← HT.out] at hown
        have HO2 := hide hown
        have HBel2 : Hid (Below x.heap.size x w1) := (HBel.out.alloc hbs _).grown hgrow (by simp; omega) (fun j hj => (HO.out.lt j hj).1)
        clear hown hgrow HO HBel HT
        go_wp2_with fail
        go_roundw
        case rel => exact ⟨k + 1, by omega, by go_num, HO2, HBel2⟩
        case measure => simp [intOf]; omega
      · have h8 : k = 8 := by omega
        have HF : Hid (wr.ownsRow x.heap.size 5 1 u4 8 (bv (Fl.be 0))) := by
          have := HO.out
          rw [h8, List.take_of_length_le (by rw [Fl.be_len]; exact Nat.le_refl _)] at this
          exact this
        clear HO
        go_wp2_with fail
        go_ret
        exact ⟨_, rfl, by rw [HGX.out]; exact HF.out, HBel.out⟩

/-- What the document's way back says. -/
def ro (zs : List Int) : Nat × Bool := if zs.length = 8 then (if Fl.bn zs = 0 then 9221120237041090560 else Fl.un (Fl.bn zs), decide (Fl.rk (if Fl.bn zs = 0 then 9221120237041090560 else Fl.un (Fl.bn zs)) = Fl.bn zs)) else (0, false)

theorem ro_fo (zs : List Int) : (ro zs).2 = (Fl.fo zs).2 ∧ ((Fl.fo zs).2 = true → (Fl.fo zs).1 = (ro zs).1) ∧ ((Fl.fo zs).2 = false → (Fl.fo zs).1 = 0) := by
  unfold ro Fl.fo
  by_cases hl : zs.length = 8
  · rw [if_pos hl, if_pos hl]
    by_cases h0 : Fl.bn zs = 0
    · rw [h0]
      decide
    · rw [if_neg h0]
      by_cases hr : Fl.rk (Fl.un (Fl.bn zs)) = Fl.bn zs
      · rw [if_pos hr]
        have hn : Fl.nan (Fl.un (Fl.bn zs)) = false := by
          cases h : Fl.nan (Fl.un (Fl.bn zs))
          · rfl
          · rw [Fl.rk_nan h] at hr
            omega
        refine ⟨by simp [hr], fun _ => Fl.cl_not hn, fun h => by simp at h⟩
      · rw [if_neg hr]
        refine ⟨by simp [hr], fun h => by simp at h, fun _ => rfl⟩
  · rw [if_neg hl, if_neg hl]
    simp

theorem tl_zs {r : Nat} (hr : r < 18446744073709551616) {zs : List Int} (hl : zs.length = 8) (hb : ∀ z ∈ zs, 0 ≤ z ∧ z ≤ 255) :
    ((strOfNums (Fl.be r)).toList == (strOfNums zs).toList) = decide (r = Fl.bn zs) := by
  have h2 : Fl.bn zs < 18446744073709551616 := by
    have := Fl.bn_lt zs hb
    rw [hl] at this
    omega
  have := tl_eq hr h2 _ rfl
  rw [Fl.be_bn hl hb] at this
  exact this

set_option maxRecDepth 100000 in
set_option maxHeartbeats 1000000 in
theorem refOf_any (v : Value) (zs : List Int) (w : World) (h : Sl w v zs) :
    Calls Try.prog 73 #[v] w fun e w' => e = .returned (.tuple #[.float .f64 (ro zs).1, .bool (ro zs).2]) ∧ Below w.heap.size w w' := by
  have kf := run_frombits_int
  have hsg := u64_signed
  have hmx := u64_max
  have HS := hide h
  have HB := hide h.bd
  obtain ⟨p, n, cp, rfl, hn, hc, Hn, -⟩ := h.opens
  clear h
  by_cases h8 : n = 8
  · subst h8
    go_enter Try.func73, Try.ntmps73
    go_wp2_with fail
    go_loop [4, 5] (fun u i => ∃ (k t : Nat), k ≤ 8 ∧ i = .int .i64 k ∧ u = .int .u64 (t : Int) ∧ Hid (t = Fl.bn (zs.take k))) (fun _ i => 8 - (intOf i).toNat)
    case atStart => exact ⟨0, 0, by omega, rfl, rfl, by show _ = _; simp [Fl.bn]⟩
    case round =>
      obtain ⟨k, t, hk, rfl, rfl, HT⟩ := hrel
      by_cases hlt : k < 8
      · obtain ⟨b, off, rfl, hcell, hz0, hz1⟩ := HS.out.cell (i := k) hlt
        have ht : t < 72057594037927936 := by
          have h1 := Fl.bn_lt (zs.take k) (fun z hz => HB.out z (List.mem_of_mem_take hz))
          rw [← HT.out] at h1
          have h2 : (zs.take k).length ≤ 7 := by simp; omega
          have h3 := Nat.pow_le_pow_right (show 256 > 0 by decide) h2
          omega
        have HN : Hid (t * 256 + (zs.getD k 0).toNat = Fl.bn (zs.take (k + 1))) := by
          show _ = _
          have hkl : k < zs.length := by rw [← Hn.out]; exact hlt
          rw [List.take_succ_eq_append_getElem hkl, Fl.bn_snoc, ← HT.out, getD_at hkl]
        obtain ⟨c, hc⟩ := Int.eq_ofNat_of_zero_le hz0
        rw [hc] at hcell hz1 HN
        rw [Int.toNat_natCast] at HN
        clear hc hz0 HT
        go_wp2_with fail
        go_round
        case rel => exact ⟨k + 1, t * 256 + c, by omega, by go_num, by congr 1, HN⟩
        case measure => simp [intOf]; omega
      · have hz8 : zs.length = 8 := Hn.out.symm
        have HZ : Hid (t = Fl.bn zs) := by
          show _ = _
          rw [HT.out, List.take_of_length_le (by omega)]
        have ht : t < 18446744073709551616 := by
          have h1 := Fl.bn_lt zs HB.out
          rw [← HZ.out, hz8] at h1
          omega
        have hu := Fl.un_lt t ht
        clear HT
        by_cases hs : t < 9223372036854775808
        · have hnt := Fl.w_un_lo ht hs
          have hfl0 := Fl.w_flip t ht
          have hsd : decide ((t : Int) < 9223372036854775808) = true := decide_eq_true (by omega)
          clear hs
          generalize (if t < 9223372036854775808 then t + 9223372036854775808 else t - 9223372036854775808) = q0 at *
          by_cases h0 : t = 0
          · have hG : 9221120237041090560 < 18446744073709551616 := by decide
            have HR : Hid (ro zs = (9221120237041090560, decide (Fl.rk 9221120237041090560 = Fl.bn zs))) := by
              show _ = _
              unfold ro
              rw [if_pos hz8, if_pos (by rw [← HZ.out]; exact h0)]
            have HTL := hide (tl_zs (Fl.rk_bd hG) hz8 HB.out)
            have h0' : ((t : Int) == 0) = true := by simp; exact h0
            generalize Fl.un t = G0 at *
            clear h0 hz8
            generalize (t : Int) = T at *
            go_upto_region 14 with (with_reducible refine (refClean_any 9221120237041090560 _ (by decide)).mono ?_; rintro e x ⟨rfl, rfl⟩; rw [show Fl.cl 9221120237041090560 = 9221120237041090560 by decide])
            refine wp_region_noPanic ?_
            refine wp_region_held_drew (S := fun W => Below x.heap.size x W) (by kernel_rfl) ?_ (fun hHeld => ?_)
            · exact (Below.refl _ _).drew
            have hS0 := HS.out
            refine wpAnyH_take (i := 0) (v := ?_) rfl (by kernel_rfl) (by kernel_rfl) (by kernel_rfl) (fun _ _ _ h => h) (Or.inl ⟨by kernel_rfl, ?_⟩) hHeld ?_
            rotate_left
            · intro W hW; go_simp; first | done | with_reducible rfl
            try simp only [Act.put]
            refine wpAnyH_take (i := 1) (v := ?_) rfl (by kernel_rfl) (by kernel_rfl) (by kernel_rfl) (fun _ _ _ h => h) (Or.inl ⟨by kernel_rfl, ?_⟩) hHeld ?_
            rotate_left
            · intro W hW; go_simp; first | done | with_reducible rfl
            try simp only [Act.put]
            refine wpAnyH_take (i := 4) (v := ?_) rfl (by kernel_rfl) (by kernel_rfl) (by kernel_rfl) (fun _ _ _ h => h) (Or.inl ⟨by kernel_rfl, ?_⟩) hHeld ?_
            rotate_left
            · intro W hW; go_simp; first | done | with_reducible rfl
            try simp only [Act.put]
            refine wpAnyH_take (i := 5) (v := .string (strOfNums (zs))) rfl (by kernel_rfl) (by kernel_rfl) (by kernel_rfl) (fun _ _ _ h => h) (Or.inl ⟨by kernel_rfl, ?_⟩) hHeld ?_
            · intro W hW; have hcv := (hS0.later hW).conv (P := Try.prog) 47 9 5 Try.underlying47 Try.underlying5 Try.underlying9; go_simp
            try simp only [Act.put]
            refine wpAnyH_ready (rs := [2]) (by kernel_rfl) (by simp) ?_
            refine AllReadyH.cons (o := _) rfl (fun K hK => ?_) AllReadyH.nil
            go_simp
            refine (refBytes_any 9221120237041090560 _ hG).mono ?_
            rintro e x4 ⟨v4, rfl, ho4, hb4⟩
            dsimp only
            refine hK.out _ _ ?_ (fun hHeld => ?_)
            · exact hHeld.trans (hb4.mono hHeld.size)
            clear hK K
            try simp only [Act.put]
            have hB4 := hHeld
            refine held_mono (S' := fun W => Below x4.heap.size x4 W) (fun W h => hB4.trans (h.mono hB4.size)) _ _ _ _ ?_
            have hS4 : Sl x4 v4 (Fl.be (Fl.rk 9221120237041090560)) := Sl.own ho4 (Fl.be_bd _)
            clear hHeld hb4 ho4
            have hHeld : Below x4.heap.size x4 x4 := Below.refl _ _
            refine wpAnyH_take (i := 3) (v := .string (strOfNums (Fl.be (Fl.rk 9221120237041090560)))) rfl (by kernel_rfl) (by kernel_rfl) (by kernel_rfl) (fun _ _ _ h => h) (Or.inl ⟨by kernel_rfl, ?_⟩) hHeld ?_
            · intro W hW; have hcv := (hS4.later hW).conv (P := Try.prog) 47 9 5 Try.underlying47 Try.underlying5 Try.underlying9; go_simp
            try simp only [Act.put]
            have hTL := HTL.out
            refine wpAnyH_take (i := 6) (v := .bool (decide (Fl.rk 9221120237041090560 = Fl.bn zs))) rfl (by kernel_rfl) (by kernel_rfl) (by kernel_rfl) (fun _ _ _ h => h) (Or.inl ⟨by kernel_rfl, ?_⟩) hHeld ?_
            · intro W hW; go_simp; first | done | with_reducible rfl
            try simp only [Act.put]
            refine wpAnyH_take (i := 7) (v := ?_) rfl (by kernel_rfl) (by kernel_rfl) (by kernel_rfl) (fun _ _ _ h => h) (Or.inl ⟨by kernel_rfl, ?_⟩) hHeld ?_
            rotate_left
            · intro W hW; go_simp; first | done | with_reducible rfl
            try simp only [Act.put]
            refine wpAnyH_take (i := 8) (v := ?_) rfl (by kernel_rfl) (by kernel_rfl) (by kernel_rfl) (fun _ _ _ h => h) (Or.inl ⟨by kernel_rfl, ?_⟩) hHeld ?_
            rotate_left
            · intro W hW; go_simp; first | done | with_reducible rfl
            try simp only [Act.put]
            refine wpAnyH_done (by kernel_rfl) ?_ _
            refine NoPanic.normal ?_
            clear hHeld hS4 hS0
            go_simp
            go_wp2_with fail
            go_ret2
            exact ⟨by rw [HR.out]; rfl, hB4⟩
          · have hG := hu
            have HR : Hid (ro zs = (Fl.un t, decide (Fl.rk (Fl.un t) = Fl.bn zs))) := by
              show _ = _
              unfold ro
              rw [if_pos hz8, if_neg (by rw [← HZ.out]; exact h0), ← HZ.out]
            have HTL := hide (tl_zs (Fl.rk_bd hG) hz8 HB.out)
            have h0' : ((t : Int) == 0) = false := by simp; exact h0
            generalize Fl.un t = G at *
            clear h0 hz8
            generalize (t : Int) = T at *
            go_upto_region 14 with fail
            refine wp_region_noPanic ?_
            refine wp_region_held_drew (S := fun W => Below w.heap.size w W) (by kernel_rfl) ?_ (fun hHeld => ?_)
            · exact (Below.refl _ _).drew
            have hS0 := HS.out
            refine wpAnyH_take (i := 0) (v := ?_) rfl (by kernel_rfl) (by kernel_rfl) (by kernel_rfl) (fun _ _ _ h => h) (Or.inl ⟨by kernel_rfl, ?_⟩) hHeld ?_
            rotate_left
            · intro W hW; go_simp; first | done | with_reducible rfl
            try simp only [Act.put]
            refine wpAnyH_take (i := 1) (v := ?_) rfl (by kernel_rfl) (by kernel_rfl) (by kernel_rfl) (fun _ _ _ h => h) (Or.inl ⟨by kernel_rfl, ?_⟩) hHeld ?_
            rotate_left
            · intro W hW; go_simp; first | done | with_reducible rfl
            try simp only [Act.put]
            refine wpAnyH_take (i := 4) (v := ?_) rfl (by kernel_rfl) (by kernel_rfl) (by kernel_rfl) (fun _ _ _ h => h) (Or.inl ⟨by kernel_rfl, ?_⟩) hHeld ?_
            rotate_left
            · intro W hW; go_simp; first | done | with_reducible rfl
            try simp only [Act.put]
            refine wpAnyH_take (i := 5) (v := .string (strOfNums (zs))) rfl (by kernel_rfl) (by kernel_rfl) (by kernel_rfl) (fun _ _ _ h => h) (Or.inl ⟨by kernel_rfl, ?_⟩) hHeld ?_
            · intro W hW; have hcv := (hS0.later hW).conv (P := Try.prog) 47 9 5 Try.underlying47 Try.underlying5 Try.underlying9; go_simp
            try simp only [Act.put]
            refine wpAnyH_ready (rs := [2]) (by kernel_rfl) (by simp) ?_
            refine AllReadyH.cons (o := _) rfl (fun K hK => ?_) AllReadyH.nil
            go_simp
            refine (refBytes_any G _ hG).mono ?_
            rintro e x4 ⟨v4, rfl, ho4, hb4⟩
            dsimp only
            refine hK.out _ _ ?_ (fun hHeld => ?_)
            · exact hHeld.trans (hb4.mono hHeld.size)
            clear hK K
            try simp only [Act.put]
            have hB4 := hHeld
            refine held_mono (S' := fun W => Below x4.heap.size x4 W) (fun W h => hB4.trans (h.mono hB4.size)) _ _ _ _ ?_
            have hS4 : Sl x4 v4 (Fl.be (Fl.rk G)) := Sl.own ho4 (Fl.be_bd _)
            clear hHeld hb4 ho4
            have hHeld : Below x4.heap.size x4 x4 := Below.refl _ _
            refine wpAnyH_take (i := 3) (v := .string (strOfNums (Fl.be (Fl.rk G)))) rfl (by kernel_rfl) (by kernel_rfl) (by kernel_rfl) (fun _ _ _ h => h) (Or.inl ⟨by kernel_rfl, ?_⟩) hHeld ?_
            · intro W hW; have hcv := (hS4.later hW).conv (P := Try.prog) 47 9 5 Try.underlying47 Try.underlying5 Try.underlying9; go_simp
            try simp only [Act.put]
            have hTL := HTL.out
            refine wpAnyH_take (i := 6) (v := .bool (decide (Fl.rk G = Fl.bn zs))) rfl (by kernel_rfl) (by kernel_rfl) (by kernel_rfl) (fun _ _ _ h => h) (Or.inl ⟨by kernel_rfl, ?_⟩) hHeld ?_
            · intro W hW; go_simp; first | done | with_reducible rfl
            try simp only [Act.put]
            refine wpAnyH_take (i := 7) (v := ?_) rfl (by kernel_rfl) (by kernel_rfl) (by kernel_rfl) (fun _ _ _ h => h) (Or.inl ⟨by kernel_rfl, ?_⟩) hHeld ?_
            rotate_left
            · intro W hW; go_simp; first | done | with_reducible rfl
            try simp only [Act.put]
            refine wpAnyH_take (i := 8) (v := ?_) rfl (by kernel_rfl) (by kernel_rfl) (by kernel_rfl) (fun _ _ _ h => h) (Or.inl ⟨by kernel_rfl, ?_⟩) hHeld ?_
            rotate_left
            · intro W hW; go_simp; first | done | with_reducible rfl
            try simp only [Act.put]
            refine wpAnyH_done (by kernel_rfl) ?_ _
            refine NoPanic.normal ?_
            clear hHeld hS4 hS0
            go_simp
            go_wp2_with fail
            go_ret2
            exact ⟨by rw [HR.out]; rfl, hB4⟩
        · have hfl := Fl.w_un_hi ht hs
          have hsd : decide ((t : Int) < 9223372036854775808) = false := decide_eq_false (by omega)
          have hG := hu
          have HR : Hid (ro zs = (Fl.un t, decide (Fl.rk (Fl.un t) = Fl.bn zs))) := by
            show _ = _
            unfold ro
            rw [if_pos hz8, if_neg (by rw [← HZ.out]; omega), ← HZ.out]
          have HTL := hide (tl_zs (Fl.rk_bd hG) hz8 HB.out)
          have h0' : ((t : Int) == 0) = false := by simp; omega
          generalize Fl.un t = G at *
          clear hz8 hs
          generalize (t : Int) = T at *
          go_upto_region 14 with fail
          refine wp_region_noPanic ?_
          refine wp_region_held_drew (S := fun W => Below w.heap.size w W) (by kernel_rfl) ?_ (fun hHeld => ?_)
          · exact (Below.refl _ _).drew
          have hS0 := HS.out
          refine wpAnyH_take (i := 0) (v := ?_) rfl (by kernel_rfl) (by kernel_rfl) (by kernel_rfl) (fun _ _ _ h => h) (Or.inl ⟨by kernel_rfl, ?_⟩) hHeld ?_
          rotate_left
          · intro W hW; go_simp; first | done | with_reducible rfl
          try simp only [Act.put]
          refine wpAnyH_take (i := 1) (v := ?_) rfl (by kernel_rfl) (by kernel_rfl) (by kernel_rfl) (fun _ _ _ h => h) (Or.inl ⟨by kernel_rfl, ?_⟩) hHeld ?_
          rotate_left
          · intro W hW; go_simp; first | done | with_reducible rfl
          try simp only [Act.put]
          refine wpAnyH_take (i := 4) (v := ?_) rfl (by kernel_rfl) (by kernel_rfl) (by kernel_rfl) (fun _ _ _ h => h) (Or.inl ⟨by kernel_rfl, ?_⟩) hHeld ?_
          rotate_left
          · intro W hW; go_simp; first | done | with_reducible rfl
          try simp only [Act.put]
          refine wpAnyH_take (i := 5) (v := .string (strOfNums (zs))) rfl (by kernel_rfl) (by kernel_rfl) (by kernel_rfl) (fun _ _ _ h => h) (Or.inl ⟨by kernel_rfl, ?_⟩) hHeld ?_
          · intro W hW; have hcv := (hS0.later hW).conv (P := Try.prog) 47 9 5 Try.underlying47 Try.underlying5 Try.underlying9; go_simp
          try simp only [Act.put]
          refine wpAnyH_ready (rs := [2]) (by kernel_rfl) (by simp) ?_
          refine AllReadyH.cons (o := _) rfl (fun K hK => ?_) AllReadyH.nil
          go_simp
          refine (refBytes_any G _ hG).mono ?_
          rintro e x4 ⟨v4, rfl, ho4, hb4⟩
          dsimp only
          refine hK.out _ _ ?_ (fun hHeld => ?_)
          · exact hHeld.trans (hb4.mono hHeld.size)
          clear hK K
          try simp only [Act.put]
          have hB4 := hHeld
          refine held_mono (S' := fun W => Below x4.heap.size x4 W) (fun W h => hB4.trans (h.mono hB4.size)) _ _ _ _ ?_
          have hS4 : Sl x4 v4 (Fl.be (Fl.rk G)) := Sl.own ho4 (Fl.be_bd _)
          clear hHeld hb4 ho4
          have hHeld : Below x4.heap.size x4 x4 := Below.refl _ _
          refine wpAnyH_take (i := 3) (v := .string (strOfNums (Fl.be (Fl.rk G)))) rfl (by kernel_rfl) (by kernel_rfl) (by kernel_rfl) (fun _ _ _ h => h) (Or.inl ⟨by kernel_rfl, ?_⟩) hHeld ?_
          · intro W hW; have hcv := (hS4.later hW).conv (P := Try.prog) 47 9 5 Try.underlying47 Try.underlying5 Try.underlying9; go_simp
          try simp only [Act.put]
          have hTL := HTL.out
          refine wpAnyH_take (i := 6) (v := .bool (decide (Fl.rk G = Fl.bn zs))) rfl (by kernel_rfl) (by kernel_rfl) (by kernel_rfl) (fun _ _ _ h => h) (Or.inl ⟨by kernel_rfl, ?_⟩) hHeld ?_
          · intro W hW; go_simp; first | done | with_reducible rfl
          try simp only [Act.put]
          refine wpAnyH_take (i := 7) (v := ?_) rfl (by kernel_rfl) (by kernel_rfl) (by kernel_rfl) (fun _ _ _ h => h) (Or.inl ⟨by kernel_rfl, ?_⟩) hHeld ?_
          rotate_left
          · intro W hW; go_simp; first | done | with_reducible rfl
          try simp only [Act.put]
          refine wpAnyH_take (i := 8) (v := ?_) rfl (by kernel_rfl) (by kernel_rfl) (by kernel_rfl) (fun _ _ _ h => h) (Or.inl ⟨by kernel_rfl, ?_⟩) hHeld ?_
          rotate_left
          · intro W hW; go_simp; first | done | with_reducible rfl
          try simp only [Act.put]
          refine wpAnyH_done (by kernel_rfl) ?_ _
          refine NoPanic.normal ?_
          clear hHeld hS4 hS0
          go_simp
          go_wp2_with fail
          go_ret2
          exact ⟨by rw [HR.out]; rfl, hB4⟩
  · have HF : Hid (ro zs = (0, false)) := by
      show _ = _
      unfold ro
      rw [if_neg (by rw [← Hn.out]; exact h8)]
    have hne : ((n : Int) == 8) = false := by simp; omega
    clear h8
    go_enter Try.func73, Try.ntmps73
    go_wp2_with fail
    go_ret2
    exact ⟨by rw [HF.out]; rfl, Below.refl _ _⟩
end Go.Proofs.Ytlefhhmggaaiiaa
