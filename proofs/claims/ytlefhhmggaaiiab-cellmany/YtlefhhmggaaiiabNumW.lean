/-
  Contracts of the functions of package num, each over the translated program.
-/
import Derived.Test.YtlefhhmggaaiiabRows
import Derived.Test.YtlefhhmggaaiiabNumA
import Derived.Test.YtlefhhmggaaiiabBas
import Derived.Test.YtlefhhmggaaiiabInf
namespace Go.Proofs.Ytlefhhmggaaiiab
open Go.RowKit

set_option maxHeartbeats 400000 in
theorem fold_any (n : Int) (w : World) (h0 : -9223372036854775808 ≤ n) (h1 : n ≤ 9223372036854775807) :
    Calls Try.prog 38 #[.int .i64 n] w fun e w' => e = .returned (.int .u64 (Nm.fold n)) ∧ w' = w := by
  by_cases hn : n < 0
  · go_enter Try.func38, Try.ntmps38
    go_wp2
    go_ret
    exact ⟨ret_int (Nm.fold_neg hn), rfl⟩
  · go_enter Try.func38, Try.ntmps38
    go_wp2
    go_ret
    exact ⟨ret_int (Nm.fold_pos (by omega)), rfl⟩

set_option maxHeartbeats 400000 in
theorem unfold_any (u : Int) (w : World) (h0 : 0 ≤ u) (h1 : u ≤ 18446744073709551615) :
    Calls Try.prog 52 #[.int .u64 u] w fun e w' => e = .returned (.int .i64 (Nm.unfold u)) ∧ w' = w := by
  go_enter Try.func52, Try.ntmps52
  go_wp2
  · go_ret
    exact ⟨ret_int (Nm.unfold_odd (by assumption)), rfl⟩
  · go_ret
    exact ⟨ret_int (Nm.unfold_even (by assumption)), rfl⟩

set_option maxHeartbeats 400000 in
theorem appendFolded_any (v : Value) (n : Nat) (xs : List Int) (u : Int) (base : Nat) (w : World) (h0 : 0 ≤ u) (h1 : u ≤ 18446744073709551615)
    (hown : w.ownsRow base 5 1 v n (bv xs)) (hn : n ≤ 140737488355000) (hb : base ≤ w.heap.size) :
    Calls Try.prog 37 #[v, .int .u64 u] w fun e w' => ∃ v', e = .returned v' ∧
      w'.ownsRow base 5 1 v' (n + (Nm.enc 9 u).length) (bv (xs ++ Nm.enc 9 u)) ∧ Below base w w' := by
  obtain ⟨i0, hi, hz0, hz1, hz2⟩ := info_parts Try.info5
  have hl10 := (Nm.enc_len 9 u).2
  have HH : Hid (∀ f t d, Nm.enc 9 u = d ++ Nm.enc f t → d.length ≤ 9) := fun f t d h => by
    have := (Nm.enc_len f t).1
    have h2 := congrArg List.length h
    rw [List.length_append] at h2
    omega
  go_enter Try.func37, Try.ntmps37
  go_wp2
  go_loopw [0, 1] (fun v t wr => ∃ (d : List Int) (x : Int) (f : Nat), t = .int .u64 x ∧ 0 ≤ x ∧ x ≤ 18446744073709551615 ∧ Hid (Nm.enc 9 u = d ++ Nm.enc f x) ∧ Nm.fits f x ∧
      wr.ownsRow base 5 1 v (n + d.length) (bv (xs ++ d)) ∧ Below base w wr ∧ base ≤ wr.heap.size) (fun _ t _ => (intOf t).toNat)
  case atStart => exact ⟨[], u, 9, rfl, h0, h1, rfl, Nm.fits9 u h1, by simpa using hown, Below.refl _ _, hb⟩
  case round =>
    obtain ⟨d, x, f, rfl, hx0, hx1, he, hf, ho, hbel, hbs⟩ := hrel
    have hd := HH.out _ _ _ he.out
    by_cases hx : 128 ≤ x
    · go_wp2_with (first
        | (at_builtin; refine wpList_append_own _ rfl _ _ 24 rfl base 5 i0 (.int .u8 0) 1 1 Try.underlying24 hi hz0 hz1 hz2 rfl (by decide) _ _ _ rfl (ho.alloc _) ⟨wr.heap.size, 0, none⟩ 1 1 [.int .u8 (x % 128 + 128)] rfl rfl (cell_one_new _ _ _) (by intro q hq; simp at hq; subst hq; rfl) (by unfold maxLen; omega) (by omega) (by simp; omega) ?_)
        | fail)
      intro v' w1 hown' hgrow _
      obtain ⟨g, rfl, hg, hfg⟩ := Nm.enc_more hx hf
      have hb1 : Below base w w1 := (hbel.alloc hbs _).grown hgrow (by simp; omega) (fun k hk => (ho.lt k hk).1)
      have hs1 : base ≤ w1.heap.size := by have := hgrow.size; simp at this; omega
      have HR : Hid (w1.ownsRow base 5 1 v' (n + (d ++ [x % 128 + 128]).length) (bv (xs ++ (d ++ [x % 128 + 128])))) := by
        show World.ownsRow _ _ _ _ _ _ _
        simpa [bv, Nat.add_assoc] using hown'
      have HE : Hid (Nm.enc 9 u = (d ++ [x % 128 + 128]) ++ Nm.enc g (x / 128)) := by
        show _ = _
        rw [he.out, hg]; simp
      clear hown' hgrow ho hg he
      go_wp2
      go_roundw
      case rel => exact ⟨d ++ [x % 128 + 128], x / 128, g, rfl, by omega, by omega, HE, hfg, HR.out, hb1, hs1⟩
      case measure => simp [intOf]; omega
    · go_wp2_with (first
        | (at_builtin; refine wpList_append_own _ rfl _ _ 24 rfl base 5 i0 (.int .u8 0) 1 1 Try.underlying24 hi hz0 hz1 hz2 rfl (by decide) _ _ _ rfl (ho.alloc _) ⟨wr.heap.size, 0, none⟩ 1 1 [.int .u8 x] rfl rfl (cell_one_new _ _ _) (by intro q hq; simp at hq; subst hq; rfl) (by unfold maxLen; omega) (by omega) (by simp; omega) ?_)
        | fail)
      intro v' w1 hown' hgrow _
      have hb1 : Below base w w1 := (hbel.alloc hbs _).grown hgrow (by simp; omega) (fun k hk => (ho.lt k hk).1)
      have HE : Hid (Nm.enc 9 u = d ++ [x]) := by
        show _ = _
        rw [he.out, Nm.enc_last (by omega)]
      have HR : Hid (w1.ownsRow base 5 1 v' (n + (Nm.enc 9 u).length) (bv (xs ++ Nm.enc 9 u))) := by
        show World.ownsRow _ _ _ _ _ _ _
        rw [HE.out]
        simpa [bv, Nat.add_assoc] using hown'
      clear hown' hgrow ho he
      go_wp2
      go_ret
      exact ⟨_, rfl, HR.out, hb1⟩

set_option maxHeartbeats 400000 in
theorem copyWithRoom_any (v : Value) (zs : List Int) (r : Int) (w : World) (h : Sl w v zs) (h0 : 0 ≤ r) (hr : (zs.length : Int) + r ≤ 140737488355328) :
    Calls Try.prog 36 #[v, .int .i64 r] w fun e w' => ∃ v', e = .returned v' ∧
      w'.ownsRow w.heap.size 5 1 v' zs.length (bv zs) ∧ Below w.heap.size w w' := by
  obtain ⟨i0, hi, hz0, hz1, hz2⟩ := info_parts Try.info5
  have HS := hide h
  obtain ⟨a, cap, rfl, hl, hm, hbd, hc⟩ := h
  unfold maxLen at hm
  clear hc hbd
  have hmk := fun (w : World) => run_make (P := Try.prog) w 24 5 i0 (.int .u8 0) Try.underlying24 hi hz0 .i64 .i64 zs.length (zs.length + r) (by omega) (by omega) (by rw [hz2]; omega) (by omega)
  have HM := hide (made_heap w (.int .u8 0) ((zs.length : Int) + r).toNat 5)
  have hB : Below w.heap.size w (w.alloc (Obj.cells (madeCells #[Value.int IntKind.u8 0] ((zs.length : Int) + r).toNat) 5)) := (Below.refl _ _).alloc (Nat.le_refl _) _
  go_enter Try.func36, Try.ntmps36
  go_wp2_with (refine wpList_copy_splice rfl (.tmp 13) (.tmp 14) 24 24 rfl 5 Try.underlying24 (by rw [hi]; simp [hz1]) _ _ _ _ _ _ rfl rfl w.heap.size 0 _ 5 HM.out (bv zs) (by simp [bv]) (fun hp => ⟨rfl, HS.out.src hB hp⟩) (by simp [bv]; omega) (bv_one zs) w.heap.size w hB (Nat.le_refl _) ?_; intro w2 HG hB2)
  go_ret
  exact ⟨_, rfl, own_spliced HG.out rfl (by omega) (by unfold maxLen; omega) (Nat.le_refl _), hB2⟩

set_option maxHeartbeats 400000 in
theorem put_any (v : Value) (zs : List Int) (n : Int) (w : World) (h : Sl w v zs) (hl : zs.length ≤ 140737488350000) (h0 : -9223372036854775808 ≤ n) (h1 : n ≤ 9223372036854775807) :
    Calls Try.prog 24 #[v, .int .i64 n] w fun e w' => ∃ v', e = .returned v' ∧
      w'.ownsRow w.heap.size 5 1 v' (zs.length + (Nm.num n).length) (bv (zs ++ Nm.num n)) ∧ Below w.heap.size w w' := by
  have hfb := Nm.fold_bd n h0 h1
  go_enter Try.func24, Try.ntmps24
  go_wp2_with fail
  refine (copyWithRoom_any v zs 10 w h (by omega) (by omega)).mono ?_
  rintro e w1 ⟨v1, rfl, ho1, hb1⟩
  go_wp2_with fail
  refine (fold_any n _ h0 h1).mono ?_
  rintro e w2 ⟨rfl, rfl⟩
  go_wp2_with fail
  refine (appendFolded_any v1 zs.length zs (Nm.fold n) w.heap.size _ hfb.1 hfb.2 ho1 (by omega) hb1.size).mono ?_
  rintro e w3 ⟨v3, rfl, ho3, hb3⟩
  have hb := hb1.trans hb3
  clear hb1 hb3 ho1
  go_wp2_with fail
  go_ret
  exact ⟨_, rfl, ho3, hb⟩

set_option maxHeartbeats 400000 in
theorem get_any (v : Value) (zs : List Int) (w : World) (h : Sl w v zs) :
    Calls Try.prog 42 #[v] w fun e w' => e = .returned (.tuple #[.int .i64 (Nm.get 0 0 zs).1, .int .i64 (Nm.get 0 0 zs).2.1, .int .i64 (Nm.get 0 0 zs).2.2]) ∧ w' = w := by
  obtain ⟨a, cap, rfl, hl, hm, hbd, hc⟩ := h
  unfold maxLen at hm
  have HC := hide hc
  have HB := hide hbd
  clear hc hbd
  go_enter Try.func42, Try.ntmps42
  go_wp2
  go_loop [5, 10] (fun u i => ∃ (k : Nat) (t : Int), k ≤ zs.length ∧ k ≤ 9 ∧ i = .int .i64 k ∧ u = .int .u64 t ∧ 0 ≤ t ∧ t ≤ 18446744073709551615 ∧ Hid (t < 128 ^ k) ∧ Hid (Nm.get 0 0 zs = Nm.get k t (zs.drop k))) (fun _ i => zs.length - (intOf i).toNat)
  case atStart => exact ⟨0, 0, Nat.zero_le _, by omega, rfl, rfl, by omega, by omega, by show _ < _; omega, by show _ = _; simp⟩
  case round =>
    obtain ⟨k, t, hk, hk9, rfl, rfl, ht0, ht1, ht, he⟩ := hrel
    by_cases hlt : k < zs.length
    · obtain ⟨b, off, rfl, hcell⟩ := HC.out k hlt
      have hcb := HB.out (zs.getD k 0) (by rw [getD_at hlt]; exact List.getElem_mem hlt)
      have hdr : zs.drop k = zs.getD k 0 :: zs.drop (k + 1) := by rw [getD_at hlt]; exact List.drop_eq_getElem_cons hlt
      have HD := hide hdr
      generalize zs.getD k 0 = c at *
      clear hdr HC HB
      obtain ⟨hc0, hc1⟩ := hcb
      by_cases hA : k = 9 ∧ 1 < c
      · obtain ⟨hA1, hA2⟩ := hA
        have HF : Hid (Nm.get 0 0 zs = (0, 0, 1)) := by show _ = _; rw [he.out, HD.out, Nm.get_far hA1 hA2]
        have hA1' : ((k : Int) == 9) = true := by simp; omega
        clear hA1
        go_wp2_with fail
        go_ret3
        exact ⟨by rw [HF.out]; rfl, rfl⟩
      · have h9 : k = 9 → c ≤ 1 := fun h => by omega
        have HO := hide (Nm.or_step t c k ht0 ht.out hc0 hc1 hk9 h9)
        have hsb := Nm.step_bd t c k ht0 ht.out hc0 hk9 h9
        generalize hx : t + (c % 128) * 128 ^ k = x at *
        obtain ⟨hx0, hx1, hx2⟩ := hsb
        have HX2 := hide hx2
        clear hx2
        by_cases hB : 128 ≤ c
        · have hk8 : ¬ k = 9 := fun h => by have := h9 h; omega
          have HF : Hid (Nm.get 0 0 zs = Nm.get (k + 1) x (zs.drop (k + 1))) := by show _ = _; rw [he.out, HD.out, Nm.get_more hk8 hB hc1, hx]
          have hk8' : ((k : Int) == 9) = false := by simp; omega
          clear hx h9 hA hk8
          go_wp2_with fail
          go_round
          case rel => exact ⟨k + 1, x, by omega, by simp at hk8'; omega, by go_num, by rw [HO.out], hx0, hx1, HX2, HF⟩
          case measure => simp [intOf]; omega
        · by_cases hC : c = 0 ∧ 0 < k
          · obtain ⟨hC1, hC2⟩ := hC
            have HF : Hid (Nm.get 0 0 zs = (0, 0, 1)) := by show _ = _; rw [he.out, HD.out, Nm.get_long hC2 hC1]
            have hC1' : (c == 0) = true := by simp [hC1]
            have hC3 : ¬ 1 < c := by omega
            clear hC1 h9 hA hx
            cases hk9' : ((k : Int) == 9)
            all_goals
              go_wp2_with fail
              go_ret3
              exact ⟨by rw [HF.out]; rfl, rfl⟩
          · have HF : Hid (Nm.get 0 0 zs = (Nm.unfold x, (k : Int) + 1, 0)) := by show _ = _; rw [he.out, HD.out, Nm.get_last h9 hc0 (by omega) (fun h => by omega), hx]
            cases hk9' : ((k : Int) == 9)
            · cases hcz : (c == 0)
              · clear hx h9 hA hC
                go_wp2_with fail
                rw [HO.out]
                refine (unfold_any x _ hx0 hx1).mono ?_
                rintro e w2 ⟨rfl, rfl⟩
                go_wp2_with fail
                go_ret3
                exact ⟨by rw [HF.out]; rfl, rfl⟩
              · have hk0 : ¬ 0 < k := by simp at hcz; omega
                clear hx h9 hA hC
                go_wp2_with fail
                rw [HO.out]
                refine (unfold_any x _ hx0 hx1).mono ?_
                rintro e w2 ⟨rfl, rfl⟩
                go_wp2_with fail
                go_ret3
                exact ⟨by rw [HF.out]; rfl, rfl⟩
            · have hk : k = 9 := by simp at hk9'; omega
              have hc2 : c ≤ 1 := h9 hk
              have hc3 : (c == 0) = false := by simp; omega
              clear hx h9 hA hC hk
              go_wp2_with fail
              rw [HO.out]
              refine (unfold_any x _ hx0 hx1).mono ?_
              rintro e w2 ⟨rfl, rfl⟩
              go_wp2_with fail
              go_ret3
              exact ⟨by rw [HF.out]; rfl, rfl⟩
    · have HF : Hid (Nm.get 0 0 zs = (0, 0, 2)) := by
        show _ = _
        rw [he.out, List.drop_eq_nil_of_le (by omega), Nm.get_end]
      go_wp2_with fail
      go_ret3
      exact ⟨by rw [HF.out]; rfl, rfl⟩
end Go.Proofs.Ytlefhhmggaaiiab
