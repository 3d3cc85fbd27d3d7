/-
  Contracts of num.PutText, num.GetText, of the laws' helpers and of the reference's Put and PutText, over the translated program.
-/
import Derived.Test.YtlefhhmggaaiiaaNumW
import Derived.Test.YtlefhhmggaaiiaaSho
namespace Go.Proofs.Ytlefhhmggaaiiaa
open Go.RowKit

set_option maxHeartbeats 400000 in
theorem putText_any (v : Value) (zs : List Int) (s : ByteArray) (w : World) (h : Sl w v zs) (hl : zs.length + s.size ≤ 140737488350000) :
    Calls Try.prog 44 #[v, .string s] w fun e w' => ∃ v', e = .returned v' ∧
      w'.ownsRow w.heap.size 5 1 v' (zs.length + (Nm.text (sb s)).length) (bv (zs ++ Nm.text (sb s))) ∧ Below w.heap.size w w' := by
  obtain ⟨i0, hi, hz0, hz1, hz2⟩ := info_parts Try.info5
  have hfb := Nm.fold_bd (s.size : Int) (by omega) (by omega)
  have hnl := Nm.num_len (s.size : Int)
  have HT : Hid (Nm.text (sb s) = Nm.num s.size ++ sb s) := by show _ = _; unfold Nm.text; rw [sb_len]
  go_enter Try.func44, Try.ntmps44
  go_wp2_with fail
  refine (copyWithRoom_any v zs _ w h (by omega) (by omega)).mono ?_
  rintro e w1 ⟨v1, rfl, ho1, hb1⟩
  go_wp2_with fail
  refine (fold_any _ _ (by omega) (by omega)).mono ?_
  rintro e w2 ⟨rfl, rfl⟩
  go_wp2_with fail
  refine (appendFolded_any v1 zs.length zs (Nm.fold s.size) w.heap.size _ hfb.1 hfb.2 ho1 (by omega) hb1.size).mono ?_
  rintro e w3 ⟨v3, rfl, ho3, hb3⟩
  have hb := hb1.trans hb3
  clear hb1 hb3 ho1
  have hs3 := hb.size
  have HL : Hid ((Nm.enc 9 (Nm.fold s.size)).length ≤ 10) := hnl.2
  go_wp2_with (refine Lib.wpList_append_own_string _ rfl (.tmp 16) (.tmp 17) 47 9 rfl w.heap.size 5 i0 Try.underlying47 Try.underlying9 hi hz0 hz1 hz2 _ _ _ rfl ho3 s rfl (by have := HL.out; unfold maxLen; omega) (by have := HL.out; omega) hs3 ?_; intro v4 w4 ho4 hg4 _)
  have hb4 := hb.grown hg4 hs3 (fun k hk => (ho3.lt k hk).1)
  go_ret
  refine ⟨_, rfl, ?_, hb4⟩
  rw [sb_cells] at ho4
  rw [HT.out]
  simpa [bv, Nm.num, sb_len, Nat.add_assoc] using ho4

set_option maxHeartbeats 400000 in
theorem getText_any (v : Value) (zs : List Int) (w : World) (h : Sl w v zs) :
    Calls Try.prog 63 #[v] w fun e w' => e = .returned (.tuple #[.string (strOfNums (Nm.getText zs).1), .int .i64 (Nm.getText zs).2.1, .int .i64 (Nm.getText zs).2.2]) ∧ w' = w := by
  have HS := hide h
  obtain ⟨a, cap, rfl, hl, hm, hbd, hc⟩ := h
  unfold maxLen at hm
  clear hc
  have hg := Nm.get_bd zs 0 0 (by omega) (by decide) (by omega) hbd
  clear hbd
  have hga := get_any _ zs w HS.out
  obtain ⟨r, hr⟩ : ∃ r, r = Nm.get 0 0 zs := ⟨_, rfl⟩
  rw [← hr] at hga hg
  obtain ⟨n, k, x⟩ := r
  simp only at hga hg
  have HR := hide hr.symm
  clear hr
  have HGA := hide hga
  clear hga
  rcases hg with ⟨rfl, hk1, hk10, hkl, hn0, hn1⟩ | hg
  · simp only [Int.natCast_zero, Int.zero_add] at hk1 hkl
    by_cases hn : n < 0 ∨ 65536 < n
    · have HF := hide (Nm.getText_form HR.out hn)
      cases hd : decide (n < 0)
      · have hn' : 65536 < n := by simp at hd; omega
        have hd' : ¬ n < 0 := by omega
        clear hn
        go_enter Try.func63, Try.ntmps63
        go_wp2_with fail
        refine HGA.out.mono ?_
        rintro e w2 ⟨rfl, rfl⟩
        go_wp2_with fail
        go_ret3
        exact ⟨by rw [HF.out]; rfl, rfl⟩
      · have hd' : n < 0 := by simpa using hd
        clear hn
        go_enter Try.func63, Try.ntmps63
        go_wp2_with fail
        refine HGA.out.mono ?_
        rintro e w2 ⟨rfl, rfl⟩
        go_wp2_with fail
        go_ret3
        exact ⟨by rw [HF.out]; rfl, rfl⟩
    · have h1 : ¬ n < 0 := by omega
      have h2 : ¬ 65536 < n := by omega
      by_cases hle : (zs.length : Int) < k + n
      · have HF := hide (Nm.getText_more HR.out hn hle)
        clear hn
        go_enter Try.func63, Try.ntmps63
        go_wp2_with fail
        refine HGA.out.mono ?_
        rintro e w2 ⟨rfl, rfl⟩
        go_wp2_with fail
        go_ret3
        exact ⟨by rw [HF.out]; rfl, rfl⟩
      · have HF := hide (Nm.getText_ok HR.out hn hle)
        clear hn
        obtain ⟨k, rfl⟩ := Int.eq_ofNat_of_zero_le (show 0 ≤ k by omega)
        obtain ⟨n, rfl⟩ := Int.eq_ofNat_of_zero_le (show 0 ≤ n by omega)
        have hp := HS.out.part (l := k) (m := k + n) (by omega) (by omega) _ rfl
        have HP : Hid (Sl w (.slice (if cap = k then a else Option.map (fun x : Addr => x.add k) a) (k + n - k) (cap - k)) (List.take n (List.drop k zs))) := by
          show Sl _ _ _
          rw [Nat.mul_one] at hp
          rw [show List.take n (List.drop k zs) = List.take (k + n - k) (List.drop k zs) by rw [Nat.add_sub_cancel_left]]
          exact hp
        clear hp
        go_enter Try.func63, Try.ntmps63
        go_wp2_with fail
        refine HGA.out.mono ?_
        rintro e w2 ⟨rfl, rfl⟩
        go_wp2_with (refine wpList_conv rfl (.tmp 34) 47 9 5 rfl Try.underlying47 Try.underlying5 Try.underlying9 _ (List.take n (List.drop k zs)) rfl ?_ ?_; exact HP.out)
        all_goals
          go_ret3
          exact ⟨by rw [HF.out]; rfl, rfl⟩
  · have HF : Hid (Nm.getText zs = ([], 0, x)) := Nm.getText_err HR.out (by omega)
    have hx : (x != 0) = true := by simp; omega
    clear hg
    go_enter Try.func63, Try.ntmps63
    go_wp2_with fail
    refine HGA.out.mono ?_
    rintro e w2 ⟨rfl, rfl⟩
    go_wp2_with fail
    go_ret3
    exact ⟨by rw [HF.out]; rfl, rfl⟩

set_option maxHeartbeats 400000 in
theorem cut_any (s : ByteArray) (n : Nat) (w : World) (_h : s.size ≤ maxLen) :
    Calls Try.prog 32 #[.string s, .int .i64 n] w fun e w' => ∃ s', e = .returned (.string s') ∧ s'.size ≤ n ∧ s'.size ≤ s.size ∧ w' = w := by
  unfold maxLen at _h
  by_cases hn : n < s.size
  · go_enter Try.func32, Try.ntmps32
    go_wp2_with fail
    go_ret
    exact ⟨_, rfl, by simp; omega, by simp; omega, rfl⟩
  · go_enter Try.func32, Try.ntmps32
    go_wp2_with fail
    go_ret
    exact ⟨_, rfl, by omega, by omega, rfl⟩

set_option maxHeartbeats 400000 in
theorem refPut_any (n : Int) (w : World) (h0 : -9223372036854775808 ≤ n) (h1 : n ≤ 9223372036854775807) :
    Calls Try.prog 49 #[.int .i64 n] w fun e w' => ∃ v', e = .returned v' ∧
      w'.ownsRow w.heap.size 5 1 v' (Nm.num n).length (bv (Nm.num n)) ∧ Below w.heap.size w w' := by
  obtain ⟨i0, hi, hz0, hz1, hz2⟩ := info_parts Try.info5
  have hfb := Nm.fold_bd n h0 h1
  have hl10 := (Nm.num_len n).2
  have HH : Hid (∀ f t d, Nm.num n = d ++ Nm.enc f t → d.length ≤ 9) := fun f t d h => by
    have := (Nm.enc_len f t).1
    have h2 := congrArg List.length h
    rw [List.length_append] at h2
    omega
  by_cases hn : n < 0
  all_goals
    go_enter Try.func49, Try.ntmps49
    go_wp2_with fail
    go_loopw [4, 3] (fun v t wr => ∃ (d : List Int) (x : Int) (f : Nat), t = .int .u64 x ∧ 0 ≤ x ∧ x ≤ 18446744073709551615 ∧ Hid (Nm.num n = d ++ Nm.enc f x) ∧ Nm.fits f x ∧
        wr.ownsRow w.heap.size 5 1 v d.length (bv d) ∧ Below w.heap.size w wr) (fun _ t _ => (intOf t).toNat)
    case atStart => exact ⟨[], Nm.fold n, 9, by first | rw [Nm.ref_neg h0 hn] | (rw [← Nm.fold_pos (by omega)]; go_num), hfb.1, hfb.2, rfl, Nm.fits9 _ hfb.2, World.ownsRow_nil _ _ _ _, Below.refl _ _⟩
    case round =>
      obtain ⟨d, x, f, rfl, hx0, hx1, he, hf, ho, hbel⟩ := hrel
      have hd := HH.out _ _ _ he.out
      have hbs := hbel.size
      by_cases hx : 128 ≤ x
      · go_wp2_with (first
          | (at_builtin; refine wpList_append_own _ rfl _ _ 47 rfl w.heap.size 5 i0 (.int .u8 0) 1 1 Try.underlying47 hi hz0 hz1 hz2 rfl (by decide) _ _ _ rfl (ho.alloc _) ⟨wr.heap.size, 0, none⟩ 1 1 [.int .u8 (x % 128 + 128)] rfl rfl (cell_one_new _ _ _) (by intro q hq; simp at hq; subst hq; rfl) (by unfold maxLen; omega) (by omega) (by simp; omega) ?_)
          | fail)
        intro v' w1 hown' hgrow _
        obtain ⟨g, rfl, hg, hfg⟩ := Nm.enc_more hx hf
        have hb1 : Below w.heap.size w w1 := (hbel.alloc hbs _).grown hgrow (by simp; omega) (fun k hk => (ho.lt k hk).1)
        have HR : Hid (w1.ownsRow w.heap.size 5 1 v' (d ++ [x % 128 + 128]).length (bv (d ++ [x % 128 + 128]))) := by
          show World.ownsRow _ _ _ _ _ _ _
          simpa [bv, Nat.add_assoc] using hown'
        have HE : Hid (Nm.num n = (d ++ [x % 128 + 128]) ++ Nm.enc g (x / 128)) := by
          show _ = _
          rw [he.out, hg]; simp
        clear hown' hgrow ho hg he
        go_wp2
        go_roundw
        case rel => exact ⟨d ++ [x % 128 + 128], x / 128, g, rfl, by omega, by omega, HE, hfg, HR.out, hb1⟩
        case measure => simp [intOf]; omega
      · go_wp2_with (first
          | (at_builtin; refine wpList_append_own _ rfl _ _ 47 rfl w.heap.size 5 i0 (.int .u8 0) 1 1 Try.underlying47 hi hz0 hz1 hz2 rfl (by decide) _ _ _ rfl (ho.alloc _) ⟨wr.heap.size, 0, none⟩ 1 1 [.int .u8 x] rfl rfl (cell_one_new _ _ _) (by intro q hq; simp at hq; subst hq; rfl) (by unfold maxLen; omega) (by omega) (by simp; omega) ?_)
          | fail)
        intro v' w1 hown' hgrow _
        have hb1 : Below w.heap.size w w1 := (hbel.alloc hbs _).grown hgrow (by simp; omega) (fun k hk => (ho.lt k hk).1)
        have HE : Hid (Nm.num n = d ++ [x]) := by
          show _ = _
          rw [he.out, Nm.enc_last (by omega)]
        have HR : Hid (w1.ownsRow w.heap.size 5 1 v' (Nm.num n).length (bv (Nm.num n))) := by
          show World.ownsRow _ _ _ _ _ _ _
          rw [HE.out]
          simpa [bv, Nat.add_assoc] using hown'
        clear hown' hgrow ho he
        go_wp2
        go_ret
        exact ⟨_, rfl, HR.out, hb1⟩

theorem text_bd (s : ByteArray) (h : s.size ≤ 140737488350000) : ∀ z ∈ Nm.text (sb s), 0 ≤ z ∧ z ≤ 255 :=
  bd_app (Nm.num_bd _ (by omega) (by rw [sb_len]; omega)) (sb_bd s)

set_option maxHeartbeats 400000 in
theorem refPutText_any (s : ByteArray) (w : World) (hl : s.size ≤ 140737488350000) :
    Calls Try.prog 47 #[.string s] w fun e w' => ∃ v', e = .returned v' ∧
      w'.ownsRow w.heap.size 5 1 v' (Nm.text (sb s)).length (bv (Nm.text (sb s))) ∧ Below w.heap.size w w' := by
  obtain ⟨i0, hi, hz0, hz1, hz2⟩ := info_parts Try.info5
  have hnl := Nm.num_len (s.size : Int)
  have HT : Hid (Nm.text (sb s) = Nm.num s.size ++ sb s) := by show _ = _; unfold Nm.text; rw [sb_len]
  go_enter Try.func47, Try.ntmps47
  go_wp2_with fail
  refine (refPut_any _ w (by omega) (by omega)).mono ?_
  rintro e w3 ⟨v3, rfl, ho3, hb⟩
  have hs3 := hb.size
  go_wp2_with (refine Lib.wpList_append_own_string _ rfl (.tmp 5) (.tmp 6) 47 9 rfl w.heap.size 5 i0 Try.underlying47 Try.underlying9 hi hz0 hz1 hz2 _ _ _ rfl ho3 s rfl (by unfold maxLen; omega) (by omega) hs3 ?_; intro v4 w4 ho4 hg4 _)
  have hb4 := hb.grown hg4 hs3 (fun k hk => (ho3.lt k hk).1)
  go_ret
  refine ⟨_, rfl, ?_, hb4⟩
  rw [sb_cells] at ho4
  rw [HT.out]
  simpa [bv, sb_len] using ho4
end Go.Proofs.Ytlefhhmggaaiiaa
