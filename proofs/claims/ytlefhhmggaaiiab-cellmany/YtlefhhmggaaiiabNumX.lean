/-
  Contracts of num.PutText, num.GetText, of the laws' helpers and of the reference's Put and PutText, over the translated program.
-/
import Derived.Test.YtlefhhmggaaiiabNumW
import Derived.Test.YtlefhhmggaaiiabSho
namespace Go.Proofs.Ytlefhhmggaaiiab
open Go.RowKit

set_option maxHeartbeats 400000 in
theorem putText_any (v : Value) (zs : List Int) (s : ByteArray) (w : World) (h : Sl w v zs) (hl : zs.length + s.size ≤ 140737488350000) :
    Calls Try.prog 22 #[v, .string s] w fun e w' => ∃ v', e = .returned v' ∧
      w'.ownsRow w.heap.size 5 1 v' (zs.length + (Nm.text (sb s)).length) (bv (zs ++ Nm.text (sb s))) ∧ Below w.heap.size w w' := by
  obtain ⟨i0, hi, hz0, hz1, hz2⟩ := info_parts Try.info5
  have hfb := Nm.fold_bd (s.size : Int) (by omega) (by omega)
  have hnl := Nm.num_len (s.size : Int)
  have HT : Hid (Nm.text (sb s) = Nm.num s.size ++ sb s) := by show _ = _; unfold Nm.text; rw [sb_len]
  go_enter Try.func22, Try.ntmps22
  go_wp2_with fail
  refine (copyWithRoom_any v zs _ w h (by omega) (by omega)).mono ?_
  rintro e w1 ⟨v1, rfl, ho1, hb1⟩
  go_wp2_with fail
  refine (fold_any _ _ (by omega) (by omega)).mono ?_
  rintro e w2 ⟨rfl, rfl⟩
  go_wp2_with fail
  refine (appendFolded_any v1 zs.length zs (Nm.fold s.size) w.heap.size _ hfb.1 hfb.2 ho1 (by omega) hb1.size).mono ?_
  rintro e w3 ⟨v3, rfl, ho3, hb3⟩
  have hb := hb1.trans hb3
  clear hb1 hb3 ho1
  have hs3 := hb.size
  have HL : Hid ((Nm.enc 9 (Nm.fold s.size)).length ≤ 10) := hnl.2
  go_wp2_with (refine Lib.wpList_append_own_string _ rfl (.tmp 16) (.tmp 17) 24 9 rfl w.heap.size 5 i0 Try.underlying24 Try.underlying9 hi hz0 hz1 hz2 _ _ _ rfl ho3 s rfl (by have := HL.out; unfold maxLen; omega) (by have := HL.out; omega) hs3 ?_; intro v4 w4 ho4 hg4 _)
  have hb4 := hb.grown hg4 hs3 (fun k hk => (ho3.lt k hk).1)
  go_ret
  refine ⟨_, rfl, ?_, hb4⟩
  rw [sb_cells] at ho4
  rw [HT.out]
  simpa [bv, Nm.num, sb_len, Nat.add_assoc] using ho4

set_option maxHeartbeats 400000 in
theorem getText_any (v : Value) (zs : List Int) (w : World) (h : Sl w v zs) :
    Calls Try.prog 40 #[v] w fun e w' => e = .returned (.tuple #[.string (strOfNums (Nm.getText zs).1), .int .i64 (Nm.getText zs).2.1, .int .i64 (Nm.getText zs).2.2]) ∧ w' = w := by
  have HS := hide h
  obtain ⟨a, cap, rfl, hl, hm, hbd, hc⟩ := h
  unfold maxLen at hm
  clear hc
  have hg := Nm.get_bd zs 0 0 (by omega) (by decide) (by omega) hbd
  clear hbd
  have hga := get_any _ zs w HS.out
  obtain ⟨r, hr⟩ : ∃ r, r = Nm.get 0 0 zs := ⟨_, rfl⟩
  rw [← hr] at hga hg
  obtain ⟨n, k, x⟩ := r
  simp only at hga hg
  have HR := hide hr.symm
  clear hr
  have HGA := hide hga
  clear hga
  rcases hg with ⟨rfl, hk1, hk10, hkl, hn0, hn1⟩ | hg
  · simp only [Int.natCast_zero, Int.zero_add] at hk1 hkl
    by_cases hn : n < 0 ∨ 65536 < n
    · have HF := hide (Nm.getText_form HR.out hn)
      cases hd : decide (n < 0)
      · have hn' : 65536 < n := by simp at hd; omega
        have hd' : ¬ n < 0 := by omega
        clear hn
        go_enter Try.func40, Try.ntmps40
        go_wp2_with fail
        refine HGA.out.mono ?_
        rintro e w2 ⟨rfl, rfl⟩
        go_wp2_with fail
        go_ret3
        exact ⟨by rw [HF.out]; rfl, rfl⟩
      · have hd' : n < 0 := by simpa using hd
        clear hn
        go_enter Try.func40, Try.ntmps40
        go_wp2_with fail
        refine HGA.out.mono ?_
        rintro e w2 ⟨rfl, rfl⟩
        go_wp2_with fail
        go_ret3
        exact ⟨by rw [HF.out]; rfl, rfl⟩
    · have h1 : ¬ n < 0 := by omega
      have h2 : ¬ 65536 < n := by omega
      by_cases hle : (zs.length : Int) < k + n
      · have HF := hide (Nm.getText_more HR.out hn hle)
        clear hn
        go_enter Try.func40, Try.ntmps40
        go_wp2_with fail
        refine HGA.out.mono ?_
        rintro e w2 ⟨rfl, rfl⟩
        go_wp2_with fail
        go_ret3
        exact ⟨by rw [HF.out]; rfl, rfl⟩
      · have HF := hide (Nm.getText_ok HR.out hn hle)
        clear hn
        obtain ⟨k, rfl⟩ := Int.eq_ofNat_of_zero_le (show 0 ≤ k by omega)
        obtain ⟨n, rfl⟩ := Int.eq_ofNat_of_zero_le (show 0 ≤ n by omega)
        have hp := HS.out.part (l := k) (m := k + n) (by omega) (by omega) _ rfl
        have HP : Hid (Sl w (.slice (if cap = k then a else Option.map (fun x : Addr => x.add k) a) (k + n - k) (cap - k)) (List.take n (List.drop k zs))) := by
          show Sl _ _ _
          rw [Nat.mul_one] at hp
          rw [show List.take n (List.drop k zs) = List.take (k + n - k) (List.drop k zs) by rw [Nat.add_sub_cancel_left]]
          exact hp
        clear hp
        go_enter Try.func40, Try.ntmps40
        go_wp2_with fail
        refine HGA.out.mono ?_
        rintro e w2 ⟨rfl, rfl⟩
        go_wp2_with (refine wpList_conv rfl (.tmp 34) 24 9 5 rfl Try.underlying24 Try.underlying5 Try.underlying9 _ (List.take n (List.drop k zs)) rfl ?_ ?_; exact HP.out)
        all_goals
          go_ret3
          exact ⟨by rw [HF.out]; rfl, rfl⟩
  · have HF : Hid (Nm.getText zs = ([], 0, x)) := Nm.getText_err HR.out (by omega)
    have hx : (x != 0) = true := by simp; omega
    clear hg
    go_enter Try.func40, Try.ntmps40
    go_wp2_with fail
    refine HGA.out.mono ?_
    rintro e w2 ⟨rfl, rfl⟩
    go_wp2_with fail
    go_ret3
    exact ⟨by rw [HF.out]; rfl, rfl⟩

set_option maxHeartbeats 400000 in
theorem cut_any (s : ByteArray) (n : Nat) (w : World) (_h : s.size ≤ maxLen) :
    Calls Try.prog 18 #[.string s, .int .i64 n] w fun e w' => ∃ s', e = .returned (.string s') ∧ s'.size ≤ n ∧ s'.size ≤ s.size ∧ w' = w := by
  unfold maxLen at _h
  by_cases hn : n < s.size
  · go_enter Try.func18, Try.ntmps18
    go_wp2_with fail
    go_ret
    exact ⟨_, rfl, by simp; omega, by simp; omega, rfl⟩
  · go_enter Try.func18, Try.ntmps18
    go_wp2_with fail
    go_ret
    exact ⟨_, rfl, by omega, by omega, rfl⟩

theorem text_bd (s : ByteArray) (h : s.size ≤ 140737488350000) : ∀ z ∈ Nm.text (sb s), 0 ≤ z ∧ z ≤ 255 :=
  bd_app (Nm.num_bd _ (by omega) (by rw [sb_len]; omega)) (sb_bd s)

end Go.Proofs.Ytlefhhmggaaiiab
