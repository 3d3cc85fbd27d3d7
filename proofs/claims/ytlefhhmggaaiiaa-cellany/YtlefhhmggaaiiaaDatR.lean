/-
  The contracts of the reference's readers of numbers and texts over the translated program.
-/
import Derived.Test.YtlefhhmggaaiiaaNumB
namespace Go.Proofs.Ytlefhhmggaaiiaa
open Go.RowKit

theorem pow_bd (k : Nat) (hk : k ≤ 9) : 1 ≤ (128 : Int) ^ k ∧ (128 : Int) ^ k ≤ 9223372036854775808 := by
  rw [Nm.pow_nat]
  have h1 : 2 ^ (7 * k) ≤ 2 ^ 63 := Nat.pow_le_pow_right (by omega) (by omega)
  have h2 : 0 < 2 ^ (7 * k) := Nat.pow_pos (by omega)
  omega

theorem prod_bd (c : Int) {k : Nat} (hk : k ≤ 9) : 0 ≤ (c % 128) * (128 : Int) ^ k := by
  have h := pow_bd k hk
  exact Int.mul_nonneg (by omega) (by omega)

set_option maxHeartbeats 1000000 in
theorem refGet_any (v : Value) (zs : List Int) (w : World) (h : Sl w v zs) :
    Calls Try.prog 68 #[v] w fun e w' => e = .returned (.tuple #[.int .i64 (Nm.get 0 0 zs).1, .int .i64 (Nm.get 0 0 zs).2.1, .int .i64 (Nm.get 0 0 zs).2.2]) ∧ w' = w := by
  obtain ⟨a, cap, rfl, hl, hm, hbd, hc⟩ := h
  unfold maxLen at hm
  have HC := hide hc
  have HB := hide hbd
  clear hc hbd
  go_enter Try.func68, Try.ntmps68
  go_wp2_with fail
  go_loop [5, 6, 7] (fun u m i => ∃ (k : Nat) (t M : Int), k ≤ zs.length ∧ k ≤ 9 ∧ i = .int .i64 k ∧ u = .int .u64 t ∧ m = .int .u64 M ∧ 0 ≤ t ∧ t ≤ 18446744073709551615 ∧ Hid (M = 128 ^ k) ∧ Hid (t < 128 ^ k) ∧ Hid (Nm.get 0 0 zs = Nm.get k t (zs.drop k))) (fun _ _ i => zs.length - (intOf i).toNat)
  case atStart => exact ⟨0, 0, 1, Nat.zero_le _, by omega, rfl, rfl, rfl, by omega, by omega, rfl, by show _ < _; omega, by show _ = _; simp⟩
  case round =>
    obtain ⟨k, t, M, hk, hk9, rfl, rfl, rfl, ht0, ht1, HM, ht, he⟩ := hrel
    by_cases hlt : k < zs.length
    · obtain ⟨b, off, rfl, hcell⟩ := HC.out k hlt
      have hcb := HB.out (zs.getD k 0) (by rw [getD_at hlt]; exact List.getElem_mem hlt)
      have hdr : zs.drop k = zs.getD k 0 :: zs.drop (k + 1) := by rw [getD_at hlt]; exact List.drop_eq_getElem_cons hlt
      have HD := hide hdr
      generalize zs.getD k 0 = c at *
      clear hdr HC HB
      obtain ⟨hc0, hc1⟩ := hcb
      by_cases hA : k = 9 ∧ 1 < c
      · obtain ⟨hA1, hA2⟩ := hA
        have HF : Hid (Nm.get 0 0 zs = (0, 0, 1)) := by show _ = _; rw [he.out, HD.out, Nm.get_far hA1 hA2]
        have hA1' : ((k : Int) == 9) = true := by simp; omega
        clear hA1
        go_wp2_with fail
        go_ret3
        exact ⟨by rw [HF.out]; rfl, rfl⟩
      · have h9 : k = 9 → c ≤ 1 := fun h => by omega
        have hsb := Nm.step_bd t c k ht0 ht.out hc0 hk9 h9
        have hMb := pow_bd k hk9
        have hP0 := prod_bd c hk9
        rw [← HM.out] at hMb hP0
        by_cases hC : c = 0 ∧ 0 < k
        · obtain ⟨hC1, hC2⟩ := hC
          have HF : Hid (Nm.get 0 0 zs = (0, 0, 1)) := by show _ = _; rw [he.out, HD.out, Nm.get_long hC2 hC1]
          have hC1' : (c == 0) = true := by simp [hC1]
          have hC3 : ¬ 1 < c := by omega
          clear hC1 h9 hA hsb hP0 hMb
          cases hk9' : ((k : Int) == 9)
          all_goals
            go_wp2_with fail
            go_ret3
            exact ⟨by rw [HF.out]; rfl, rfl⟩
        · have e1 : t + (c % 128) * 128 ^ k = t + (c % 128) * M := by rw [HM.out]
          have HX : Hid (t + (c % 128) * M = t + (c % 128) * 128 ^ k) := e1.symm
          rw [e1] at hsb
          obtain ⟨P, hP⟩ : ∃ P, (c % 128) * M = P := ⟨_, rfl⟩
          rw [hP] at hsb hP0 HX
          obtain ⟨hx0, hx1, hx2⟩ := hsb
          have HX2 := hide hx2
          clear hx2 e1
          have hk0 : ¬ 0 < k ∨ (c == 0) = false := by
            rcases Nat.eq_zero_or_pos k with h | h
            · left; omega
            · right; simp; omega
          by_cases hB : 128 ≤ c
          · have hk8 : ¬ k = 9 := fun h => by have := h9 h; omega
            have HF : Hid (Nm.get 0 0 zs = Nm.get (k + 1) (t + P) (zs.drop (k + 1))) := by show _ = _; rw [he.out, HD.out, Nm.get_more hk8 hB hc1, ← HX.out]
            have hk8' : ((k : Int) == 9) = false := by simp; omega
            have hcz : (c == 0) = false := by simp; omega
            have hpw := pow_bd (k + 1) (by omega)
            have HQ : Hid (M * 128 = 128 ^ (k + 1)) := by show _ = _; rw [Int.pow_succ, HM.out]
            rw [← HQ.out] at hpw
            have hk8'' : k + 1 ≤ 9 := by omega
            clear h9 hA hk8 hC hk0
            go_wp2_with fail
            all_goals
              go_round
              case rel => exact ⟨k + 1, t + P, M * 128, by omega, hk8'', by go_num, rfl, rfl, hx0, hx1, HQ, HX2, HF⟩
              case measure => simp [intOf]; omega
          · have HF : Hid (Nm.get 0 0 zs = (Nm.unfold (t + P), (k : Int) + 1, 0)) := by show _ = _; rw [he.out, HD.out, Nm.get_last h9 hc0 (by omega) (fun h => by omega), ← HX.out]
            have hgt : k = 9 → decide (1 < c) = false := fun h => by have := h9 h; simp; omega
            clear h9 hA hC
            cases hpar : ((t + P) % 2 == 1)
            all_goals
              have HU := hide hpar
              rcases hk0 with hk0 | hk0
              all_goals
                cases hk9' : ((k : Int) == 9)
                · clear hgt
                  go_wp2_with fail
                  all_goals
                    go_ret3
                    exact ⟨by rw [HF.out]; first | (rw [← Nm.unfold_odd HU.out]; rfl) | (rw [← Nm.unfold_even HU.out]; rfl), rfl⟩
                · have hg2 := hgt (by simp at hk9'; omega)
                  clear hgt
                  go_wp2_with fail
                  all_goals
                    go_ret3
                    exact ⟨by rw [HF.out]; first | (rw [← Nm.unfold_odd HU.out]; rfl) | (rw [← Nm.unfold_even HU.out]; rfl), rfl⟩
    · have HF : Hid (Nm.get 0 0 zs = (0, 0, 2)) := by
        show _ = _
        rw [he.out, List.drop_eq_nil_of_le (by omega), Nm.get_end]
      go_wp2_with fail
      go_ret3
      exact ⟨by rw [HF.out]; rfl, rfl⟩
set_option maxHeartbeats 1000000 in
theorem refGetText_any (v : Value) (zs : List Int) (w : World) (h : Sl w v zs) :
    Calls Try.prog 66 #[v] w fun e w' => e = .returned (.tuple #[.string (strOfNums (Nm.getText zs).1), .int .i64 (Nm.getText zs).2.1, .int .i64 (Nm.getText zs).2.2]) ∧ w' = w := by
  have HS := hide h
  obtain ⟨a, cap, rfl, hl, hm, hbd, hc⟩ := h
  unfold maxLen at hm
  clear hc
  have hg := Nm.get_bd zs 0 0 (by omega) (by decide) (by omega) hbd
  clear hbd
  have hga := refGet_any _ zs w HS.out
  obtain ⟨r, hr⟩ : ∃ r, r = Nm.get 0 0 zs := ⟨_, rfl⟩
  rw [← hr] at hga hg
  obtain ⟨n, k, x⟩ := r
  simp only at hga hg
  have HR := hide hr.symm
  clear hr
  have HGA := hide hga
  clear hga
  rcases hg with ⟨rfl, hk1, hk10, hkl, hn0, hn1⟩ | hg
  · simp only [Int.natCast_zero, Int.zero_add] at hk1 hkl
    by_cases hn : n < 0 ∨ 65536 < n
    · have HF := hide (Nm.getText_form HR.out hn)
      cases hd : decide (n < 0)
      · have hn' : 65536 < n := by simp at hd; omega
        have hd' : ¬ n < 0 := by omega
        clear hn
        go_enter Try.func66, Try.ntmps66
        go_wp2_with fail
        refine HGA.out.mono ?_
        rintro e w2 ⟨rfl, rfl⟩
        go_wp2_with fail
        go_ret3
        exact ⟨by rw [HF.out]; rfl, rfl⟩
      · have hd' : n < 0 := by simpa using hd
        clear hn
        go_enter Try.func66, Try.ntmps66
        go_wp2_with fail
        refine HGA.out.mono ?_
        rintro e w2 ⟨rfl, rfl⟩
        go_wp2_with fail
        go_ret3
        exact ⟨by rw [HF.out]; rfl, rfl⟩
    · have h1 : ¬ n < 0 := by omega
      have h2 : ¬ 65536 < n := by omega
      by_cases hle : (zs.length : Int) < k + n
      · have HF := hide (Nm.getText_more HR.out hn hle)
        have hle' : (zs.length : Int) - k < n := by omega
        clear hn
        go_enter Try.func66, Try.ntmps66
        go_wp2_with fail
        refine HGA.out.mono ?_
        rintro e w2 ⟨rfl, rfl⟩
        go_wp2_with fail
        go_ret3
        exact ⟨by rw [HF.out]; rfl, rfl⟩
      · have HF := hide (Nm.getText_ok HR.out hn hle)
        clear hn
        obtain ⟨k, rfl⟩ := Int.eq_ofNat_of_zero_le (show 0 ≤ k by omega)
        obtain ⟨n, rfl⟩ := Int.eq_ofNat_of_zero_le (show 0 ≤ n by omega)
        have hle' : ¬ (zs.length : Int) - k < n := by omega
        have hp := HS.out.part (l := k) (m := k + n) (by omega) (by omega) _ rfl
        have HP : Hid (Sl w (.slice (if cap = k then a else Option.map (fun x : Addr => x.add k) a) (k + n - k) (cap - k)) (List.take n (List.drop k zs))) := by
          show Sl _ _ _
          rw [Nat.mul_one] at hp
          rw [show List.take n (List.drop k zs) = List.take (k + n - k) (List.drop k zs) by rw [Nat.add_sub_cancel_left]]
          exact hp
        clear hp
        go_enter Try.func66, Try.ntmps66
        go_wp2_with fail
        refine HGA.out.mono ?_
        rintro e w2 ⟨rfl, rfl⟩
        go_wp2_with (refine wpList_conv rfl (.tmp 34) 47 9 5 rfl Try.underlying47 Try.underlying5 Try.underlying9 _ (List.take n (List.drop k zs)) rfl ?_ ?_; exact HP.out)
        all_goals
          go_ret3
          exact ⟨by rw [HF.out]; rfl, rfl⟩
  · have HF : Hid (Nm.getText zs = ([], 0, x)) := Nm.getText_err HR.out (by omega)
    have hx : (x != 0) = true := by simp; omega
    clear hg
    go_enter Try.func66, Try.ntmps66
    go_wp2_with fail
    refine HGA.out.mono ?_
    rintro e w2 ⟨rfl, rfl⟩
    go_wp2_with fail
    go_ret3
    exact ⟨by rw [HF.out]; rfl, rfl⟩
end Go.Proofs.Ytlefhhmggaaiiaa
