/-
  The contract of engrossref1.Place over the translated program.
-/
import Derived.Test.YtlefhhmggaaiiabFltC
namespace Go.Proofs.Ytlefhhmggaaiiab
open Go.RowKit

set_option maxHeartbeats 400000 in
theorem place_any (x : Nat) (w : World) (hx : x < 18446744073709551616) :
    Calls Try.prog 43 #[.float .f64 x] w fun e w' => e = .returned (.int .i64 ((Fl.rk x : Int) - 9223372036854775808)) ∧ w' = w := by
  have kb := run_bits
  have hm := Fl.w_most x hx
  cases hn : Fl.nan x
  · have HN := hide hn
    by_cases hs : x < 9223372036854775808
    · have HR : Hid ((x : Int) = (Fl.rk x : Int) - 9223372036854775808) := by show _ = _; unfold Fl.rk; rw [hn, if_pos hs]; simp
      have hd : ((x : Int) / 9223372036854775808 == 1) = false := by simp; omega
      clear hn hm
      go_enter Try.func43, Try.ntmps43
      go_wp2_with fail
      with_reducible refine (refNaN_any x _ hx).mono ?_
      rintro e x ⟨rfl, rfl⟩
      rw [HN.out]
      go_wp2_with fail
      go_ret
      exact ⟨ret_int HR.out, rfl⟩
    · have HR : Hid (-((x % 9223372036854775808 : Nat) : Int) - 1 = (Fl.rk x : Int) - 9223372036854775808) := by show _ = _; unfold Fl.rk; rw [hn, if_neg hs]; simp; omega
      have hd : ((x : Int) / 9223372036854775808 == 1) = true := by simp; omega
      have hq : x % 9223372036854775808 < 9223372036854775808 := Nat.mod_lt _ (by decide)
      generalize x % 9223372036854775808 = q at *
      clear hn
      go_enter Try.func43, Try.ntmps43
      go_wp2_with fail
      with_reducible refine (refNaN_any x _ hx).mono ?_
      rintro e x ⟨rfl, rfl⟩
      rw [HN.out]
      go_wp2_with fail
      go_ret
      exact ⟨ret_int HR.out, rfl⟩
  · have HR := hide (Fl.rk_nan hn)
    have HN := hide hn
    clear hn hm
    go_enter Try.func43, Try.ntmps43
    go_wp2_with fail
    with_reducible refine (refNaN_any x _ hx).mono ?_
    rintro e x ⟨rfl, rfl⟩
    rw [HN.out]
    go_wp2_with fail
    go_ret
    exact ⟨ret_int (by rw [HR.out]; rfl), rfl⟩
end Go.Proofs.Ytlefhhmggaaiiab
