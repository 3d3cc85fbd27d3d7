/-
  Contracts of the functions of package float that make nothing, and of the helpers of its laws, each over the translated program.
-/
import Derived.Test.YtlfdggmgmeihoabRows
import Derived.Test.YtlfdggmgmeihoabFltA
import Derived.Test.YtlfdggmgmeihoabFltB
import Derived.Test.YtlfdggmgmeihoabBas
import Derived.Laws.Externs
namespace Go.Proofs.Ytlfdggmgmeihoab
open Go.RowKit

theorem u64_signed : IntKind.u64.signed = false := rfl
theorem u64_max : IntKind.u64.max = 18446744073709551615 := rfl
theorem ret_float {a b : Nat} (h : a = b) : Ending.returned (.float .f64 a) = .returned (.float .f64 b) := by rw [h]

theorem run_bits (x : Nat) (w : World) : (callFunc 23 #[.float .f64 x]).run Try.prog w = .ok (.value (.int .u64 (x : Int))) w := by
  rw [run_callFunc_extern Try.func23 (by kernel_rfl) (by kernel_rfl) (by kernel_rfl) (e := Extern.MathFloatBits.float64bits) (by kernel_rfl)]
  rfl
theorem run_frombits (x : Nat) (w : World) : (callFunc 21 #[.int .u64 (x : Int)]).run Try.prog w = .ok (.value (.float .f64 x)) w := by
  rw [run_callFunc_extern Try.func21 (by kernel_rfl) (by kernel_rfl) (by kernel_rfl) (e := Extern.MathFloatBits.float64frombits) (by kernel_rfl)]
  rfl
theorem run_frombits_int (x : Int) (w : World) : (callFunc 21 #[.int .u64 x]).run Try.prog w = .ok (.value (.float .f64 x.toNat)) w := by
  rw [run_callFunc_extern Try.func21 (by kernel_rfl) (by kernel_rfl) (by kernel_rfl) (e := Extern.MathFloatBits.float64frombits) (by kernel_rfl)]
  rfl

set_option maxHeartbeats 400000 in
theorem isNaN_any (x : Nat) (w : World) :
    Calls Try.prog 22 #[.float .f64 x] w fun e w' => e = .returned (.bool (Fl.nan x)) ∧ w' = w := by
  have HN := hide (Fl.is_nan x)
  go_enter Try.func22, Try.ntmps22
  go_wp2_with fail
  go_ret
  exact ⟨ret_bool HN.out, rfl⟩

set_option maxHeartbeats 400000 in
theorem clean_any (x : Nat) (w : World) :
    Calls Try.prog 19 #[.float .f64 x] w fun e w' => e = .returned (.float .f64 (Fl.cl x)) ∧ w' = w := by
  have kf := run_frombits_int
  cases hn : Fl.nan x
  all_goals
    have HN := hide hn
    go_enter Try.func19, Try.ntmps19
    go_wp2_with fail
    refine (isNaN_any x _).mono ?_
    rintro e w1 ⟨rfl, rfl⟩
    rw [HN.out]
    go_wp2_with fail
    go_ret
    exact ⟨ret_float (by first | rw [Fl.cl_not HN.out] | rw [Fl.cl_nan HN.out]), rfl⟩

set_option maxHeartbeats 400000 in
theorem rank_any (x : Nat) (w : World) (hx : x < 18446744073709551616) :
    Calls Try.prog 18 #[.float .f64 x] w fun e w' => e = .returned (.int .u64 ((Fl.rk x : Nat) : Int)) ∧ w' = w := by
  have kb := run_bits
  have hsg := u64_signed
  have hmx := u64_max
  cases hn : Fl.nan x
  · have HN := hide hn
    have ha := Fl.w_sign x hx
    have hf := Fl.w_flip x hx
    have ht := Fl.w_not x hx
    by_cases hs : x < 9223372036854775808
    · rw [if_pos hs] at ha hf
      have HR : Hid (Fl.rk x = x + 9223372036854775808) := by show _ = _; unfold Fl.rk; rw [hn, if_pos hs]; rfl
      clear hn ht
      go_enter Try.func18, Try.ntmps18
      go_wp2_with fail
      refine (isNaN_any x _).mono ?_
      rintro e w1 ⟨rfl, rfl⟩
      rw [HN.out]
      go_wp2_with fail
      go_ret
      exact ⟨ret_int (by rw [HR.out]; omega), rfl⟩
    · rw [if_neg hs] at ha hf
      have HR : Hid (Fl.rk x = 18446744073709551615 - x) := by show _ = _; unfold Fl.rk; rw [hn, if_neg hs]; rfl
      clear hn hf
      go_enter Try.func18, Try.ntmps18
      go_wp2_with fail
      refine (isNaN_any x _).mono ?_
      rintro e w1 ⟨rfl, rfl⟩
      rw [HN.out]
      go_wp2_with fail
      go_ret
      exact ⟨ret_int (by rw [HR.out]), rfl⟩
  · have HN := hide hn
    clear hn
    go_enter Try.func18, Try.ntmps18
    go_wp2_with fail
    refine (isNaN_any x _).mono ?_
    rintro e w1 ⟨rfl, rfl⟩
    rw [HN.out]
    go_wp2_with fail
    go_ret
    exact ⟨ret_int (by rw [Fl.rk_nan HN.out]; rfl), rfl⟩

set_option maxHeartbeats 400000 in
theorem ranked_any (r : Nat) (w : World) (hr : r < 18446744073709551616) :
    Calls Try.prog 17 #[.int .u64 (r : Int)] w fun e w' => e = .returned (.float .f64 (Fl.un r)) ∧ w' = w := by
  have kf := run_frombits_int
  have hsg := u64_signed
  have hmx := u64_max
  have ha := Fl.w_sign r hr
  by_cases hs : r < 9223372036854775808
  · rw [if_pos hs] at ha
    have ht := Fl.w_un_lo hr hs
    generalize Fl.un r = q at *
    go_enter Try.func17, Try.ntmps17
    go_wp2_with fail
    go_ret
    exact ⟨rfl, rfl⟩
  · rw [if_neg hs] at ha
    have ht := Fl.w_un_hi hr hs
    generalize Fl.un r = q at *
    go_enter Try.func17, Try.ntmps17
    go_wp2_with fail
    go_ret
    exact ⟨rfl, rfl⟩

theorem beq_nat (a b : Nat) : ((a : Int) == (b : Int)) = decide (a = b) := by
  rw [Bool.eq_iff_iff]
  simp
  omega

end Go.Proofs.Ytlfdggmgmeihoab
