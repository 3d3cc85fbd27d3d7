/-
  Contracts of the functions of package float that make nothing, and of the helpers of its laws, each over the translated program.
-/
import Derived.Test.YtlefhhmggaaiiabRows
import Derived.Test.YtlefhhmggaaiiabFltA
import Derived.Test.YtlefhhmggaaiiabFltB
import Derived.Test.YtlefhhmggaaiiabBas
import Derived.Laws.Externs
namespace Go.Proofs.Ytlefhhmggaaiiab
open Go.RowKit

theorem u64_signed : IntKind.u64.signed = false := rfl
theorem u64_max : IntKind.u64.max = 18446744073709551615 := rfl
theorem ret_float {a b : Nat} (h : a = b) : Ending.returned (.float .f64 a) = .returned (.float .f64 b) := by rw [h]

theorem run_bits (x : Nat) (w : World) : (callFunc 47 #[.float .f64 x]).run Try.prog w = .ok (.value (.int .u64 (x : Int))) w := by
  rw [run_callFunc_extern Try.func47 (by kernel_rfl) (by kernel_rfl) (by kernel_rfl) (e := Extern.MathFloatBits.float64bits) (by kernel_rfl)]
  rfl
theorem run_frombits (x : Nat) (w : World) : (callFunc 49 #[.int .u64 (x : Int)]).run Try.prog w = .ok (.value (.float .f64 x)) w := by
  rw [run_callFunc_extern Try.func49 (by kernel_rfl) (by kernel_rfl) (by kernel_rfl) (e := Extern.MathFloatBits.float64frombits) (by kernel_rfl)]
  rfl
theorem run_frombits_int (x : Int) (w : World) : (callFunc 49 #[.int .u64 x]).run Try.prog w = .ok (.value (.float .f64 x.toNat)) w := by
  rw [run_callFunc_extern Try.func49 (by kernel_rfl) (by kernel_rfl) (by kernel_rfl) (e := Extern.MathFloatBits.float64frombits) (by kernel_rfl)]
  rfl

set_option maxHeartbeats 400000 in
theorem isNaN_any (x : Nat) (w : World) :
    Calls Try.prog 53 #[.float .f64 x] w fun e w' => e = .returned (.bool (Fl.nan x)) ∧ w' = w := by
  have HN := hide (Fl.is_nan x)
  go_enter Try.func53, Try.ntmps53
  go_wp2_with fail
  go_ret
  exact ⟨ret_bool HN.out, rfl⟩

set_option maxHeartbeats 400000 in
theorem clean_any (x : Nat) (w : World) :
    Calls Try.prog 45 #[.float .f64 x] w fun e w' => e = .returned (.float .f64 (Fl.cl x)) ∧ w' = w := by
  have kf := run_frombits_int
  cases hn : Fl.nan x
  all_goals
    have HN := hide hn
    go_enter Try.func45, Try.ntmps45
    go_wp2_with fail
    refine (isNaN_any x _).mono ?_
    rintro e w1 ⟨rfl, rfl⟩
    rw [HN.out]
    go_wp2_with fail
    go_ret
    exact ⟨ret_float (by first | rw [Fl.cl_not HN.out] | rw [Fl.cl_nan HN.out]), rfl⟩

set_option maxHeartbeats 400000 in
theorem rank_any (x : Nat) (w : World) (hx : x < 18446744073709551616) :
    Calls Try.prog 50 #[.float .f64 x] w fun e w' => e = .returned (.int .u64 ((Fl.rk x : Nat) : Int)) ∧ w' = w := by
  have kb := run_bits
  have hsg := u64_signed
  have hmx := u64_max
  cases hn : Fl.nan x
  · have HN := hide hn
    have ha := Fl.w_sign x hx
    have hf := Fl.w_flip x hx
    have ht := Fl.w_not x hx
    by_cases hs : x < 9223372036854775808
    · rw [if_pos hs] at ha hf
      have HR : Hid (Fl.rk x = x + 9223372036854775808) := by show _ = _; unfold Fl.rk; rw [hn, if_pos hs]; rfl
      clear hn ht
      go_enter Try.func50, Try.ntmps50
      go_wp2_with fail
      refine (isNaN_any x _).mono ?_
      rintro e w1 ⟨rfl, rfl⟩
      rw [HN.out]
      go_wp2_with fail
      go_ret
      exact ⟨ret_int (by rw [HR.out]; omega), rfl⟩
    · rw [if_neg hs] at ha hf
      have HR : Hid (Fl.rk x = 18446744073709551615 - x) := by show _ = _; unfold Fl.rk; rw [hn, if_neg hs]; rfl
      clear hn hf
      go_enter Try.func50, Try.ntmps50
      go_wp2_with fail
      refine (isNaN_any x _).mono ?_
      rintro e w1 ⟨rfl, rfl⟩
      rw [HN.out]
      go_wp2_with fail
      go_ret
      exact ⟨ret_int (by rw [HR.out]), rfl⟩
  · have HN := hide hn
    clear hn
    go_enter Try.func50, Try.ntmps50
    go_wp2_with fail
    refine (isNaN_any x _).mono ?_
    rintro e w1 ⟨rfl, rfl⟩
    rw [HN.out]
    go_wp2_with fail
    go_ret
    exact ⟨ret_int (by rw [Fl.rk_nan HN.out]; rfl), rfl⟩

set_option maxHeartbeats 400000 in
theorem ranked_any (r : Nat) (w : World) (hr : r < 18446744073709551616) :
    Calls Try.prog 56 #[.int .u64 (r : Int)] w fun e w' => e = .returned (.float .f64 (Fl.un r)) ∧ w' = w := by
  have kf := run_frombits_int
  have hsg := u64_signed
  have hmx := u64_max
  have ha := Fl.w_sign r hr
  by_cases hs : r < 9223372036854775808
  · rw [if_pos hs] at ha
    have ht := Fl.w_un_lo hr hs
    generalize Fl.un r = q at *
    go_enter Try.func56, Try.ntmps56
    go_wp2_with fail
    go_ret
    exact ⟨rfl, rfl⟩
  · rw [if_neg hs] at ha
    have ht := Fl.w_un_hi hr hs
    generalize Fl.un r = q at *
    go_enter Try.func56, Try.ntmps56
    go_wp2_with fail
    go_ret
    exact ⟨rfl, rfl⟩

theorem beq_nat (a b : Nat) : ((a : Int) == (b : Int)) = decide (a = b) := by
  rw [Bool.eq_iff_iff]
  simp
  omega

set_option maxHeartbeats 400000 in
theorem same_any (x y : Nat) (w : World) (hx : x < 18446744073709551616) (hy : y < 18446744073709551616) :
    Calls Try.prog 46 #[.float .f64 x, .float .f64 y] w fun e w' => e = .returned (.bool (decide (Fl.rk x = Fl.rk y))) ∧ w' = w := by
  go_enter Try.func46, Try.ntmps46
  go_wp2_with fail
  refine (rank_any x _ hx).mono ?_
  rintro e w1 ⟨rfl, rfl⟩
  go_wp2_with fail
  refine (rank_any y _ hy).mono ?_
  rintro e w2 ⟨rfl, rfl⟩
  go_wp2_with fail
  go_ret
  exact ⟨ret_bool (beq_nat _ _), rfl⟩

set_option maxHeartbeats 400000 in
theorem bits_any (x : Nat) (w : World) :
    Calls Try.prog 33 #[.float .f64 x] w fun e w' => e = .returned (.int .u64 (x : Int)) ∧ w' = w := by
  have kb := run_bits
  go_enter Try.func33, Try.ntmps33
  go_wp2_with fail
  go_ret
  exact ⟨rfl, rfl⟩

set_option maxHeartbeats 400000 in
theorem eq_any (x y : Nat) (w : World) :
    Calls Try.prog 34 #[.float .f64 x, .float .f64 y] w fun e w' => e = .returned (.bool (decide (x = y))) ∧ w' = w := by
  go_enter Try.func34, Try.ntmps34
  go_wp2_with fail
  refine (bits_any x _).mono ?_
  rintro e w1 ⟨rfl, rfl⟩
  go_wp2_with fail
  refine (bits_any y _).mono ?_
  rintro e w2 ⟨rfl, rfl⟩
  go_wp2_with fail
  go_ret
  exact ⟨ret_bool (beq_nat _ _), rfl⟩

set_option maxHeartbeats 400000 in
theorem refNaN_any (x : Nat) (w : World) (hx : x < 18446744073709551616) :
    Calls Try.prog 48 #[.float .f64 x] w fun e w' => e = .returned (.bool (Fl.nan x)) ∧ w' = w := by
  have kb := run_bits
  have he := Fl.w_exp x hx
  have hl := Fl.w_low x hx
  have HN := hide (Fl.nan_bits x)
  generalize x / 4503599627370496 % 2048 * 4503599627370496 = p at *
  generalize x % 4503599627370496 = q at *
  by_cases h1 : p = 9218868437227405312
  · by_cases h2 : q = 0
    · have HN' : Hid (Fl.nan x = false) := by show _ = _; rw [HN.out, h1, h2]; rfl
      subst h1 h2
      clear HN
      go_enter Try.func48, Try.ntmps48
      go_wp2_with fail
      go_ret
      exact ⟨ret_bool (by rw [HN'.out]), rfl⟩
    · have HN' : Hid (Fl.nan x = true) := by show _ = _; rw [HN.out]; simp [h1, h2]
      have hq : ((q : Int) != 0) = true := by simp; exact h2
      subst h1
      clear HN
      go_enter Try.func48, Try.ntmps48
      go_wp2_with fail
      go_ret
      exact ⟨ret_bool (by rw [HN'.out]), rfl⟩
  · have HN' : Hid (Fl.nan x = false) := by show _ = _; rw [HN.out]; simp [h1]
    have hp : ((p : Int) == 9218868437227405312) = false := by simp; omega
    clear HN h1
    go_enter Try.func48, Try.ntmps48
    go_wp2_with fail
    go_ret
    exact ⟨ret_bool (by rw [HN'.out]), rfl⟩
end Go.Proofs.Ytlefhhmggaaiiab
