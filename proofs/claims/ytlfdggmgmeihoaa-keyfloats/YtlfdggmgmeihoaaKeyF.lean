/-
  The keys of two floats held against one another, and where floats stand.
-/
import Derived.Test.YtlfdggmgmeihoaaKeyB
import Derived.Test.YtlfdggmgmeihoaaFltP
namespace Go.Proofs.Ytlfdggmgmeihoaa
open Go.RowKit

/-- Where a float stands. -/
def pl (x : Nat) : Int := (Fl.rk x : Int) - 9223372036854775808
theorem place_pl (x : Nat) (w : World) (hx : x < 18446744073709551616) :
    Calls Try.prog 20 #[.float .f64 x] w fun e w' => e = .returned (.int .i64 (pl x)) ∧ w' = w := place_any x w hx
theorem pl_less (x y : Nat) : decide (pl x < pl y) = decide (Fl.rk x < Fl.rk y) := by
  unfold pl
  rw [decide_eq_decide]
  omega
theorem pl_same (x y : Nat) : (pl x == pl y) = decide (Fl.rk x = Fl.rk y) := by
  unfold pl
  rw [Bool.eq_iff_iff]
  simp
  omega

theorem key_list (x : Nat) : (strOfNums (Ky.key x)).toList = 102 :: (strOfNums (Fl.be (Fl.rk x))).toList := by
  rw [Fl.str_list, Fl.str_list]
  rfl
theorem key_less {x y : Nat} (hx : x < 18446744073709551616) (hy : y < 18446744073709551616) :
    Op.bytesLess (strOfNums (Ky.key x)).toList (strOfNums (Ky.key y)).toList = decide (Fl.rk x < Fl.rk y) := by
  rw [key_list, key_list, ← Fl.str_less (Fl.rk_bd hx) (Fl.rk_bd hy)]
  have h := Ky.bl_cons 102 102 (strOfNums (Fl.be (Fl.rk x))).toList (strOfNums (Fl.be (Fl.rk y))).toList
  have hi : ¬ (102 : UInt8) < 102 := by decide
  simp only [hi, decide_false, beq_self_eq_true, Bool.true_and, Bool.false_or] at h
  exact h
theorem key_same {x y : Nat} (hx : x < 18446744073709551616) (hy : y < 18446744073709551616) :
    ((strOfNums (Ky.key x)).toList == (strOfNums (Ky.key y)).toList) = decide (Fl.rk x = Fl.rk y) := by
  rw [key_list, key_list, Bool.eq_iff_iff]
  simp only [beq_iff_eq, decide_eq_true_eq, List.cons.injEq, true_and]
  constructor
  · intro q
    exact Fl.be_inj (Fl.rk_bd hx) (Fl.rk_bd hy) (Fl.str_inj (Fl.be_bd _) (Fl.be_bd _) (Ky.list_inj q))
  · intro q
    rw [q]
end Go.Proofs.Ytlfdggmgmeihoaa
