/-
  The contract of engrossref1.Clean over the translated program.
-/
import Derived.Test.YtlefhhmggaaiiabFltW
namespace Go.Proofs.Ytlefhhmggaaiiab
open Go.RowKit

set_option maxHeartbeats 400000 in
theorem refClean_any (x : Nat) (w : World) (hx : x < 18446744073709551616) :
    Calls Try.prog 35 #[.float .f64 x] w fun e w' => e = .returned (.float .f64 (Fl.cl x)) ∧ w' = w := by
  have kf := run_frombits_int
  cases hn : Fl.nan x
  all_goals
    have HN := hide hn
    go_enter Try.func35, Try.ntmps35
    go_wp2_with fail
    with_reducible refine (refNaN_any x _ hx).mono ?_
    rintro e x ⟨rfl, rfl⟩
    rw [HN.out]
    go_wp2_with fail
    go_ret
    exact ⟨ret_float (by first | rw [Fl.cl_not HN.out] | rw [Fl.cl_nan HN.out]), rfl⟩
end Go.Proofs.Ytlefhhmggaaiiab
