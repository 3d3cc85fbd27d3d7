/-
  Contracts of key.May and the document's MayKey.
-/
import Derived.Test.YtlefhhmggaaiiabBas
import Derived.WalkKit
import Derived.Test.YtlefhhmggaaiiabRows
namespace Go.Proofs.Ytlefhhmggaaiiab
open Go.RowKit

set_option maxHeartbeats 400000 in
theorem kmay_any (s : ByteArray) (w : World) (_h : s.size ≤ 9223372036854775807) :
    Calls Try.prog 29 #[.string s] w fun e w' => e = .returned (.bool (decide (1 ≤ (s.size : Int)) && decide ((s.size : Int) ≤ 16))) ∧ w' = w := by
  cases h1 : decide (1 ≤ (s.size : Int))
  all_goals
    have H1 := hide h1
    go_enter Try.func29, Try.ntmps29
    go_wp2_with fail
    go_ret
    exact ⟨rfl, rfl⟩

set_option maxHeartbeats 400000 in
theorem refMayKey_any (s : ByteArray) (w : World) (_h : s.size ≤ 9223372036854775807) :
    Calls Try.prog 20 #[.string s] w fun e w' => e = .returned (.bool (decide (1 ≤ (s.size : Int)) && decide ((s.size : Int) ≤ 16))) ∧ w' = w := by
  cases h1 : decide (1 ≤ (s.size : Int))
  all_goals
    go_enter Try.func20, Try.ntmps20
    go_wp2_with fail
    go_ret
    exact ⟨rfl, rfl⟩
end Go.Proofs.Ytlefhhmggaaiiab
