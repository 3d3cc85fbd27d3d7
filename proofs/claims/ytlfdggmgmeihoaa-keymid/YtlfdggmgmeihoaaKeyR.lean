/-
  The contract of engrossref1.Mid over the translated program.
-/
import Derived.Test.YtlfdggmgmeihoaaKeyN
namespace Go.Proofs.Ytlfdggmgmeihoaa
open Go.RowKit

theorem above_take {s t : ByteArray} (h : Op.bytesLess s.toList t.toList = true) (k : Nat) :
    (Op.bytesLess (t.extract 0 k).toList s.toList || (t.extract 0 k).toList == s.toList) = !decide (Ky.cp s.toList t.toList < k) := by
  have := Ky.le_not (t.extract 0 k).toList s.toList
  rw [Ky.ext_head, Ky.bl_take h] at this
  rw [Ky.ext_head]
  exact this

set_option maxRecDepth 100000 in
set_option maxHeartbeats 1000000 in
theorem refMid_any (s t : ByteArray) (w : World) (ht : t.size ≤ 100000) :
    Calls Try.prog 23 #[.string s, .string t] w fun e w' => e = .returned (.string (Ky.mid s t)) ∧ w' = w := by
  cases h1 : Op.bytesLess s.toList t.toList
  · have HM := hide (mid_none h1)
    go_enter Try.func23, Try.ntmps23
    go_wp2_with fail
    go_loop [5] (fun i => i = .int .i64 1) (fun _ => 0)
    case atStart => exact rfl
    case round =>
      subst hrel
      go_wp2_with fail
      go_ret
      exact ⟨by rw [HM.out]; rfl, rfl⟩
  · have HM := hide (mid_some h1)
    have HA := hide (Ky.cp_lt h1)
    have HT := hide (above_take h1)
    rw [Ky.list_len] at HA
    generalize Ky.cp s.toList t.toList = c at *
    go_enter Try.func23, Try.ntmps23
    go_wp2_with fail
    go_loop [5] (fun i => ∃ k : Nat, 1 ≤ k ∧ k ≤ c + 1 ∧ i = .int .i64 k) (fun i => c + 1 - (intOf i).toNat)
    case atStart => exact ⟨1, by omega, by omega, rfl⟩
    case round =>
      obtain ⟨k, hk1, hk, rfl⟩ := hrel
      have hkt : k ≤ t.size := by have := HA.out; omega
      by_cases hlt : c < k
      · have hg := HT.out k
        rw [decide_eq_true hlt] at hg
        have HK : Hid (k = c + 1) := by show _ = _; omega
        clear hlt
        go_wp2_with fail
        go_ret
        exact ⟨by rw [HM.out, ← HK.out]; rfl, rfl⟩
      · have hg := HT.out k
        rw [decide_eq_false hlt] at hg
        go_wp2_with fail
        go_round
        case rel => exact ⟨k + 1, by omega, by omega, by go_num⟩
        case measure => simp [intOf]; omega
end Go.Proofs.Ytlfdggmgmeihoaa
