/-
  The contract of a law's helper that takes the first bytes, over the translated program.
-/
import Derived.Test.YtlefhhmggaaiiaaRows
import Derived.Test.YtlefhhmggaaiiaaBas
namespace Go.Proofs.Ytlefhhmggaaiiaa
open Go.RowKit

set_option maxHeartbeats 400000 in
theorem short_any (v : Value) (zs : List Int) (n : Nat) (w : World) (h : Sl w v zs) :
    Calls Try.prog 27 #[v, .int .i64 n] w fun e w' => ∃ v', e = .returned v' ∧ Sl w v' (zs.take n) ∧ w' = w := by
  have HS := hide h
  obtain ⟨a, cap, rfl, hl, hm, hbd, hc⟩ := h
  unfold maxLen at hm
  clear hc hbd
  by_cases hn : n < zs.length
  · have hp := HS.out.part (l := 0) (m := n) (by omega) (by omega) _ rfl
    have HP : Hid (Sl w (.slice a n cap) (zs.take n)) := by
      show Sl _ _ _
      have e : (if cap = 0 then a else Option.map (fun x : Addr => x.add (0 * 1)) a) = a := by cases a <;> simp [Addr.add]
      rw [e] at hp
      simpa using hp
    clear hp
    go_enter Try.func27, Try.ntmps27
    go_wp2_with fail
    go_ret
    exact ⟨_, rfl, HP.out, rfl⟩
  · have e : zs.take n = zs := List.take_of_length_le (by omega)
    have HE := hide e
    clear e
    go_enter Try.func27, Try.ntmps27
    go_wp2_with fail
    go_ret
    exact ⟨_, rfl, by rw [HE.out]; exact HS.out, rfl⟩

set_option maxHeartbeats 400000 in
theorem short_low (v : Value) (zs : List Int) (n : Nat) (w0 w : World) (h : Sl w0 v zs) :
    Calls Try.prog 27 #[v, .int .i64 n] w fun e w' => ∃ v', e = .returned v' ∧ Sl w0 v' (zs.take n) ∧ w' = w := by
  have HS := hide h
  obtain ⟨a, cap, rfl, hl, hm, hbd, hc⟩ := h
  unfold maxLen at hm
  clear hc hbd
  by_cases hn : n < zs.length
  · have hp := HS.out.part (l := 0) (m := n) (by omega) (by omega) _ rfl
    have HP : Hid (Sl w0 (.slice a n cap) (zs.take n)) := by
      show Sl _ _ _
      have e : (if cap = 0 then a else Option.map (fun x : Addr => x.add (0 * 1)) a) = a := by cases a <;> simp [Addr.add]
      rw [e] at hp
      simpa using hp
    clear hp
    go_enter Try.func27, Try.ntmps27
    go_wp2_with fail
    go_ret
    exact ⟨_, rfl, HP.out, rfl⟩
  · have e : zs.take n = zs := List.take_of_length_le (by omega)
    have HE := hide e
    clear e
    go_enter Try.func27, Try.ntmps27
    go_wp2_with fail
    go_ret
    exact ⟨_, rfl, by rw [HE.out]; exact HS.out, rfl⟩
end Go.Proofs.Ytlefhhmggaaiiaa
