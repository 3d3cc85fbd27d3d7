/-
  Numbers one behind the other, as bytes.
-/
import Derived.Test.YtgdpkcgehbhkoaaNumB
namespace Go.Proofs.Ytgdpkcgehbhkoaa
open Go.RowKit

/-- The numbers' bytes, one behind the other. -/
def cat (ns : List Int) : List Int := ns.flatMap Nm.num

theorem cat_len : ∀ ns : List Int, (cat ns).length ≤ 10 * ns.length
  | [] => by simp [cat]
  | n :: ns => by
    have := cat_len ns
    have h := (Nm.num_len n).2
    simp [cat] at *
    omega

theorem cat_bd (ns : List Int) (h : ∀ n ∈ ns, -9223372036854775808 ≤ n ∧ n ≤ 9223372036854775807) : ∀ z ∈ cat ns, 0 ≤ z ∧ z ≤ 255 := by
  intro z hz
  simp [cat] at hz
  obtain ⟨n, hn, hz⟩ := hz
  exact Nm.num_bd n (h n hn).1 (h n hn).2 z hz

theorem cat_snoc (ns : List Int) (k : Nat) (h : k < ns.length) : cat (ns.take (k + 1)) = cat (ns.take k) ++ Nm.num (ns.getD k 0) := by
  rw [getD_at h, List.take_succ_eq_append_getElem h]
  unfold cat
  rw [List.flatMap_append, List.flatMap_cons, List.flatMap_nil, List.append_nil]

theorem cat_drop (ns : List Int) (k : Nat) (h : k < ns.length) : cat (ns.drop k) = Nm.num (ns.getD k 0) ++ cat (ns.drop (k + 1)) := by
  rw [getD_at h, List.drop_eq_getElem_cons h]
  unfold cat
  rw [List.flatMap_cons]

end Go.Proofs.Ytgdpkcgehbhkoaa
