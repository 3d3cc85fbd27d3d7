/-
  The nine digits: the helper of the laws of package crc, over the translated program.
-/
import Derived.Test.YtoppefilekakjaaDoorCrcW
import Derived.Test.YtoppefilekakjaaDoorSho
import Derived.Test.YtoppefilekakjaaDoorInf
namespace Go.Proofs.YtoppefilekakjaaDoor
open Go.RowKit

def nine : List Int := [49, 50, 51, 52, 53, 54, 55, 56, 57]
theorem nine_sum : Cr.sum nine = 3421780262 := by decide +kernel
theorem nil_sum : Cr.sum [] = 0 := by decide +kernel

theorem nine_sl (w : World) (r : Nat × Nat) (c : Nat) (hc : 9 ≤ c ∧ c ≤ maxLen) : Sl (w.alloc (.cells (bv nine).toArray 5 r)) (.slice (some ⟨w.heap.size, 0, none⟩) 9 c) nine := by
  refine ⟨_, c, rfl, hc.1, hc.2, by decide, fun i hi => ⟨w.heap.size, 0, rfl, ?_⟩⟩
  have hh : (w.alloc (.cells (bv nine).toArray 5 r)).heap[w.heap.size]? = some (.cells (bv nine).toArray 5 r) := by
    show (w.heap.push _)[w.heap.size]? = _
    simp
  simp only [World.cell?, hh, Nat.zero_add]
  have : ∀ i : Fin 9, (bv nine).toArray[i.val]? = some (Value.int .u8 (nine.getD i.val 0)) := by
    intro i
    match i with
    | 0 => rfl
    | 1 => rfl
    | 2 => rfl
    | 3 => rfl
    | 4 => rfl
    | 5 => rfl
    | 6 => rfl
    | 7 => rfl
    | 8 => rfl
  have h9 := this ⟨i, hi⟩
  simpa using h9

set_option maxHeartbeats 400000 in
theorem begun_any (w : World) (ht : Tab w) :
    Calls Tryd.prog 7 #[] w fun e w' => e = .returned (.bool true) ∧ Below w.heap.size w w' := by
  have kc := fun (w : World) (C : Array Value) (n c : Nat) => Lib.run_convert_bytes_const (P := Tryd.prog) w 22 5 C n c Tryd.underlying22 Tryd.underlying5
  have HT := hide ht
  clear ht
  go_enter Tryd.func7, Tryd.ntmps7
  go_wp2_with fail
  have hb : Below w.heap.size w (w.alloc (.cells (bv nine).toArray 5 (9, 10))) := (Below.refl _ _).alloc (Nat.le_refl _) _
  refine (sum_any _ nine (w.alloc (.cells (bv nine).toArray 5 (9, 10))) (nine_sl w (9, 10) 9 ⟨by decide, by decide⟩) (HT.out.later hb)).mono ?_
  rintro e w1 ⟨rfl, rfl⟩
  rw [nine_sum]
  go_wp2_with fail
  refine (sum_any _ [] (w.alloc (.cells (bv nine).toArray 5 (9, 10))) (Sl.nil _) (HT.out.later hb)).mono ?_
  rintro e w1 ⟨rfl, rfl⟩
  rw [nil_sum]
  go_wp2_with fail
  go_ret
  exact ⟨rfl, hb⟩
end Go.Proofs.YtoppefilekakjaaDoor
