/-
  The helper 'begun' of the laws of package num returns true and writes nothing that was there.
-/
import Derived.Test.YtlefhhmggaaiiabNumX
namespace Go.Proofs.Ytlefhhmggaaiiab
open Go.RowKit

theorem Sl.two (w : World) (x y : Int) (t : TypeId) (hx : 0 ≤ x ∧ x ≤ 255) (hy : 0 ≤ y ∧ y ≤ 255) : Sl (w.alloc (.cells #[.int .u8 x, .int .u8 y] t)) (.slice (some ⟨w.heap.size, 0, none⟩) 2 2) [x, y] := by
  refine ⟨_, _, rfl, by simp, by unfold maxLen; omega, by simp; omega, fun i hi => ⟨w.heap.size, 0, rfl, ?_⟩⟩
  match i, hi with
  | 0, _ => simp
  | 1, _ => simp
  | n + 2, h => simp at h; omega

theorem get_at {v : Value} {zs : List Int} {w : World} {n k x : Int} (h : Sl w v zs) (he : Nm.get 0 0 zs = (n, k, x)) :
    Calls Try.prog 42 #[v] w fun e w' => e = .returned (.tuple #[.int .i64 n, .int .i64 k, .int .i64 x]) ∧ w' = w := by
  have := get_any v zs w h
  rw [he] at this
  exact this

theorem getText_at {v : Value} {zs : List Int} {w : World} {s : List Int} {k x : Int} (h : Sl w v zs) (he : Nm.getText zs = (s, k, x)) :
    Calls Try.prog 40 #[v] w fun e w' => e = .returned (.tuple #[.string (strOfNums s), .int .i64 k, .int .i64 x]) ∧ w' = w := by
  have := getText_any v zs w h
  rw [he] at this
  exact this

end Go.Proofs.Ytlefhhmggaaiiab
