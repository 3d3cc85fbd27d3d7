/-
  The helper 'begun' of the laws of package num returns true and writes nothing that was there.
-/
import Derived.Test.YtgdpkcgehbhkoaaNumX
namespace Go.Proofs.Ytgdpkcgehbhkoaa
open Go.RowKit

theorem Sl.two (w : World) (x y : Int) (t : TypeId) (hx : 0 ≤ x ∧ x ≤ 255) (hy : 0 ≤ y ∧ y ≤ 255) : Sl (w.alloc (.cells #[.int .u8 x, .int .u8 y] t)) (.slice (some ⟨w.heap.size, 0, none⟩) 2 2) [x, y] := by
  refine ⟨_, _, rfl, by simp, by unfold maxLen; omega, by simp; omega, fun i hi => ⟨w.heap.size, 0, rfl, ?_⟩⟩
  match i, hi with
  | 0, _ => simp
  | 1, _ => simp
  | n + 2, h => simp at h; omega

theorem get_at {v : Value} {zs : List Int} {w : World} {n k x : Int} (h : Sl w v zs) (he : Nm.get 0 0 zs = (n, k, x)) :
    Calls Try.prog 14 #[v] w fun e w' => e = .returned (.tuple #[.int .i64 n, .int .i64 k, .int .i64 x]) ∧ w' = w := by
  have := get_any v zs w h
  rw [he] at this
  exact this

theorem getText_at {v : Value} {zs : List Int} {w : World} {s : List Int} {k x : Int} (h : Sl w v zs) (he : Nm.getText zs = (s, k, x)) :
    Calls Try.prog 15 #[v] w fun e w' => e = .returned (.tuple #[.string (strOfNums s), .int .i64 k, .int .i64 x]) ∧ w' = w := by
  have := getText_any v zs w h
  rw [he] at this
  exact this

set_option maxHeartbeats 400000 in
theorem begun_any (w : World) :
    Calls Try.prog 7 #[] w fun e w' => e = .returned (.bool true) ∧ Below w.heap.size w w' := by
  have hs2 := hide (Sl.two w 128 1 5 (by decide) (by decide))
  go_enter Try.func7, Try.ntmps7
  go_wp2_with fail
  refine (get_at (n := 64) (k := 2) (x := 0) hs2.out (by decide)).mono ?_
  rintro e w1 ⟨rfl, rfl⟩
  go_wp2_with fail
  refine (get_at (n := 0) (k := 0) (x := 2) (Sl.nil _) (by decide)).mono ?_
  rintro e w2 ⟨rfl, rfl⟩
  go_wp2_with fail
  refine (putText_any _ [] _ _ (Sl.nil _) (by decide)).mono ?_
  rintro e w3 ⟨v3, rfl, ho3, hb3⟩
  have hsl3 := Sl.own ho3 (by decide)
  go_wp2_with fail
  refine (getText_at (s := [97, 98]) (k := 3) (x := 0) hsl3 (by decide)).mono ?_
  rintro e w4 ⟨rfl, rfl⟩
  go_wp2_with fail
  refine (put_any _ [] (-1) _ (Sl.nil _) (by decide) (by decide) (by decide)).mono ?_
  rintro e w5 ⟨v5, rfl, ho5, hb5⟩
  have hsl5 : Sl w5 v5 [1] := Sl.own ho5 (by decide)
  have e1 : strOfNums [1] = ⟨#[1]⟩ := by decide
  have e2 : strOfNums [97, 98] = ⟨#[97, 98]⟩ := by decide
  have hb : Below w.heap.size w w5 := ((((Below.refl _ _).alloc (Nat.le_refl _) _).trans (hb3.mono (by simp))).trans (hb5.mono (by have := hb3.size; simp at this; omega)))
  clear hs2 hsl3 ho3 hb3 ho5 hb5
  go_wp2_with (refine wpList_conv rfl (.tmp 27) 22 9 5 rfl Try.underlying22 Try.underlying5 Try.underlying9 _ [1] rfl ?_ ?_; exact hsl5)
  go_ret
  exact ⟨rfl, hb⟩
end Go.Proofs.Ytgdpkcgehbhkoaa
