/-
  What every law of package dev begins with.
-/
import Derived.Test.YtmaahgoeblhoaaaDevC
import Derived.Test.YtmaahgoeblhoaaaDevR
import Derived.Lib.SlBytesConst
namespace Go.Proofs.Ytmaahgoeblhoaaa
open Go.RowKit Go.Maps

theorem cell_blkF {w : World} {b k : Nat} {c : Array Value} {t : TypeId} {fr : Nat × Nat} {v : Value} (h : w.heap[b]? = some (.cells c t fr)) (hk : c[k]? = some v) : w.cell? ⟨b, k, none⟩ = some v := by simp [World.cell?, h, hk]

/-- Bytes that are written out. -/
theorem lit_sl (w : World) (t : TypeId) (fr : Nat × Nat) {zs : List Int} (hz : ∀ z ∈ zs, 0 ≤ z ∧ z ≤ 255) (hl : zs.length ≤ 1000) : Sl (w.alloc (.cells (bv zs).toArray t fr)) (.slice (some ⟨w.heap.size, 0, none⟩) zs.length zs.length) zs := by
  refine ⟨_, zs.length, rfl, Nat.le_refl _, by unfold maxLen; omega, hz, fun i hi => ⟨_, _, rfl, ?_⟩⟩
  exact cell_blkF (heap_alloc_last w _) (by simp [bv, List.getD, List.getElem?_eq_getElem hi])

/-- Bools that are written out. -/
theorem lit_rw (w : World) (t : TypeId) {vs : List Value} (hl : vs.length ≤ 1000) : Rw (w.alloc (.cells vs.toArray t)) (.slice (some ⟨w.heap.size, 0, none⟩) vs.length vs.length) vs := by
  refine ⟨_, vs.length, rfl, Nat.le_refl _, by unfold maxLen; omega, fun i hi => ⟨_, _, rfl, ?_⟩⟩
  exact cell_blk (heap_alloc_last w _) (by simp [List.getElem?_eq_getElem hi])

theorem new_lit (w : World) (z : Int) (n : Nat) (hz : z = (n : Int)) (hn1 : 1 ≤ n) (hn2 : n ≤ 2048) :
    Calls Try.prog 7 #[.int .i64 z] w fun e w' => ∃ g bl bm, e = .returned (.pointer (some ⟨g, 0, none⟩)) ∧ DevAt w' g bl bm (Dv.new n) ∧ w.heap.size ≤ g ∧ w.heap.size ≤ bl ∧ w.heap.size ≤ bm ∧ Below w.heap.size w w' := by
  subst hz
  exact new_any w n hn1 hn2

theorem write_lit {w : World} {g bl bm : Nat} {d : Dv} (h : DevAt w g bl bm d) (hd : d.dead = false) (hc : d.calls < 999999) {z : Int} {i : Nat} (hz : z = (i : Int)) (hi : i < d.n) {v : Value} {zs : List Int} (hv : Sl w v zs) (hl : zs.length ≤ 64) :
    Calls Try.prog 14 #[.pointer (some ⟨g, 0, none⟩), .int .i64 z, v] w fun e w' => e = .returned (.int .i64 0) ∧ DevAt w' g bl bm (d.write i zs) ∧ But (fun k => k = g ∨ k = bm) w w' := by
  subst hz
  exact write_any h hd hc hi hv hl

theorem read_lit {w : World} {g bl bm : Nat} {d : Dv} (h : DevAt w g bl bm d) {z : Int} {i : Nat} (hz : z = (i : Int)) (hi : i < d.n) :
    Calls Try.prog 10 #[.pointer (some ⟨g, 0, none⟩), .int .i64 z] w fun e w' => ∃ b, e = .returned (.tuple #[.slice (some ⟨b, 0, none⟩) 64 64, .int .i64 0]) ∧ Box w' b (d.at_ i) ∧ w.heap.size ≤ b ∧ Below w.heap.size w w' := by
  subst hz
  exact read_any h hi

theorem Box.cell {w : World} {b : Nat} {s : List Int} (h : Box w b s) (hs : Sec s) {i : Nat} (hi : i < 64) : w.cell? ⟨b, i, none⟩ = some (.int .u8 (s.getD i 0)) :=
  cell_blk h (by simp [cs, bv, List.getD, List.getElem?_eq_getElem (show i < s.length by rw [hs.1]; exact hi)])

def b1 : Dv := (Dv.new 3).write 1 [97, 98]
theorem b1_los : b1.los = [1] := by decide
theorem b1_calls : b1.calls = 1 := rfl
theorem b1_e : (b1.crash []).at_ 1 = nought := by decide
theorem b1_f : (b1.crash [true]).at_ 1 = over [97, 98] nought := by decide

end Go.Proofs.Ytmaahgoeblhoaaa
