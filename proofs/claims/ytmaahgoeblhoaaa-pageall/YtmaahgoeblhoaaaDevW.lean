/-
  Contracts of the small methods of package dev, over the translated program.
-/
import Derived.Test.YtmaahgoeblhoaaaRows
import Derived.Test.YtmaahgoeblhoaaaDevM
namespace Go.Proofs.Ytmaahgoeblhoaaa
open Go.RowKit Go.Maps

set_option maxHeartbeats 400000 in
theorem dead_any {w : World} {g bl bm : Nat} {d : Dv} (h : DevAt w g bl bm d) :
    Calls Try.prog 21 #[.pointer (some ⟨g, 0, none⟩)] w fun e w' => e = .returned (.bool d.dead) ∧ w' = w := by
  obtain ⟨cap, D, fu, le, cur, h⟩ := h
  obtain ⟨-, -, -, c3, c4⟩ := h.cells
  have HD := hide (dead_of h.fuse)
  clear h
  cases fu
  all_goals
    go_enter Try.func21, Try.ntmps21
    go_wp2_with fail
    go_ret
    exact ⟨by rw [← HD.out]; rfl, rfl⟩

theorem dead_nil (w : World) : Calls Try.prog 21 #[.pointer none] w fun e w' => e = .returned (.bool true) ∧ w' = w := by
  go_enter Try.func21, Try.ntmps21
  go_wp2_with fail
  go_ret
  exact ⟨rfl, rfl⟩

theorem calls_any {w : World} {g bl bm : Nat} {d : Dv} (h : DevAt w g bl bm d) :
    Calls Try.prog 13 #[.pointer (some ⟨g, 0, none⟩)] w fun e w' => e = .returned (.int .i64 (d.calls : Int)) ∧ w' = w := by
  obtain ⟨cap, D, fu, le, cur, h⟩ := h
  obtain ⟨-, -, c2, -, -⟩ := h.cells
  clear h
  go_enter Try.func13, Try.ntmps13
  go_wp2_with fail
  go_ret
  exact ⟨rfl, rfl⟩

theorem calls_nil (w : World) : Calls Try.prog 13 #[.pointer none] w fun e w' => e = .returned (.int .i64 0) ∧ w' = w := by
  go_enter Try.func13, Try.ntmps13
  go_wp2_with fail
  go_ret
  exact ⟨rfl, rfl⟩

set_option maxHeartbeats 400000 in
theorem has_any {w : World} {g bl bm : Nat} {d : Dv} (h : DevAt w g bl bm d) (i : Int) :
    Calls Try.prog 19 #[.pointer (some ⟨g, 0, none⟩), .int .i64 i] w fun e w' => e = .returned (.bool (decide (0 ≤ i) && decide (i < (d.n : Int)))) ∧ w' = w := by
  obtain ⟨cap, D, fu, le, cur, h⟩ := h
  obtain ⟨c0, -, -, -, -⟩ := h.cells
  have hm := h.ok.most
  clear h
  cases h1 : decide (0 ≤ i)
  all_goals
    go_enter Try.func19, Try.ntmps19
    go_wp2_with fail
    go_ret
    exact ⟨rfl, rfl⟩

theorem But.me {g : Nat} {a w : World} (h : But (· = g) a w) (k : Nat) (v : Value) : But (· = g) a (w.setCell ⟨g, k, none⟩ v) := h.setCell (.inl rfl) v

/-- The struct, a call further. -/
theorem DevIn.next {w w' : World} {g bl bm : Nat} {d : Dv} {cap : Nat} {D : DataW (List Int)} {fu : Bool} {le : Int} {cur : Array Value} (h : DevIn w g bl bm d cap D fu le cur) (hb : But (· = g) w w') (le' : Int)
    (hm : w'.heap[g]? = some (.cells #[.slice (some ⟨bl, 0, none⟩) d.n cap, .map (some bm), .int .i64 ((d.calls + 1 : Nat) : Int), .bool fu, .int .i64 le'] 50 (0, 0)))
    (hf : fuseIs fu le' d.next.fuse) (hc : d.calls < 999999) : DevAt w' g bl bm d.next := by
  have hap := DevAt.apart ⟨cap, D, fu, le, cur, h⟩
  have l2 := blk_lt h.row
  refine ⟨cap, D, fu, le', cur, hm, hf, by rw [hb.block bl l2 (fun e => hap.1 e.symm), h.row], h.room, h.big, h.size, fun i hi j v hv => ?_, ?_, h.lo, Dv.next_ok h.ok hc⟩
  · rw [hb.cell (p := ⟨bl, i * 64 + j, none⟩) l2 (fun e => hap.1 e.symm)]
    exact h.last i hi j v hv
  · obtain ⟨es, clock, hm, r⟩ := h.map
    exact ⟨es, clock, by rw [hb.block bm (blk_lt hm) (fun e => hap.2.1 e.symm), hm], r⟩

set_option maxHeartbeats 400000 in
theorem count_any {w : World} {g bl bm : Nat} {d : Dv} (h : DevAt w g bl bm d) (hc : d.calls < 999999) (hd : d.dead = false) :
    Calls Try.prog 22 #[.pointer (some ⟨g, 0, none⟩)] w fun e w' => e = .returned (.tuple #[]) ∧ DevAt w' g bl bm d.next ∧ But (· = g) w w' := by
  obtain ⟨cap, D, fu, le, cur, h⟩ := h
  obtain ⟨-, -, c2, c3, c4⟩ := h.cells
  have f2 := frozen_blk 2 h.me
  have f4 := frozen_blk 4 h.me
  have H := hide h
  have hfu := h.fuse
  have hfk := h.ok.fu
  clear h
  cases hf : d.fuse with
  | none =>
    rw [hf] at hfu
    simp [fuseIs] at hfu
    subst hfu
    clear hfk
    have Hf := hide hf
    clear hf
    go_enter Try.func22, Try.ntmps22
    go_wp2_with fail
    go_end0
    refine ⟨rfl, H.out.next ((But.refl _ _).me _ _) le ?_ ?_ hc, (But.refl _ _).me _ _⟩
    · rw [heap_setCell_same H.out.me]; rfl
    · simp [Dv.next, Hf.out, fuseIs]
  | some k =>
    have hk := hfk k hf
    rw [hf] at hfu
    obtain ⟨rfl, rfl⟩ := hfu
    have hk0 : k ≠ 0 := by rintro rfl; simp [Dv.dead, hf] at hd
    have Hf := hide hf
    clear hfk hf
    go_enter Try.func22, Try.ntmps22
    go_wp2_with fail
    go_end0
    refine ⟨rfl, H.out.next (((But.refl _ _).me _ _).me _ _) ((k : Int) - 1) ?_ ?_ hc, ((But.refl _ _).me _ _).me _ _⟩
    · rw [heap_setCell_same (heap_setCell_same H.out.me _)]; rfl
    · simp [Dv.next, Hf.out, fuseIs]; omega

end Go.Proofs.Ytmaahgoeblhoaaa
