/-
  Contracts of package dev: Read, Fuse.
-/
import Derived.Test.YtmaahgoeblhoaaaDevO
namespace Go.Proofs.Ytmaahgoeblhoaaa
open Go.RowKit Go.Maps

set_option maxHeartbeats 400000 in
theorem read_any {w : World} {g bl bm : Nat} {d : Dv} (h : DevAt w g bl bm d) {i : Nat} (hi : i < d.n) :
    Calls Try.prog 10 #[.pointer (some ⟨g, 0, none⟩), .int .i64 (i : Int)] w fun e w' => ∃ b, e = .returned (.tuple #[.slice (some ⟨b, 0, none⟩) 64 64, .int .i64 0]) ∧ Box w' b (d.at_ i) ∧ w.heap.size ≤ b ∧ Below w.heap.size w w' := by
  have hm := h.ok.most
  have H := hide h
  have HS := hide (h.ok.at_ hi)
  have h1 : (decide (0 ≤ (i : Int)) && decide ((i : Int) < (d.n : Int))) = true := by simp; omega
  clear h
  go_enter Try.func10, Try.ntmps10
  go_wp2_with (first
    | (with_reducible refine (has_any H.out _).mono ?_; rintro e x ⟨rfl, rfl⟩; rw [h1])
    | (with_reducible refine (at_any H.out hi).mono ?_; rintro e x ⟨rfl, hB1⟩)
    | (refine wpList_alloc64 6 rfl rfl rfl ?_; intro W2 hB2 hX2)
    | (refine wpList_store64 (.tmp 6) (.tmp 15) rfl rfl _ (d.at_ i) nought rfl rfl hX2 sec_nought HS.out ?_; intro W3 hb3 hs3 hX3))
  go_ret2
  have s1 := hB1.size
  have s2 := hB2.size
  exact ⟨_, rfl, hX3, s1, Below.but (hB1.trans (hB2.mono s1)) (by omega) hb3 (fun k e => by omega)⟩

set_option maxHeartbeats 400000 in
theorem read_out {w : World} {g bl bm : Nat} {d : Dv} (h : DevAt w g bl bm d) {z : Int} (hz : ¬ (0 ≤ z ∧ z < (d.n : Int))) :
    Calls Try.prog 10 #[.pointer (some ⟨g, 0, none⟩), .int .i64 z] w fun e w' => e = .returned (.tuple #[.slice none 0 0, .int .i64 3]) ∧ w' = w := by
  have H := hide h
  have h1 : (decide (0 ≤ z) && decide (z < (d.n : Int))) = false := by simp; omega
  clear h hz
  go_enter Try.func10, Try.ntmps10
  go_wp2_with (first
    | (with_reducible refine (has_any H.out _).mono ?_; rintro e x ⟨rfl, rfl⟩; rw [h1]))
  go_ret2
  exact ⟨rfl, rfl⟩

theorem read_nil (w : World) (z : Int) : Calls Try.prog 10 #[.pointer none, .int .i64 z] w fun e w' => e = .returned (.tuple #[.slice none 0 0, .int .i64 5]) ∧ w' = w := by
  go_enter Try.func10, Try.ntmps10
  go_wp2_with fail
  go_ret2
  exact ⟨rfl, rfl⟩

/-- The struct with another fuse. -/
theorem DevIn.fuses {w w' : World} {g bl bm : Nat} {d : Dv} {cap : Nat} {D : DataW (List Int)} {fu : Bool} {le : Int} {cur : Array Value} (h : DevIn w g bl bm d cap D fu le cur) (hb : But (· = g) w w') (fu' : Bool) (le' : Int) (f : Option Nat)
    (hm : w'.heap[g]? = some (.cells #[.slice (some ⟨bl, 0, none⟩) d.n cap, .map (some bm), .int .i64 (d.calls : Int), .bool fu', .int .i64 le'] 50 (0, 0)))
    (hf : fuseIs fu' le' f) (hk : ∀ k, f = some k → k ≤ 9223372036854775807) : DevAt w' g bl bm { d with fuse := f } := by
  have hap := DevAt.apart ⟨cap, D, fu, le, cur, h⟩
  have l2 := blk_lt h.row
  refine ⟨cap, D, fu', le', cur, hm, hf, by rw [hb.block bl l2 (fun e => hap.1 e.symm), h.row], h.room, h.big, h.size, fun i hi j v hv => ?_, ?_, h.lo, ⟨h.ok.pos, h.ok.most, h.ok.sec, h.ok.los, h.ok.few, hk⟩⟩
  · rw [hb.cell (p := ⟨bl, i * 64 + j, none⟩) l2 (fun e => hap.1 e.symm)]
    exact h.last i hi j v hv
  · obtain ⟨es, clock, hm, r⟩ := h.map
    exact ⟨es, clock, by rw [hb.block bm (blk_lt hm) (fun e => hap.2.1 e.symm), hm], r⟩

set_option maxHeartbeats 400000 in
theorem fuse_any {w : World} {g bl bm : Nat} {d : Dv} (h : DevAt w g bl bm d) (z : Int) (hz : z ≤ 9223372036854775807) :
    Calls Try.prog 12 #[.pointer (some ⟨g, 0, none⟩), .int .i64 z] w fun e w' => e = .returned (.tuple #[]) ∧ DevAt w' g bl bm (d.fused z) ∧ But (· = g) w w' := by
  have HA := hide h
  obtain ⟨cap, D, fu, le, cur, h⟩ := h
  have H := hide h
  cases hd : d.dead
  · have f3 := frozen_blk 3 h.me
    have f4 := frozen_blk 4 h.me
    obtain ⟨-, -, -, c3, c4⟩ := h.cells
    have Hd := hide hd
    clear h hd
    by_cases h0 : 0 ≤ z
    · have hg : decide (z ≥ 0) = true := by simp; omega
      go_enter Try.func12, Try.ntmps12
      go_wp2_with (first
        | (with_reducible refine (dead_any HA.out).mono ?_; rintro e x ⟨rfl, rfl⟩; rw [Hd.out]))
      go_end0
      have hb : But (· = g) x ((x.setCell ⟨g, 3, none⟩ (.bool true)).setCell ⟨g, 4, none⟩ (.int .i64 z)) := ((But.refl _ _).me _ _).me _ _
      have e : d.fused z = { d with fuse := some z.toNat } := by simp [Dv.fused, Hd.out, h0]
      refine ⟨rfl, ?_, hb⟩
      rw [e]
      refine H.out.fuses hb true z _ ?_ ⟨rfl, by omega⟩ (fun k hk => by cases hk; omega)
      rw [heap_setCell_same (heap_setCell_same H.out.me _)]; rfl
    · have hg : decide (z ≥ 0) = false := by simp; omega
      go_enter Try.func12, Try.ntmps12
      go_wp2_with (first
        | (with_reducible refine (dead_any HA.out).mono ?_; rintro e x ⟨rfl, rfl⟩; rw [Hd.out]))
      go_end0
      have hb : But (· = g) x ((x.setCell ⟨g, 3, none⟩ (.bool false)).setCell ⟨g, 4, none⟩ (.int .i64 0)) := ((But.refl _ _).me _ _).me _ _
      have e : d.fused z = { d with fuse := none } := by simp [Dv.fused, Hd.out, h0]
      refine ⟨rfl, ?_, hb⟩
      rw [e]
      refine H.out.fuses hb false 0 _ ?_ rfl (fun k hk => by cases hk)
      rw [heap_setCell_same (heap_setCell_same H.out.me _)]; rfl
  · have Hd := hide hd
    clear h hd
    go_enter Try.func12, Try.ntmps12
    go_wp2_with (first
      | (with_reducible refine (dead_any HA.out).mono ?_; rintro e x ⟨rfl, rfl⟩; rw [Hd.out]))
    refine bodyPost_ret (results_none Try.results12 _ _ _) rfl ?_
    refine ⟨rfl, ?_, But.refl _ _⟩
    have : d.fused z = d := by simp [Dv.fused, Hd.out]
    rw [this]
    exact HA.out

theorem fuse_nil (w : World) (z : Int) : Calls Try.prog 12 #[.pointer none, .int .i64 z] w fun e w' => e = .returned (.tuple #[]) ∧ w' = w := by
  go_enter Try.func12, Try.ntmps12
  go_wp2_with (first | (with_reducible refine (dead_nil _).mono ?_; rintro e x ⟨rfl, rfl⟩))
  refine bodyPost_ret (results_none Try.results12 _ _ _) rfl ?_
  exact ⟨rfl, rfl⟩

end Go.Proofs.Ytmaahgoeblhoaaa
