/-
  A block of bytes in memory, a sector as a slice, a slice beside a device.
-/
import Derived.Test.YtmaahgoeblhoaaaRows
import Derived.Test.YtmaahgoeblhoaaaInf
import Derived.Test.YtmaahgoeblhoaaaDevO
namespace Go.Proofs.Ytmaahgoeblhoaaa
open Go.RowKit Go.Maps
set_option linter.unusedVariables false

/-- A block of bytes. -/
def Bk (w : World) (g : Nat) (zs : List Int) : Prop := w.heap[g]? = some (.cells (bv zs).toArray 5 (0, 0))

theorem Bk.lt {w : World} {g : Nat} {zs : List Int} (h : Bk w g zs) : g < w.heap.size := blk_lt h
theorem Bk.cell {w : World} {g : Nat} {zs : List Int} (h : Bk w g zs) {i : Nat} (hi : i < zs.length) : w.cell? ⟨g, i, none⟩ = some (.int .u8 (zs.getD i 0)) :=
  cell_blk h (by simp [bv, List.getD, List.getElem?_eq_getElem hi])
theorem Bk.but {w w' : World} {g : Nat} {zs : List Int} {S : Nat → Prop} (h : Bk w g zs) (hb : But S w w') (hs : ¬ S g) : Bk w' g zs := (hb.block g h.lt hs).trans h
theorem Bk.later {w w' : World} {g : Nat} {zs : List Int} (h : Bk w g zs) (hb : Below w.heap.size w w') : Bk w' g zs := (hb.block g h.lt).trans h
theorem Bk.set {w : World} {g : Nat} {zs : List Int} (h : Bk w g zs) (i : Nat) (z : Int) : Bk (w.setCell ⟨g, i, none⟩ (.int .u8 z)) g (zs.set i z) := by
  unfold Bk at h ⊢
  rw [heap_setCell_same h, ← bv_set, List.setIfInBounds_toArray]
theorem Bk.sl {w : World} {g : Nat} {zs : List Int} (h : Bk w g zs) {off n cap : Nat} (hn : off + n ≤ zs.length) (hc : n ≤ cap) (hm : cap ≤ 1000) (hz : ∀ z ∈ zs, 0 ≤ z ∧ z ≤ 255) : Sl w (.slice (some ⟨g, off, none⟩) n cap) ((zs.drop off).take n) := by
  have hlen : ((zs.drop off).take n).length = n := by simp; omega
  refine ⟨_, cap, by rw [hlen], by rw [hlen]; exact hc, by unfold maxLen; omega, fun z hz' => hz z (List.mem_of_mem_drop (List.mem_of_mem_take hz')), fun i hi => ⟨g, off, rfl, ?_⟩⟩
  rw [hlen] at hi
  rw [h.cell (i := off + i) (by omega)]
  simp [List.getD, List.getElem?_take_of_lt hi, List.getElem?_drop]

theorem own_bk {w : World} {base g n : Nat} {zs : List Int} (h : w.ownsRow base 5 1 (.slice (some ⟨g, 0, none⟩) n n) n (bv zs)) : Bk w g zs := by
  obtain ⟨hl, h⟩ := h
  rcases h with ⟨e, -⟩ | ⟨g', cap, cur, e, hb, hc, h1, h2, h3, h4⟩
  · simp at e
  · simp at e
    obtain ⟨rfl, rfl⟩ := e
    unfold Bk
    rw [hc, ← h4, List.take_of_length_le (by rw [Array.length_toList]; omega)]

theorem Box.sl {w : World} {b : Nat} {s : List Int} (h : Box w b s) (hs : Sec s) : Sl w (.slice (some ⟨b, 0, none⟩) 64 64) s :=
  ⟨_, 64, by rw [hs.1], by rw [hs.1]; omega, by unfold maxLen; omega, hs.2, fun i hi => ⟨b, 0, rfl, by rw [Nat.zero_add, cell_blk h (v := .int .u8 (s.getD i 0)) (by simp [cs, bv, List.getD, List.getElem?_eq_getElem hi])]⟩⟩

theorem Sl.mid {w : World} {b off n cap : Nat} {s : List Int} (h : Sl w (.slice (some ⟨b, off, none⟩) n cap) s) {l m : Nat} (hl : l ≤ m) (hm : m ≤ n) (hlc : l < cap) : Sl w (.slice (some ⟨b, off + l, none⟩) (m - l) (cap - l)) ((s.drop l).take (m - l)) :=
  h.part hl (by rw [← h.lens.1]; exact hm) _ (by rw [if_neg (by omega)]; simp [add_plain])

/-- A device's own blocks hold no byte but in its sectors: a slice of bytes stays where the device is written. -/
theorem DevAt.byte {w : World} {g bl bm : Nat} {d : Dv} (h : DevAt w g bl bm d) {b j : Nat} {z : Int} (hc : w.cell? ⟨b, j, none⟩ = some (.int .u8 z)) : b ≠ g ∧ b ≠ bm := by
  obtain ⟨_, _, _, _, _, h⟩ := h
  obtain ⟨es, clock, hb, _⟩ := h.map
  refine ⟨fun e => ?_, fun e => ?_⟩
  · subst e
    have hm := h.me
    simp only [World.cell?, hm] at hc
    rcases j with _ | _ | _ | _ | _ | j <;> simp at hc
  · subst e
    simp [World.cell?, hb] at hc

theorem Sl.beside {w w' : World} {v : Value} {zs : List Int} {g bl bm : Nat} {d : Dv} (h : Sl w v zs) (hd : DevAt w g bl bm d) (hb : But (fun k => k = g ∨ k = bm) w w') : Sl w' v zs := by
  obtain ⟨a, cap, e, h1, h2, h3, h4⟩ := h
  refine ⟨a, cap, e, h1, h2, h3, fun i hi => ?_⟩
  obtain ⟨b, off, ea, hc⟩ := h4 i hi
  have hn := hd.byte hc
  exact ⟨b, off, ea, by rw [hb.cell (p := ⟨b, off + i, none⟩) (cell_lt hc) (by dsimp only; omega), hc]⟩

/-- n noughts. -/
theorem made_noughts (n : Nat) : (madeCells (Value.int IntKind.u8 0).cells (n * 1)).toList = bv (List.replicate n 0) := by
  rw [Nat.mul_one]
  show (madeCells #[Value.int IntKind.u8 0] n).toList = _
  rw [toList_madeCells_one]
  simp [bv]
end Go.Proofs.Ytmaahgoeblhoaaa
