/-
  A slice of slices of bytes, as it came in.
-/
import Derived.Test.YtiaicpdbobgkoaaDoorOpn
import Derived.Test.YtiaicpdbobgkoaaDoorRows
namespace Go.Proofs.YtiaicpdbobgkoaaDoor
open Go.RowKit Go.ChangeShapes Go.WideShapes Go.ChangeAt

def Bss (w : World) (v : Value) (zs : List (List Int)) : Prop :=
  ∃ a cap, v = .slice a zs.length cap ∧ zs.length ≤ cap ∧ cap ≤ maxLen ∧ ∀ i (hi : i < zs.length), ∃ b off u, a = some ⟨b, off, none⟩ ∧ w.cell? ⟨b, off + i, none⟩ = some u ∧ Sl w u zs[i]

theorem open_bss {H : Type} {enc : TypeId × Value → H} {w : World} {base : Nat} {spare : Nat → Bool} {held : Bool} {fuel : Nat} {cs : List Value} {x : DataW H × List MemPlace} (h : DataW.trod enc Tryd.prog w base spare held fuel 22 cs = some x) :
    ∃ a len cap zs, cs = [.slice a len cap] ∧ Bss w (.slice a len cap) zs := by
  obtain ⟨a, len, cap, F, rfl, hl, hm, hF⟩ := open_rows Tryd.underlying22 1 (by kernel_rfl) (by omega) h
  have each : ∀ i, ∃ q : List Int, i < len → ∃ u, F i = [u] ∧ Sl w u q := fun i => by
    by_cases hi : i < len
    · obtain ⟨_, hlen, n, y, hy⟩ := hF i hi
      obtain ⟨a2, l2, p2, bs, e2, h2⟩ := open_bytes Tryd.underlying30 Tryd.underlying5 (by kernel_rfl) hy
      exact ⟨bs, fun _ => ⟨_, e2, h2⟩⟩
    · exact ⟨[], fun h => absurd h hi⟩
  have ⟨K, hK⟩ := Classical.axiomOfChoice each
  refine ⟨a, len, cap, (List.range len).map K, rfl, a, cap, by simp, by simpa using hl, hm, fun i hi => ?_⟩
  have hi' : i < len := by simpa using hi
  obtain ⟨⟨b, off, ea, hc⟩, _⟩ := hF i hi'
  obtain ⟨u, e, h1⟩ := hK i hi'
  have d0 := hc 0 (by omega)
  rw [e] at d0
  simp only [List.getElem_map, List.getElem_range]
  exact ⟨b, off, u, ea, by simpa using d0, h1⟩

theorem Bss.at_ {w W : World} {a : Option Addr} {n cap : Nat} {zs : List (List Int)} (h : Bss w (.slice a n cap) zs) (hb : Below w.heap.size w W) {i : Nat} (hi : i < n) :
    ∃ b off p m c q, a = some ⟨b, off, none⟩ ∧ W.cell? ⟨b, off + i, none⟩ = some (.slice p m c) ∧ Hid (Sl w (.slice p m c) q) := by
  obtain ⟨a', cap', e, h1, h2, h3⟩ := h
  simp at e
  obtain ⟨rfl, rfl, rfl⟩ := e
  obtain ⟨b, off, u, ea, c0, hB⟩ := h3 i hi
  obtain ⟨p, m, c, rfl, -⟩ := hB.opens
  exact ⟨b, off, p, m, c, _, ea, by rw [World.cell?_of_block (hb.block _ (cell_lt c0)), c0], hB⟩

theorem Bss.len {w : World} {a : Option Addr} {n cap : Nat} {zs : List (List Int)} (h : Bss w (.slice a n cap) zs) : n ≤ cap ∧ cap ≤ 9223372036854775807 := by
  obtain ⟨a', cap', e, h1, h2, -⟩ := h
  simp at e
  obtain ⟨rfl, rfl, rfl⟩ := e
  unfold maxLen at h2
  exact ⟨h1, by omega⟩
end Go.Proofs.YtiaicpdbobgkoaaDoor
