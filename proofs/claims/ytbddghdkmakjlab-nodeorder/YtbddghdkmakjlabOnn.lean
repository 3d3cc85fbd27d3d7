/-
  Nodes as they came in.
-/
import Derived.Test.YtbddghdkmakjlabGg
import Derived.Test.YtbddghdkmakjlabGe
namespace Go.Proofs.Ytbddghdkmakjlab
set_option maxRecDepth 100000
set_option linter.unusedVariables false
open Go.RowKit

theorem open_ts {H : Type} {enc : TypeId × Value → H} {P : Program} {w : World} {base : Nat} {spare : Nat → Bool} {held : Bool} {fuel : Nat} {t : TypeId} {cs : List Value} {x : DataW H × List MemPlace} {e : TypeId} (ht : P.underlying t = some (.slice e)) (he : P.underlying e = some .string) (ce : P.cellsOf e = 1) (h : DataW.trod enc P w base spare held fuel t cs = some x) :
    ∃ a len cap, ∃ K : List ByteArray, cs = [.slice a len cap] ∧ Ts w (.slice a len cap) K := by
  obtain ⟨a, len, cap, F, rfl, hl, hm, hF⟩ := open_rows ht 1 ce (by omega) h
  have hb : ∀ i, ∃ s : ByteArray, i < len → F i = [.string s] ∧ s.size ≤ maxLen := fun i => by
    by_cases hi : i < len
    · obtain ⟨_, _, n, y, hy⟩ := hF i hi
      obtain ⟨b, e, _, hw⟩ := DataW.trod_string he hy
      exact ⟨b, fun _ => ⟨e, hw⟩⟩
    · exact ⟨⟨#[]⟩, fun h => absurd h hi⟩
  have ⟨K, hK⟩ := Classical.axiomOfChoice hb
  refine ⟨a, len, cap, (List.range len).map K, rfl, ⟨a, cap, by simp, by simpa using hl, hm, fun i hi => ?_⟩, fun z hz => ?_⟩
  · have hi' : i < len := by simpa using hi
    obtain ⟨⟨b, off, ea, hc⟩, _⟩ := hF i hi'
    refine ⟨b, off, ea, ?_⟩
    have := hc 0 (by omega)
    rw [(hK i hi').1, Nat.mul_one, Nat.add_zero] at this
    rw [this]
    simp
  · obtain ⟨i, hi, rfl⟩ := List.mem_map.1 hz
    exact (hK i (List.mem_range.1 hi)).2

section
variable {H : Type} {enc : TypeId × Value → H} {w : World} {base : Nat} {spare : Nat → Bool} {held : Bool}

theorem open_nodes {fuel : Nat} {cs : List Value} {x : DataW H × List MemPlace} (h : DataW.trod enc Try.prog w base spare held fuel 26 cs = some x) : ∃ (n : No) (vc vk vi : Value), cs = (nv n.L vc vk vi).toList ∧ Nb w vc vk vi n := by
  obtain ⟨xs, k, hk, hxy, hlen, hxl, hf⟩ := DataW.trod_struct Try.underlying26 h
  rw [show Try.prog.cellsOf 26 = 4 by kernel_rfl] at hlen
  match xs, hxl, cs, hlen with
  | [y0, y1, y2, y3], _, [v0, v1, v2, v3], _ =>
    have g0 := hf 0 _ rfl
    have g1 := hf 1 _ rfl
    have g2 := hf 2 _ rfl
    have g3 := hf 3 _ rfl
    simp [show Try.prog.cellsOf 4 = 1 by kernel_rfl, show Try.prog.cellsOf 22 = 1 by kernel_rfl, show Try.prog.cellsOf 23 = 1 by kernel_rfl, show Try.prog.cellsOf 24 = 1 by kernel_rfl] at g0 g1 g2 g3
    obtain ⟨l, hl, -⟩ := DataW.trod_bool Try.underlying4 g0
    obtain ⟨p0, n0, c0, C, hC, HC⟩ := open_cells g1
    obtain ⟨p1, n1, c1, K, hK, HK⟩ := open_ts Try.underlying23 Try.underlying9 (by kernel_rfl) g2
    obtain ⟨p2, n2, c2, I, hI, HI⟩ := open_is Try.underlying24 Try.underlying3 (by kernel_rfl) g3
    simp at hl hC hK hI
    subst hl hC hK hI
    exact ⟨⟨l, C, K, I⟩, _, _, _, rfl, HC, HK, HI⟩

theorem open_node {r : Reach} {b0 : Nat} {v : Value} {d : DataW H} {ps : List MemPlace} (hv : Value.okWide Try.prog w r b0 26 v) (h : DataW.Trod enc Try.prog w base spare held 26 v d ps) : ∃ (n : No) (vc vk vi : Value), v = .agg (nv n.L vc vk vi) ∧ Nb w vc vk vi n := by
  obtain ⟨cs, rfl⟩ := open_agg Try.underlying26 hv
  obtain ⟨fuel, hf⟩ := h
  obtain ⟨n, vc, vk, vi, hc, hn⟩ := open_nodes hf
  refine ⟨n, vc, vk, vi, ?_, hn⟩
  congr 1
  apply Array.toList_inj.1
  simpa [Value.cells] using hc
end
end Go.Proofs.Ytbddghdkmakjlab
