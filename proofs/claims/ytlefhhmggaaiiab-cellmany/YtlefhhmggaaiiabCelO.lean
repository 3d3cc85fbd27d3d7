/-
  Cells and values as they came in.
-/
import Derived.Test.YtlefhhmggaaiiabCelM
import Derived.Test.YtlefhhmggaaiiabDatV
namespace Go.Proofs.Ytlefhhmggaaiiab
open Go.RowKit

section
variable {H : Type} {enc : TypeId × Value → H} {w : World} {base : Nat} {spare : Nat → Bool} {held : Bool}

theorem open_va {fuel : Nat} {cs : List Value} {x : DataW H × List MemPlace} (h : DataW.trod enc Try.prog w base spare held fuel 27 cs = some x) : ∃ v : Va, cs = (va v).toList ∧ v.Ok := by
  obtain ⟨xs, k, hk, hxy, hlen, hxl, hf⟩ := DataW.trod_struct Try.underlying27 h
  rw [show Try.prog.cellsOf 27 = 3 by kernel_rfl] at hlen
  match xs, hxl, cs, hlen with
  | [y0, y1, y2], _, [v0, v1, v2], _ =>
    have g0 := hf 0 _ rfl
    have g1 := hf 1 _ rfl
    have g2 := hf 2 _ rfl
    simp [show Try.prog.cellsOf 3 = 1 by kernel_rfl, show Try.prog.cellsOf 25 = 1 by kernel_rfl, show Try.prog.cellsOf 9 = 1 by kernel_rfl] at g0 g1 g2
    obtain ⟨z, hz, -, hw⟩ := DataW.trod_int Try.underlying3 g0
    obtain ⟨y, hy, hyb⟩ := trod_float Try.underlying25 g1
    obtain ⟨s, hs, -, hsb⟩ := DataW.trod_string Try.underlying9 g2
    simp at hz hy hs
    subst hz hy hs
    have hzb := bounds_i64 hw
    exact ⟨⟨z, y, s⟩, rfl, ⟨hzb.1, hzb.2, hyb, hsb⟩⟩

theorem open_ce {fuel : Nat} {cs : List Value} {x : DataW H × List MemPlace} (h : DataW.trod enc Try.prog w base spare held fuel 29 cs = some x) : ∃ c : Ce, cs = (cv c).toList ∧ c.Ok := by
  obtain ⟨xs, k, hk, hxy, hlen, hxl, hf⟩ := DataW.trod_struct Try.underlying29 h
  rw [show Try.prog.cellsOf 29 = 8 by kernel_rfl] at hlen
  match xs, hxl, cs, hlen with
  | [y0, y1, y2, y3], _, [v0, v1, v2, v3, v4, v5, v6, v7], _ =>
    have g0 := hf 0 _ rfl
    have g1 := hf 1 _ rfl
    have g2 := hf 2 _ rfl
    have g3 := hf 3 _ rfl
    simp [show Try.prog.cellsOf 2 = 1 by kernel_rfl, show Try.prog.cellsOf 27 = 3 by kernel_rfl, show Try.prog.cellsOf 9 = 1 by kernel_rfl] at g0 g1 g2 g3
    obtain ⟨s, hs, -, hsb⟩ := DataW.trod_string Try.underlying9 g0
    obtain ⟨V, hV, okV⟩ := open_va g1
    obtain ⟨t, ht, -, hw⟩ := DataW.trod_int Try.underlying2 g2
    obtain ⟨U, hU, okU⟩ := open_va g3
    simp [va] at hs hV ht hU
    obtain ⟨rfl, rfl, rfl⟩ := hV
    obtain ⟨rfl, rfl, rfl⟩ := hU
    subst hs ht
    have hb := bounds_i64 hw
    exact ⟨⟨s, V, t, U⟩, rfl, ⟨hsb, okV, hb.1, hb.2, okU⟩⟩

theorem open_agg {r : Reach} {b0 : Nat} {t : TypeId} {v : Value} {fs : Array Field} (ht : Try.prog.underlying t = some (.struct fs)) (h : Value.okWide Try.prog w r b0 t v) : ∃ cs, v = .agg cs := by
  simp only [Value.okWide, ht] at h
  obtain ⟨cs, rfl, -⟩ := h
  exact ⟨cs, rfl⟩

theorem open_cell {r : Reach} {b0 : Nat} {v : Value} {d : DataW H} {ps : List MemPlace} (hv : Value.okWide Try.prog w r b0 29 v) (h : DataW.Trod enc Try.prog w base spare held 29 v d ps) : ∃ c : Ce, v = .agg (cv c) ∧ c.Ok := by
  obtain ⟨cs, rfl⟩ := open_agg Try.underlying29 hv
  obtain ⟨fuel, hf⟩ := h
  obtain ⟨c, hc, ok⟩ := open_ce hf
  refine ⟨c, ?_, ok⟩
  congr 1
  apply Array.toList_inj.1
  simpa [Value.cells] using hc

theorem open_val {r : Reach} {b0 : Nat} {v : Value} {d : DataW H} {ps : List MemPlace} (hv : Value.okWide Try.prog w r b0 27 v) (h : DataW.Trod enc Try.prog w base spare held 27 v d ps) : ∃ u : Va, v = .agg (va u) ∧ u.Ok := by
  obtain ⟨cs, rfl⟩ := open_agg Try.underlying27 hv
  obtain ⟨fuel, hf⟩ := h
  obtain ⟨c, hc, ok⟩ := open_va hf
  refine ⟨c, ?_, ok⟩
  congr 1
  apply Array.toList_inj.1
  simpa [Value.cells] using hc
end
end Go.Proofs.Ytlefhhmggaaiiab
