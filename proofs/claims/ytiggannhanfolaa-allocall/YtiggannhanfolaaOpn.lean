/-
  Slices that came in, opened: of bytes, of ints, of bools, of rows of cells; no program is named here.
-/
import Derived.Test.YtiggannhanfolaaRw
import Derived.Deep.Slices
import Derived.ProofKit
import Derived.OpenShut
namespace Go.Proofs.Ytiggannhanfolaa
set_option maxRecDepth 100000
set_option linter.unusedVariables false
open Go.RowKit Go.ChangeShapes Go.WideShapes Go.ChangeAt

section
variable {H : Type} {enc : TypeId × Value → H} {P : Program} {w : World} {base : Nat} {spare : Nat → Bool} {held : Bool} {fuel : Nat} {t : TypeId} {cs : List Value} {x : DataW H × List MemPlace} {e : TypeId}

/-- A slice whose elements have c cells each. -/
theorem open_rows (ht : P.underlying t = some (.slice e)) (c : Nat) (ce : P.cellsOf e = c) (hc : 0 < c) (h : DataW.trod enc P w base spare held fuel t cs = some x) :
    ∃ a len cap, ∃ F : Nat → List Value, cs = [.slice a len cap] ∧ len ≤ cap ∧ cap ≤ maxLen ∧ ∀ i, i < len → (∃ b off, a = some ⟨b, off, none⟩ ∧ ∀ j, j < c → w.cell? ⟨b, off + (i * c + j), none⟩ = (F i)[j]?) ∧ (F i).length = c ∧ ∃ n y, DataW.trod enc P w base spare held n e (F i) = some y := by
  rcases Deep.open_slice ht h with ⟨rfl, _⟩ | ⟨a, len, cap, m, n, D, Pl, rfl, hb, hl, hm, hmm, rfl, hx⟩
  · exact ⟨none, 0, 0, fun _ => [], rfl, Nat.le_refl _, Nat.zero_le _, fun i hi => by omega⟩
  have hlm : len ≤ m := by rw [hmm]; split <;> omega
  have each : ∀ i, ∃ cs', i < len → w.cells? base (a.add (i * P.cellsOf e)) (P.cellsOf e) = some cs' ∧ DataW.trod enc P w base spare held n e cs' = some (D i, Pl i) := fun i => by
    by_cases hi : i < len
    · obtain ⟨cs', h1⟩ := hx i (by omega)
      exact ⟨cs', fun _ => h1⟩
    · exact ⟨[], fun h => absurd h hi⟩
  have ⟨F, hF⟩ := Classical.axiomOfChoice each
  refine ⟨some a, len, cap, F, rfl, hl, hm, fun i hi => ?_⟩
  obtain ⟨h1, h2⟩ := hF i hi
  obtain ⟨_, hlen, hcell⟩ := World.cells?_some h1
  rw [ce] at hlen hcell
  obtain ⟨b, off, spot⟩ := a
  have hspot : spot = none := by
    obtain ⟨g1, -⟩ := hF 0 (by omega)
    obtain ⟨_, hl0, hc0⟩ := World.cells?_some g1
    rw [ce] at hl0 hc0
    have := hc0 0 (by omega)
    rw [List.getElem?_eq_getElem (by omega)] at this
    simpa [Addr.add] using World.cell?_spot this
  subst hspot
  refine ⟨⟨b, off, rfl, fun j hj => ?_⟩, hlen, n, _, h2⟩
  have := hcell j hj
  rw [add_plain, add_plain, Nat.add_assoc] at this
  exact this

theorem open_bools (ht : P.underlying t = some (.slice e)) (he : P.underlying e = some .bool) (ce : P.cellsOf e = 1) (h : DataW.trod enc P w base spare held fuel t cs = some x) :
    ∃ a len cap, ∃ ks : List Bool, cs = [.slice a len cap] ∧ Rw w (.slice a len cap) (bo ks) := by
  obtain ⟨a, len, cap, F, rfl, hl, hm, hF⟩ := open_rows ht 1 ce (by omega) h
  have hb : ∀ i, ∃ b, i < len → F i = [.bool b] := fun i => by
    by_cases hi : i < len
    · obtain ⟨_, _, n, y, hy⟩ := hF i hi
      obtain ⟨b, e, _⟩ := DataW.trod_bool he hy
      exact ⟨b, fun _ => e⟩
    · exact ⟨false, fun h => absurd h hi⟩
  have ⟨K, hK⟩ := Classical.axiomOfChoice hb
  refine ⟨a, len, cap, (List.range len).map K, rfl, a, cap, by simp [bo], by simpa [bo] using hl, hm, fun i hi => ?_⟩
  have hi' : i < len := by simpa [bo] using hi
  obtain ⟨⟨b, off, ea, hc⟩, _⟩ := hF i hi'
  refine ⟨b, off, ea, ?_⟩
  have := hc 0 (by omega)
  rw [hK i hi', Nat.mul_one, Nat.add_zero] at this
  rw [this]
  simp [bo]

/-- Each fits its kind. -/
theorem open_nums {k : IntKind} (ht : P.underlying t = some (.slice e)) (he : P.underlying e = some (.int k)) (ce : P.cellsOf e = 1) (h : DataW.trod enc P w base spare held fuel t cs = some x) :
    ∃ a len cap, ∃ zs : List Int, cs = [.slice a len cap] ∧ Rw w (.slice a len cap) (zs.map (Value.int k)) ∧ ∀ z ∈ zs, (Lit.int k z).wf = true := by
  obtain ⟨a, len, cap, F, rfl, hl, hm, hF⟩ := open_rows ht 1 ce (by omega) h
  have hb : ∀ i, ∃ z, i < len → F i = [.int k z] ∧ (Lit.int k z).wf = true := fun i => by
    by_cases hi : i < len
    · obtain ⟨_, _, n, y, hy⟩ := hF i hi
      obtain ⟨b, e, _, hw⟩ := DataW.trod_int he hy
      exact ⟨b, fun _ => ⟨e, hw⟩⟩
    · exact ⟨0, fun h => absurd h hi⟩
  have ⟨K, hK⟩ := Classical.axiomOfChoice hb
  refine ⟨a, len, cap, (List.range len).map K, rfl, ⟨a, cap, by simp, by simpa using hl, hm, fun i hi => ?_⟩, fun z hz => ?_⟩
  · have hi' : i < len := by simpa using hi
    obtain ⟨⟨b, off, ea, hc⟩, _⟩ := hF i hi'
    refine ⟨b, off, ea, ?_⟩
    have := hc 0 (by omega)
    rw [(hK i hi').1, Nat.mul_one, Nat.add_zero] at this
    rw [this]
    simp
  · obtain ⟨i, hi, rfl⟩ := List.mem_map.1 hz
    exact (hK i (List.mem_range.1 hi)).2

end

theorem Rw.bytes {w : World} {v : Value} {zs : List Int} (h : Rw w v (zs.map (Value.int .u8))) (hz : ∀ z ∈ zs, (Lit.int .u8 z).wf = true) : Sl w v zs := by
  obtain ⟨a, cap, rfl, h1, h2, h3⟩ := h
  simp only [List.length_map] at h1 h3 ⊢
  refine ⟨a, cap, rfl, h1, h2, fun z hm => bounds_u8 (hz z hm), fun i hi => ?_⟩
  obtain ⟨b, off, ea, hc⟩ := h3 i hi
  refine ⟨b, off, ea, ?_⟩
  rw [hc, getD_at hi]
  simp

theorem open_bytes {H : Type} {enc : TypeId × Value → H} {P : Program} {w : World} {base : Nat} {spare : Nat → Bool} {held : Bool} {fuel : Nat} {t : TypeId} {cs : List Value} {x : DataW H × List MemPlace} {e : TypeId} (ht : P.underlying t = some (.slice e)) (he : P.underlying e = some (.int .u8)) (ce : P.cellsOf e = 1) (h : DataW.trod enc P w base spare held fuel t cs = some x) :
    ∃ a len cap, ∃ zs : List Int, cs = [.slice a len cap] ∧ Sl w (.slice a len cap) zs := by
  obtain ⟨a, len, cap, zs, rfl, h1, h2⟩ := open_nums ht he ce h
  exact ⟨a, len, cap, zs, rfl, h1.bytes h2⟩

/-- Ints. -/
def Is (w : World) (v : Value) (zs : List Int) : Prop := Rw w v (zs.map (Value.int .i64)) ∧ ∀ z ∈ zs, -9223372036854775808 ≤ z ∧ z ≤ 9223372036854775807

theorem open_is {H : Type} {enc : TypeId × Value → H} {P : Program} {w : World} {base : Nat} {spare : Nat → Bool} {held : Bool} {fuel : Nat} {t : TypeId} {cs : List Value} {x : DataW H × List MemPlace} {e : TypeId} (ht : P.underlying t = some (.slice e)) (he : P.underlying e = some (.int .i64)) (ce : P.cellsOf e = 1) (h : DataW.trod enc P w base spare held fuel t cs = some x) :
    ∃ a len cap, ∃ zs : List Int, cs = [.slice a len cap] ∧ Is w (.slice a len cap) zs := by
  obtain ⟨a, len, cap, zs, rfl, h1, h2⟩ := open_nums ht he ce h
  exact ⟨a, len, cap, zs, rfl, h1, fun z hz => bounds_i64 (h2 z hz)⟩
end Go.Proofs.Ytiggannhanfolaa
