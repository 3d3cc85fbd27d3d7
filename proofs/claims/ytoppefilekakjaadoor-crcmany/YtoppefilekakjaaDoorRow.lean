/-
  A slice of integers that came in, as the walks are told of it.
-/
import Derived.Test.YtoppefilekakjaaDoorBas
import Derived.ProofKit
import Derived.OpenShut
namespace Go.Proofs.YtoppefilekakjaaDoor
open Go.ChangeShapes Go.WideShapes Go.ChangeAt Go.RowKit

/-- It is nil; or it leads to a row of cells, the numbers zs, each fitting its kind; the first len are its elements. -/
def IsRow (k : IntKind) (w : World) (a : Option Addr) (len cap : Nat) (zs : List Int) : Prop :=
  (a = none ∧ len = 0 ∧ cap = 0 ∧ zs = []) ∨
  ∃ x, a = some x ∧ len ≤ cap ∧ cap ≤ maxLen ∧ zs.length = cap ∧ (∀ i, i < zs.length → w.cell? (x.add i) = some (.int k (zs.getD i 0))) ∧ ∀ n ∈ zs, (Lit.int k n).wf = true

theorem row_sl {w : World} {a : Option Addr} {len cap : Nat} {zs : List Int} (h : IsRow .u8 w a len cap zs) : Sl w (.slice a len cap) (zs.take len) := by
  rcases h with ⟨rfl, rfl, rfl, rfl⟩ | ⟨x, rfl, hl, hm, hz, hcell, hwz⟩
  · exact Sl.nil _
  · have hlen : (zs.take len).length = len := by simp; omega
    refine ⟨some x, cap, by rw [hlen], by rw [hlen]; omega, hm, fun z hz' => bounds_u8 (hwz z (List.mem_of_mem_take hz')), fun i hi => ?_⟩
    rw [hlen] at hi
    have hc := hcell i (by omega)
    have hc0 := hcell 0 (by omega)
    obtain ⟨b, off, spot⟩ := x
    have hspot : spot = none := by simpa [Addr.add] using World.cell?_spot hc0
    subst hspot
    rw [add_plain] at hc
    exact ⟨b, off, rfl, by rw [hc]; simp [List.getD, List.getElem?_take_of_lt hi]⟩

/-- Of ints. -/
theorem row_ints {w : World} {a0 : Option Addr} {len0 cap0 : Nat} {z0 : List Int} (w0 : IsRow .i64 w a0 len0 cap0 z0) :
    len0 ≤ cap0 ∧ cap0 ≤ 9223372036854775807 ∧ len0 ≤ z0.length ∧ (∀ n ∈ z0, -9223372036854775808 ≤ n ∧ n ≤ 9223372036854775807) ∧
      ∀ i, i < len0 → ∃ b off, a0 = some ⟨b, off, none⟩ ∧ w.cell? ⟨b, off + i, none⟩ = some (.int .i64 (z0.getD i 0)) := by
  rcases w0 with ⟨rfl, rfl, rfl, rfl⟩ | ⟨x, rfl, hl, hm, hz, hcell, hwz⟩
  · exact ⟨by omega, by omega, by simp, by simp, fun i hi => by omega⟩
  · unfold maxLen at hm
    refine ⟨hl, by omega, by omega, fun n hn => bounds_i64 (hwz n hn), fun i hi => ?_⟩
    have hc := hcell i (by omega)
    have hc0 := hcell 0 (by omega)
    obtain ⟨b, off, spot⟩ := x
    have hspot : spot = none := by simpa [Addr.add] using World.cell?_spot hc0
    subst hspot
    rw [add_plain] at hc
    exact ⟨b, off, rfl, hc⟩
end Go.Proofs.YtoppefilekakjaaDoor
