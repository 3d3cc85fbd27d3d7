/-
  Slices of values: as they came in, and as the law makes its own; no step of a program here.
-/
import Derived.Test.YtlefhhmggaaiiabDatG
import Derived.Deep.Slices
import Derived.OpenShut
namespace Go.Proofs.Ytlefhhmggaaiiab
open Go.RowKit

/-- A value's three cells. -/
def vc (q : Int × Nat × ByteArray) : List Value := [.int .i64 q.1, .float .f64 q.2.1, .string q.2.2]

/-- Each part of it within its bounds. -/
def okv (q : Int × Nat × ByteArray) : Prop := -9223372036854775808 ≤ q.1 ∧ q.1 ≤ 9223372036854775807 ∧ q.2.1 < 18446744073709551616 ∧ q.2.2.size ≤ maxLen

/-- A slice of values that is there. -/
def Vs (w : World) (v : Value) (L : List (Int × Nat × ByteArray)) : Prop :=
  ∃ a cap, v = .slice a L.length cap ∧ L.length ≤ cap ∧ cap ≤ maxLen ∧ (∀ q ∈ L, okv q) ∧
    ∀ i q, L[i]? = some q → ∃ b off, a = some ⟨b, off, none⟩ ∧ w.cell? ⟨b, off + i * 3, none⟩ = some (.int .i64 q.1) ∧ w.cell? ⟨b, off + (i * 3 + 1), none⟩ = some (.float .f64 q.2.1) ∧ w.cell? ⟨b, off + (i * 3 + 2), none⟩ = some (.string q.2.2)

theorem Vs.later {w w' : World} {v : Value} {L : List (Int × Nat × ByteArray)} (h : Vs w v L) (hb : Below w.heap.size w w') : Vs w' v L := by
  obtain ⟨a, cap, e, h1, h2, h3, h4⟩ := h
  refine ⟨a, cap, e, h1, h2, h3, fun i q hq => ?_⟩
  obtain ⟨b, off, ea, c0, c1, c2⟩ := h4 i q hq
  refine ⟨b, off, ea, ?_, ?_, ?_⟩
  · rw [hb.cell (p := ⟨b, off + i * 3, none⟩) (cell_lt c0), c0]
  · rw [hb.cell (p := ⟨b, off + (i * 3 + 1), none⟩) (cell_lt c1), c1]
  · rw [hb.cell (p := ⟨b, off + (i * 3 + 2), none⟩) (cell_lt c2), c2]

theorem trod_float {H : Type} {enc : TypeId × Value → H} {P : Program} {w : World} {base : Nat} {spare : Nat → Bool} {held : Bool} {fuel : Nat} {t : TypeId} {cs : List Value} {x : DataW H × List MemPlace} (ht : P.underlying t = some (.float .f64)) (h : DataW.trod enc P w base spare held fuel t cs = some x) : ∃ n, cs = [.float .f64 n] ∧ n < 18446744073709551616 := by
  cases fuel with
  | zero => simp [DataW.trod] at h
  | succ n =>
    unfold DataW.trod at h
    rw [ht] at h
    split at h <;> simp_all
    rename_i k k' b hk
    subst hk
    have := h.1.2
    simp [Lit.wf] at this
    omega

/-- A slice of structs of an int, a float64 and a string, as it came in. -/
theorem open_vals {H : Type} {enc : TypeId × Value → H} {P : Program} {w : World} {base : Nat} {spare : Nat → Bool} {held : Bool} {fuel : Nat} {t : TypeId} {cs : List Value} {x : DataW H × List MemPlace} {e : TypeId} {f0 f1 f2 : Field} (ht : P.underlying t = some (.slice e)) (he : P.underlying e = some (.struct #[f0, f1, f2])) (ce : P.cellsOf e = 3)
    (o0 : f0.offset = 0) (o1 : f1.offset = 1) (o2 : f2.offset = 2) (c0 : P.cellsOf f0.type = 1) (c1 : P.cellsOf f1.type = 1) (c2 : P.cellsOf f2.type = 1)
    (t0 : P.underlying f0.type = some (.int .i64)) (t1 : P.underlying f1.type = some (.float .f64)) (t2 : P.underlying f2.type = some .string)
    (h : DataW.trod enc P w base spare held fuel t cs = some x) : ∃ a len cap L, cs = [.slice a len cap] ∧ Vs w (.slice a len cap) L := by
  rcases Deep.open_slice ht h with ⟨rfl, _⟩ | ⟨a, len, cap, m, n, D, Pl, rfl, hb, hl, hm, hmm, rfl, hx⟩
  · exact ⟨none, 0, 0, [], rfl, none, 0, rfl, Nat.le_refl _, Nat.zero_le _, by simp, by simp⟩
  have hlm : len ≤ m := by rw [hmm]; split <;> omega
  have each : ∀ i, i < len → ∃ q : Int × Nat × ByteArray, okv q ∧ w.cell? (a.add (i * 3)) = some (.int .i64 q.1) ∧ w.cell? (a.add (i * 3 + 1)) = some (.float .f64 q.2.1) ∧ w.cell? (a.add (i * 3 + 2)) = some (.string q.2.2) := by
    intro i hi
    obtain ⟨cs', h1, h2⟩ := hx i (by omega)
    rw [ce] at h1
    obtain ⟨_, hlen, hcell⟩ := World.cells?_some h1
    obtain ⟨xs, k, hk, hxy, _, hxl, hf⟩ := DataW.trod_struct he h2
    match xs, hxl, cs', hlen with
    | [y0, y1, y2], _, [v0, v1, v2], _ =>
      have g0 := hf 0 f0 rfl
      have g1 := hf 1 f1 rfl
      have g2 := hf 2 f2 rfl
      simp [o0, o1, o2, c0, c1, c2] at g0 g1 g2
      have e0 := hcell 0 (by omega)
      have e1 := hcell 1 (by omega)
      have e2 := hcell 2 (by omega)
      rw [Deep.add_add] at e0 e1 e2
      obtain ⟨z, hz, -, hw⟩ := DataW.trod_int t0 g0
      obtain ⟨y, hy, hyb⟩ := trod_float t1 g1
      obtain ⟨s, hs, -, hsb⟩ := DataW.trod_string t2 g2
      simp at hz hy hs
      subst hz hy hs
      have hzb := bounds_i64 hw
      exact ⟨(z, y, s), ⟨hzb.1, hzb.2, hyb, hsb⟩, by simpa using e0, by simpa using e1, by simpa using e2⟩
  have each' : ∀ i : Fin len, ∃ q : Int × Nat × ByteArray, okv q ∧ w.cell? (a.add (i.1 * 3)) = some (.int .i64 q.1) ∧ w.cell? (a.add (i.1 * 3 + 1)) = some (.float .f64 q.2.1) ∧ w.cell? (a.add (i.1 * 3 + 2)) = some (.string q.2.2) := fun i => each i.1 i.2
  have ⟨Q, hQ⟩ := Classical.axiomOfChoice each'
  refine ⟨some a, len, cap, List.ofFn Q, rfl, some a, cap, by simp, by simpa using hl, hm, ?_, ?_⟩
  · intro q hq
    obtain ⟨i, rfl⟩ := List.mem_ofFn.1 hq
    exact (hQ i).1
  · intro i q hq
    have hi : i < len := by
      have := (List.getElem?_eq_some_iff.1 hq).1
      simpa using this
    have hq' : Q ⟨i, hi⟩ = q := by simpa [List.getElem?_ofFn, hi] using hq
    obtain ⟨_, d0, d1, d2⟩ := hQ ⟨i, hi⟩
    rw [hq'] at d0 d1 d2
    obtain ⟨b, off, spot⟩ := a
    have hspot : spot = none := by
      have := (hQ ⟨0, by omega⟩).2.1
      simpa [Addr.add] using World.cell?_spot this
    subst hspot
    simp only [add_plain] at d0 d1 d2
    exact ⟨b, off, rfl, d0, d1, d2⟩
end Go.Proofs.Ytlefhhmggaaiiab
