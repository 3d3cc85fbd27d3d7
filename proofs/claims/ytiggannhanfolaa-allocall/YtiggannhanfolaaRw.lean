/-
  Slices of one-cell elements in memory, told as lists of values; no program is named here.
-/
import Derived.Test.YtiggannhanfolaaGrdF
namespace Go.Proofs.Ytiggannhanfolaa
set_option maxRecDepth 100000
set_option linter.unusedVariables false
open Go.RowKit

theorem blk_lt {w : World} {b : Nat} {o : Obj} (h : w.heap[b]? = some o) : b < w.heap.size := (Array.getElem?_eq_some_iff.1 h).1
theorem cell_blk {w : World} {b k : Nat} {c : Array Value} {t : TypeId} {v : Value} (h : w.heap[b]? = some (.cells c t (0, 0))) (hk : c[k]? = some v) : w.cell? ⟨b, k, none⟩ = some v := by simp [World.cell?, h, hk]
theorem frozen_blk {w : World} {b : Nat} {c : Array Value} {t : TypeId} (k : Nat) (h : w.heap[b]? = some (.cells c t (0, 0))) : w.frozen? ⟨b, k, none⟩ = false := by simp [World.frozen?, h]

def bo (ks : List Bool) : List Value := ks.map Value.bool

/-- A slice that is there: its cells are vs, one each. -/
def Rw (w : World) (v : Value) (vs : List Value) : Prop :=
  ∃ a cap, v = .slice a vs.length cap ∧ vs.length ≤ cap ∧ cap ≤ maxLen ∧ ∀ i, (h : i < vs.length) → ∃ b off, a = some ⟨b, off, none⟩ ∧ w.cell? ⟨b, off + i, none⟩ = some vs[i]

theorem Rw.nil (w : World) : Rw w (.slice none 0 0) [] := ⟨none, 0, rfl, Nat.le_refl _, Nat.zero_le _, fun i hi => by simp at hi⟩

theorem Rw.later {w w' : World} {v : Value} {vs : List Value} (h : Rw w v vs) (hb : Below w.heap.size w w') : Rw w' v vs := by
  obtain ⟨a, cap, e, h1, h2, h3⟩ := h
  refine ⟨a, cap, e, h1, h2, fun i hi => ?_⟩
  obtain ⟨b, off, ea, hc⟩ := h3 i hi
  exact ⟨b, off, ea, by rw [hb.cell (p := ⟨b, off + i, none⟩) (cell_lt hc), hc]⟩

theorem Rw.own {w : World} {base : Nat} {e : TypeId} {v : Value} {n : Nat} {vs : List Value} (h : w.ownsRow base e 1 v n vs) : Rw w v vs := by
  obtain ⟨hl, h⟩ := h
  rw [Nat.mul_one] at hl
  subst hl
  rcases h with ⟨rfl, h0⟩ | ⟨g, cap, cur, rfl, _, hh, h1, h2, h3, h4⟩
  · exact ⟨none, 0, by rw [h0], by omega, by unfold maxLen; omega, fun i hi => by omega⟩
  · refine ⟨_, cap, rfl, h1, h2, fun i hi => ⟨g, 0, rfl, ?_⟩⟩
    have h5 : (cur.toList.take (vs.length * 1))[i]? = vs[i]? := by rw [h4]
    rw [List.getElem?_take_of_lt (by omega), List.getElem?_eq_getElem hi] at h5
    exact cell_blk hh (by simpa using h5)

/-- Its value, written out. -/
theorem Rw.opens {w : World} {v : Value} {vs : List Value} (h : Rw w v vs) : ∃ p n cp, v = .slice p n cp ∧ n ≤ cp ∧ cp ≤ 9223372036854775807 ∧ Hid (n = vs.length) ∧ Hid (Rw w (.slice p n cp) vs) := by
  have h' := h
  obtain ⟨a, cap, rfl, h1, h2, -⟩ := h
  unfold maxLen at h2
  exact ⟨a, _, cap, rfl, h1, by omega, rfl, h'⟩

theorem Rw.cell {w : World} {p : Option Addr} {n cp : Nat} {vs : List Value} (h : Rw w (.slice p n cp) vs) {i : Nat} (hi : i < vs.length) : ∃ b off, p = some ⟨b, off, none⟩ ∧ w.cell? ⟨b, off + i, none⟩ = some vs[i] := by
  obtain ⟨a, cap, e, -, -, h3⟩ := h
  simp at e
  obtain ⟨rfl, -, -⟩ := e
  exact h3 i hi

/-- A slice of the call's own stays where other blocks turn. -/
theorem own_but {w w' : World} {base : Nat} {e : TypeId} {v : Value} {n : Nat} {vs : List Value} {S : Nat → Prop} (h : w.ownsRow base e 1 v n vs) (hb : But S w w') (hs : ∀ k, base ≤ k → ¬ S k) : w'.ownsRow base e 1 v n vs := by
  obtain ⟨hl, h⟩ := h
  refine ⟨hl, ?_⟩
  rcases h with h | ⟨g, cap, cur, rfl, hbase, hh, r⟩
  · exact .inl h
  · exact .inr ⟨g, cap, cur, rfl, hbase, (hb.block g (blk_lt hh) (hs g hbase)).trans hh, r⟩

end Go.Proofs.Ytiggannhanfolaa
