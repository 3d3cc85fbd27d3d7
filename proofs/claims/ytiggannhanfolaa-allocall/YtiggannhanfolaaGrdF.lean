/-
  A frame of memory that leaves some blocks open; no program is named here.
-/
import Derived.Test.YtiggannhanfolaaBas
import Derived.Below
import Derived.Laws.NewBlocks
namespace Go.Proofs.Ytiggannhanfolaa
set_option maxRecDepth 100000
set_option linter.unusedVariables false
open Go.RowKit

/-- All that was there is as it was, but for the blocks S. -/
structure But (S : Nat → Prop) (w w' : World) : Prop where
  os : w'.os = w.os
  tape : w'.tape = w.tape
  output : w'.output = w.output
  size : w.heap.size ≤ w'.heap.size
  block : ∀ k, k < w.heap.size → ¬ S k → w'.heap[k]? = w.heap[k]?

theorem But.refl (S : Nat → Prop) (w : World) : But S w w := ⟨rfl, rfl, rfl, Nat.le_refl _, fun _ _ _ => rfl⟩

theorem But.trans {S : Nat → Prop} {a b c : World} (h : But S a b) (k : But S b c) : But S a c :=
  ⟨k.os.trans h.os, k.tape.trans h.tape, k.output.trans h.output, Nat.le_trans h.size k.size, fun i hi hs => (k.block i (Nat.lt_of_lt_of_le hi h.size) hs).trans (h.block i hi hs)⟩

theorem But.mono {S S' : Nat → Prop} {a b : World} (h : But S a b) (hs : ∀ k, k < a.heap.size → S k → S' k) : But S' a b :=
  ⟨h.os, h.tape, h.output, h.size, fun i hi hn => h.block i hi fun hk => hn (hs i hi hk)⟩

theorem But.below {S : Nat → Prop} {a b : World} {B : Nat} (h : But S a b) (hB : B ≤ a.heap.size) (hs : ∀ k, k < B → ¬ S k) : Below B a b :=
  ⟨h.os, h.tape, h.output, h.size, fun i hi => h.block i (Nat.lt_of_lt_of_le hi hB) (hs i hi)⟩

theorem But.of {S : Nat → Prop} {a b : World} (h : Below a.heap.size a b) : But S a b := ⟨h.os, h.tape, h.output, h.size, fun i hi _ => h.block i hi⟩

theorem But.alloc {S : Nat → Prop} {a w : World} (h : But S a w) (o : Obj) : But S a (w.alloc o) := h.trans (.of ((Below.refl _ _).alloc (Nat.le_refl _) o))

theorem But.setCell {S : Nat → Prop} {a w : World} (h : But S a w) {p : Addr} (hp : S p.block ∨ a.heap.size ≤ p.block) (u : Value) : But S a (w.setCell p u) :=
  ⟨h.os, h.tape, h.output, by have := h.size; simpa [World.setCell] using this, fun k hk hs => by
    rw [Below.heap_setCell _ _ _ _ (by rintro rfl; rcases hp with hp | hp; exact hs hp; omega)]
    exact h.block k hk hs⟩

/-- A block that was new ahead of it. -/
theorem But.head {S : Nat → Prop} {a b c : World} (h : Below a.heap.size a b) (k : But S b c) : But S a c := (But.of h).trans k

theorem But.cell {S : Nat → Prop} {a b : World} (h : But S a b) {p : Addr} (hp : p.block < a.heap.size) (hs : ¬ S p.block) : b.cell? p = a.cell? p := World.cell?_of_block (w := a) (h.block p.block hp hs)
theorem But.frozen {S : Nat → Prop} {a b : World} (h : But S a b) {p : Addr} (hp : p.block < a.heap.size) (hs : ¬ S p.block) : b.frozen? p = a.frozen? p := World.frozen?_of_block (w := a) (h.block p.block hp hs)

/-- A variable that is there: its value. -/
def Var (p : Addr) (v : Value) (w : World) : Prop := w.cell? p = some v ∧ w.frozen? p = false

theorem Var.below {p : Addr} {v : Value} {B : Nat} (hp : p.block < B) (a b : World) (h : Below B a b) (hv : Var p v a) : Var p v b := ⟨by rw [h.cell hp, hv.1], by rw [h.frozen hp, hv.2]⟩
theorem Var.but {p : Addr} {v : Value} {S : Nat → Prop} {a b : World} (hv : Var p v a) (h : But S a b) (hs : ¬ S p.block) : Var p v b := ⟨by rw [h.cell (cell_lt hv.1) hs, hv.1], by rw [h.frozen (cell_lt hv.1) hs, hv.2]⟩
theorem Var.set {p : Addr} {u : Value} {a : World} (hv : Var p u a) (v : Value) : Var p v (a.setCell p v) := ⟨World.cell?_setCell_same _ _ _ hv.1, by rw [World.frozen?_setCell, hv.2]⟩
theorem Var.other {p q : Addr} {u : Value} {a : World} (hv : Var p u a) (h : q ≠ p) (v : Value) : Var p u (a.setCell q v) := ⟨by rw [World.cell?_setCell_other _ _ _ _ h, hv.1], by rw [World.frozen?_setCell, hv.2]⟩
theorem Var.alloc {p : Addr} {u : Value} {a : World} (hv : Var p u a) (o : Obj) : Var p u (a.alloc o) := ⟨by rw [World.cell?_alloc_lt a o p (cell_lt hv.1), hv.1], by rw [World.frozen?_alloc_old a o p (Nat.ne_of_lt (cell_lt hv.1)), hv.2]⟩
theorem Var.new (a : World) (v : Value) (t : TypeId) : Var ⟨a.heap.size, 0, none⟩ v (a.alloc (.cells #[v] t)) := ⟨by simp [go_sem], by simp [go_sem]⟩
theorem Var.lt {p : Addr} {v : Value} {w : World} (h : Var p v w) : p.block < w.heap.size := cell_lt h.1
end Go.Proofs.Ytiggannhanfolaa
