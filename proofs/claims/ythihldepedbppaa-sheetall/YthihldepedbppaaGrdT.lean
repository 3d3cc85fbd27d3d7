/-
  What Try tells of a callee whose ending is known; the helper 'tries' of the laws: what Try tells, and what it panicked with, if it did; 'begun' is true and writes nothing that was there.
-/
import Derived.Test.YthihldepedbppaaGrdW
import Derived.Test.YthihldepedbppaaGrdF
namespace Go.Proofs.Ythihldepedbppaa
set_option maxRecDepth 100000
set_option linter.unusedVariables false
open Go.RowKit

/-- The world in which Try calls its function. -/
abbrev tw (w : World) : World := w.alloc (.cells #[.int .i64 0] 34)

theorem tw_size (w : World) : (tw w).heap.size = w.heap.size + 1 := by simp [go_sem]

/-- What the result's variable holds. -/
theorem at0_but {S : Nat → Prop} {w w2 : World} (hS : ¬ S w.heap.size) (hb : But S (tw w) w2) : Var (at0 w) (.int .i64 0) w2 := (Var.new w (.int .i64 0) 34).but hb hS

theorem but_tw {S : Nat → Prop} {w w2 : World} (hb : But S (tw w) w2) : But S w w2 := .head ((Below.refl _ _).alloc (Nat.le_refl _) _) hb

theorem below_at0 {w w2 : World} (v : Value) : Below w.heap.size w2 (w2.setCell (at0 w) v) := (Below.refl w.heap.size w2).setCell (p := at0 w) (Nat.le_refl _) v

theorem below_at1 {w w2 : World} (h : w.heap.size ≤ w2.heap.size) (o : Obj) (v : Value) : Below w.heap.size w2 ((w2.alloc o).setCell (at0 w) v) := ((Below.refl _ _).alloc h o).setCell (Nat.le_refl _) v

/-- It comes back. -/
theorem try_back (K : FuncId) (cap : Array Value) (w : World) (S : Nat → Prop) (F : World → Prop)
    (hK : ∀ w : World, (callFunc K cap).run Try.prog w = .ok (.enter K cap) w) (hS : ¬ S w.heap.size) (hF : ∀ a b, Below w.heap.size a b → F a → F b)
    (h : Calls Try.prog K cap (tw w) fun e w2 => e = .returned (.tuple #[]) ∧ But S (tw w) w2 ∧ F w2) :
    Calls Try.prog 18 #[.func (.func K) #[] cap] w fun e w' => e = .returned (.int .i64 0) ∧ But S w w' ∧ F w' := by
  refine try_any K cap w _ hK (h.mono ?_)
  rintro e w2 ⟨rfl, hb, hf⟩
  obtain ⟨hc, hz⟩ := at0_but hS hb
  exact ⟨hc, hz, Or.inl ⟨rfl, rfl, (but_tw hb).setCell (Or.inr (Nat.le_refl _)) _, hF _ _ (below_at0 _) hf⟩⟩

/-- It breaks with a Fault. -/
theorem try_fault (x : Int) (K : FuncId) (cap : Array Value) (w : World) (S : Nat → Prop) (F : World → Prop)
    (hK : ∀ w : World, (callFunc K cap).run Try.prog w = .ok (.enter K cap) w) (hS : ¬ S w.heap.size) (hF : ∀ a b, Below w.heap.size a b → F a → F b)
    (h : Calls Try.prog K cap (tw w) fun e w2 => e = .panicked [pan (fault x)] ∧ But S (tw w) w2 ∧ F w2) :
    Calls Try.prog 18 #[.func (.func K) #[] cap] w fun e w' => e = .returned (.int .i64 x) ∧ But S w w' ∧ F w' := by
  refine try_any K cap w _ hK (h.mono ?_)
  rintro e w2 ⟨rfl, hb, hf⟩
  obtain ⟨hc, hz⟩ := at0_but hS hb
  exact ⟨hc, hz, Or.inr (Or.inl ⟨x, rfl, rfl, ((but_tw hb).alloc _).setCell (Or.inr (Nat.le_refl _)) _, hF _ _ (below_at1 (but_tw hb).size _ _) hf⟩)⟩

/-- Another panic. -/
theorem try_other (v : Value) (hv : Other v) (K : FuncId) (cap : Array Value) (w : World) (S : Nat → Prop) (F : World → Prop)
    (hK : ∀ w : World, (callFunc K cap).run Try.prog w = .ok (.enter K cap) w) (hS : ¬ S w.heap.size)
    (h : Calls Try.prog K cap (tw w) fun e w2 => e = .panicked [pan v] ∧ But S (tw w) w2 ∧ F w2) :
    Calls Try.prog 18 #[.func (.func K) #[] cap] w fun e w' => e = .panicked [pan v, gone v] ∧ But S w w' ∧ F w' := by
  refine try_any K cap w _ hK (h.mono ?_)
  rintro e w2 ⟨rfl, hb, hf⟩
  obtain ⟨hc, hz⟩ := at0_but hS hb
  exact ⟨hc, hz, Or.inr (Or.inr ⟨v, hv, rfl, rfl, but_tw hb, hf⟩)⟩

/-- The world in which 'tries' calls Try. -/
abbrev sw (w : World) : World := (w.alloc (.cells #[.nilIface] 20)).alloc (.cells #[.bool false] 4)

theorem sw_vars {S : Nat → Prop} {w w2 : World} (hS : ∀ k, w.heap.size ≤ k → ¬ S k) (hb : But S (sw w) w2) : Var ⟨w.heap.size, 0, none⟩ .nilIface w2 ∧ Var ⟨w.heap.size + 1, 0, none⟩ (.bool false) w2 := by
  refine ⟨((Var.new w .nilIface 20).alloc _).but hb (hS _ (Nat.le_refl _)), ?_⟩
  have := Var.new (w.alloc (.cells #[.nilIface] 20)) (.bool false) 4
  simp only [World.size_alloc] at this
  exact this.but hb (hS _ (Nat.le_succ _))

theorem but_sw {S : Nat → Prop} {w w2 : World} (hb : But S (sw w) w2) : But S w w2 := .head (((Below.refl _ _).alloc (Nat.le_refl _) _).alloc (by simp) _) hb

/-- The world in which the function that 'tries' tries is called. -/
abbrev uw (w : World) : World := tw (sw w)

theorem sw_size (w : World) : (sw w).heap.size = w.heap.size + 2 := by simp
theorem uw_size (w : World) : (uw w).heap.size = w.heap.size + 3 := by simp

theorem uw_below (w : World) : Below w.heap.size w (uw w) := (((Below.refl _ _).alloc (Nat.le_refl _) _).alloc (by simp) _).alloc (by simp; omega) _

end Go.Proofs.Ythihldepedbppaa
