/-
  The helper of the laws of package guard: 'begun' returns true and writes nothing that was there.
-/
import Derived.Test.YtpoilpekficngaaGrdT
namespace Go.Proofs.Ytpoilpekficngaa
open Go.RowKit

theorem but_none {w w' : World} (h : But (fun _ => False) w w') : Below w.heap.size w w' := h.below (Nat.le_refl _) (fun _ _ h => h)

theorem begun1_any (w : World) : Calls Try.prog 25 #[] w fun e w' => e = .panicked [pan (fault 4)] ∧ But (fun _ => False) w w' ∧ True := by
  go_enter Try.func25, Try.ntmps25
  go_wp2_with fail
  refine (break_any 4 _).mono ?_
  rintro e x ⟨rfl, rfl⟩
  exact ⟨rfl, rfl, But.refl _ _, trivial⟩

theorem begun2_any (w : World) : Calls Try.prog 26 #[] w fun e w' => e = .returned (.tuple #[]) ∧ But (fun _ => False) w w' ∧ True := by
  go_enter Try.func26, Try.ntmps26
  go_wp2_with fail
  go_end0
  exact ⟨rfl, But.refl _ _, trivial⟩

theorem begun3_any (w : World) : Calls Try.prog 27 #[] w fun e w' => e = .returned (.tuple #[]) ∧ But (fun _ => False) w w' ∧ True := by
  go_enter Try.func27, Try.ntmps27
  go_wp2_with fail
  refine (check_true 4 _).mono ?_
  rintro e x ⟨rfl, rfl⟩
  go_wp2_with fail
  go_end0
  exact ⟨rfl, But.refl _ _, trivial⟩

theorem enters_begun1 (cap : Array Value) (w : World) : (callFunc 25 cap).run Try.prog w = .ok (.enter 25 cap) w := by kernel_rfl
theorem enters_begun2 (cap : Array Value) (w : World) : (callFunc 26 cap).run Try.prog w = .ok (.enter 26 cap) w := by kernel_rfl
theorem enters_begun3 (cap : Array Value) (w : World) : (callFunc 27 cap).run Try.prog w = .ok (.enter 27 cap) w := by kernel_rfl

set_option maxHeartbeats 1000000 in
theorem begun_any (w : World) : Calls Try.prog 9 #[] w fun e w' => e = .returned (.bool true) ∧ Below w.heap.size w w' := by
  have hmf : ∀ (fn : Fn) (first cap : Array Value) (w : World), (Instr.makeFunc fn first cap).run Try.prog w = .ok (.func fn first cap) w := fun _ _ _ _ => rfl
  go_enter Try.func9, Try.ntmps9
  go_wp2_with fail
  refine (try_fault 4 25 #[] _ (fun _ => False) (fun _ => True) (enters_begun1 _) (fun h => h) (fun _ _ _ _ => trivial) (begun1_any _)).mono ?_
  rintro e x ⟨rfl, hb, _⟩
  have hB := but_none hb
  clear hb
  go_wp2_with fail
  refine (try_back 26 #[] _ (fun _ => False) (fun _ => True) (enters_begun2 _) (fun h => h) (fun _ _ _ _ => trivial) (begun2_any _)).mono ?_
  rintro e x ⟨rfl, hb, _⟩
  replace hB := hB.trans ((but_none hb).mono hB.size)
  clear hb
  go_wp2_with fail
  refine (try_nil _).mono ?_
  rintro e x ⟨rfl, rfl⟩
  replace hB := (hB.alloc hB.size (.cells #[.int .i64 0] 23)).setCell (p := at0 _) hB.size (.int .i64 0)
  generalize World.setCell _ _ _ = y at *
  go_wp2_with fail
  refine (try_back 27 #[] _ (fun _ => False) (fun _ => True) (enters_begun3 _) (fun h => h) (fun _ _ _ _ => trivial) (begun3_any _)).mono ?_
  rintro e x ⟨rfl, hb, _⟩
  replace hB := hB.trans ((but_none hb).mono hB.size)
  clear hb
  go_wp2_with fail
  go_ret
  exact ⟨rfl, hB⟩

/-- Behind 'begun': what the variables of the law's own hold; nothing that was there has turned. -/
theorem par1 {w x : World} {v : Value} {t : TypeId} (hb : Below (w.alloc (.cells #[v] t)).heap.size (w.alloc (.cells #[v] t)) x) :
    Below w.heap.size w x ∧ w.heap.size + 1 ≤ x.heap.size ∧ Var ⟨w.heap.size, 0, none⟩ v x := by
  refine ⟨((Below.refl _ _).alloc (Nat.le_refl _) _).trans (hb.mono (by simp)), by have := hb.size; simpa using this, (Var.new w v t).below (by simp) _ _ hb⟩

theorem par2 {w x : World} {v u : Value} {t s : TypeId} (hb : Below ((w.alloc (.cells #[v] t)).alloc (.cells #[u] s)).heap.size ((w.alloc (.cells #[v] t)).alloc (.cells #[u] s)) x) :
    Below w.heap.size w x ∧ w.heap.size + 2 ≤ x.heap.size ∧ Var ⟨w.heap.size, 0, none⟩ v x ∧ Var ⟨w.heap.size + 1, 0, none⟩ u x := by
  obtain ⟨h1, h2, h3⟩ := par1 (w := w.alloc (.cells #[v] t)) hb
  obtain ⟨g1, _, g3⟩ := par1 (w := w) h1
  simp only [World.size_alloc] at h2 h3
  exact ⟨g1, h2, g3, h3⟩

theorem par3 {w x : World} {v u y : Value} {t s r : TypeId} (hb : Below (((w.alloc (.cells #[v] t)).alloc (.cells #[u] s)).alloc (.cells #[y] r)).heap.size (((w.alloc (.cells #[v] t)).alloc (.cells #[u] s)).alloc (.cells #[y] r)) x) :
    Below w.heap.size w x ∧ w.heap.size + 3 ≤ x.heap.size ∧ Var ⟨w.heap.size, 0, none⟩ v x ∧ Var ⟨w.heap.size + 1, 0, none⟩ u x ∧ Var ⟨w.heap.size + 1 + 1, 0, none⟩ y x := by
  obtain ⟨h1, h2, h3, h4⟩ := par2 (w := w.alloc (.cells #[v] t)) hb
  obtain ⟨g1, _, g3⟩ := par1 (w := w) h1
  simp only [World.size_alloc] at h2 h3 h4
  exact ⟨g1, h2, g3, h3, h4⟩

theorem par5 {w x : World} {v u y z a : Value} {t s r q b : TypeId} (hb : Below (((((w.alloc (.cells #[v] t)).alloc (.cells #[u] s)).alloc (.cells #[y] r)).alloc (.cells #[z] q)).alloc (.cells #[a] b)).heap.size (((((w.alloc (.cells #[v] t)).alloc (.cells #[u] s)).alloc (.cells #[y] r)).alloc (.cells #[z] q)).alloc (.cells #[a] b)) x) :
    Below w.heap.size w x ∧ w.heap.size + 5 ≤ x.heap.size ∧ Var ⟨w.heap.size, 0, none⟩ v x ∧ Var ⟨w.heap.size + 1, 0, none⟩ u x ∧ Var ⟨w.heap.size + 1 + 1, 0, none⟩ y x ∧ Var ⟨w.heap.size + 1 + 1 + 1, 0, none⟩ z x ∧ Var ⟨w.heap.size + 1 + 1 + 1 + 1, 0, none⟩ a x := by
  obtain ⟨h1, h2, h3, h4, h5⟩ := par3 (w := (w.alloc (.cells #[v] t)).alloc (.cells #[u] s)) hb
  obtain ⟨g1, _, g3, g4⟩ := par2 (w := w) h1
  simp only [World.size_alloc] at h2 h3 h4 h5
  exact ⟨g1, h2, g3, g4, h3, h4, h5⟩

/-- A new variable ahead of what is tried. -/
theorem uw_var {p : Addr} {v : Value} {w : World} (h : Var p v w) : Var p v (uw w) := h.below h.lt _ _ (uw_below w)

/-- One variable of the law's own was new, what was tried has turned it alone. -/
theorem but_one {w x y : World} {o : Obj} (hB : Below w.heap.size w x) (hb : But (fun k => k = x.heap.size) (x.alloc o) y) : Below w.heap.size w y :=
  hB.trans (((Below.refl w.heap.size x).alloc hB.size o).trans (hb.below (by have := hB.size; simp; omega) (fun k hk => by have := hB.size; omega)))
theorem var_one {x y : World} {o : Obj} {p : Addr} {v : Value} (hv : Var p v x) (hb : But (fun k => k = x.heap.size) (x.alloc o) y) : Var p v y := (hv.alloc o).but hb (by have := hv.lt; omega)
end Go.Proofs.Ytpoilpekficngaa
