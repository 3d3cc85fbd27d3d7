/-
  Contracts of the functions of package guard, each over the translated program.
-/
import Derived.Test.YthihldepedbppaaRows
import Derived.Test.YthihldepedbppaaBas
import Derived.Defers
import Derived.Recover
import Derived.Laws.NewBlocks
namespace Go.Proofs.Ythihldepedbppaa
set_option maxRecDepth 100000
set_option linter.unusedVariables false
open Go.RowKit

/-- What a Break of e panics with. -/
def brk (e : Int) : Int := if e = 0 then 8 else e
/-- A panic that is under way. -/
abbrev pan (v : Value) : PanicEntry := { v := v, recovered := false }
abbrev gone (v : Value) : PanicEntry := { v := v, recovered := true }
abbrev fault (x : Int) : Value := .iface 61 (.agg #[.int .i64 x])

set_option maxHeartbeats 400000 in
theorem break_any (e : Int) (w : World) :
    Calls Try.prog 29 #[.int .i64 e] w fun r w' => r = .panicked [pan (fault (brk e))] ∧ w' = w := by
  unfold brk
  by_cases he : e = 0
  · subst he
    go_enter Try.func29, Try.ntmps29
    go_wp2_with fail
    exact ⟨rfl, rfl, rfl⟩
  · have hb : (e == 0) = false := by simp [he]
    rw [if_neg he]
    go_enter Try.func29, Try.ntmps29
    go_wp2_with fail
    exact ⟨rfl, rfl, rfl⟩

set_option maxHeartbeats 400000 in
theorem check_true (e : Int) (w : World) :
    Calls Try.prog 26 #[.bool true, .int .i64 e] w fun r w' => r = .returned (.tuple #[]) ∧ w' = w := by
  go_enter Try.func26, Try.ntmps26
  go_wp2_with fail
  go_end0
  exact ⟨rfl, rfl⟩

set_option maxHeartbeats 400000 in
theorem check_false (e : Int) (w : World) :
    Calls Try.prog 26 #[.bool false, .int .i64 e] w fun r w' => r = .panicked [pan (fault (brk e))] ∧ w' = w := by
  go_enter Try.func26, Try.ntmps26
  go_wp2_with fail
  refine (break_any _ _).mono ?_
  rintro r w' ⟨rfl, rfl⟩
  exact ⟨rfl, rfl, rfl⟩

theorem cell_alloc (w : World) (o : Obj) (p : Addr) (h : p.block < w.heap.size) : (w.alloc o).cell? p = w.cell? p := World.cell?_alloc_lt w o p h

theorem rep11 : Array.replicate 11 undef = #[undef, undef, undef, undef, undef, undef, undef, undef, undef, undef, undef] := rfl

/-- What Try defers, of a frame that comes back. -/
theorem caught_idle (p : Addr) (w : World) :
    CallsD Try.prog 27 #[.pointer (some p)] .returning w fun e u' w' => e = .returned (.tuple #[]) ∧ u' = .returning ∧ w' = w := by
  have hq : ∀ (w : World), (binOp .eql 20 .nilIface .nilIface).run Try.prog w = .ok (.bool true) w := fun w => by kernel_rfl
  refine callsD_of_wpS Try.func27 rfl fun c₀ cs hu => ?_
  apply wpS_seq
  apply wpS_region
  simp [wpOpsS, go_sem, recoverD, hu, Try.ntmps27, Exit.thenS]
  rw [rep11]
  go_simp
  refine wpS_of_wp ?_
  go_wp2_with fail
  cases c₀
  simp_all [bodyPostS, results, Try.results27]

theorem is_fault (x : Int) (w : World) : (Instr.typeAssert (fault x) 20 61 true).run Try.prog w = .ok (.tuple #[.agg #[.int .i64 x], .bool true]) w := by kernel_rfl

set_option maxHeartbeats 1000000 in
/-- Of a frame that a Fault goes through. -/
theorem caught_fault (p : Addr) (x y : Int) (older : List PanicEntry) (w : World) (hc : w.cell? p = some (.int .i64 y)) (hz : w.frozen? p = false) :
    CallsD Try.prog 27 #[.pointer (some p)] (.panicking (pan (fault x) :: older)) w fun e u' w' =>
      e = .returned (.tuple #[]) ∧ u' = .panicking (gone (fault x) :: older) ∧ w' = (w.alloc (.cells #[.int .i64 x] 61)).setCell p (.int .i64 x) := by
  have hf := is_fault x
  have hl := cell_lt hc
  have hc1 : (w.alloc (.cells #[.int .i64 x] 61)).cell? p = some (.int .i64 y) := by rw [cell_alloc w _ p hl, hc]
  have hz1 : (w.alloc (.cells #[.int .i64 x] 61)).frozen? p = false := by rw [World.frozen?_alloc_old w _ p (by omega), hz]
  refine callsD_of_wpS Try.func27 rfl fun c₀ cs hu => ?_
  apply wpS_seq
  apply wpS_region
  simp [wpOpsS, go_sem, recoverD, hu, Try.ntmps27, Exit.thenS]
  rw [rep11]
  go_simp
  refine wpS_of_wp ?_
  go_wp2_with fail
  simp_all [bodyPostS, results, Try.results27]

/-- A value that a panic bears and that is no Fault. -/
def Other (v : Value) : Prop := (∀ w : World, (Instr.typeAssert v 20 61 true).run Try.prog w = .ok (.tuple #[.agg #[.int .i64 0], .bool false]) w) ∧ ∃ T u, v = .iface T u

theorem other_string (s : ByteArray) : Other (.iface 9 (.string s)) := ⟨fun _ => by kernel_rfl, _, _, rfl⟩
theorem other_int (n : Int) : Other (.iface 3 (.int .i64 n)) := ⟨fun _ => by kernel_rfl, _, _, rfl⟩

set_option maxHeartbeats 1000000 in
/-- Of a frame that another panic goes through. -/
theorem caught_other (p : Addr) (v : Value) (hv : Other v) (older : List PanicEntry) (w : World) :
    CallsD Try.prog 27 #[.pointer (some p)] (.panicking (pan v :: older)) w fun e u' w' =>
      e = .panicked [pan v] ∧ u' = .panicking (gone v :: older) ∧ w' = w := by
  obtain ⟨hf, T, u, rfl⟩ := hv
  refine callsD_of_wpS Try.func27 rfl fun c₀ cs hu => ?_
  apply wpS_seq
  apply wpS_region
  simp [wpOpsS, go_sem, recoverD, hu, Try.ntmps27, Exit.thenS]
  rw [rep11]
  go_simp
  refine wpS_of_wp ?_
  go_wp2_with fail
  simp_all [bodyPostS]

/-- Where the first result of Try, or of a call like it, lives. -/
abbrev at0 (w : World) : Addr := ⟨w.heap.size, 0, none⟩

set_option maxHeartbeats 1000000 in
theorem try_any (K : FuncId) (cap : Array Value) (w : World) (Q : Ending → World → Prop)
    (hK : ∀ w : World, (callFunc K cap).run Try.prog w = .ok (.enter K cap) w)
    (h : Calls Try.prog K cap (w.alloc (.cells #[.int .i64 0] 34)) fun e w2 =>
      w2.cell? (at0 w) = some (.int .i64 0) ∧ w2.frozen? (at0 w) = false ∧
      ((e = .returned (.tuple #[]) ∧ Q (.returned (.int .i64 0)) (w2.setCell (at0 w) (.int .i64 0))) ∨
       (∃ x, e = .panicked [pan (fault x)] ∧ Q (.returned (.int .i64 x)) ((w2.alloc (.cells #[.int .i64 x] 61)).setCell (at0 w) (.int .i64 x))) ∨
       (∃ v, Other v ∧ e = .panicked [pan v] ∧ Q (.panicked [pan v, gone v]) w2))) :
    Calls Try.prog 18 #[.func (.func K) #[] cap] w Q := by
  have hmf : ∀ (fn : Fn) (first cap : Array Value) (w : World), (Instr.makeFunc fn first cap).run Try.prog w = .ok (.func fn first cap) w := fun _ _ _ _ => rfl
  have hfn : ∀ (fn : Fn) (first cap : Array Value) (w : World), (binOp .eql 1 (.func fn first cap) .nilFunc).run Try.prog w = .ok (.bool false) w := fun _ _ _ _ => by kernel_rfl
  go_enter_defers Try.func18, Try.ntmps18
  go_wp2_with fail
  refine h.mono ?_
  rintro e w2 ⟨hc, hz, ⟨rfl, hQ⟩ | ⟨x, rfl, hQ⟩ | ⟨v, hv, rfl, hQ⟩⟩
  · go_wp2_with fail
    have hl := cell_lt hc
    have hc1 : (w2.setCell (at0 w) (.int .i64 0)).cell? (at0 w) = some (.int .i64 0) := World.cell?_setCell_same _ _ _ hc
    refine leaves_cons (f := 27) (args := #[.pointer (some (at0 w))]) (by simp) (by simp [go_sem]) ?_
    refine (caught_idle (at0 w) _).mono ?_
    rintro e u' w'' ⟨rfl, rfl, rfl⟩
    simp [Leaves, settle, results, Try.results18, go_sem, hc1]
    exact hQ
  · dsimp only
    have hl := cell_lt hc
    have hc0 : (w2.alloc (.cells #[.int .i64 x] 61)).cell? (at0 w) = some (.int .i64 0) := by rw [cell_alloc w2 _ _ hl, hc]
    have hc1 : ((w2.alloc (.cells #[.int .i64 x] 61)).setCell (at0 w) (.int .i64 x)).cell? (at0 w) = some (.int .i64 x) := World.cell?_setCell_same _ _ _ hc0
    refine leaves_cons (f := 27) (args := #[.pointer (some (at0 w))]) (by simp) (by simp [go_sem]) ?_
    refine (caught_fault (at0 w) x 0 [] _ hc hz).mono ?_
    rintro e u' w'' ⟨rfl, rfl, rfl⟩
    simp [Leaves, settle, results, Try.results18, go_sem, hc1]
    exact hQ
  · dsimp only
    refine leaves_cons (f := 27) (args := #[.pointer (some (at0 w))]) (by simp) (by simp [go_sem]) ?_
    refine (caught_other (at0 w) v hv [] _).mono ?_
    rintro e u' w'' ⟨rfl, rfl, rfl⟩
    exact hQ

set_option maxHeartbeats 1000000 in
theorem try_nil (w : World) :
    Calls Try.prog 18 #[.nilFunc] w fun e w' => e = .returned (.int .i64 0) ∧ w' = (w.alloc (.cells #[.int .i64 0] 34)).setCell (at0 w) (.int .i64 0) := by
  have hfn : ∀ (w : World), (binOp .eql 1 .nilFunc .nilFunc).run Try.prog w = .ok (.bool true) w := fun _ => by kernel_rfl
  go_enter_defers Try.func18, Try.ntmps18
  go_wp2_with fail
  simp [bodyPostD, Leaves, results, Try.results18, go_sem]
end Go.Proofs.Ythihldepedbppaa
