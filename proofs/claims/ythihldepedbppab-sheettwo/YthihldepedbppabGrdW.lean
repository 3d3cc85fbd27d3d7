/-
  Contracts of the functions of package guard, each over the translated program.
-/
import Derived.Test.YthihldepedbppabRows
import Derived.Test.YthihldepedbppabBas
import Derived.Defers
import Derived.Recover
import Derived.Laws.NewBlocks
namespace Go.Proofs.Ythihldepedbppab
set_option maxRecDepth 100000
set_option linter.unusedVariables false
open Go.RowKit

/-- What a Break of e panics with. -/
def brk (e : Int) : Int := if e = 0 then 8 else e
/-- A panic that is under way. -/
abbrev pan (v : Value) : PanicEntry := { v := v, recovered := false }
abbrev gone (v : Value) : PanicEntry := { v := v, recovered := true }
abbrev fault (x : Int) : Value := .iface 58 (.agg #[.int .i64 x])

set_option maxHeartbeats 400000 in
theorem break_any (e : Int) (w : World) :
    Calls Try.prog 21 #[.int .i64 e] w fun r w' => r = .panicked [pan (fault (brk e))] ∧ w' = w := by
  unfold brk
  by_cases he : e = 0
  · subst he
    go_enter Try.func21, Try.ntmps21
    go_wp2_with fail
    exact ⟨rfl, rfl, rfl⟩
  · have hb : (e == 0) = false := by simp [he]
    rw [if_neg he]
    go_enter Try.func21, Try.ntmps21
    go_wp2_with fail
    exact ⟨rfl, rfl, rfl⟩

set_option maxHeartbeats 400000 in
theorem check_true (e : Int) (w : World) :
    Calls Try.prog 19 #[.bool true, .int .i64 e] w fun r w' => r = .returned (.tuple #[]) ∧ w' = w := by
  go_enter Try.func19, Try.ntmps19
  go_wp2_with fail
  go_end0
  exact ⟨rfl, rfl⟩

set_option maxHeartbeats 400000 in
theorem check_false (e : Int) (w : World) :
    Calls Try.prog 19 #[.bool false, .int .i64 e] w fun r w' => r = .panicked [pan (fault (brk e))] ∧ w' = w := by
  go_enter Try.func19, Try.ntmps19
  go_wp2_with fail
  refine (break_any _ _).mono ?_
  rintro r w' ⟨rfl, rfl⟩
  exact ⟨rfl, rfl, rfl⟩

theorem cell_alloc (w : World) (o : Obj) (p : Addr) (h : p.block < w.heap.size) : (w.alloc o).cell? p = w.cell? p := World.cell?_alloc_lt w o p h

theorem rep11 : Array.replicate 11 undef = #[undef, undef, undef, undef, undef, undef, undef, undef, undef, undef, undef] := rfl

theorem is_fault (x : Int) (w : World) : (Instr.typeAssert (fault x) 20 58 true).run Try.prog w = .ok (.tuple #[.agg #[.int .i64 x], .bool true]) w := by kernel_rfl

/-- A value that a panic bears and that is no Fault. -/
def Other (v : Value) : Prop := (∀ w : World, (Instr.typeAssert v 20 58 true).run Try.prog w = .ok (.tuple #[.agg #[.int .i64 0], .bool false]) w) ∧ ∃ T u, v = .iface T u

theorem other_string (s : ByteArray) : Other (.iface 9 (.string s)) := ⟨fun _ => by kernel_rfl, _, _, rfl⟩
theorem other_int (n : Int) : Other (.iface 3 (.int .i64 n)) := ⟨fun _ => by kernel_rfl, _, _, rfl⟩

/-- Where the first result of Try, or of a call like it, lives. -/
abbrev at0 (w : World) : Addr := ⟨w.heap.size, 0, none⟩

end Go.Proofs.Ythihldepedbppab
