/-
  Laws at parts of a cell in a region that draws its order.
-/
import Derived.Test.YtlefhhmggaaiiabCelM
import Derived.Test.YtlefhhmggaaiiabCelL
namespace Go.Proofs.Ytlefhhmggaaiiab
open Go.RowKit

/-- In such a region: what all see, what one sees, out of a cell. -/
theorem yields_part1 {ops : Array Oper} {S : World → Prop} {op : Oper} {a : Act} {c : Ce} (hw : Region.wanted op (yielded ops a.tmps) = true) (x : Operand) (ho : op.op = .load 27 x)
    (b : Nat) (hx : a.eval x = .pointer (some ⟨b, 1, none⟩)) (hS : ∀ w, S w → Bx w b (cv c)) : YieldsIf Try.prog ops S op (.agg (va c.V)) a := by
  refine .inl ⟨hw, fun w h => ?_⟩
  have hr := (hS w h).ld1
  simp [execOp, ho, hx, hr, Result.andThen]
theorem yields_part5 {ops : Array Oper} {S : World → Prop} {op : Oper} {a : Act} {c : Ce} (hw : Region.wanted op (yielded ops a.tmps) = true) (x : Operand) (ho : op.op = .load 27 x)
    (b : Nat) (hx : a.eval x = .pointer (some ⟨b, 5, none⟩)) (hS : ∀ w, S w → Bx w b (cv c)) : YieldsIf Try.prog ops S op (.agg (va c.W)) a := by
  refine .inl ⟨hw, fun w h => ?_⟩
  have hr := (hS w h).ld5
  simp [execOp, ho, hx, hr, Result.andThen]

theorem refEq_va (v u : Va) (w : World) (hv : v.Ok) (hu : u.Ok) :
    Calls Try.prog 27 #[.agg (va v), .agg (va u)] w fun e w' => e = .returned (.bool (v.eq u)) ∧ Below w.heap.size w w' := refEq_any v.K v.X v.S u.K u.X u.S w hv.x hu.x
theorem refMay_va (v : Va) (w : World) (hv : v.Ok) :
    Calls Try.prog 21 #[.agg (va v)] w fun e w' => e = .returned (.bool v.may) ∧ Below w.heap.size w w' := refMay_any v.K v.X v.S w hv.s hv.x

theorem Ce.see_wr {c : Ce} {t : Int} {v : Va} (h : 0 < t) : Ce.see (Ce.wr c t v) t = v := by
  unfold Ce.see Ce.wr
  rw [if_pos ⟨h, rfl⟩]
theorem Ce.see_wr_not {c : Ce} {t s : Int} {v : Va} (h : ¬ t = s) : Ce.see (Ce.wr c t v) s = c.V := by
  unfold Ce.see Ce.wr
  rw [if_neg (by simp only; omega)]
theorem Ce.undo_wr {c : Ce} {t : Int} {v : Va} (h : c.may = true) (ht : c.T = 0) : Ce.undo (Ce.wr c t v) = c ∧ ¬ c.V.K = 0 := by
  obtain ⟨-, h2, h3, h4⟩ := Ce.may_parts h
  obtain ⟨-, h5, h6⟩ := Ce.tm_none h4 (by omega)
  refine ⟨?_, h6⟩
  have hw := Va.put_none h3 h5
  obtain ⟨n, x, s, y⟩ := c
  simp only at ht hw h6
  subst ht hw
  simp [Ce.undo, Ce.wr, Ce.settle, h6]
theorem Ce.commit_wr {c : Ce} {t : Int} {v : Va} (h : 0 < t) : Ce.left (Ce.wr c t v) = !decide (v.K = 0) ∧ (¬ v.K = 0 → Ce.commit (Ce.wr c t v) = ⟨c.N, v, 0, Va.zero⟩) := by
  refine ⟨by unfold Ce.left Ce.wr; rw [if_pos h], fun hk => by simp [Ce.commit, Ce.wr, h, Ce.settle, hk]⟩
end Go.Proofs.Ytlefhhmggaaiiab
