/-
  A region that is walked in order, step by step by the kernel alone, over a frame that is told as a function: for frames of many slots; no program is named here.
-/
import Derived.Test.YtbddghdkmakjlabGa
import Derived.Deep.MidRow
import Derived.Laws.Tables
namespace Go.Proofs.Ytbddghdkmakjlab
set_option maxRecDepth 100000
set_option linter.unusedVariables false
open Go.RowKit

/-- A frame of n slots: what x says. -/
def fr (n : Nat) (x : Nat → Value) (D : List Deferred) : Act := ⟨((List.range n).map x).toArray, D⟩
def upd (x : Nat → Value) (d : Nat) (v : Value) : Nat → Value := fun k => bif Nat.beq k d then v else x k
def dput (x : Nat → Value) (d : Option Tmp) (v : Value) : Nat → Value := match d with
  | some d => upd x d v
  | none => x
def evx (n : Nat) (x : Nat → Value) : Operand → Value
  | .tmp t => bif Nat.blt t n then x t else undef
  | .const v => v
  | .global g => .pointer (some ⟨g, 0, none⟩)
  | .func f => .func (.func f) #[] #[]
def wanx (ops : Array Oper) (n : Nat) (x : Nat → Value) (o : Oper) : Bool := match o.guard with
  | none => true
  | some (j, want) => match (ops[j]?).bind (·.dst) with
    | some s => (match evx n x (.tmp s) with
      | .bool b => b == want
      | _ => false)
    | none => false

theorem evx_lt {n : Nat} {x : Nat → Value} {t : Nat} (h : t < n) : evx n x (.tmp t) = x t := by
  show (bif Nat.blt t n then x t else undef) = _
  rw [show Nat.blt t n = true by rw [Nat.blt_eq]; exact h]
  rfl
theorem evx_ge {n : Nat} {x : Nat → Value} {t : Nat} (h : ¬ t < n) : evx n x (.tmp t) = undef := by
  show (bif Nat.blt t n then x t else undef) = _
  rw [show Nat.blt t n = false by rw [Bool.eq_false_iff]; intro q; rw [Nat.blt_eq] at q; exact h q]
  rfl
theorem fr_at (n : Nat) (x : Nat → Value) (D : List Deferred) (k : Nat) : (fr n x D).tmps[k]? = if k < n then some (x k) else none := by
  unfold fr
  by_cases h : k < n
  · simp [h]
  · simp [h]
theorem fr_eval (n : Nat) (x : Nat → Value) (D : List Deferred) : (fr n x D).eval = evx n x := by
  funext o
  cases o with
  | tmp t =>
    show (fr n x D).tmps.getD t undef = _
    rw [Array.getD_eq_getD_getElem?, fr_at]
    by_cases h : t < n
    · rw [if_pos h, evx_lt h]; rfl
    · rw [if_neg h, evx_ge h]; rfl
  | const v => rfl
  | global g => rfl
  | func f => rfl
theorem fr_put (n : Nat) (x : Nat → Value) (D : List Deferred) (d : Option Tmp) (v : Value) : (fr n x D).put d v = fr n (dput x d v) D := by
  cases d with
  | none => rfl
  | some d =>
    show (⟨(fr n x D).tmps.setIfInBounds d v, D⟩ : Act) = ⟨((List.range n).map (upd x d v)).toArray, D⟩
    congr 1
    apply Array.ext_getElem?
    intro k
    have e : ((List.range n).map (upd x d v)).toArray[k]? = if k < n then some (upd x d v k) else none := fr_at n (upd x d v) D k
    rw [e, Array.getElem?_setIfInBounds]
    have hs : (fr n x D).tmps.size = n := by simp [fr]
    rw [hs]
    by_cases h : d = k
    · subst h
      by_cases hn : d < n
      · simp [hn, upd]
      · simp [hn]
    · rw [if_neg h, fr_at]
      by_cases hn : k < n
      · rw [if_pos hn, if_pos hn]
        unfold upd
        rw [show Nat.beq k d = false by rw [Bool.eq_false_iff]; intro q; exact h (Nat.eq_of_beq_eq_true q).symm]
        rfl
      · rw [if_neg hn, if_neg hn]
theorem fr_wanted (ops : Array Oper) (n : Nat) (x : Nat → Value) (D : List Deferred) (o : Oper) : Region.wanted o (yielded ops (fr n x D).tmps) = wanx ops n x o := by
  unfold Region.wanted wanx
  cases hg : o.guard with
  | none => rfl
  | some g =>
    obtain ⟨j, want⟩ := g
    simp only
    unfold yielded
    cases hj : (ops[j]?).bind (·.dst) with
    | none => rfl
    | some s =>
      simp only [Option.bind_some]
      rw [fr_at]
      by_cases h : s < n
      · rw [if_pos h, evx_lt h]
        cases x s <;> simp
      · rw [if_neg h, evx_ge h]
        rfl

theorem fr_of (T : Array Value) (D : List Deferred) (n : Nat) (hn : T.size = n) : (⟨T, D⟩ : Act) = fr n (fun k => T.getD k undef) D := by
  subst hn
  show (⟨T, D⟩ : Act) = ⟨_, D⟩
  congr 1
  apply Array.ext_getElem?
  intro k
  have e : ((List.range T.size).map (fun k => T.getD k undef)).toArray[k]? = _ := fr_at T.size (fun k => T.getD k undef) D k
  rw [e]
  by_cases h : k < T.size
  · rw [if_pos h]; simp [h]
  · rw [if_neg h]; simp [h]

/-- What is left of a region from operation i on; a structure, so that nobody lays it open. -/
structure WL (P : Program) (ops : Array Oper) (Q : Exit → Act → World → Prop) (i : Nat) (n : Nat) (x : Nat → Value) (D : List Deferred) (w : World) : Prop where
  out : wpList P ops Q (ops.toList.drop i) (fr n x D) w

section
variable {P : Program} {ops : Array Oper} {Q : Exit → Act → World → Prop} {n : Nat} {x : Nat → Value} {D : List Deferred} {w : World}

/-- Operation i. -/
def opAt (ops : Array Oper) (i : Nat) : Oper := match ops[i]? with
  | some o => o
  | none => { dst := none, op := .move (.const undef), type := 0, pos := "", after := #[], guard := none }
theorem opAt_is {i : Nat} (h : ops[i]?.isSome = true) : ops[i]? = some (opAt ops i) := by
  unfold opAt
  cases hq : ops[i]? with
  | none => rw [hq] at h; cases h
  | some o => rfl

theorem drop_at {i : Nat} {o : Oper} (ho : ops[i]? = some o) : ops.toList.drop i = o :: ops.toList.drop (i + 1) := by
  obtain ⟨hi, he⟩ := Array.getElem?_eq_some_iff.1 ho
  rw [List.drop_eq_getElem_cons (by simpa using hi)]
  simp [he]

theorem kl_start {id : Nat} {T : Array Value} (n : Nat) (hn : T.size = n) (h : WL P ops Q 0 n (fun k => T.getD k undef) D w) : (Code.region id ops false).wp P Q ⟨T, D⟩ w := by
  rw [fr_of T D n hn]
  exact wp_region_list h.out
theorem kl_done {m : Nat} (hm : decide (ops.size ≤ m) = true) (T : (Nat → Value) → Array Value) (hT : ((List.range n).map x).toArray = T x) (h : ∀ y, Q .normal ⟨T y, D⟩ w) : WL P ops Q m n x D w := by
  refine ⟨?_⟩
  rw [List.drop_of_length_le (by simpa using hm)]
  refine wpList_nil ?_
  unfold fr
  rw [hT]
  exact h x
theorem kl_take (i : Nat) (d : Option Tmp) (v : Value) (ho : ops[i]?.isSome = true) (hd : (opAt ops i).dst = d) (hw : wanx ops n x (opAt ops i) = true) (hr : (execOp (evx n x) (opAt ops i)).run P w = .ok (.value v) w)
    (hK : WL P ops Q (i + 1) n (dput x d v) D w) : WL P ops Q i n x D w := by
  subst hd
  refine ⟨?_⟩
  rw [drop_at (opAt_is ho)]
  refine wpList_step fun K' hK' => ?_
  rw [fr_wanted, if_pos hw]
  unfold Oper.wp
  rw [fr_eval, hr]
  have hK := hK.out
  rw [← fr_put] at hK
  exact hK' _ _ hK
theorem kl_skip (i : Nat) (d : Option Tmp) (ho : ops[i]?.isSome = true) (hd : (opAt ops i).dst = d) (hw : wanx ops n x (opAt ops i) = false) (hK : WL P ops Q (i + 1) n (dput x d undef) D w) : WL P ops Q i n x D w := by
  subst hd
  refine ⟨?_⟩
  rw [drop_at (opAt_is ho)]
  have hK := hK.out
  rw [← fr_put] at hK
  exact wpList_skip (by rw [fr_wanted]; exact hw) hK
theorem kl_call (i : Nat) (d : Option Tmp) (r : Value) {f : FuncId} {vs : Array Value} {R : World → Prop} (ho : ops[i]?.isSome = true) (hd : (opAt ops i).dst = d) (hw : wanx ops n x (opAt ops i) = true) (hr : (execOp (evx n x) (opAt ops i)).run P w = .ok (.enter f vs) w)
    (hc : Calls P f vs w fun e x => e = .returned r ∧ R x) (hK : ∀ y, R y → WL P ops Q (i + 1) n (dput x d r) D y) : WL P ops Q i n x D w := by
  subst hd
  refine ⟨?_⟩
  rw [drop_at (opAt_is ho)]
  refine wpList_step fun K' hK' => ?_
  rw [fr_wanted, if_pos hw]
  unfold Oper.wp
  rw [fr_eval, hr]
  refine hc.mono ?_
  rintro e y ⟨rfl, hy⟩
  have := (hK y hy).out
  rw [← fr_put] at this
  exact hK' _ _ this
/-- A load: what the variable holds. -/
theorem kl_load (i : Nat) (d : Option Tmp) (v : Value) (ty : TypeId) (y : Operand) {p : Value} (ho : ops[i]?.isSome = true) (hd : (opAt ops i).dst = d) (hw : wanx ops n x (opAt ops i) = true) (hop : (opAt ops i).op = .load ty y) (hx : evx n x y = p) (hl : (Instr.loadAt ty p).run P w = .ok v w)
    (hK : WL P ops Q (i + 1) n (dput x d v) D w) : WL P ops Q i n x D w :=
  kl_take i d v ho hd hw (by simp [execOp, hop, hx, hl, Result.andThen]) hK
/-- A struct or an array is built. -/
theorem kl_build (i : Nat) (d : Option Tmp) (cells : Array Value) (t : TypeId) (parts : Array (Nat × Operand)) (ho : ops[i]?.isSome = true) (hd : (opAt ops i).dst = d) (hw : wanx ops n x (opAt ops i) = true) (hop : (opAt ops i).op = .build t parts)
    (hb : P.built t (parts.map fun (i, y) => (i, evx n x y)).toList = some cells) (hK : WL P ops Q (i + 1) n (dput x d (.agg cells)) D w) : WL P ops Q i n x D w :=
  kl_take i d _ ho hd hw (by unfold execOp; simp only [hop, Sem.run_bind, run_build w t _ cells hb, Result.andThen_ok]; rfl) hK
/-- The place of an element of a slice. -/
theorem kl_index (i : Nat) (d : Option Tmp) (ty : TypeId) (y z : Operand) (s : Nat) (b off m c : Nat) (k : Nat) (ho : ops[i]?.isSome = true) (hd : (opAt ops i).dst = d) (hw : wanx ops n x (opAt ops i) = true) (hop : (opAt ops i).op = .indexAddr ty y z)
    (hy : evx n x y = .slice (some ⟨b, off, none⟩) m c) (hz : evx n x z = .int .i64 (k : Int)) (hu : P.underlying ty = some (.slice (P.elem ty))) (hs : (P.info? (P.elem ty)).map (·.size) = some s) (hk : k < m)
    (hK : WL P ops Q (i + 1) n (dput x d (.pointer (some ⟨b, off + k * s, none⟩))) D w) : WL P ops Q i n x D w :=
  kl_take i d _ ho hd hw (by
    have hsz : (sizeOf (P.elem ty)).run P w = .ok s w := by
      cases hq : P.info? (P.elem ty) with
      | none => simp [hq] at hs
      | some q =>
        simp [hq] at hs
        simp [sizeOf, typeInfo, hq, hs]
    have hr : (Instr.indexAt ty (.slice (some ⟨b, off, none⟩) m c) (.int .i64 (k : Int))).run P w = .ok (.pointer (some ⟨b, off + k * s, none⟩)) w := by
      rw [run_indexAt_slice (h := hu), if_pos ⟨by omega, by omega⟩, hsz]
      simp [Result.andThen, add_plain]
    simp [execOp, hop, hy, hz, hr, Result.andThen]) hK
/-- A test whose answer is known. -/
theorem kl_test (i : Nat) (d : Option Tmp) {b : Bool} (c : Bool) (ho : ops[i]?.isSome = true) (hd : (opAt ops i).dst = d) (hw : wanx ops n x (opAt ops i) = true) (hb : b = c) (hr : (execOp (evx n x) (opAt ops i)).run P w = .ok (.value (.bool b)) w)
    (hK : WL P ops Q (i + 1) n (dput x d (.bool c)) D w) : WL P ops Q i n x D w :=
  kl_take i d _ ho hd hw (by rw [hr, hb]) hK
end
end Go.Proofs.Ytbddghdkmakjlab
