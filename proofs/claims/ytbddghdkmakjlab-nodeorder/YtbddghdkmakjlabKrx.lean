/-
  More steps of a region by the kernel alone: calls whose answer is told by 'exists', whole variables, slices that are built and grow.
-/
import Derived.Test.YtbddghdkmakjlabKrn
import Derived.Test.YtbddghdkmakjlabGg
namespace Go.Proofs.Ytbddghdkmakjlab
set_option maxRecDepth 100000
set_option linter.unusedVariables false
open Go.RowKit

section
variable {ops : Array Oper} {Q : Exit → Act → World → Prop} {n : Nat} {x : Nat → Value} {D : List Deferred} {w : World}

/-- Operation i by whatever law there is of it. -/
theorem kl_op {P : Program} (i : Nat) (d : Option Tmp) (ho : ops[i]?.isSome = true) (hd : (opAt ops i).dst = d) (hw : wanx ops n x (opAt ops i) = true)
    (h : ∀ K' : Act → World → Prop, (∀ v y, WL P ops Q (i + 1) n (dput x d v) D y → K' ((fr n x D).put (opAt ops i).dst v) y) → (opAt ops i).wp P (fr n x D) w K' Q) : WL P ops Q i n x D w := by
  subst hd
  refine ⟨?_⟩
  rw [drop_at (opAt_is ho)]
  refine wpList_step fun K' hK' => ?_
  rw [fr_wanted, if_pos hw]
  refine h K' fun v y hy => ?_
  rw [fr_put]
  exact hK' _ _ hy.out

theorem fr_evals (y : Operand) {v : Value} (h : evx n x y = v) : (fr n x D).eval y = v := by rw [fr_eval, h]

/-- A call whose answer is told by 'exists'. -/
theorem kl_callx {P : Program} (i : Nat) (d : Option Tmp) {f : FuncId} {vs : Array Value} {R : Ending → World → Prop} (ho : ops[i]?.isSome = true) (hd : (opAt ops i).dst = d) (hw : wanx ops n x (opAt ops i) = true) (hr : (execOp (evx n x) (opAt ops i)).run P w = .ok (.enter f vs) w)
    (hc : Calls P f vs w R) (hK : ∀ e y, R e y → ∃ r, e = .returned r ∧ WL P ops Q (i + 1) n (dput x d r) D y) : WL P ops Q i n x D w := by
  subst hd
  refine ⟨?_⟩
  rw [drop_at (opAt_is ho)]
  refine wpList_step fun K' hK' => ?_
  rw [fr_wanted, if_pos hw]
  unfold Oper.wp
  rw [fr_eval, hr]
  refine hc.mono ?_
  intro e y hy
  obtain ⟨r, rfl, h⟩ := hK e y hy
  have := h.out
  rw [← fr_put] at this
  exact hK' _ _ this

theorem kl_new (i : Nat) (d : Option Tmp) (ty : TypeId) (z : Array Value) (ho : ops[i]?.isSome = true) (hd : (opAt ops i).dst = d) (hw : wanx ops n x (opAt ops i) = true) (hop : (opAt ops i).op = .alloc ty) (ht : Ty ty z)
    (hK : ∀ W, Below w.heap.size w W → Bx W w.heap.size z → WL Try.prog ops Q (i + 1) n (dput x d (.pointer (some ⟨w.heap.size, 0, none⟩))) D W) : WL Try.prog ops Q i n x D w :=
  kl_op i d ho hd hw fun _ hK' => wp_new ty z hop ht fun W hB hX => hK' _ _ (hK W hB hX)
theorem kl_box (i : Nat) (d : Option Tmp) (ty : TypeId) (y : Operand) (cs : Array Value) (ho : ops[i]?.isSome = true) (hd : (opAt ops i).dst = d) (hw : wanx ops n x (opAt ops i) = true) (hop : (opAt ops i).op = .box ty y) (hy : evx n x y = .agg cs)
    (hK : ∀ W, Below w.heap.size w W → Bx W w.heap.size cs → WL Try.prog ops Q (i + 1) n (dput x d (.pointer (some ⟨w.heap.size, 0, none⟩))) D W) : WL Try.prog ops Q i n x D w :=
  kl_op i d ho hd hw fun K' hK' => by
    unfold Oper.wp
    simp only [execOp, hop, fr_evals y hy]
    exact hK' _ _ (hK _ ((Below.refl _ _).alloc (Nat.le_refl _) _) (Bx.new w cs ty))
theorem kl_put (i : Nat) (ty : TypeId) (z : Array Value) (p y : Operand) (b : Nat) (cs old : Array Value) (ho : ops[i]?.isSome = true) (hd : (opAt ops i).dst = none) (hw : wanx ops n x (opAt ops i) = true) (hop : (opAt ops i).op = .store ty p y)
    (hp : evx n x p = .pointer (some ⟨b, 0, none⟩)) (hy : evx n x y = .agg cs) (h : Bx w b old) (ht : Ty ty z) (hs : old.size = cs.size) (hz : cs.size = z.size) (h1 : ∀ u ∈ cs.toList, u.oneCell' = true)
    (hK : ∀ W, But (· = b) w W → W.heap.size = w.heap.size → Bx W b cs → WL Try.prog ops Q (i + 1) n x D W) : WL Try.prog ops Q i n x D w :=
  kl_op i none ho hd hw fun _ hK' => wp_put ty z p y b cs old hop (fr_evals p hp) (fr_evals y hy) h ht hs hz h1 fun W hb hsz hX => hK' undef _ (hK W hb hsz hX)
theorem kl_put1 (i : Nat) (ty : TypeId) (p y : Operand) (b k : Nat) (v : Value) (cs : Array Value) (ho : ops[i]?.isSome = true) (hd : (opAt ops i).dst = none) (hw : wanx ops n x (opAt ops i) = true) (hop : (opAt ops i).op = .store ty p y)
    (hp : evx n x p = .pointer (some ⟨b, k, none⟩)) (hy : evx n x y = v) (h : Bx w b cs) (hk : k < cs.size) (hi : (Try.prog.info? ty).map (·.size) = some 1) (hv : v.cells = #[v]) (hr : ∀ a W, (Go.store a v).run Try.prog W = stored Try.prog W a v .plain)
    (hK : ∀ W, But (· = b) w W → W.heap.size = w.heap.size → Bx W b (cs.setIfInBounds k v) → WL Try.prog ops Q (i + 1) n x D W) : WL Try.prog ops Q i n x D w :=
  kl_op i none ho hd hw fun _ hK' => wp_put1 ty p y b k v cs hop (fr_evals p hp) (fr_evals y hy) h hk hi hv hr fun W hb hsz hX => hK' undef _ (hK W hb hsz hX)
/-- A whole variable is read. -/
theorem kl_get (i : Nat) (d : Option Tmp) (ty : TypeId) (z : Array Value) (p : Operand) (b : Nat) (cs : Array Value) (ho : ops[i]?.isSome = true) (hd : (opAt ops i).dst = d) (hw : wanx ops n x (opAt ops i) = true) (hop : (opAt ops i).op = .load ty p)
    (hp : evx n x p = .pointer (some ⟨b, 0, none⟩)) (h : Bx w b cs) (ht : Ty ty z) (hs : cs.size = z.size)
    (hK : WL Try.prog ops Q (i + 1) n (dput x d (.agg cs)) D w) : WL Try.prog ops Q i n x D w :=
  kl_load i d (.agg cs) ty p ho hd hw hop hp (h.load ht hs) hK
/-- '[]T{y}'. -/
theorem kl_lit1 (i : Nat) (d : Option Tmp) (t e : TypeId) (z : Value) (size by_ : Nat) (y : Operand) (u : Value) (ho : ops[i]?.isSome = true) (hd : (opAt ops i).dst = d) (hw : wanx ops n x (opAt ops i) = true) (hop : (opAt ops i).op = .buildSlice t 1 #[(0, y)])
    (ht : Try.prog.underlying t = some (.slice e)) (hinfo : (Try.prog.info? e).map (fun i => (i.zero, i.size, i.bytes)) = some (some z, size, by_)) (hz : z.cells.size = size) (hs0 : 0 < size) (hs1 : size ≤ 1000) (hu : evx n x y = u) (h1 : u.cells.size = size)
    (hK : WL Try.prog ops Q (i + 1) n (dput x d (.slice (some ⟨w.heap.size, 0, none⟩) 1 1)) D (w.alloc (.cells u.cells e))) : WL Try.prog ops Q i n x D w :=
  kl_op i d ho hd hw fun _ hK' => wp_buildN t e z size by_ ht hinfo hz hs0 hs1 y hop u (fr_evals y hu) h1 (hK' _ _ hK)
/-- 'append(own, x)' of one element that was laid. -/
theorem kl_app1 (i : Nat) (d : Option Tmp) (t e : TypeId) (z : Value) (size by_ : Nat) (s y : Operand) (B : Nat) (v : Value) (k : Nat) (l : List Value) (c : Nat) (cs : Array Value) (ho : ops[i]?.isSome = true) (hd : (opAt ops i).dst = d) (hw : wanx ops n x (opAt ops i) = true)
    (hop : (opAt ops i).op = .call { callee := .builtin .append, args := #[s, y], argTypes := #[t, t] }) (ht : Try.prog.underlying t = some (.slice e)) (hinfo : (Try.prog.info? e).map (fun i => (i.zero, i.size, i.bytes)) = some (some z, size, by_)) (hz : z.cells.size = size) (hs0 : 0 < size)
    (hs : evx n x s = v) (hx : evx n x y = .slice (some ⟨c, 0, none⟩) 1 1) (hk : (k + 1) * by_ ≤ 140737488355328) (hk2 : k + 1 ≤ 140737488355328) (hown : w.ownsRow B e size v k l) (hc : w.heap[c]? = some (.cells cs e (0, 0))) (hcs : cs.size = size) (h1 : ∀ u ∈ cs.toList, u.oneCell' = true) (hB : B ≤ w.heap.size)
    (hK : ∀ v' w', w'.ownsRow B e size v' (k + 1) (l ++ cs.toList) → w.grownBy w' v.ownBlock → WL Try.prog ops Q (i + 1) n (dput x d v') D w') : WL Try.prog ops Q i n x D w :=
  kl_op i d ho hd hw fun _ hK' => wp_appN t e z size by_ ht hinfo hz hs0 s y hop B v k l c cs (fr_evals s hs) (fr_evals y hx) hk hk2 hown hc hcs h1 hB fun v' w' h2 h3 => hK' _ _ (hK v' w' h2 h3)
/-- 'string(b)' of bytes. -/
theorem kl_conv (i : Nat) (d : Option Tmp) (v : Value) (zs : List Int) (y : Operand) (ho : ops[i]?.isSome = true) (hd : (opAt ops i).dst = d) (hw : wanx ops n x (opAt ops i) = true) (hop : (opAt ops i).op = .convert 35 9 y)
    (hy : evx n x y = v) (h : Sl w v zs) (hK : WL Try.prog ops Q (i + 1) n (dput x d (.string (strOfNums zs))) D w) : WL Try.prog ops Q i n x D w :=
  kl_take i d _ ho hd hw (by
    have hcv := h.conv (P := Try.prog) 35 9 5 Try.underlying35 Try.underlying5 Try.underlying9
    simp [execOp, hop, hy, hcv, Result.andThen]) hK
end
end Go.Proofs.Ytbddghdkmakjlab
