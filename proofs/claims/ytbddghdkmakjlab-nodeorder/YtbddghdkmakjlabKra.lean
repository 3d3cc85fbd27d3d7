/-
  A region that draws its order, step by step by the kernel alone, over a frame that is told as a function.
-/
import Derived.Test.YtbddghdkmakjlabKrx
import Derived.Deep.RegionHeld3
namespace Go.Proofs.Ytbddghdkmakjlab
set_option maxRecDepth 100000
set_option linter.unusedVariables false
open Go.RowKit

/-- What is left of such a region: X is the world behind which all lies that the operations make. -/
structure WA (P : Program) (ops : Array Oper) (Q : Exit → Act → World → Prop) (f : Nat) (ls : Array Bool) (n : Nat) (x : Nat → Value) (D : List Deferred) (X w : World) : Prop where
  out : wpAnyH P .any ops (NoPanic Q) (fun W => Below X.heap.size X W) f ls (fr n x D) w
  s : Below X.heap.size X w

section
variable {P : Program} {ops : Array Oper} {Q : Exit → Act → World → Prop} {n f : Nat} {ls : Array Bool} {x : Nat → Value} {D : List Deferred} {X w : World}

theorem ka_start {id : Nat} {T : Array Value} (n m : Nat) (hn : T.size = n) (hm : ops.size = m) (hf : P.follows .mixedOrders = true)
    (h : ∀ Z, Below w.heap.size w Z → WA P ops Q m (Array.replicate m false) n (fun k => T.getD k undef) D Z Z) : (Code.region id ops true).wp P Q ⟨T, D⟩ w := by
  rw [fr_of T D n hn]
  subst hm
  exact wp_region_noPanic (wp_region_held_drew (S := fun W => Below w.drew.heap.size w.drew W) hf (Below.refl _ _) fun _ => (h w.drew (Below.refl _ _).drew).out)
theorem ka_done {m : Nat} (hr : Region.ready .any ops ls = []) (T : (Nat → Value) → Array Value) (hT : ((List.range n).map x).toArray = T x) (hX : Below X.heap.size X w) (h : ∀ y, Q .normal ⟨T y, D⟩ w) : WA P ops Q m ls n x D X w := by
  refine ⟨wpAnyH_done hr (NoPanic.normal ?_) m, hX⟩
  unfold fr
  rw [hT]
  exact h x
theorem ka_take (i : Nat) (d : Option Tmp) (v : Value) (ho : ops[i]?.isSome = true) (hd : (opAt ops i).dst = d) (hs : Region.noSelect ops = true) (hfr : Region.free .any ops ls i = true) (hr : (Region.ready .any ops ls).contains i = true) (hw : wanx ops n x (opAt ops i) = true)
    (hy : ∀ W, Below X.heap.size X W → (execOp (evx n x) (opAt ops i)).run P W = .ok (.value v) W) (hK : WA P ops Q f (ls.setIfInBounds i true) n (dput x d v) D X w) : WA P ops Q (f + 1) ls n x D X w := by
  subst hd
  refine ⟨?_, hK.s⟩
  have hK' := hK.out
  rw [← fr_put] at hK'
  exact wpAnyH_take (opAt_is ho) hs hfr hr (fun _ _ _ h => h) (.inl ⟨by rw [fr_wanted]; exact hw, fun W hW => by rw [fr_eval]; exact hy W hW⟩) hK.s hK'
theorem ka_pure (i : Nat) (d : Option Tmp) (v : Value) (ho : ops[i]?.isSome = true) (hd : (opAt ops i).dst = d) (hs : Region.noSelect ops = true) (hfr : Region.free .any ops ls i = true) (hr : (Region.ready .any ops ls).contains i = true) (hw : wanx ops n x (opAt ops i) = true)
    (hy : ∀ W, (execOp (evx n x) (opAt ops i)).run P W = .ok (.value v) W) (hK : WA P ops Q f (ls.setIfInBounds i true) n (dput x d v) D X w) : WA P ops Q (f + 1) ls n x D X w :=
  ka_take i d v ho hd hs hfr hr hw (fun W _ => hy W) hK
theorem ka_skip (i : Nat) (d : Option Tmp) (ho : ops[i]?.isSome = true) (hd : (opAt ops i).dst = d) (hs : Region.noSelect ops = true) (hfr : Region.free .any ops ls i = true) (hr : (Region.ready .any ops ls).contains i = true) (hw : wanx ops n x (opAt ops i) = false)
    (hK : WA P ops Q f (ls.setIfInBounds i true) n (dput x d undef) D X w) : WA P ops Q (f + 1) ls n x D X w := by
  subst hd
  refine ⟨?_, hK.s⟩
  have hK' := hK.out
  rw [← fr_put] at hK'
  exact wpAnyH_take (opAt_is ho) hs hfr hr (fun _ _ _ h => h) (.inr ⟨by rw [fr_wanted]; exact hw, rfl⟩) hK.s hK'
theorem ka_test (i : Nat) (d : Option Tmp) {b : Bool} (c : Bool) (ho : ops[i]?.isSome = true) (hd : (opAt ops i).dst = d) (hs : Region.noSelect ops = true) (hfr : Region.free .any ops ls i = true) (hr : (Region.ready .any ops ls).contains i = true) (hw : wanx ops n x (opAt ops i) = true)
    (hb : b = c) (hy : ∀ W, (execOp (evx n x) (opAt ops i)).run P W = .ok (.value (.bool b)) W) (hK : WA P ops Q f (ls.setIfInBounds i true) n (dput x d (.bool c)) D X w) : WA P ops Q (f + 1) ls n x D X w :=
  ka_take i d _ ho hd hs hfr hr hw (fun W _ => by rw [hy W, hb]) hK
theorem ka_load (i : Nat) (d : Option Tmp) (v : Value) (ty : TypeId) (y : Operand) {p : Value} (ho : ops[i]?.isSome = true) (hd : (opAt ops i).dst = d) (hs : Region.noSelect ops = true) (hfr : Region.free .any ops ls i = true) (hr : (Region.ready .any ops ls).contains i = true) (hw : wanx ops n x (opAt ops i) = true)
    (hop : (opAt ops i).op = .load ty y) (hx : evx n x y = p) (hl : ∀ W, Below X.heap.size X W → (Instr.loadAt ty p).run P W = .ok v W) (hK : WA P ops Q f (ls.setIfInBounds i true) n (dput x d v) D X w) : WA P ops Q (f + 1) ls n x D X w :=
  ka_take i d v ho hd hs hfr hr hw (fun W hW => by simp [execOp, hop, hx, hl W hW, Result.andThen]) hK
/-- A call that comes up alone. -/
theorem ka_call (i : Nat) (d : Option Tmp) {g : FuncId} {vs : Array Value} {R : Ending → World → Prop} (ho : ops[i]?.isSome = true) (hd : (opAt ops i).dst = d) (hr : Region.ready .any ops ls = [i]) (hw : wanx ops n x (opAt ops i) = true) (hX : Below X.heap.size X w)
    (hrun : (execOp (evx n x) (opAt ops i)).run P w = .ok (.enter g vs) w) (hc : Calls P g vs w R) (hK : ∀ e y, R e y → Below w.heap.size w y ∧ ∃ r, e = .returned r ∧ WA P ops Q f (ls.setIfInBounds i true) n (dput x d r) D y y) : WA P ops Q (f + 1) ls n x D X w := by
  subst hd
  refine ⟨⟨fun h0 => (by rw [hr] at h0; cases h0), fun j hj => ?_⟩, hX⟩
  rw [hr, List.mem_singleton] at hj
  subst hj
  refine wpOp_step (opAt_is ho) fun K hKK => ?_
  rw [fr_wanted, if_pos hw]
  unfold Oper.wp
  rw [fr_eval, hrun]
  refine hc.mono ?_
  intro e y hy
  obtain ⟨hb, r, rfl, hA⟩ := hK e y hy
  have hx := hX.trans (hb.mono hX.size)
  have hA' := hA.out
  rw [← fr_put] at hA'
  exact hKK _ _ ⟨hx, held_mono (fun W h => hx.trans (h.mono hx.size)) _ _ _ _ hA'⟩
end

section
variable {ops : Array Oper} {Q : Exit → Act → World → Prop} {n f : Nat} {ls : Array Bool} {x : Nat → Value} {D : List Deferred} {X w : World}
theorem ka_get (i : Nat) (d : Option Tmp) (ty : TypeId) (z : Array Value) (p : Operand) (b : Nat) (cs : Array Value) (ho : ops[i]?.isSome = true) (hd : (opAt ops i).dst = d) (hs : Region.noSelect ops = true) (hfr : Region.free .any ops ls i = true) (hr : (Region.ready .any ops ls).contains i = true) (hw : wanx ops n x (opAt ops i) = true)
    (hop : (opAt ops i).op = .load ty p) (hp : evx n x p = .pointer (some ⟨b, 0, none⟩)) (h : Bx X b cs) (ht : Ty ty z) (hsz : cs.size = z.size) (hK : WA Try.prog ops Q f (ls.setIfInBounds i true) n (dput x d (.agg cs)) D X w) : WA Try.prog ops Q (f + 1) ls n x D X w :=
  ka_load i d (.agg cs) ty p ho hd hs hfr hr hw hop hp (fun W hW => (h.later hW).load ht hsz) hK
theorem ka_conv (i : Nat) (d : Option Tmp) (v : Value) (zs : List Int) (y : Operand) (ho : ops[i]?.isSome = true) (hd : (opAt ops i).dst = d) (hs : Region.noSelect ops = true) (hfr : Region.free .any ops ls i = true) (hr : (Region.ready .any ops ls).contains i = true) (hw : wanx ops n x (opAt ops i) = true)
    (hop : (opAt ops i).op = .convert 35 9 y) (hy : evx n x y = v) (h : Sl X v zs) (hK : WA Try.prog ops Q f (ls.setIfInBounds i true) n (dput x d (.string (strOfNums zs))) D X w) : WA Try.prog ops Q (f + 1) ls n x D X w :=
  ka_take i d _ ho hd hs hfr hr hw (fun W hW => by
    have hcv := (h.later hW).conv (P := Try.prog) 35 9 5 Try.underlying35 Try.underlying5 Try.underlying9
    simp [execOp, hop, hy, hcv, Result.andThen]) hK
end
end Go.Proofs.Ytbddghdkmakjlab
