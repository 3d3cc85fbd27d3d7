/-
  A region that draws its order and stores at its end, step by step by the kernel alone.
-/
import Derived.Test.YtbddghdkmakjlabKra
import Derived.Test.YtbddghdkmakjlabGg
namespace Go.Proofs.Ytbddghdkmakjlab
set_option maxRecDepth 100000
set_option linter.unusedVariables false
open Go.RowKit

/-- What is left of such a region: p is the first store; ahead of it all that lies below X stays. -/
structure WP (P : Program) (ops : Array Oper) (Q : Exit → Act → World → Prop) (p f : Nat) (ls : Array Bool) (n : Nat) (x : Nat → Value) (D : List Deferred) (X w : World) : Prop where
  out : wpAnyP P .any ops (NoPanic Q) p (fun W => Below X.heap.size X W) f ls (fr n x D) w

section
variable {P : Program} {ops : Array Oper} {Q : Exit → Act → World → Prop} {p n f : Nat} {ls : Array Bool} {x : Nat → Value} {D : List Deferred} {X w : World}

/-- The place of an element, in whatever world. -/
theorem ix_run {o : Oper} (ty : TypeId) (y z : Operand) (s b off m c k : Nat) (hop : o.op = .indexAddr ty y z) (hy : evx n x y = .slice (some ⟨b, off, none⟩) m c) (hz : evx n x z = .int .i64 (k : Int)) (hu : P.underlying ty = some (.slice (P.elem ty))) (hs : (P.info? (P.elem ty)).map (·.size) = some s) (hk : k < m) (W : World) :
    (execOp (evx n x) o).run P W = .ok (.value (.pointer (some ⟨b, off + k * s, none⟩))) W := by
  have hsz : (sizeOf (P.elem ty)).run P W = .ok s W := by
    cases hq : P.info? (P.elem ty) with
    | none => simp [hq] at hs
    | some q =>
      simp [hq] at hs
      simp [sizeOf, typeInfo, hq, hs]
  have hr : (Instr.indexAt ty (.slice (some ⟨b, off, none⟩) m c) (.int .i64 (k : Int))).run P W = .ok (.pointer (some ⟨b, off + k * s, none⟩)) W := by
    rw [run_indexAt_slice (h := hu), if_pos ⟨by omega, by omega⟩, hsz]
    simp [Result.andThen, add_plain]
  simp [execOp, hop, hy, hz, hr, Result.andThen]
theorem ld_run {o : Oper} {v p : Value} (ty : TypeId) (y : Operand) (hop : o.op = .load ty y) (hx : evx n x y = p) {W : World} (hl : (Instr.loadAt ty p).run P W = .ok v W) : (execOp (evx n x) o).run P W = .ok (.value v) W := by
  simp [execOp, hop, hx, hl, Result.andThen]
theorem kp_start {id : Nat} {T : Array Value} (p n m : Nat) (hn : T.size = n) (hm : ops.size = m) (hf : P.follows .mixedOrders = true)
    (h : ∀ Z, Below w.heap.size w Z → WP P ops Q p m (Array.replicate m false) n (fun k => T.getD k undef) D Z Z) : (Code.region id ops true).wp P Q ⟨T, D⟩ w := by
  rw [fr_of T D n hn]
  subst hm
  exact wp_region_noPanic (wp_region_P p (fun W => Below w.drew.heap.size w.drew W) hf (Below.refl _ _) fun _ => (h w.drew (Below.refl _ _).drew).out)
theorem kp_done {m : Nat} (hr : Region.ready .any ops ls = []) (T : (Nat → Value) → Array Value) (hT : ((List.range n).map x).toArray = T x) (h : ∀ y, Q .normal ⟨T y, D⟩ w) : WP P ops Q p m ls n x D X w := by
  refine ⟨wpAnyP_done hr (NoPanic.normal ?_) m⟩
  unfold fr
  rw [hT]
  exact h x
/-- One that p waits for by way of D. -/
theorem kp_take (L : List Nat) (i : Nat) (d : Option Tmp) (v : Value) (ho : ops[i]?.isSome = true) (hd : (opAt ops i).dst = d) (hs : Region.noSelect ops = true) (hfr : Region.free .any ops ls i = true) (hr : (Region.ready .any ops ls).contains i = true) (hw : wanx ops n x (opAt ops i) = true)
    (hD : depB .any ops i L = true) (hpD : L.contains p = true) (hl : (L.all fun q => !ls.getD q true) = true) (hX : Below X.heap.size X w)
    (hy : ∀ W, Below X.heap.size X W → (execOp (evx n x) (opAt ops i)).run P W = .ok (.value v) W) (hK : WP P ops Q p f (ls.setIfInBounds i true) n (dput x d v) D X w) : WP P ops Q p (f + 1) ls n x D X w := by
  subst hd
  refine ⟨?_⟩
  have hK' := hK.out
  rw [← fr_put] at hK'
  exact wpAnyP_takeD L (opAt_is ho) hs hfr hr hD hpD hl (fun _ _ _ h => h) (.inl ⟨by rw [fr_wanted]; exact hw, fun W hW => by rw [fr_eval]; exact hy W hW⟩) hX hK'
/-- One that yields in whatever world. -/
theorem kp_pure (i : Nat) (d : Option Tmp) (v : Value) (ho : ops[i]?.isSome = true) (hd : (opAt ops i).dst = d) (hs : Region.noSelect ops = true) (hfr : Region.free .any ops ls i = true) (hr : (Region.ready .any ops ls).contains i = true) (hw : wanx ops n x (opAt ops i) = true)
    (hp : (p == i) = false) (hX : Below X.heap.size X w)
    (hy : ∀ W, (execOp (evx n x) (opAt ops i)).run P W = .ok (.value v) W) (hK : WP P ops Q p f (ls.setIfInBounds i true) n (dput x d v) D X w) : WP P ops Q p (f + 1) ls n x D X w := by
  subst hd
  refine ⟨?_⟩
  have hK' := hK.out
  rw [← fr_put] at hK'
  exact wpAnyP_takeU (opAt_is ho) hs hfr hr (by simpa using hp) (fun _ _ _ h => h) (.inl ⟨by rw [fr_wanted]; exact hw, fun W _ => by rw [fr_eval]; exact hy W⟩) hX hK'
/-- Either i comes up, which only reads, or p does. -/
theorem kp_split (i : Nat) (d : Option Tmp) (v : Value) (hr : Region.ready .any ops ls = [i, p]) (ho : ops[i]?.isSome = true) (hop : ops[p]?.isSome = true) (hd : (opAt ops i).dst = d) (hw : wanx ops n x (opAt ops i) = true) (hwp : wanx ops n x (opAt ops p) = true) (hl : (ls.setIfInBounds p true).getD p true = true) (hX : Below X.heap.size X w)
    (hy : (execOp (evx n x) (opAt ops i)).run P w = .ok (.value v) w) (h1 : WP P ops Q p f (ls.setIfInBounds i true) n (dput x d v) D X w)
    (h2 : ∀ K' : Act → World → Prop, (∀ u y, WP P ops Q p f (ls.setIfInBounds p true) n (dput x (opAt ops p).dst u) D X y → K' ((fr n x D).put (opAt ops p).dst u) y) → (opAt ops p).wp P (fr n x D) w K' (NoPanic Q)) : WP P ops Q p (f + 1) ls n x D X w := by
  subst hd
  refine ⟨wpAnyP_ready hr (by simp) (AllReadyP.cons (opAt_is ho) (fun K hK => ?_) (AllReadyP.late (opAt_is hop) hl fun K hK => ?_))⟩
  · rw [fr_wanted, if_pos hw]
    unfold Oper.wp
    rw [fr_eval, hy]
    have h1' := h1.out
    rw [← fr_put] at h1'
    exact hK.out _ _ hX h1'
  · rw [fr_wanted, if_pos hwp]
    refine h2 K fun u y hy => ?_
    have hy' := hy.out
    rw [← fr_put] at hy'
    exact hK.out _ _ hy'
/-- p has come up, or comes up now, alone. -/
theorem kp_late (i : Nat) (hr : Region.ready .any ops ls = [i]) (ho : ops[i]?.isSome = true) (hw : wanx ops n x (opAt ops i) = true) (hl : (ls.setIfInBounds i true).getD p true = true)
    (h2 : ∀ K' : Act → World → Prop, (∀ u y, WP P ops Q p f (ls.setIfInBounds i true) n (dput x (opAt ops i).dst u) D X y → K' ((fr n x D).put (opAt ops i).dst u) y) → (opAt ops i).wp P (fr n x D) w K' (NoPanic Q)) : WP P ops Q p (f + 1) ls n x D X w := by
  refine ⟨wpAnyP_ready hr (by simp) (AllReadyP.late (opAt_is ho) hl fun K hK => ?_)⟩
  rw [fr_wanted, if_pos hw]
  refine h2 K fun u y hy => ?_
  have hy' := hy.out
  rw [← fr_put] at hy'
  exact hK.out _ _ hy'
/-- The same of one that only reads. -/
theorem kp_lateV (i : Nat) (d : Option Tmp) (v : Value) (hr : Region.ready .any ops ls = [i]) (ho : ops[i]?.isSome = true) (hd : (opAt ops i).dst = d) (hw : wanx ops n x (opAt ops i) = true) (hl : (ls.setIfInBounds i true).getD p true = true)
    (hy : (execOp (evx n x) (opAt ops i)).run P w = .ok (.value v) w) (hK : WP P ops Q p f (ls.setIfInBounds i true) n (dput x d v) D X w) : WP P ops Q p (f + 1) ls n x D X w :=
  kp_late i hr ho hw hl fun K' hK' => by
    subst hd
    unfold Oper.wp
    rw [fr_eval, hy]
    exact hK' _ _ hK
end
end Go.Proofs.Ytbddghdkmakjlab
