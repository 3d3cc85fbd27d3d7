/-
  'append(own, src...)' of floats, whatever the source: a step of the walk.
-/
import Derived.Test.YtnkmfaddgodefabFltC
namespace Go.Proofs.Ytnkmfaddgodefab
open Go.RowKit

theorem Fs.src {w : World} {a : Option Addr} {n cap : Nat} {l : List Nat} (h : Fs w (.slice a n cap) l) (hp : 0 < (fv l).length) :
    ∃ ad, a = some ad ∧ ∀ j u, (fv l)[j]? = some u → w.cell? (ad.add j) = some u := by
  obtain ⟨a', cap', e, _, _, hc⟩ := h
  simp at e
  obtain ⟨rfl, rfl, rfl⟩ := e
  obtain ⟨b, off, rfl, _⟩ := hc 0 (by simpa [fv] using hp)
  refine ⟨_, rfl, fun j u hj => ?_⟩
  have hj' : j < l.length := by
    have := (List.getElem?_eq_some_iff.1 hj).1
    simpa [fv] using this
  obtain ⟨b', off', e, hcell⟩ := hc j hj'
  simp at e
  obtain ⟨rfl, rfl⟩ := e
  rw [add_plain, hcell]
  simp [fv, List.getElem?_eq_getElem hj'] at hj ⊢
  exact hj

theorem wpList_append_fs {P : Program} {w : World} {ops : Array Oper} {rest : List Oper} {o : Oper} {a : Act} {Q : Exit → Act → World → Prop} (hgd : o.guard = none) (s x : Operand) (t : TypeId)
    (ho : o.op = .call { callee := .builtin .append, args := #[s, x], argTypes := #[t, t] })
    (base : Nat) (e : TypeId) (ht : P.underlying t = some (.slice e)) (hinfo : (P.info? e).map (fun i => (i.zero, i.size, i.bytes)) = some (some (.float .f64 0), 1, 8))
    (v : Value) (n : Nat) (xs : List Nat) (hs : a.eval s = v) (hown : w.ownsRow base e 1 v n (fv xs)) (vx : Value) (zs : List Nat) (hx : a.eval x = vx) (hsl : Fs w vx zs)
    (hbytes : 8 * (n + zs.length) ≤ 140737488355328) (hbase : base ≤ w.heap.size)
    (h : ∀ v' w', w'.ownsRow base e 1 v' (n + zs.length) (fv (xs ++ zs)) → w.grownBy w' v.ownBlock → wpList P ops Q rest (a.put o.dst v') w') : wpList P ops Q (o :: rest) a w := by
  obtain ⟨i, hi, hz0, hz1, hz2⟩ := info_parts hinfo
  have hsl' := hsl
  obtain ⟨p, cap, rfl, h1, h2, h4⟩ := hsl
  cases p with
  | none =>
    have h0 : zs.length = 0 := by
      rcases Nat.eq_zero_or_pos zs.length with h | h
      · exact h
      · obtain ⟨b, off, e, _⟩ := h4 0 h; simp at e
    obtain rfl : zs = [] := List.eq_nil_of_length_eq_zero h0
    refine wpList_plain hgd fun K hK => ?_
    have hrun := run_append_none_any (P := P) base t o.type e i 1 ht hi v n cap _ hown
    unfold Oper.wp
    simp [execOp, ho, resolve, invoke, builtin, hs, hx, hrun, Result.andThen]
    exact hK _ _ (h v w (by simpa using hown) (World.grownBy.refl _ _))
  | some ad =>
    refine wpList_append_own w hgd s x t ho base e i (.float .f64 0) 1 8 ht hi hz0 hz1 hz2 rfl (by decide) v n (fv xs) hs hown ad zs.length cap (fv zs) hx (by simp [fv]) ?_ (fv_one zs) (by unfold maxLen; omega) (by omega) hbase ?_
    · intro j u hj
      have hp : 0 < (fv zs).length := by
        have := (List.getElem?_eq_some_iff.1 hj).1
        omega
      obtain ⟨ad', e1, hc⟩ := hsl'.src hp
      simp at e1
      subst e1
      exact hc j u hj
    · intro v' w' ho' hg' _
      exact h v' w' (by rw [fv_app]; exact ho') hg'
end Go.Proofs.Ytnkmfaddgodefab
