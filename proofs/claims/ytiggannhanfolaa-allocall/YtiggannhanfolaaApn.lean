/-
  'append(own, src...)' of bytes as one operation, whatever the source; no program is named here.
-/
import Derived.Test.YtiggannhanfolaaBas
namespace Go.Proofs.Ytiggannhanfolaa
set_option maxRecDepth 100000
set_option linter.unusedVariables false
open Go.RowKit

theorem wp_append_sl {P : Program} {w : World} {o : Oper} {a : Act} {K : Act → World → Prop} {Q : Exit → Act → World → Prop} (s x : Operand) (t : TypeId)
    (ho : o.op = .call { callee := .builtin .append, args := #[s, x], argTypes := #[t, t] })
    (base : Nat) (e : TypeId) (ht : P.underlying t = some (.slice e)) (hinfo : (P.info? e).map (fun i => (i.zero, i.size, i.bytes)) = some (some (.int .u8 0), 1, 1))
    (v : Value) (n : Nat) (xs : List Int) (hs : a.eval s = v) (hown : w.ownsRow base e 1 v n (bv xs)) (vx : Value) (zs : List Int) (hx : a.eval x = vx) (hsl : Sl w vx zs)
    (hbytes : n + zs.length ≤ 140737488355328) (hbase : base ≤ w.heap.size)
    (h : ∀ v' w', w'.ownsRow base e 1 v' (n + zs.length) (bv (xs ++ zs)) → w.grownBy w' v.ownBlock → K (a.put o.dst v') w') : o.wp P a w K Q := by
  obtain ⟨i, hi, hz0, hz1, hz2⟩ := info_parts hinfo
  have hsl' := hsl
  obtain ⟨p, cap, rfl, h1, h2, h3, h4⟩ := hsl
  cases p with
  | none =>
    have h0 : zs.length = 0 := by
      rcases Nat.eq_zero_or_pos zs.length with h | h
      · exact h
      · obtain ⟨b, off, e, _⟩ := h4 0 h; simp at e
    obtain rfl : zs = [] := List.eq_nil_of_length_eq_zero h0
    have hrun := run_append_none_any (P := P) base t o.type e i 1 ht hi v n cap _ hown
    unfold Oper.wp
    simp [execOp, ho, resolve, invoke, builtin, hs, hx, hrun, Result.andThen]
    exact h v w (by simpa using hown) (World.grownBy.refl _ _)
  | some ad =>
    refine wp_append_own w s x t ho base e i (.int .u8 0) 1 1 ht hi hz0 hz1 hz2 rfl (by decide) v n (bv xs) hs hown ad zs.length cap (bv zs) hx (by simp [bv]) ?_ (bv_one zs) (by unfold maxLen; omega) (by omega) hbase ?_
    · intro j u hj
      have hp : 0 < (bv zs).length := by
        have := (List.getElem?_eq_some_iff.1 hj).1
        omega
      obtain ⟨ad', e1, hc⟩ := hsl'.src (W := w) (Below.refl _ _) hp
      simp at e1
      subst e1
      exact hc j u hj
    · intro v' w' ho' hg' _
      exact h v' w' (by rw [bv_app]; exact ho') hg'
end Go.Proofs.Ytiggannhanfolaa
