/-
  As Ord: an operation that the first of the stores waits for by way of others may be taken first; no program is named here.
-/
import Derived.Test.YtiggannhanfolaaOrd
import Derived.Test.YtiggannhanfolaaBas
namespace Go.Proofs.Ytiggannhanfolaa
set_option maxRecDepth 100000
set_option linter.unusedVariables false

section
variable {P : Program} {ops : Array Oper} {Q : Exit → Act → World → Prop} {md : Region.Mode} {p : Nat} {S : World → Prop}

/-- Each of D waits for i, or for one of D. -/
def depB (md : Region.Mode) (ops : Array Oper) (i : Nat) (D : List Nat) : Bool := D.all fun q => q != i && (waits md ops q i || D.any fun r => waits md ops q r)

theorem not_ready {i : Nat} {D : List Nat} (hD : depB md ops i D = true) {listed : Array Bool} (hi : i ∈ Region.ready md ops listed) (hl : ∀ q ∈ D, listed.getD q true = false) {j : Nat} (hj : j ∈ Region.ready md ops listed) : j ∉ D := by
  intro hjD
  obtain ⟨-, oj, hoj, hall⟩ := mem_ready.1 hj
  have h1 := List.all_eq_true.1 hD j hjD
  simp only [Bool.and_eq_true, Bool.or_eq_true, List.any_eq_true] at h1
  have hun : ∀ r, listed.getD r true = false → waits md ops j r = true → False := fun r hr hw => by
    obtain ⟨e, he, hb, hon⟩ := waits_spec hw hoj
    have h2 := hall e he hb
    rw [hon] at h2
    rcases Nat.lt_or_ge r listed.size with h' | h'
    · simp [h'] at hr h2; rw [hr] at h2; cases h2
    · simp [Array.getElem?_eq_none h'] at h2
  rcases h1.2 with h2 | ⟨r, hr, h2⟩
  · exact hun i (mem_ready.1 hi).1 h2
  · exact hun r (hl r hr) h2

theorem wpAnyP_firstD {i : Nat} {oi : Oper} {v : Value} {D : List Nat} (hi : ops[i]? = some oi) (hsel : ∀ (j : Nat) (o : Oper) cs b, ops[j]? = some o → o.op ≠ .select cs b)
    (hQ : ∀ c a w, Q (.panic c) (a.put oi.dst v) w → Q (.panic c) a w) (hD : depB md ops i D = true) (hpD : p ∈ D) :
    ∀ (fuel : Nat) (listed : Array Bool) (a : Act) (w : World),
      (∀ j oj, ops[j]? = some oj → j ≠ i → listed.getD j true = false → (∀ e ∈ oj.after, Region.binds md e = true → e.on ≠ i) → oi.apart ops oj = true) →
      i ∈ Region.ready md ops listed → (∀ q ∈ D, listed.getD q true = false) → YieldsIf P ops S oi v a → S w →
      wpAnyP P md ops Q p S fuel (listed.setIfInBounds i true) (a.put oi.dst v) w → wpAnyP P md ops Q p S (fuel + 1) listed a w := by
  have hpi : p ≠ i := by
    have := List.all_eq_true.1 hD p hpD
    simp at this
    exact this.1
  intro fuel
  induction fuel with
  | zero =>
    intro listed a w _ hr hp hy hS H
    refine ⟨fun h => (by rw [h] at hr; cases hr), fun j hj => ?_⟩
    by_cases hji : j = i
    · subst hji; exact hy.wpOp hi hS ⟨fun _ => hS, H⟩
    · have := ready_mono hj hji
      rw [H.1] at this
      cases this
  | succ fuel ih =>
    intro listed a w hfree hr hp hy hS H
    refine ⟨fun h => (by rw [h] at hr; cases hr), fun j hj => ?_⟩
    by_cases hji : j = i
    · subst hji; exact hy.wpOp hi hS ⟨fun _ => hS, H⟩
    · have h1 := H.2 j (ready_mono hj hji)
      have hjD := not_ready hD hr hp hj
      obtain ⟨hjun, oj, hoj, hall⟩ := mem_ready.1 hj
      have hnot : ∀ e ∈ oj.after, Region.binds md e = true → e.on ≠ i := fun e he hb heq => by
        have h1 := hall e he hb
        have h0 := (mem_ready.1 hr).1
        rw [heq] at h1
        rcases Nat.lt_or_ge i listed.size with h' | h'
        · simp [h'] at h0 h1; rw [h0] at h1; cases h1
        · simp [Array.getElem?_eq_none h'] at h1
      have hjp : j ≠ p := fun e => hjD (e ▸ hpD)
      have h2 := wpOp_putIf hoj (hfree j oj hoj hji hjun hnot) (fun cs b => hsel i oi cs b hi) (fun cs b => hsel j oj cs b hoj) hQ hy h1
      have hfree' : ∀ k ok, ops[k]? = some ok → k ≠ i → (listed.setIfInBounds j true).getD k true = false →
          (∀ e ∈ ok.after, Region.binds md e = true → e.on ≠ i) → oi.apart ops ok = true := fun k ok hk hki hun hno => by
        refine hfree k ok hk hki ?_ hno
        by_cases hjk : j = k
        · subst hjk; exact hjun
        · rw [getD_set_ne true hjk] at hun; exact hun
      have hp' : ∀ q ∈ D, (listed.setIfInBounds j true).getD q true = false := fun q hq => by
        have hjq : j ≠ q := fun e => hjD (e ▸ hq)
        rw [getD_set_ne true hjq]
        exact hp q hq
      have hpH : ((listed.setIfInBounds i true).setIfInBounds j true).getD p true = false := by rw [getD_set_ne true hjp, getD_set_ne true (Ne.symm hpi)]; exact hp p hpD
      refine wpOp_mono (fun a' w' h3 => ?_) h2
      have hS' := h3.2.1 hpH
      refine ⟨fun _ => hS', ih (listed.setIfInBounds j true) a' w' hfree' (ready_mono hr (Ne.symm hji)) hp' h3.1 hS' ?_⟩
      rw [Array.setIfInBounds_comm _ _ hji]
      exact h3.2.2

theorem wpAnyP_takeD (D : List Nat) {i : Nat} {oi : Oper} {v : Value} {fuel : Nat} {listed : Array Bool} {a : Act} {w : World} (hi : ops[i]? = some oi)
    (hs : Region.noSelect ops = true) (hf : Region.free md ops listed i = true) (hr : (Region.ready md ops listed).contains i = true) (hD : depB md ops i D = true) (hpD : D.contains p = true) (hl : (D.all fun q => !listed.getD q true) = true)
    (hQ : ∀ c a w, Q (.panic c) (a.put oi.dst v) w → Q (.panic c) a w) (hy : YieldsIf P ops S oi v a) (hS : S w)
    (h : wpAnyP P md ops Q p S fuel (listed.setIfInBounds i true) (a.put oi.dst v) w) : wpAnyP P md ops Q p S (fuel + 1) listed a w :=
  wpAnyP_firstD hi (Region.noSelect_spec hs) hQ hD (by simpa using hpD) fuel listed a w (Region.free_spec hi hf) (by simpa using hr) (fun q hq => by have := List.all_eq_true.1 hl q hq; simpa using this) hy hS h
end

open Go.RowKit in
/-- A call that comes up alone in a region that draws its order; it makes memory and gives r. -/
theorem wpAnyH_callB {P : Program} {md : Region.Mode} {ops : Array Oper} {Q : Exit → Act → World → Prop} {i : Nat} {o : Oper} {fuel : Nat} {listed : Array Bool} {a : Act} {X w : World} {f : FuncId} {vs : Array Value} {r : Value}
    (ho : ops[i]? = some o) (hr : Region.ready md ops listed = [i]) (hw : Region.wanted o (yielded ops a.tmps) = true) (hrun : (execOp a.eval o).run P w = .ok (.enter f vs) w)
    (hc : Calls P f vs w fun e w' => e = .returned r ∧ Below w.heap.size w w') (hX : Below X.heap.size X w)
    (h : ∀ x, Below w.heap.size w x → Below X.heap.size X x → wpAnyH P md ops Q (fun W => Below x.heap.size x W) fuel (listed.setIfInBounds i true) (a.put o.dst r) x) :
    wpAnyH P md ops Q (fun W => Below X.heap.size X W) (fuel + 1) listed a w := by
  refine ⟨fun h0 => (by rw [hr] at h0; cases h0), fun j hj => ?_⟩
  rw [hr, List.mem_singleton] at hj
  subst hj
  refine wpOp_step ho fun K hK => ?_
  rw [if_pos hw]
  unfold Oper.wp
  rw [hrun]
  refine hc.mono ?_
  rintro e x ⟨rfl, hb⟩
  have hx := hX.trans (hb.mono hX.size)
  exact hK _ _ ⟨hx, held_mono (fun W h => hx.trans (h.mono hx.size)) _ _ _ _ (h x hb hx)⟩

open Go.RowKit in
/-- The same; what holds behind every operation stays as it was. -/
theorem wpAnyH_callS {P : Program} {md : Region.Mode} {ops : Array Oper} {Q : Exit → Act → World → Prop} {i : Nat} {o : Oper} {fuel : Nat} {listed : Array Bool} {a : Act} {X w : World} {f : FuncId} {vs : Array Value} {r : Value}
    (ho : ops[i]? = some o) (hw : Region.wanted o (yielded ops a.tmps) = true) (hrun : (execOp a.eval o).run P w = .ok (.enter f vs) w)
    (hc : Calls P f vs w fun e w' => e = .returned r ∧ Below w.heap.size w w') (hX : Below X.heap.size X w)
    (h : ∀ x, Below w.heap.size w x → Below X.heap.size X x → wpAnyH P md ops Q (fun W => Below X.heap.size X W) fuel (listed.setIfInBounds i true) (a.put o.dst r) x) :
    wpOp P ops Q i (fun a' w' => (fun W => Below X.heap.size X W) w' ∧ wpAnyH P md ops Q (fun W => Below X.heap.size X W) fuel (listed.setIfInBounds i true) a' w') a w := by
  refine wpOp_step ho fun K hK => ?_
  rw [if_pos hw]
  unfold Oper.wp
  rw [hrun]
  refine hc.mono ?_
  rintro e x ⟨rfl, hb⟩
  have hx := hX.trans (hb.mono hX.size)
  exact hK _ _ ⟨hx, h x hb hx⟩
end Go.Proofs.Ytiggannhanfolaa
