/-
  A region that leaves its order open and stores at its end: what holds till the first of the stores comes up; no program is named here.
-/
import Derived.Deep.RegionHeld3
namespace Go.Proofs.Ytiggannhanfolaa
set_option maxRecDepth 100000
set_option linter.unusedVariables false

section
variable {P : Program} {ops : Array Oper} {Q : Exit → Act → World → Prop} {md : Region.Mode} {p : Nat} {S : World → Prop}

/-- Whatever order is picked from here on; S holds behind every operation that is carried out as long as number p has not come up. -/
def wpAnyP (P : Program) (md : Region.Mode) (ops : Array Oper) (Q : Exit → Act → World → Prop) (p : Nat) (S : World → Prop) : Nat → Array Bool → Act → World → Prop
  | 0, listed, a, w => Region.ready md ops listed = [] ∧ Q .normal a w
  | fuel + 1, listed, a, w =>
    (Region.ready md ops listed = [] → Q .normal a w) ∧
    ∀ i ∈ Region.ready md ops listed, wpOp P ops Q i (fun a' w' => ((listed.setIfInBounds i true).getD p true = false → S w') ∧ wpAnyP P md ops Q p S fuel (listed.setIfInBounds i true) a' w') a w

theorem wpAny_of_P : ∀ (fuel : Nat) (listed : Array Bool) (a : Act) (w : World), wpAnyP P md ops Q p S fuel listed a w → wpAny P md ops Q fuel listed a w
  | 0, _, _, _, h => h
  | fuel + 1, _, _, _, h => ⟨h.1, fun i hi => wpOp_mono (fun a' w' h' => wpAny_of_P fuel _ a' w' h'.2) (h.2 i hi)⟩

/-- Number p waits for number i. -/
def waits (md : Region.Mode) (ops : Array Oper) (p i : Nat) : Bool :=
  match ops[p]? with
  | some o => o.after.any (fun e => Region.binds md e && e.on == i)
  | none => false

theorem waits_spec {p i : Nat} (h : waits md ops p i = true) {o : Oper} (ho : ops[p]? = some o) : ∃ e ∈ o.after, Region.binds md e = true ∧ e.on = i := by
  simp only [waits, ho, Array.any_eq_true'] at h
  obtain ⟨e, he, hh⟩ := h
  simp at hh
  exact ⟨e, he, hh.1, hh.2⟩

/-- An operation that p waits for, and that yields its value in every world that meets S, may be taken first. -/
theorem wpAnyP_first {i : Nat} {oi : Oper} {v : Value} (hi : ops[i]? = some oi) (hsel : ∀ (j : Nat) (o : Oper) cs b, ops[j]? = some o → o.op ≠ .select cs b)
    (hQ : ∀ c a w, Q (.panic c) (a.put oi.dst v) w → Q (.panic c) a w) (hwt : waits md ops p i = true) (hpi : p ≠ i) :
    ∀ (fuel : Nat) (listed : Array Bool) (a : Act) (w : World),
      (∀ j oj, ops[j]? = some oj → j ≠ i → listed.getD j true = false → (∀ e ∈ oj.after, Region.binds md e = true → e.on ≠ i) → oi.apart ops oj = true) →
      i ∈ Region.ready md ops listed → listed.getD p true = false → YieldsIf P ops S oi v a → S w →
      wpAnyP P md ops Q p S fuel (listed.setIfInBounds i true) (a.put oi.dst v) w → wpAnyP P md ops Q p S (fuel + 1) listed a w := by
  intro fuel
  induction fuel with
  | zero =>
    intro listed a w _ hr hp hy hS H
    refine ⟨fun h => (by rw [h] at hr; cases hr), fun j hj => ?_⟩
    by_cases hji : j = i
    · subst hji; exact hy.wpOp hi hS ⟨fun _ => hS, H⟩
    · have := ready_mono hj hji
      rw [H.1] at this
      cases this
  | succ fuel ih =>
    intro listed a w hfree hr hp hy hS H
    refine ⟨fun h => (by rw [h] at hr; cases hr), fun j hj => ?_⟩
    by_cases hji : j = i
    · subst hji; exact hy.wpOp hi hS ⟨fun _ => hS, H⟩
    · have h1 := H.2 j (ready_mono hj hji)
      obtain ⟨hjun, oj, hoj, hall⟩ := mem_ready.1 hj
      have hnot : ∀ e ∈ oj.after, Region.binds md e = true → e.on ≠ i := fun e he hb heq => by
        have h1 := hall e he hb
        have h0 := (mem_ready.1 hr).1
        rw [heq] at h1
        rcases Nat.lt_or_ge i listed.size with h' | h'
        · simp [h'] at h0 h1; rw [h0] at h1; cases h1
        · simp [Array.getElem?_eq_none h'] at h1
      have hjp : j ≠ p := by
        rintro rfl
        obtain ⟨e, he, hb, hon⟩ := waits_spec hwt hoj
        exact hnot e he hb hon
      have h2 := wpOp_putIf hoj (hfree j oj hoj hji hjun hnot) (fun cs b => hsel i oi cs b hi) (fun cs b => hsel j oj cs b hoj) hQ hy h1
      have hfree' : ∀ k ok, ops[k]? = some ok → k ≠ i → (listed.setIfInBounds j true).getD k true = false →
          (∀ e ∈ ok.after, Region.binds md e = true → e.on ≠ i) → oi.apart ops ok = true := fun k ok hk hki hun hno => by
        refine hfree k ok hk hki ?_ hno
        by_cases hjk : j = k
        · subst hjk; exact hjun
        · rw [getD_set_ne true hjk] at hun; exact hun
      have hp' : (listed.setIfInBounds j true).getD p true = false := by rw [getD_set_ne true hjp]; exact hp
      have hpH : ((listed.setIfInBounds i true).setIfInBounds j true).getD p true = false := by rw [getD_set_ne true hjp, getD_set_ne true (Ne.symm hpi)]; exact hp
      refine wpOp_mono (fun a' w' h3 => ?_) h2
      have hS' := h3.2.1 hpH
      refine ⟨fun _ => hS', ih (listed.setIfInBounds j true) a' w' hfree' (ready_mono hr (Ne.symm hji)) hp' h3.1 hS' ?_⟩
      rw [Array.setIfInBounds_comm _ _ hji]
      exact h3.2.2

theorem wpAnyP_take {i : Nat} {oi : Oper} {v : Value} {fuel : Nat} {listed : Array Bool} {a : Act} {w : World} (hi : ops[i]? = some oi)
    (hs : Region.noSelect ops = true) (hf : Region.free md ops listed i = true) (hr : (Region.ready md ops listed).contains i = true) (hwt : waits md ops p i = true) (hp : listed.getD p true = false) (hpi : p ≠ i)
    (hQ : ∀ c a w, Q (.panic c) (a.put oi.dst v) w → Q (.panic c) a w) (hy : YieldsIf P ops S oi v a) (hS : S w)
    (h : wpAnyP P md ops Q p S fuel (listed.setIfInBounds i true) (a.put oi.dst v) w) : wpAnyP P md ops Q p S (fuel + 1) listed a w :=
  wpAnyP_first hi (Region.noSelect_spec hs) hQ hwt hpi fuel listed a w (Region.free_spec hi hf) (by simpa using hr) hp hy hS h

/-- One that yields its value in whatever world may be taken first, whoever waits for it. -/
theorem wpAnyP_firstU {i : Nat} {oi : Oper} {v : Value} (hi : ops[i]? = some oi) (hsel : ∀ (j : Nat) (o : Oper) cs b, ops[j]? = some o → o.op ≠ .select cs b)
    (hQ : ∀ c a w, Q (.panic c) (a.put oi.dst v) w → Q (.panic c) a w) (hpi : p ≠ i) :
    ∀ (fuel : Nat) (listed : Array Bool) (a : Act) (w : World),
      (∀ j oj, ops[j]? = some oj → j ≠ i → listed.getD j true = false → (∀ e ∈ oj.after, Region.binds md e = true → e.on ≠ i) → oi.apart ops oj = true) →
      i ∈ Region.ready md ops listed → YieldsIf P ops (fun _ => True) oi v a → (listed.getD p true = false → S w) →
      wpAnyP P md ops Q p S fuel (listed.setIfInBounds i true) (a.put oi.dst v) w → wpAnyP P md ops Q p S (fuel + 1) listed a w := by
  intro fuel
  induction fuel with
  | zero =>
    intro listed a w _ hr hy hS H
    refine ⟨fun h => (by rw [h] at hr; cases hr), fun j hj => ?_⟩
    by_cases hji : j = i
    · subst hji; exact hy.wpOp hi trivial ⟨fun h => hS (by rw [getD_set_ne true (Ne.symm hpi)] at h; exact h), H⟩
    · have := ready_mono hj hji
      rw [H.1] at this
      cases this
  | succ fuel ih =>
    intro listed a w hfree hr hy hS H
    refine ⟨fun h => (by rw [h] at hr; cases hr), fun j hj => ?_⟩
    by_cases hji : j = i
    · subst hji; exact hy.wpOp hi trivial ⟨fun h => hS (by rw [getD_set_ne true (Ne.symm hpi)] at h; exact h), H⟩
    · have h1 := H.2 j (ready_mono hj hji)
      obtain ⟨hjun, oj, hoj, hall⟩ := mem_ready.1 hj
      have hnot : ∀ e ∈ oj.after, Region.binds md e = true → e.on ≠ i := fun e he hb heq => by
        have h1 := hall e he hb
        have h0 := (mem_ready.1 hr).1
        rw [heq] at h1
        rcases Nat.lt_or_ge i listed.size with h' | h'
        · simp [h'] at h0 h1; rw [h0] at h1; cases h1
        · simp [Array.getElem?_eq_none h'] at h1
      have h2 := wpOp_putIf hoj (hfree j oj hoj hji hjun hnot) (fun cs b => hsel i oi cs b hi) (fun cs b => hsel j oj cs b hoj) hQ hy h1
      have hfree' : ∀ k ok, ops[k]? = some ok → k ≠ i → (listed.setIfInBounds j true).getD k true = false →
          (∀ e ∈ ok.after, Region.binds md e = true → e.on ≠ i) → oi.apart ops ok = true := fun k ok hk hki hun hno => by
        refine hfree k ok hk hki ?_ hno
        by_cases hjk : j = k
        · subst hjk; exact hjun
        · rw [getD_set_ne true hjk] at hun; exact hun
      refine wpOp_mono (fun a' w' h3 => ?_) h2
      have hS' : (listed.setIfInBounds j true).getD p true = false → S w' := fun h => h3.2.1 (by rw [Array.setIfInBounds_comm _ _ (Ne.symm hji), getD_set_ne true (Ne.symm hpi)]; exact h)
      refine ⟨hS', ih (listed.setIfInBounds j true) a' w' hfree' (ready_mono hr (Ne.symm hji)) h3.1 hS' ?_⟩
      rw [Array.setIfInBounds_comm _ _ hji]
      exact h3.2.2

theorem wpAnyP_takeU {i : Nat} {oi : Oper} {v : Value} {fuel : Nat} {listed : Array Bool} {a : Act} {w : World} (hi : ops[i]? = some oi)
    (hs : Region.noSelect ops = true) (hf : Region.free md ops listed i = true) (hr : (Region.ready md ops listed).contains i = true) (hpi : p ≠ i)
    (hQ : ∀ c a w, Q (.panic c) (a.put oi.dst v) w → Q (.panic c) a w) (hy : YieldsIf P ops (fun _ => True) oi v a) (hS : S w)
    (h : wpAnyP P md ops Q p S fuel (listed.setIfInBounds i true) (a.put oi.dst v) w) : wpAnyP P md ops Q p S (fuel + 1) listed a w :=
  wpAnyP_firstU hi (Region.noSelect_spec hs) hQ hpi fuel listed a w (Region.free_spec hi hf) (by simpa using hr) hy (fun _ => hS) h

theorem wpAnyP_done {listed : Array Bool} {a : Act} {w : World} (hr : Region.ready md ops listed = []) (h : Q .normal a w) :
    ∀ fuel, wpAnyP P md ops Q p S fuel listed a w
  | 0 => ⟨hr, h⟩
  | _ + 1 => ⟨fun _ => h, by rw [hr]; simp⟩

/-- Each of the operations rs comes up next. -/
def AllReadyP (P : Program) (md : Region.Mode) (ops : Array Oper) (Q : Exit → Act → World → Prop) (p : Nat) (S : World → Prop) (fuel : Nat) (listed : Array Bool) (a : Act) (w : World) (rs : List Nat) : Prop :=
  ∀ i ∈ rs, wpOp P ops Q i (fun a' w' => ((listed.setIfInBounds i true).getD p true = false → S w') ∧ wpAnyP P md ops Q p S fuel (listed.setIfInBounds i true) a' w') a w

theorem AllReadyP.nil {fuel : Nat} {listed : Array Bool} {a : Act} {w : World} : AllReadyP P md ops Q p S fuel listed a w [] := fun _ h => by cases h

/-- p has not come up. -/
theorem AllReadyP.cons {fuel : Nat} {listed : Array Bool} {a : Act} {w : World} {i : Nat} {o : Oper} {rs : List Nat} (ho : ops[i]? = some o)
    (h : ∀ K' : Act → World → Prop, Shut (∀ a w, S w → wpAnyP P md ops Q p S fuel (listed.setIfInBounds i true) a w → K' a w) → if Region.wanted o (yielded ops a.tmps) = true then Oper.wp P o a w K' Q else K' (a.put o.dst undef) w)
    (hs : AllReadyP P md ops Q p S fuel listed a w rs) : AllReadyP P md ops Q p S fuel listed a w (i :: rs) := fun j hj => by
  rcases List.mem_cons.1 hj with rfl | hj
  · exact wpOp_step ho (fun K' hK => h K' (fun a w hS hW => hK a w ⟨fun _ => hS, hW⟩))
  · exact hs j hj

/-- p is among those that have come up. -/
theorem AllReadyP.late {fuel : Nat} {listed : Array Bool} {a : Act} {w : World} {i : Nat} {o : Oper} (ho : ops[i]? = some o) (hl : (listed.setIfInBounds i true).getD p true = true)
    (h : ∀ K' : Act → World → Prop, Shut (∀ a w, wpAnyP P md ops Q p S fuel (listed.setIfInBounds i true) a w → K' a w) → if Region.wanted o (yielded ops a.tmps) = true then Oper.wp P o a w K' Q else K' (a.put o.dst undef) w) : AllReadyP P md ops Q p S fuel listed a w [i] := fun j hj => by
  rcases List.mem_cons.1 hj with rfl | hj
  · exact wpOp_step ho (fun K' hK => h K' (fun a w hW => hK a w ⟨fun hn => (by rw [hl] at hn; cases hn), hW⟩))
  · cases hj

theorem wpAnyP_ready {rs : List Nat} {fuel : Nat} {listed : Array Bool} {a : Act} {w : World} (hr : Region.ready md ops listed = rs) (hne : rs ≠ [])
    (h : AllReadyP P md ops Q p S fuel listed a w rs) : wpAnyP P md ops Q p S (fuel + 1) listed a w := ⟨fun h0 => absurd (hr ▸ h0) hne, hr ▸ h⟩

/-- Each state of three chains: only the next one of a chain may come up, and one may. -/
def chk (md : Region.Mode) (ops : Array Oper) (nA nB nC : Nat) (cA cB cC : Nat → Nat) (L : Nat → Nat → Nat → Array Bool) : Bool :=
  (List.range (nA + 1)).all fun i => (List.range (nB + 1)).all fun j => (List.range (nC + 1)).all fun k =>
    (i == nA && j == nB && k == nC) || (!(Region.ready md ops (L i j k)).isEmpty && (Region.ready md ops (L i j k)).all fun x => (decide (i < nA) && x == cA i) || (decide (j < nB) && x == cB j) || (decide (k < nC) && x == cC k))

theorem chk_spec {nA nB nC : Nat} {cA cB cC : Nat → Nat} {L : Nat → Nat → Nat → Array Bool} (h : chk md ops nA nB nC cA cB cC L = true) (i : Nat) (hi : i ≤ nA) (j : Nat) (hj : j ≤ nB) (k : Nat) (hk : k ≤ nC) :
    (i = nA ∧ j = nB ∧ k = nC) ∨ (Region.ready md ops (L i j k) ≠ [] ∧ ∀ x ∈ Region.ready md ops (L i j k), (i < nA ∧ x = cA i) ∨ (j < nB ∧ x = cB j) ∨ (k < nC ∧ x = cC k)) := by
  have h1 := List.all_eq_true.1 h i (List.mem_range.2 (by omega))
  have h2 := List.all_eq_true.1 h1 j (List.mem_range.2 (by omega))
  have h3 := List.all_eq_true.1 h2 k (List.mem_range.2 (by omega))
  simp only [Bool.or_eq_true, Bool.and_eq_true, beq_iff_eq, List.all_eq_true, decide_eq_true_eq, Bool.not_eq_true'] at h3
  rcases h3 with ⟨⟨h3, h4⟩, h5⟩ | ⟨h3, h4⟩
  · exact .inl ⟨h3, h4, h5⟩
  · refine .inr ⟨fun e => by rw [e] at h3; simp at h3, fun x hx => ?_⟩
    rcases h4 x hx with (h5 | h5) | h5
    · exact .inl h5
    · exact .inr (.inl h5)
    · exact .inr (.inr h5)

/-- Three chains of operations, whoever comes first: what holds is told by how far each of them is. -/
theorem wpAnyP_chains {a0 : Act} {w0 : World} {listed0 : Array Bool} {fuel : Nat} (nA nB nC : Nat) (cA cB cC : Nat → Nat) (L : Nat → Nat → Nat → Array Bool) (fuel0 : Nat) (Inv : Act → Nat → Nat → Nat → Act → World → Prop)
    (hf : fuel = fuel0 + (nA + nB + nC)) (h0 : listed0 = L 0 0 0)
    (hr0 : chk md ops nA nB nC cA cB cC L = true)
    (hA : ∀ i, i < nA → ∀ j, j ≤ nB → ∀ k, k ≤ nC → (L i j k).setIfInBounds (cA i) true = L (i + 1) j k)
    (hB : ∀ i, i ≤ nA → ∀ j, j < nB → ∀ k, k ≤ nC → (L i j k).setIfInBounds (cB j) true = L i (j + 1) k)
    (hC : ∀ i, i ≤ nA → ∀ j, j ≤ nB → ∀ k, k < nC → (L i j k).setIfInBounds (cC k) true = L i j (k + 1))
    (stepA : ∀ i, i < nA → ∀ j k a w, Inv a0 i j k a w → wpOp P ops Q (cA i) (fun a' w' => S w' ∧ Inv a0 (i + 1) j k a' w') a w)
    (stepB : ∀ j, j < nB → ∀ i k a w, Inv a0 i j k a w → wpOp P ops Q (cB j) (fun a' w' => S w' ∧ Inv a0 i (j + 1) k a' w') a w)
    (stepC : ∀ k, k < nC → ∀ i j a w, Inv a0 i j k a w → wpOp P ops Q (cC k) (fun a' w' => S w' ∧ Inv a0 i j (k + 1) a' w') a w)
    (fin : ∀ a w, Inv a0 nA nB nC a w → wpAnyP P md ops Q p S fuel0 (L nA nB nC) a w)
    (start : Inv a0 0 0 0 a0 w0) : wpAnyP P md ops Q p S fuel listed0 a0 w0 := by
  have hr := chk_spec hr0
  have main : ∀ r i j k a w, i ≤ nA → j ≤ nB → k ≤ nC → (nA - i) + (nB - j) + (nC - k) = r → Inv a0 i j k a w → wpAnyP P md ops Q p S (fuel0 + r) (L i j k) a w := by
    intro r
    induction r with
    | zero =>
      intro i j k a w hi hj hk hs hI
      obtain rfl : i = nA := by omega
      obtain rfl : j = nB := by omega
      obtain rfl : k = nC := by omega
      exact fin a w hI
    | succ r ih =>
      intro i j k a w hi hj hk hs hI
      rcases hr i hi j hj k hk with ⟨rfl, rfl, rfl⟩ | ⟨hne, hR⟩
      · omega
      refine ⟨fun h => absurd h hne, fun x hx => ?_⟩
      rcases hR x hx with ⟨c, rfl⟩ | ⟨c, rfl⟩ | ⟨c, rfl⟩
      · refine wpOp_mono (fun a' w' h => ⟨fun _ => h.1, ?_⟩) (stepA i c j k a w hI)
        rw [hA i c j hj k hk]
        exact ih (i + 1) j k a' w' c hj hk (by omega) h.2
      · refine wpOp_mono (fun a' w' h => ⟨fun _ => h.1, ?_⟩) (stepB j c i k a w hI)
        rw [hB i hi j c k hk]
        exact ih i (j + 1) k a' w' hi c hk (by omega) h.2
      · refine wpOp_mono (fun a' w' h => ⟨fun _ => h.1, ?_⟩) (stepC k c i j a w hI)
        rw [hC i hi j hj k c]
        exact ih i j (k + 1) a' w' hi hj c (by omega) h.2
  rw [hf, h0]
  exact main _ 0 0 0 a0 w0 (Nat.zero_le _) (Nat.zero_le _) (Nat.zero_le _) (by omega) start

/-- The beginning. -/
theorem wp_region_P {id : Nat} {a : Act} {w : World} (p : Nat) (S : World → Prop) (hm : P.follows .mixedOrders = true) (hS : S w.drew)
    (h : S w.drew → wpAnyP P .any ops Q p S ops.size (Array.replicate ops.size false) a w.drew) : (Code.region id ops true).wp P Q a w :=
  wp_region_any hm (wpAny_of_P _ _ _ _ (h hS))

end
end Go.Proofs.Ytiggannhanfolaa
