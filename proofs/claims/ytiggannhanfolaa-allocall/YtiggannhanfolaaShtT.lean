/-
  Images that stay; the law's operations, as they came in; pages that are laid one over the other, as mathematics.
-/
import Derived.Test.YtiggannhanfolaaShtI
import Derived.Test.YtiggannhanfolaaOpn
namespace Go.Proofs.Ytiggannhanfolaa
set_option maxRecDepth 100000
set_option linter.unusedVariables false
open Go.RowKit Go.ChangeShapes Go.WideShapes Go.ChangeAt
set_option linter.unusedVariables false

theorem own_else {w w' : World} {base k : Nat} {e t : TypeId} {size : Nat} {v : Value} {n : Nat} {xs us : List Value} (h : w.ownsRow base e size v n xs) (hb : But (· = k) w w') (hk : Tb w t k us) (ht : t ≠ e) : w'.ownsRow base e size v n xs := by
  obtain ⟨hl, h⟩ := h
  refine ⟨hl, ?_⟩
  rcases h with h | ⟨g, cap, cur, rfl, h0, hh, r⟩
  · exact .inl h
  · refine .inr ⟨g, cap, cur, rfl, h0, (hb.block g (blk_lt hh) ?_).trans hh, r⟩
    rintro rfl
    unfold Tb at hk
    rw [hh] at hk
    simp at hk
    exact ht hk.2.symm
/-- Images stay where a variable of another type turns. -/
theorem Igs.but {w w' : World} {base k : Nat} {t : TypeId} {v : Value} {L : List Im} {us : List Value} (h : Igs w base v L) (hb : But (· = k) w w') (hk : Tb w t k us) (h1 : t ≠ 66) (h2 : t ≠ 5) : Igs w' base v L :=
  ⟨own_else h.1 hb hk h1, fun x hx => ⟨(h.2 x hx).1, (h.2 x hx).2.1, own_else (h.2 x hx).2.2 hb hk h2⟩⟩
/-- Their value, written out. -/
theorem Igs.opens {w : World} {base : Nat} {v : Value} {L : List Im} (h : Igs w base v L) : ∃ p n cp, v = .slice p n cp ∧ n ≤ cp ∧ cp ≤ 9223372036854775807 ∧ Hid (n = L.length) ∧ Hid (Igs w base (.slice p n cp) L) := by
  have h' := h
  rcases h.1.2 with ⟨rfl, h0⟩ | ⟨g, cap, cur, rfl, hb, hh, h1, h2, h3, h4⟩
  · exact ⟨none, 0, 0, rfl, Nat.le_refl _, by omega, h0.symm, h'⟩
  · unfold maxLen at h2
    exact ⟨_, _, cap, rfl, h1, by omega, rfl, h'⟩
/-- One of them. -/
theorem Igs.at_ {w : World} {base : Nat} {p : Option Addr} {n cp : Nat} {L : List Im} (h : Igs w base (.slice p n cp) L) {i : Nat} (hi : i < n) : ∃ g x, p = some ⟨g, 0, none⟩ ∧ L[i]? = some x ∧ w.cell? ⟨g, i * 2, none⟩ = some (.int .i64 x.n) ∧ w.cell? ⟨g, i * 2 + 1, none⟩ = some (.slice (some ⟨x.b, 0, none⟩) 256 x.c) ∧ Pg x.z ∧ x.n < 96 ∧ w.ownsRow base 5 1 (.slice (some ⟨x.b, 0, none⟩) 256 x.c) 256 (bv x.z) := by
  have hr := h.1
  rcases hr.2 with ⟨e, h0⟩ | ⟨g, cap, cur, e, hb, hh, h1, h2, h3, h4⟩
  · simp at e
    omega
  · simp only [Value.slice.injEq] at e
    obtain ⟨rfl, hn, rfl⟩ := e
    have hx : i < L.length := by omega
    obtain ⟨q1, q2⟩ := ims_at (L := L) (i := i) (List.getElem?_eq_getElem hx)
    rw [hn] at hr
    obtain ⟨k1, k2, k3⟩ := h.2 _ (List.getElem_mem hx)
    exact ⟨g, L[i], rfl, List.getElem?_eq_getElem hx, by rw [hr.cellAt _ (by omega)]; exact q1, by rw [hr.cellAt _ (by omega)]; exact q2, k1, k2, k3⟩

/-- Laid one behind the other. -/
def puts (m : Nat → Option (List Int)) (l : List (Nat × List Int)) : Nat → Option (List Int) := l.foldl (fun m x => put1 m x.1 x.2) m
theorem puts_snoc (m : Nat → Option (List Int)) (l : List (Nat × List Int)) (x : Nat × List Int) : puts m (l ++ [x]) = put1 (puts m l) x.1 x.2 := by simp [puts]

/-- What changes, laid, leave. -/
theorem puts_chs (k m f : Nat → Option (List Int)) : ∀ n i, puts k (chs m f n) i = if i < n ∧ (chOf m f i).isSome then m i else k i := by
  intro n
  induction n with
  | zero => intro i; rw [if_neg (by omega)]; rfl
  | succ n ih =>
    intro i
    rw [chs_succ]
    cases hc : chOf m f n with
    | none =>
      rw [Option.toList_none, List.append_nil, ih]
      by_cases e : i = n
      · subst e
        rw [if_neg (by omega), if_neg (by rw [hc]; simp)]
      · have : (i < n ∧ (chOf m f i).isSome = true) ↔ (i < n + 1 ∧ (chOf m f i).isSome = true) := by constructor <;> rintro ⟨h1, h2⟩ <;> exact ⟨by omega, h2⟩
        simp only [this]
    | some q =>
      have hq : m n = some q.2 ∧ q.1 = n := by
        unfold chOf at hc
        split at hc
        · rename_i zs hz
          split at hc
          · cases hc
          · cases hc
            exact ⟨hz, rfl⟩
        · cases hc
      rw [Option.toList_some, puts_snoc, hq.2]
      by_cases e : i = n
      · subst e
        rw [put1_same, if_pos ⟨by omega, by rw [hc]; rfl⟩, hq.1]
      · rw [put1_other _ e, ih]
        have : (i < n ∧ (chOf m f i).isSome = true) ↔ (i < n + 1 ∧ (chOf m f i).isSome = true) := by constructor <;> rintro ⟨h1, h2⟩ <;> exact ⟨by omega, h2⟩
        simp only [this]

theorem chOf_some (m f : Nat → Option (List Int)) (i : Nat) : (chOf m f i).isSome = true ↔ ∃ z, m i = some z ∧ f i ≠ some z := by
  unfold chOf
  cases hm : m i with
  | none => simp
  | some z =>
    dsimp only
    by_cases h : f i = some z
    · simp [h]
    · rw [if_neg h]
      simp [h]

/-- Nothing is left of them. -/
theorem chs_none {m f : Nat → Option (List Int)} (h : ∀ i, i < 96 → ∀ z, m i = some z → f i = some z) : chs m f 96 = [] := by
  have : ∀ n, n ≤ 96 → chs m f n = [] := by
    intro n
    induction n with
    | zero => intro _; rfl
    | succ n ih =>
      intro hn
      rw [chs_succ, ih (by omega)]
      have : chOf m f n = none := by
        unfold chOf
        split
        · rename_i zs hz
          rw [if_pos (h n (by omega) zs hz)]
        · rfl
      rw [this]
      rfl
  exact this 96 (Nat.le_refl _)

/-- They rise. -/
theorem chs_rise (m f : Nat → Option (List Int)) : ∀ n, (∀ x ∈ chs m f n, x.1 < n) ∧ ∀ i a b, (chs m f n)[i]? = some a → (chs m f n)[i + 1]? = some b → a.1 < b.1 := by
  intro n
  induction n with
  | zero => exact ⟨fun x hx => (by cases hx), fun i a b h => (by simp [chs_zero] at h)⟩
  | succ n ih =>
    rw [chs_succ]
    cases hc : chOf m f n with
    | none =>
      rw [Option.toList_none, List.append_nil]
      exact ⟨fun x hx => Nat.lt_succ_of_lt (ih.1 x hx), ih.2⟩
    | some q =>
      have hq : q.1 = n := by
        unfold chOf at hc
        split at hc
        · split at hc
          · cases hc
          · cases hc; rfl
        · cases hc
      rw [Option.toList_some]
      refine ⟨fun x hx => ?_, fun i a b ha hb => ?_⟩
      · rcases List.mem_append.1 hx with h | h
        · exact Nat.lt_succ_of_lt (ih.1 x h)
        · rw [List.mem_singleton.1 h, hq]; omega
      · have hl := (List.getElem?_eq_some_iff.1 hb).1
        rw [List.length_append, List.length_singleton] at hl
        have hi : i < (chs m f n).length := by omega
        rw [List.getElem?_append_left hi] at ha
        by_cases h2 : i + 1 < (chs m f n).length
        · rw [List.getElem?_append_left h2] at hb
          exact ih.2 i a b ha hb
        · rw [List.getElem?_append_right (by omega), show i + 1 - (chs m f n).length = 0 by omega] at hb
          simp at hb
          subst hb
          rw [hq]
          exact ih.1 a (List.mem_of_getElem? ha)
end Go.Proofs.Ytiggannhanfolaa
