/-
  Two places of a rising list are changed for one another: it rises no more; in memory.
-/
import Derived.Test.YtbddghdkmakjlabKry
import Derived.Test.YtbddghdkmakjlabLae
namespace Go.Proofs.Ytbddghdkmakjlab
set_option maxRecDepth 100000
set_option linter.unusedVariables false
open Go.RowKit

def swp {α : Type} (l : List α) (a b : Nat) (d : α) : List α := (l.set a (l.getD b d)).set b (l.getD a d)
theorem swp_len {α : Type} (l : List α) (a b : Nat) (d : α) : (swp l a b d).length = l.length := by simp [swp]
theorem swp_same {α : Type} {l : List α} {a : Nat} (d : α) (h : a < l.length) : swp l a a d = l := by
  unfold swp
  rw [List.set_set]
  simp [List.getD, List.getElem?_eq_getElem h]
theorem swp_b {α : Type} {l : List α} {a b : Nat} (d : α) (hb : b < l.length) : (swp l a b d).getD b d = l.getD a d := by
  unfold swp
  simp [List.getD, hb]
theorem swp_a {α : Type} {l : List α} {a b : Nat} (d : α) (ha : a < l.length) (h : a ≠ b) : (swp l a b d).getD a d = l.getD b d := by
  unfold swp
  rw [List.getD, List.getElem?_set_ne (by omega), List.getElem?_set_self (by omega)]
  simp
theorem swp_mem {α : Type} {l : List α} {a b : Nat} {d x : α} (ha : a < l.length) (hb : b < l.length) (h : x ∈ swp l a b d) : x ∈ l := by
  unfold swp at h
  have ea : l.getD a d ∈ l := by simp [List.getD, List.getElem?_eq_getElem ha]
  have eb : l.getD b d ∈ l := by simp [List.getD, List.getElem?_eq_getElem hb]
  rcases List.mem_or_eq_of_mem_set h with h | rfl
  · rcases List.mem_or_eq_of_mem_set h with h | rfl
    · exact h
    · exact eb
  · exact ea

theorem asc_fn {f : Nat → List UInt8} {m : Nat} (h : ∀ i, i + 1 < m → Ky.bl (f i) (f (i + 1)) = true) : ∀ j i, i < j → j < m → Ky.bl (f i) (f j) = true
  | 0, i, hi, _ => by omega
  | j + 1, i, hi, hj => by
    rcases Nat.lt_or_ge i j with h2 | h2
    · exact Ky.bl_trans (asc_fn h j i h2 (by omega)) (h j hj)
    · obtain rfl : i = j := by omega
      exact h i hj
theorem no_both {x y : List UInt8} (h : Ky.bl x y = true) (g : Ky.bl y x = true) : False := by
  have := Ky.bl_trans h g
  rw [Ky.bl_irr] at this
  cases this
theorem mayK_asc {K : List ByteArray} (h : No.mayK K = true) : ∀ j i, i < j → j < K.length → Ky.bl (K.getD i No.bz).toList (K.getD j No.bz).toList = true :=
  asc_fn (f := fun i => (K.getD i No.bz).toList) fun i hi => by
    have := all_at h hi
    simp [No.kok, No.up] at this
    simpa [List.getD] using this.2
theorem mayC_asc {C : List Ce} (h : No.mayC C = true) : ∀ j i, i < j → j < C.length → Ky.bl (C.getD i Ce.zero).N.toList (C.getD j Ce.zero).N.toList = true :=
  asc_fn (f := fun i => (C.getD i Ce.zero).N.toList) fun i hi => by
    have := all_at h hi
    simp [No.cok] at this
    simpa [List.getD] using this.2
theorem swp_noK {K : List ByteArray} {a b : Nat} (h : No.mayK K = true) (ha : a < K.length) (hb : b < K.length) (hab : a ≠ b) : No.mayK (swp K a b No.bz) = false := by
  cases hs : No.mayK (swp K a b No.bz)
  · rfl
  · have h1 := mayK_asc h
    have h2 := mayK_asc hs
    rw [swp_len] at h2
    rcases Nat.lt_or_gt_of_ne hab with hl | hl
    · have := h2 b a hl hb
      rw [swp_a _ ha hab, swp_b _ hb] at this
      exact (no_both (h1 b a hl hb) this).elim
    · have := h2 a b hl ha
      rw [swp_a _ ha hab, swp_b _ hb] at this
      exact (no_both (h1 a b hl ha) this).elim
theorem swp_noC {C : List Ce} {a b : Nat} (h : No.mayC C = true) (ha : a < C.length) (hb : b < C.length) (hab : a ≠ b) : No.mayC (swp C a b Ce.zero) = false := by
  cases hs : No.mayC (swp C a b Ce.zero)
  · rfl
  · have h1 := mayC_asc h
    have h2 := mayC_asc hs
    rw [swp_len] at h2
    rcases Nat.lt_or_gt_of_ne hab with hl | hl
    · have := h2 b a hl hb
      rw [swp_a _ ha hab, swp_b _ hb] at this
      exact (no_both (h1 b a hl hb) this).elim
    · have := h2 a b hl ha
      rw [swp_a _ ha hab, swp_b _ hb] at this
      exact (no_both (h1 a b hl ha) this).elim
theorem leaf_no {C : List Ce} {K : List ByteArray} {I : List Int} (h : No.mayC C = false) : No.may ⟨true, C, K, I⟩ = false := by simp [No.may, h]
theorem fork_no {C : List Ce} {K : List ByteArray} {I : List Int} (h : No.mayK K = false) : No.may ⟨false, C, K, I⟩ = false := by simp [No.may, h]

/-- Values are laid from place o on. -/
def setL : List Value → Nat → List Value → List Value
  | xs, _, [] => xs
  | xs, o, v :: vs => setL (xs.set o v) (o + 1) vs
theorem setL_app (p : List Value) : ∀ (vs L : List Value) (o : Nat), setL (p ++ L) (p.length + o) vs = p ++ setL L o vs
  | [], _, _ => rfl
  | v :: vs, L, o => by
    unfold setL
    rw [List.set_append_right _ _ (by omega), show p.length + o - p.length = o by omega, Nat.add_assoc, setL_app p vs]
theorem setL_cc : ∀ {C : List Ce} {a : Nat} (q : Ce), a < C.length → setL (cc C) (a * 8) (cv q).toList = cc (C.set a q)
  | [], _, _, h => by simp at h
  | c :: C, 0, q, _ => rfl
  | c :: C, a + 1, q, h => by
    have e : cc (c :: C) = (cv c).toList ++ cc C := by simp [cc]
    have e2 : cc ((c :: C).set (a + 1) q) = (cv c).toList ++ cc (C.set a q) := by simp [cc]
    have hl : (cv c).toList.length = 8 := rfl
    rw [e, e2, show (a + 1) * 8 = (cv c).toList.length + a * 8 by omega, setL_app, setL_cc q (by simpa using h)]
theorem own_setL {B e s g n c : Nat} : ∀ (vs : List Value) (o : Nat) (w : World) (xs : List Value), w.ownsRow B e s (.slice (some ⟨g, 0, none⟩) n c) n xs → (w.setCells g o vs).ownsRow B e s (.slice (some ⟨g, 0, none⟩) n c) n (setL xs o vs) ∧ w.grownBy (w.setCells g o vs) (some g)
  | [], _, w, _, h => ⟨h, World.grownBy.refl _ _⟩
  | v :: vs, o, w, xs, h => by
    obtain ⟨h1, h2⟩ := h.stored o v
    obtain ⟨h3, h4⟩ := own_setL vs (o + 1) _ _ h1
    exact ⟨h3, h2.trans h4⟩
theorem own_setC {w : World} {B g n c a : Nat} {C : List Ce} (q : Ce) (h : w.ownsRow B 34 8 (.slice (some ⟨g, 0, none⟩) n c) n (cc C)) (ha : a < C.length) :
    (w.setCells g (a * 8) (cv q).toList).ownsRow B 34 8 (.slice (some ⟨g, 0, none⟩) n c) n (cc (C.set a q)) ∧ w.grownBy (w.setCells g (a * 8) (cv q).toList) (some g) := by
  have := own_setL (cv q).toList (a * 8) w _ h
  rwa [setL_cc q ha] at this
theorem own_setK {w : World} {B g n c a : Nat} {K : List ByteArray} (q : ByteArray) (h : w.ownsRow B 9 1 (.slice (some ⟨g, 0, none⟩) n c) n (K.map Value.string)) :
    (w.setCell ⟨g, a, none⟩ (.string q)).ownsRow B 9 1 (.slice (some ⟨g, 0, none⟩) n c) n ((K.set a q).map Value.string) ∧ w.grownBy (w.setCell ⟨g, a, none⟩ (.string q)) (some g) := by
  have := h.stored a (.string q)
  rwa [show (K.map Value.string).set a (.string q) = (K.set a q).map Value.string by rw [List.map_set]] at this
theorem own_block {w : World} {B e s n : Nat} {v : Value} {xs : List Value} (h : w.ownsRow B e s v n xs) (hn : 0 < n) : ∃ g c, v = .slice (some ⟨g, 0, none⟩) n c ∧ B ≤ g := by
  rcases h.2 with ⟨rfl, h0⟩ | ⟨g, cp, cur, rfl, hbg, -⟩
  · omega
  · exact ⟨g, cp, rfl, hbg⟩
/-- A variable that begins with a bool is another block than a row that doesn't. -/
theorem bx_ne {w : World} {b B e s g n c : Nat} {cs : Array Value} {xs : List Value} {l : Bool} {u : Value} (hY : Bx w b cs) (hl : cs[0]? = some (.bool l)) (h : w.ownsRow B e s (.slice (some ⟨g, 0, none⟩) n c) n xs) (hx : xs[0]? = some u) (hu : u ≠ .bool l) (hn : 0 < n * s) : some b ≠ some g := by
  intro hq
  have hq' : b = g := Option.some.inj hq
  subst hq'
  have h1 := hY.cell hl
  rw [h.cellAt 0 hn, hx] at h1
  exact hu (Option.some.inj h1)
theorem own_there {w : World} {B g n c a : Nat} {C : List Ce} (h : w.ownsRow B 34 8 (.slice (some ⟨g, 0, none⟩) n c) n (cc C)) (ha : a < C.length) (q : Ce) : w.there g (a * 8) (cv q).size := by
  intro j hj
  have hj' : j < 8 := hj
  have hl := h.1
  rw [cc_len] at hl
  refine ⟨?_, h.frozenAt _⟩
  rw [h.cellAt (a * 8 + j) (by omega), List.getElem?_eq_getElem (by rw [cc_len]; omega)]
  rfl
/-- 'c[a] = q' of cells in memory of one's own. -/
theorem wp_putC {w : World} {o : Oper} {a : Act} {Q : Exit → Act → World → Prop} {K : Act → World → Prop} {B g n c k : Nat} {C : List Ce} (x y : Operand) (q : Ce) (hop : o.op = Op.store 34 x y) (hx : a.eval x = .pointer (some ⟨g, 0 + k * 8, none⟩)) (hy : a.eval y = .agg (cv q))
    (h : w.ownsRow B 34 8 (.slice (some ⟨g, 0, none⟩) n c) n (cc C)) (hk : k < C.length) (hK : K (a.put o.dst undef) (w.setCells g (k * 8) (cv q).toList)) : o.wp Try.prog a w K Q := by
  rw [Nat.zero_add] at hx
  exact wp_store_mid 34 x y hop g (k * 8) (cv q) hx hy (own_there h hk q) tyR.size (Array.all_eq_true_iff_forall_mem.2 (fun u hu => cv_one q u (by simpa using hu))) hK
/-- The same of texts. -/
theorem wp_putK {w : World} {o : Oper} {a : Act} {Q : Exit → Act → World → Prop} {K : Act → World → Prop} {B g n c k : Nat} {L : List ByteArray} (x y : Operand) (q : ByteArray) (hop : o.op = Op.store 9 x y) (hx : a.eval x = .pointer (some ⟨g, 0 + k * 1, none⟩)) (hy : a.eval y = .string q)
    (h : w.ownsRow B 9 1 (.slice (some ⟨g, 0, none⟩) n c) n (L.map Value.string)) (hk : k < L.length) (hK : K (a.put o.dst undef) (w.setCell ⟨g, k, none⟩ (.string q))) : o.wp Try.prog a w K Q := by
  rw [Nat.zero_add, Nat.mul_one] at hx
  have hl := h.1
  rw [List.length_map] at hl
  have hc := h.cellAt k (by omega)
  rw [List.getElem?_eq_getElem (by rw [List.length_map]; omega)] at hc
  have hf := h.frozenAt k
  have hr : (Instr.storeAt 9 (.pointer (some ⟨g, k, none⟩)) (.string q)).run Try.prog w = .ok () (w.setCell ⟨g, k, none⟩ (.string q)) := by
    have hi : (Try.prog.info? 9).map (·.size) = some 1 := by kernel_rfl
    cases hq : Try.prog.info? 9 with
    | none => simp [hq] at hi
    | some i =>
      have hs : i.size = 1 := by simpa [hq] using hi
      have hst : ∀ a W, (Go.store a (.string q)).run Try.prog W = stored Try.prog W a (.string q) .plain := fun a W => run_store Try.prog W a _ _ rfl
      simp [Instr.storeAt, Instr.sureAddr, storeVar, sizeOf, typeInfo, hq, hs, Value.cells, storeCells, hst, stored, hc, hf, add_plain]
  unfold Oper.wp
  simp only [execOp, hop, hx, hy, Sem.run_bind, hr, Result.andThen_ok]
  exact hK
theorem ld_cell {w : World} {g k : Nat} {q : Ce} (h : w.rangeAt g (k * 8) (cv q).toList) : (Instr.loadAt 34 (.pointer (some ⟨g, 0 + k * 8, none⟩))).run Try.prog w = .ok (.agg (cv q)) w := by
  obtain ⟨d, hu, hd⟩ := tyR.row
  rw [Nat.zero_add]
  simpa using run_loadAt_mid (P := Try.prog) w g (k * 8) 34 (cv q).toList d h hu hd tyR.size
theorem own_range {w : World} {B g n c k : Nat} {C : List Ce} (h : w.ownsRow B 34 8 (.slice (some ⟨g, 0, none⟩) n c) n (cc C)) (hk : k < C.length) : w.rangeAt g (k * 8) (cv (C.getD k Ce.zero)).toList := by
  intro j u hu
  have hl := h.1
  rw [cc_len] at hl
  have hj : j < 8 := (List.getElem?_eq_some_iff.1 hu).1
  rw [h.cellAt (k * 8 + j) (by omega)]
  exact cc_at (by simp [List.getD, List.getElem?_eq_getElem hk]) j u hu
theorem own_text {w : World} {B g n c k : Nat} {K : List ByteArray} (h : w.ownsRow B 9 1 (.slice (some ⟨g, 0, none⟩) n c) n (K.map Value.string)) (hk : k < K.length) : w.cell? ⟨g, 0 + k * 1, none⟩ = some (.string (K.getD k No.bz)) := by
  have hl := h.1
  rw [List.length_map] at hl
  rw [Nat.zero_add, Nat.mul_one, h.cellAt k (by omega)]
  simp [List.getD, List.getElem?_eq_getElem hk]
end Go.Proofs.Ytbddghdkmakjlab
