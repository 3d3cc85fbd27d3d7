/-
  A book of the law's own whose page 1 lies in bytes of the law's own.
-/
import Derived.Test.YtiggannhanfolaaAllE
import Derived.Deep.DeepCutAuto
namespace Go.Proofs.Ytiggannhanfolaa
set_option maxRecDepth 100000
set_option linter.unusedVariables false
open Go.RowKit
set_option linter.unusedVariables false

/-- A new book's cells with the page 1, its bytes at b. -/
def bk1 (b : Nat) : List Value := (bkz 0).set 1 (.slice (some ⟨b, 0, none⟩) 256 256)

/-- A book g whose page 1 lies at b. -/
structure B1 (W : World) (base g b : Nat) (zs : List Int) : Prop where
  at_ : Tb W 28 g (bk1 b)
  own : Tb W 5 b (bv zs)
  pg : Pg zs
  lo : base ≤ g ∧ base ≤ b

section
variable {w W W' : World} {base g b : Nat} {zs : List Int}
theorem B1.later (h : B1 W base g b zs) (hb : Below W.heap.size W W') : B1 W' base g b zs := ⟨h.at_.later hb, h.own.later hb, h.pg, h.lo⟩
theorem B1.make (hg : Tb W 28 g (bkz 0)) (hb : Tb W 5 b (bv zs)) (hz : Pg zs) (hl : base ≤ g ∧ base ≤ b) : B1 (W.setCell ⟨g, 1, none⟩ (.slice (some ⟨b, 0, none⟩) 256 256)) base g b zs :=
  ⟨hg.set _ _, hb.but (but_set _ _ _ _) (hb.apart hg (by decide)), hz, hl⟩
theorem B1.seti (h : B1 W base g b zs) (k : Nat) {z : Int} (hz : 0 ≤ z ∧ z ≤ 255) : B1 (W.setCell ⟨b, k, none⟩ (.int .u8 z)) base g b (zs.set k z) :=
  ⟨h.at_.but (but_set _ _ _ _) (h.at_.apart h.own (by decide)), by rw [← bv_set]; exact h.own.set _ _, pg_set h.pg k hz, h.lo⟩
theorem B1.ptr (h : B1 W base g b zs) : W.cell? ⟨g, 1, none⟩ = some (.slice (some ⟨b, 0, none⟩) 256 256) ∧ W.frozen? ⟨g, 1, none⟩ = false := by
  refine ⟨?_, h.at_.frozen 1⟩
  rw [h.at_.cell (i := 1) (by rw [bk1, List.length_set, bkz_len]; omega), bk1, getD_set _ _ _ _ (by rw [bkz_len]; omega), if_pos rfl]
theorem B1.cell (h : B1 W base g b zs) {i : Nat} (hi : i < 256) : W.cell? ⟨b, i, none⟩ = some (.int .u8 (zs.getD i 0)) ∧ W.frozen? ⟨b, i, none⟩ = false := by
  refine ⟨?_, h.own.frozen i⟩
  rw [h.own.cell (by rw [bv_len, h.pg.1]; exact hi)]
  simp [bv, List.getD, List.getElem?_eq_getElem (show i < zs.length by rw [h.pg.1]; exact hi)]
theorem B1.sl (h : B1 W base g b zs) : Sl W (.slice (some ⟨b, 0, none⟩) 256 256) zs := Sl.own (tb_own h.own h.pg (Nat.zero_le _)) h.pg.2
theorem B1.book (h : B1 W base g b zs) : Book W g 0 (put1 (fun _ => none) 1 zs) (bk1 b) :=
  ⟨h.at_, by rw [bk1, List.length_set, bkz_len], by rw [bk1, getD_set _ _ _ _ (by rw [bkz_len]; omega), if_neg (by omega)]; exact bkz_bad 0, fun i hi => by
    rw [bk1, getD_set _ _ _ _ (by rw [bkz_len]; omega)]
    by_cases e : i = 1
    · subst e
      exact .inr ⟨zs, _, _, _, put1_same _ _ _, h.pg, if_pos rfl, h.sl⟩
    · exact .inl ⟨put1_other _ e _, by rw [if_neg e]; exact bkz_at 0 hi⟩⟩
theorem B1.but (h : B1 W base g b zs) (hw : Below base w W) (hB : base ≤ W.heap.size) (k : Nat) (v : Value) : Below base w (W.setCell ⟨b, k, none⟩ v) := Below.but hw hB (but_set W b k v) (fun i e => by have := h.lo; omega)
theorem Tb.butBelow (hw : Below base w W) (hB : base ≤ W.heap.size) {t : Nat} (k : Nat) (v : Value) (hl : base ≤ t) : Below base w (W.setCell ⟨t, k, none⟩ v) := Below.but hw hB (but_set W t k v) (fun i e => by omega)
end

theorem book1 (zs : List Int) : bookF 0 (put1 (fun _ => none) 1 zs) 1 = some zs := rfl

/-- 256 noughts that were made. -/
theorem made_tb (w : World) : Tb (w.alloc (.cells (madeCells #[Value.int IntKind.u8 0] 256) 5)) 5 w.heap.size (bv zer) := by
  have h := made_heap w (.int .u8 0) 256 5
  unfold Tb
  rw [h]
  simp [bv, zer]
end Go.Proofs.Ytiggannhanfolaa
