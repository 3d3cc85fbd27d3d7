/-
  The helper 'tells' of the laws of package cell returns true, whatever the bytes are.
-/
import Derived.Test.YtlefhhmggaaiiaaCelR
import Derived.Test.YtlefhhmggaaiiaaCelH
import Derived.Test.YtlefhhmggaaiiaaCelS
import Derived.Test.YtlefhhmggaaiiaaOrx
import Derived.Laws.OwnMore
namespace Go.Proofs.Ytlefhhmggaaiiaa
open Go.RowKit

set_option maxRecDepth 100000 in
set_option maxHeartbeats 8000000 in
theorem tells_any (v : Value) (zs : List Int) (w : World) (h : Sl w v zs) :
    Calls Try.prog 31 #[v] w fun e w' => e = .returned (.bool true) ∧ Below w.heap.size w w' := by
  have HO := hide (Ce.get_ok zs h.bd)
  obtain ⟨c, n, e0, hE⟩ : ∃ c n e0, Ce.get zs = (c, n, e0) := ⟨_, _, _, rfl⟩
  rw [hE] at HO
  simp only at HO
  have HE := hide hE
  clear hE
  go_enter Try.func31, Try.ntmps31
  go_wp2_with fail
  have hB : Below w.heap.size w w := Below.refl _ _
  refine (get_cell_at h HE.out).mono ?_
  rintro e W1 ⟨rfl, hb⟩
  replace h := h.later hb
  replace hB := hB.trans (hb.mono hB.size)
  clear hb
  go_wp2_with (first
    | (refine wpList_new 31 _ rfl rfl tyC ?_; intro Wn hBn hN)
    | (refine wpList_put 31 _ (.tmp 3) (.tmp 12) _ (cv c) _ rfl rfl rfl rfl hN tyC rfl rfl (cv_one _) ?_; intro Wp hbp hsp hX; have hBp := newput hBn hbp; replace h := h.later hBp; replace hB := hB.trans (hBp.mono hB.size); clear hBn hN hbp hsp hBp))
  refine (read_cell_at h HE.out).mono ?_
  rintro e W2 ⟨rfl, hb⟩
  replace hX := hX.later hb
  replace hB := hB.trans (hb.mono hB.size)
  clear h
  clear hb
  go_wp2_with (first
    | (refine wpList_new 26 _ rfl rfl tyR ?_; intro Wn hBn hN)
    | (refine wpList_put 26 _ (.tmp 6) (.tmp 18) _ (cv c) _ rfl rfl rfl rfl hN tyR rfl rfl (cv_one _) ?_; intro Z hbp hsp hY; have hBp := newput hBn hbp; replace hX := hX.later hBp; replace hB := hB.trans (hBp.mono hB.size); clear hBn hN hbp hsp hBp))
  refine wp_region_noPanic ?_
  refine wp_region_held_drew (S := fun W => Below Z.heap.size Z W) (by kernel_rfl) ?_ (fun hHeld => ?_)
  · exact (Below.refl _ _).drew
  refine wpAnyH_take (i := 0) (v := ?_) rfl (by kernel_rfl) (by kernel_rfl) (by kernel_rfl) (fun _ _ _ h => h) (Or.inl ⟨by kernel_rfl, ?_⟩) hHeld ?_
  rotate_left
  · intro W hW; go_simp; first | done | with_reducible rfl | rfl
  try simp only [Act.put, List.getElem_toArray, List.getElem_cons_zero, List.setIfInBounds_toArray, List.set_cons_succ, List.set_cons_zero]
  refine wpAnyH_take (i := 1) (v := ?_) rfl (by kernel_rfl) (by kernel_rfl) (by kernel_rfl) (fun _ _ _ h => h) (Or.inl ⟨by kernel_rfl, ?_⟩) hHeld ?_
  rotate_left
  · intro W hW; go_simp; first | done | with_reducible rfl | rfl
  try simp only [Act.put, List.getElem_toArray, List.getElem_cons_zero, List.getElem_cons_succ, List.setIfInBounds_toArray, List.set_cons_succ, List.set_cons_zero]
  refine wpAnyH_take (i := 2) (v := .bool true) rfl (by kernel_rfl) (by kernel_rfl) (by kernel_rfl) (fun _ _ _ h => h) (Or.inl ⟨by kernel_rfl, ?_⟩) hHeld ?_
  · intro W hW; go_simp; first | done | with_reducible rfl | rfl
  try simp only [Act.put, List.getElem_toArray, List.getElem_cons_zero, List.getElem_cons_succ, List.setIfInBounds_toArray, List.set_cons_succ, List.set_cons_zero]
  refine wpAnyH_take (i := 3) (v := ?_) rfl (by kernel_rfl) (by kernel_rfl) (by kernel_rfl) (fun _ _ _ h => h) (Or.inl ⟨by kernel_rfl, ?_⟩) hHeld ?_
  rotate_left
  · intro W hW; go_simp; first | done | with_reducible rfl | rfl
  try simp only [Act.put, List.getElem_toArray, List.getElem_cons_zero, List.getElem_cons_succ, List.setIfInBounds_toArray, List.set_cons_succ, List.set_cons_zero]
  refine wpAnyH_take (i := 4) (v := ?_) rfl (by kernel_rfl) (by kernel_rfl) (by kernel_rfl) (fun _ _ _ h => h) (Or.inl ⟨by kernel_rfl, ?_⟩) hHeld ?_
  rotate_left
  · intro W hW; go_simp; first | done | with_reducible rfl | rfl
  try simp only [Act.put, List.getElem_toArray, List.getElem_cons_zero, List.getElem_cons_succ, List.setIfInBounds_toArray, List.set_cons_succ, List.set_cons_zero]
  refine wpAnyH_take (i := 5) (v := ?_) rfl (by kernel_rfl) (by kernel_rfl) (by kernel_rfl) (fun _ _ _ h => h) (Or.inl ⟨by kernel_rfl, ?_⟩) hHeld ?_
  rotate_left
  · intro W hW; go_simp; first | done | with_reducible rfl | rfl
  try simp only [Act.put, List.getElem_toArray, List.getElem_cons_zero, List.getElem_cons_succ, List.setIfInBounds_toArray, List.set_cons_succ, List.set_cons_zero]
  refine wpAnyH_take (i := 6) (v := .bool true) rfl (by kernel_rfl) (by kernel_rfl) (by kernel_rfl) (fun _ _ _ h => h) (Or.inl ⟨by kernel_rfl, ?_⟩) hHeld ?_
  · intro W hW; go_simp; first | done | with_reducible rfl | rfl
  try simp only [Act.put, List.getElem_toArray, List.getElem_cons_zero, List.getElem_cons_succ, List.setIfInBounds_toArray, List.set_cons_succ, List.set_cons_zero]
  refine wpAnyH_take (i := 7) (v := ?_) rfl (by kernel_rfl) (by kernel_rfl) (by kernel_rfl) (fun _ _ _ h => h) (Or.inl ⟨by kernel_rfl, ?_⟩) hHeld ?_
  rotate_left
  · intro W hW; go_simp; first | done | with_reducible rfl | rfl
  try simp only [Act.put, List.getElem_toArray, List.getElem_cons_zero, List.getElem_cons_succ, List.setIfInBounds_toArray, List.set_cons_succ, List.set_cons_zero]
  refine wpAnyH_take (i := 8) (v := ?_) rfl (by kernel_rfl) (by kernel_rfl) (by kernel_rfl) (fun _ _ _ h => h) (Or.inl ⟨by kernel_rfl, ?_⟩) hHeld ?_
  rotate_left
  · intro W hW; go_simp; first | done | with_reducible rfl | rfl
  try simp only [Act.put, List.getElem_toArray, List.getElem_cons_zero, List.getElem_cons_succ, List.setIfInBounds_toArray, List.set_cons_succ, List.set_cons_zero]
  refine wpAnyH_take (i := 9) (v := .agg (cv c)) rfl (by kernel_rfl) (by kernel_rfl) (by kernel_rfl) (fun _ _ _ h => h) (yields_bx (by kernel_rfl) _ _ _ rfl _ rfl (cv c) (fun W hW => hX.later hW) tyC rfl) hHeld ?_
  try simp only [Act.put, List.getElem_toArray, List.getElem_cons_zero, List.getElem_cons_succ, List.setIfInBounds_toArray, List.set_cons_succ, List.set_cons_zero]
  refine wpAnyH_take (i := 11) (v := .agg (cv c)) rfl (by kernel_rfl) (by kernel_rfl) (by kernel_rfl) (fun _ _ _ h => h) (yields_bx (by kernel_rfl) _ _ _ rfl _ rfl (cv c) (fun W hW => hY.later hW) tyR rfl) hHeld ?_
  try simp only [Act.put, List.getElem_toArray, List.getElem_cons_zero, List.getElem_cons_succ, List.setIfInBounds_toArray, List.set_cons_succ, List.set_cons_zero]
  refine wpAnyH_callB (i := 10) rfl (by kernel_rfl) (by kernel_rfl) (by kernel_rfl) (back_cell c _) hHeld ?_
  intro xc hb4 hHeld
  try simp only [Act.put, List.getElem_toArray, List.getElem_cons_zero, List.getElem_cons_succ, List.setIfInBounds_toArray, List.set_cons_succ, List.set_cons_zero]
  replace hX := hX.later hHeld
  replace hY := hY.later hHeld
  replace hB := hB.trans (hHeld.mono hB.size)
  clear hHeld hb4
  have hHeld : Below xc.heap.size xc xc := Below.refl _ _
  refine wpAnyH_callB (i := 12) rfl (by kernel_rfl) (by kernel_rfl) (by kernel_rfl) (refEq_cell c c _ HO.out HO.out) hHeld ?_
  intro xc hb4 hHeld
  rw [Ce.eq_refl]
  try simp only [Act.put, List.getElem_toArray, List.getElem_cons_zero, List.getElem_cons_succ, List.setIfInBounds_toArray, List.set_cons_succ, List.set_cons_zero]
  replace hX := hX.later hHeld
  replace hY := hY.later hHeld
  replace hB := hB.trans (hHeld.mono hB.size)
  clear hHeld hb4
  have hHeld : Below xc.heap.size xc xc := Below.refl _ _
  refine wpAnyH_take (i := 13) (v := ?_) rfl (by kernel_rfl) (by kernel_rfl) (by kernel_rfl) (fun _ _ _ h => h) (Or.inl ⟨by kernel_rfl, ?_⟩) hHeld ?_
  rotate_left
  · intro W hW; go_simp; first | done | with_reducible rfl | rfl
  try simp only [Act.put, List.getElem_toArray, List.getElem_cons_zero, List.getElem_cons_succ, List.setIfInBounds_toArray, List.set_cons_succ, List.set_cons_zero]
  refine wpAnyH_take (i := 14) (v := ?_) rfl (by kernel_rfl) (by kernel_rfl) (by kernel_rfl) (fun _ _ _ h => h) (Or.inl ⟨by kernel_rfl, ?_⟩) hHeld ?_
  rotate_left
  · intro W hW; go_simp; first | done | with_reducible rfl | rfl
  try simp only [Act.put, List.getElem_toArray, List.getElem_cons_zero, List.getElem_cons_succ, List.setIfInBounds_toArray, List.set_cons_succ, List.set_cons_zero]
  refine wpAnyH_done (by kernel_rfl) ?_ _
  refine NoPanic.normal ?_
  go_simp
  go_wp2_with fail
  go_ret
  exact ⟨rfl, hB⟩

/-- 'b[:h]' behind a guard that stands. -/
theorem wpList_cutG {w : World} {ops : Array Oper} {rest : List Oper} {o : Oper} {a : Act} {Q : Exit → Act → World → Prop} {j s : Nat} {bb : Bool} (hg : o.guard = some (j, bb)) (hj : (ops[j]?).bind (·.dst) = some s) (hsl : a.tmps[s]? = some (.bool bb)) (x y : Operand) (hop : o.op = Op.slice 47 x none (some y) none)
    (v : Value) (zs : List Int) (l : Int) (hx : a.eval x = v) (hy : a.eval y = .int .i64 l) (h : Sl w v zs) (h0 : 0 ≤ l) (h1 : l ≤ zs.length)
    (hK : ∀ V, Sl w V (zs.take l.toNat) → wpList Try.prog ops Q rest (a.put o.dst V) w) : wpList Try.prog ops Q (o :: rest) a w := by
  obtain ⟨V, hr, hV⟩ := h.cut_h h0 h1
  refine wpList_step fun K' hK' => ?_
  rw [if_pos (wanted_of hg hj hsl)]
  unfold Oper.wp
  simp [execOp, hop, hx, hy, hr, Result.andThen]
  exact hK' _ _ (hK V hV)

theorem xor8 (a b : Int) : ∃ z, bits .xor .u8 a b = z ∧ 0 ≤ z ∧ z ≤ 255 := by
  refine ⟨_, rfl, ?_⟩
  show 0 ≤ IntKind.u8.wrap _ ∧ IntKind.u8.wrap _ ≤ 255
  rw [IntKind.wrap_u8]
  omega

theorem rem_at {x : Int} {n : Nat} (h0 : 0 ≤ x) (hn : 0 < n) : ∃ k : Nat, x % (n : Int) = (k : Int) ∧ x.tmod (n : Int) = (k : Int) ∧ k < n := by
  have h1 := Int.emod_nonneg x (show (n : Int) ≠ 0 by omega)
  have h2 := Int.emod_lt_of_pos x (show (0 : Int) < (n : Int) by omega)
  refine ⟨(x % (n : Int)).toNat, by omega, ?_, by omega⟩
  rw [Int.tmod_eq_emod_of_nonneg h0]
  omega
end Go.Proofs.Ytlefhhmggaaiiaa
