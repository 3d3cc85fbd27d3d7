/-
  The helpers of the laws of package datum: 'begun' returns true and writes nothing that was there; Val makes a value.
-/
import Derived.Test.YtdooocbkhncmdabDatG
namespace Go.Proofs.Ytdooocbkhncmdab
open Go.RowKit

/-- The cells of a value that was boxed, in every later world. -/
theorem box_at {w W w' : World} {a b c : Value} {t : TypeId} (hW : Below (w.heap.size + 1) (w.alloc (.cells #[a, b, c] t)) W) (hb : Below W.heap.size W w') :
    w'.cell? ⟨w.heap.size, 0, none⟩ = some a ∧ w'.cell? ⟨w.heap.size, 1, none⟩ = some b ∧ w'.cell? ⟨w.heap.size, 2, none⟩ = some c := by
  have h1 := hW.size
  refine box_cells (t := t) ?_
  have e : (w.alloc (.cells #[a, b, c] t)).heap.size = w.heap.size + 1 := by simp
  rw [e] at h1 ⊢
  exact hW.trans (hb.mono h1)

theorem dget_at {v : Value} {zs : List Int} {w : World} {k : Int} {x : Nat} {s : List Int} {n e : Int} (h : Sl w v zs) (he : Dt.get zs = (k, x, s, n, e)) :
    Calls Try.prog 7 #[v] w fun r w' => r = .returned (.tuple #[.agg #[.int .i64 k, .float .f64 x, .string (strOfNums s)], .int .i64 n, .int .i64 e]) ∧ Below w.heap.size w w' := by
  have := dget_any v zs w h
  rw [he] at this
  exact this

/-- Two values that were laid one behind the other. -/
theorem two_boxes {w w' : World} {a b c d e f : Value} {t : TypeId} (hb : Below ((w.alloc (.cells #[a, b, c] t)).alloc (.cells #[d, e, f] t)).heap.size ((w.alloc (.cells #[a, b, c] t)).alloc (.cells #[d, e, f] t)) w') :
    w'.cell? ⟨w.heap.size, 0, none⟩ = some a ∧ w'.cell? ⟨w.heap.size, 1, none⟩ = some b ∧ w'.cell? ⟨w.heap.size, 2, none⟩ = some c ∧
    w'.cell? ⟨w.heap.size + 1, 0, none⟩ = some d ∧ w'.cell? ⟨w.heap.size + 1, 1, none⟩ = some e ∧ w'.cell? ⟨w.heap.size + 1, 2, none⟩ = some f := by
  obtain ⟨h0, h1, h2⟩ := box_at (w := w) (a := a) (b := b) (c := c) (t := t) ((Below.refl _ _).alloc (by simp) _) hb
  obtain ⟨h3, h4, h5⟩ := box_cells hb
  have e : (w.alloc (.cells #[a, b, c] t)).heap.size = w.heap.size + 1 := by simp
  rw [e] at h3 h4 h5
  exact ⟨h0, h1, h2, h3, h4, h5⟩

theorem and6 {a b c d e f r : Prop} (h : a ∧ b ∧ c ∧ d ∧ e ∧ f) (k : r) : a ∧ b ∧ c ∧ d ∧ e ∧ f ∧ r := ⟨h.1, h.2.1, h.2.2.1, h.2.2.2.1, h.2.2.2.2.1, h.2.2.2.2.2, k⟩
theorem put_a : Dt.put 2 0 ⟨#[97]⟩ = [4, 2, 97] := by decide
theorem get_a : Dt.get [4, 2, 97, 7] = (2, 0, [97], 3, 0) := by decide
theorem nums_a : strOfNums [97] = ⟨#[97]⟩ := by decide

set_option maxRecDepth 100000 in
set_option maxHeartbeats 2000000 in
theorem begun_any (w : World) :
    Calls Try.prog 4 #[] w fun e w' => e = .returned (.bool true) ∧ Below w.heap.size w w' := by
  have hsf := st_float
  obtain ⟨i0, hi, hz0, hz1, hz2⟩ := info_parts Try.info5
  go_enter Try.func4, Try.ntmps4
  go_wp2_with fail
  generalize hW : (World.alloc _ _).alloc _ = W0
  have hB0 : Below w.heap.size w W0 := by rw [← hW]; exact ((Below.refl _ _).alloc (Nat.le_refl _) _).alloc (by simp) _
  have HA : Hid (∀ w', Below W0.heap.size W0 w' → _) := fun w' hb => two_boxes (w := w) (w' := w') (by rw [hW]; exact hb)
  clear hW
  refine (dput_any _ [] 2 0 ⟨#[97]⟩ W0 (Sl.nil _) (by decide) (by decide) (by decide) (by decide)).mono ?_
  rintro e x ⟨v1, rfl, ho1, hB⟩
  rw [put_a] at ho1
  have hs1 := hB0.size
  have hsB := hB.size
  go_wp2_with (first
    | (at_builtin; refine wpList_append_own _ rfl _ _ 24 rfl W0.heap.size 5 i0 (.int .u8 0) 1 1 Try.underlying24 hi hz0 hz1 hz2 rfl (by decide) _ _ _ rfl (ho1.alloc _) ⟨x.heap.size, 0, none⟩ 1 1 [.int .u8 7] rfl rfl (cell_one_new _ _ _) (by intro q hq; simp at hq; subst hq; rfl) (by unfold maxLen; simp) (by simp) (by simp; omega) ?_)
    | fail)
  intro v2 w2 ho2 hg2 _
  have hB2 : Below W0.heap.size W0 w2 := (hB.alloc hsB _).grown hg2 (by simp; omega) (fun k hk => (ho1.lt k hk).1)
  have hs2 : Sl w2 v2 [4, 2, 97, 7] := Sl.own ho2 (by decide)
  clear ho1 ho2 hg2 hB
  have hB := hB2
  clear hB2
  obtain ⟨c0, c1, c2, d0, d1, d2⟩ := HA.out _ hB
  go_wp2_with fail
  refine (dget_at hs2 get_a).mono ?_
  rintro e x ⟨rfl, hb⟩
  rw [nums_a]
  replace hB := hB.trans (hb.mono hB.size)
  clear hb c0 c1 c2 d0 d1 d2 hs2 hsB
  generalize hX : x.alloc (Obj.cells #[Value.int IntKind.i64 2, Value.float FloatKind.f64 0, Value.string { data := #[97] }] 27) = X
  have hBX : Below W0.heap.size W0 X := by rw [← hX]; exact hB.alloc hB.size _
  have hbX : Below (x.heap.size + 1) (x.alloc (Obj.cells #[Value.int IntKind.i64 2, Value.float FloatKind.f64 0, Value.string { data := #[97] }] 27)) X := by rw [← hX]; exact Below.refl _ _
  have HA : Hid (∀ w', Below X.heap.size X w' → _) := fun w' hb => and6 (HA.out w' (hBX.trans (hb.mono hBX.size))) (box_at hbX hb)
  have hBw := hB0.trans (hBX.mono hs1)
  clear hB
  have hB : Below X.heap.size X X := Below.refl _ _
  obtain ⟨c0, c1, c2, d0, d1, d2, e0, e1, e2⟩ := HA.out _ hB
  go_wp2_with fail
  refine (may_any 1 4609434218613702656 ⟨#[]⟩ _ (by decide)).mono ?_
  rintro e x ⟨rfl, hb⟩
  rw [show Dt.may 1 4609434218613702656 ⟨#[]⟩ = true by decide]
  replace hB := hB.trans (hb.mono hB.size)
  clear hb c0 c1 c2 d0 d1 d2 e0 e1 e2
  obtain ⟨c0, c1, c2, d0, d1, d2, e0, e1, e2⟩ := HA.out _ hB
  go_wp2_with fail
  refine (may_any 0 0 ⟨#[]⟩ _ (by decide)).mono ?_
  rintro e x ⟨rfl, hb⟩
  rw [show Dt.may 0 0 ⟨#[]⟩ = true by decide]
  replace hB := hB.trans (hb.mono hB.size)
  clear hb c0 c1 c2 d0 d1 d2 e0 e1 e2
  obtain ⟨c0, c1, c2, d0, d1, d2, e0, e1, e2⟩ := HA.out _ hB
  go_wp2_with fail
  refine (may_any 3 0 ⟨#[]⟩ _ (by decide)).mono ?_
  rintro e x ⟨rfl, hb⟩
  rw [show Dt.may 3 0 ⟨#[]⟩ = false by decide]
  replace hB := hB.trans (hb.mono hB.size)
  clear hb c0 c1 c2 d0 d1 d2 e0 e1 e2
  obtain ⟨c0, c1, c2, d0, d1, d2, e0, e1, e2⟩ := HA.out _ hB
  go_wp2_with fail
  refine (may_any 2 4607182418800017408 ⟨#[]⟩ _ (by decide)).mono ?_
  rintro e x ⟨rfl, hb⟩
  rw [show Dt.may 2 4607182418800017408 ⟨#[]⟩ = false by decide]
  replace hB := hB.trans (hb.mono hB.size)
  clear hb c0 c1 c2 d0 d1 d2 e0 e1 e2
  obtain ⟨c0, c1, c2, d0, d1, d2, e0, e1, e2⟩ := HA.out _ hB
  go_wp2_with fail
  refine (eqv_any 1 4609434218613702656 ⟨#[]⟩ 1 4609434218613702656 ⟨#[]⟩ _ (by decide) (by decide)).mono ?_
  rintro e x ⟨rfl, hb⟩
  rw [show Dt.eq 1 4609434218613702656 ⟨#[]⟩ 1 4609434218613702656 ⟨#[]⟩ = true by decide]
  replace hB := hB.trans (hb.mono hB.size)
  clear hb c0 c1 c2 d0 d1 d2 e0 e1 e2
  obtain ⟨c0, c1, c2, d0, d1, d2, e0, e1, e2⟩ := HA.out _ hB
  go_wp2_with fail
  refine (eqv_any 1 4609434218613702656 ⟨#[]⟩ 2 0 ⟨#[97]⟩ _ (by decide) (by decide)).mono ?_
  rintro e x ⟨rfl, hb⟩
  rw [show Dt.eq 1 4609434218613702656 ⟨#[]⟩ 2 0 ⟨#[97]⟩ = false by decide]
  replace hB := hB.trans (hb.mono hB.size)
  clear hb c0 c1 c2 d0 d1 d2 e0 e1 e2
  obtain ⟨c0, c1, c2, d0, d1, d2, e0, e1, e2⟩ := HA.out _ hB
  go_wp2_with fail
  go_ret
  exact ⟨rfl, hBw.trans (hB.mono hBw.size)⟩

end Go.Proofs.Ytdooocbkhncmdab
