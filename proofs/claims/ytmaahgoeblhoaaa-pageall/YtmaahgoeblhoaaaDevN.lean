/-
  Contracts of package dev: New, of; slices.Clone of a row of sectors.
-/
import Derived.Test.YtmaahgoeblhoaaaDevO
import Derived.Laws.MakeOwn
import Derived.Carry
namespace Go.Proofs.Ytmaahgoeblhoaaa
open Go.RowKit Go.Maps

/-- A row of n sectors. -/
structure RowAt (w : World) (bl n cap : Nat) (f : Nat → List Int) : Prop where
  cur : ∃ cur, w.heap[bl]? = some (.cells cur 46 (0, 0)) ∧ cur.size = cap * 64
  room : n ≤ cap
  big : cap ≤ maxLen
  last : ∀ i, i < n → w.rangeAt bl (i * 64) (bv (f i))

theorem RowAt.lt {w : World} {bl n cap : Nat} {f : Nat → List Int} (h : RowAt w bl n cap f) : bl < w.heap.size := by
  obtain ⟨cur, hc, -⟩ := h.cur
  exact blk_lt hc

theorem RowAt.but {w w' : World} {bl n cap : Nat} {f : Nat → List Int} {S : Nat → Prop} (h : RowAt w bl n cap f) (hb : But S w w') (hs : ¬ S bl) : RowAt w' bl n cap f := by
  have hl := h.lt
  obtain ⟨cur, hc, hz⟩ := h.cur
  refine ⟨⟨cur, (hb.block bl hl hs).trans hc, hz⟩, h.room, h.big, fun i hi j v hv => ?_⟩
  rw [hb.cell (p := ⟨bl, i * 64 + j, none⟩) hl hs]
  exact h.last i hi j v hv

theorem RowAt.owns {w : World} {base bl n cap : Nat} {xs : List Value} {f : Nat → List Int} (h : w.ownsRow base 46 64 (.slice (some ⟨bl, 0, none⟩) n cap) n xs) (hf : ∀ i, i < n → (f i).length = 64)
    (hx : ∀ i, i < n → ∀ j v, (bv (f i))[j]? = some v → xs[i * 64 + j]? = some v) : RowAt w bl n cap f := by
  have h' := h
  obtain ⟨hl, h⟩ := h
  rcases h with ⟨e, -⟩ | ⟨g, cap', cur, e, hb, hc, h1, h2, h3, h4⟩
  · simp at e
  · simp at e
    obtain ⟨rfl, rfl⟩ := e
    refine ⟨⟨cur, hc, h3⟩, h1, h2, fun i hi j v hv => ?_⟩
    have hj : j < 64 := by have := (List.getElem?_eq_some_iff.1 hv).1; rw [bv_len, hf i hi] at this; exact this
    rw [h'.cellAt (i * 64 + j) (by have : (i + 1) * 64 ≤ n * 64 := Nat.mul_le_mul_right _ hi; omega)]
    exact hx i hi j v hv

/-- A device out of a row. -/
def ofRow (n : Nat) (f : Nat → List Int) : Dv := { n := n, last := f, loose := fun _ => none, calls := 0, fuse := none }

set_option maxHeartbeats 400000 in
theorem dof_any {w : World} {bl n cap : Nat} {f : Nat → List Int} (h : RowAt w bl n cap f) (hok : (ofRow n f).Ok) :
    Calls Try.prog 16 #[.slice (some ⟨bl, 0, none⟩) n cap] w fun e w' => ∃ g bm, e = .returned (.pointer (some ⟨g, 0, none⟩)) ∧ DevAt w' g bl bm (ofRow n f) ∧ w.heap.size ≤ g ∧ w.heap.size ≤ bm ∧ Below w.heap.size w w' := by
  have H := hide h
  clear h
  have hmm := @run_makeMap Try.prog
  go_enter Try.func16, Try.ntmps16
  go_wp2_with fail
  go_ret
  have hB : Below w.heap.size w ((w.alloc (.map #[] 0)).alloc (.cells #[.slice (some ⟨bl, 0, none⟩) n cap, .map (some w.heap.size), .int .i64 0, .bool false, .int .i64 0] 50)) := ((Below.refl _ _).alloc (Nat.le_refl _) _).alloc (by simp) _
  refine ⟨w.heap.size + 1, w.heap.size, by simp, ?_, by omega, Nat.le_refl _, hB⟩
  have hr := H.out.but (S := fun _ => False) (.of hB) id
  obtain ⟨cur, hc, hz⟩ := hr.cur
  refine ⟨cap, .map [], false, 0, cur, ?_, rfl, hc, hr.room, hr.big, hz, hr.last, ?_, Lo.none, hok⟩
  · have := heap_alloc_last (w.alloc (.map #[] 0)) (.cells #[.slice (some ⟨bl, 0, none⟩) n cap, .map (some w.heap.size), .int .i64 0, .bool false, .int .i64 0] 50)
    rw [show (w.alloc (.map #[] 0)).heap.size = w.heap.size + 1 by simp] at this
    exact this
  · exact ((World.ownsMap_made w Try.prog 3 rd64).alloc _).mono (Nat.zero_le _)

theorem info64b : (Try.prog.info? 46).map (fun i => (i.zero, i.size, i.bytes)) = some (some (.agg (cs nought)), 64, 64) := by kernel_rfl

theorem bv_nought : bv nought = List.replicate 64 (.int .u8 0) := List.map_replicate

theorem made_v {n i j : Nat} {v : Value} (hi : i < n) (hv : (bv nought)[j]? = some v) : (madeCells (cs nought) (n * 64)).toList[i * 64 + j]? = some v := by
  have hj : j < 64 := by have := (List.getElem?_eq_some_iff.1 hv).1; rw [bv_len, sec_nought.1] at this; exact this
  have hl : i * 64 + j < n * 64 := by have : (i + 1) * 64 ≤ n * 64 := Nat.mul_le_mul_right _ hi; omega
  have h64 : (cs nought).size = 64 := cs_size sec_nought
  have hm : (i * 64 + j) % 64 = j := by omega
  rw [← hv]
  simp only [Array.getElem?_toList, madeCells, Array.getElem?_map]
  rw [Array.getElem?_eq_getElem (by simpa using hl)]
  simp only [Array.getElem_range, Option.map_some, h64, hm]
  rw [getElem!_pos (cs nought) j (by omega), List.getElem?_eq_getElem (by rw [bv_len, sec_nought.1]; exact hj)]
  simp only [cs, List.getElem_toArray]

set_option maxHeartbeats 400000 in
theorem new_any (w : World) (n : Nat) (hn1 : 1 ≤ n) (hn2 : n ≤ 2048) :
    Calls Try.prog 7 #[.int .i64 (n : Int)] w fun e w' => ∃ g bl bm, e = .returned (.pointer (some ⟨g, 0, none⟩)) ∧ DevAt w' g bl bm (Dv.new n) ∧ w.heap.size ≤ g ∧ w.heap.size ≤ bl ∧ w.heap.size ≤ bm ∧ Below w.heap.size w w' := by
  obtain ⟨i0, hi, hz0, hz1, hz2⟩ := info_parts info64b
  have Hok := hide (Dv.new_ok hn1 hn2)
  have m1 : (1 : Int) ≤ (n : Int) := by omega
  have m2 : (n : Int) ≤ 2048 := by omega
  go_enter Try.func7, Try.ntmps7
  go_wp2_with (first
    | (at_make; refine wpList_make_full _ rfl _ _ 42 rfl w.heap.size 46 i0 _ 64 Try.underlying42 hi hz0 hz1 _ _ _ _ n rfl rfl rfl rfl (by rw [hz2]; omega) (by unfold maxLen; omega) (Nat.le_refl _) ?_; intro W1 ho1 hg1)
    | (refine (dof_any (f := fun _ => nought) (RowAt.owns ho1 (fun i _ => sec_nought.1) (fun i hi j v hv => made_v hi hv)) Hok.out).mono ?_; rintro e W2 ⟨g, bm, rfl, h2, hg2, hm2, hB2⟩))
  go_ret
  have hb1 : Below w.heap.size w W1 := (Below.refl _ _).grown hg1 (Nat.le_refl _) (fun k hk => by cases hk)
  have s1 := hb1.size
  exact ⟨g, _, bm, rfl, h2, by omega, Nat.le_refl _, by omega, hb1.trans (hB2.mono s1)⟩

/-- The cells of a row. -/
def flat (f : Nat → List Int) (n : Nat) : List Value := (List.range n).flatMap fun i => bv (f i)

theorem flat_succ (f : Nat → List Int) (n : Nat) : flat f (n + 1) = flat f n ++ bv (f n) := by simp [flat, List.range_succ]

theorem flat_len {f : Nat → List Int} : ∀ {n : Nat}, (∀ i, i < n → (f i).length = 64) → (flat f n).length = n * 64
  | 0, _ => rfl
  | n + 1, h => by rw [flat_succ, List.length_append, flat_len fun i hi => h i (by omega), bv_len, h n (by omega)]; omega

theorem flat_get {f : Nat → List Int} {v : Value} {j : Nat} : ∀ {n : Nat}, (∀ i, i < n → (f i).length = 64) → ∀ i, i < n → (bv (f i))[j]? = some v → (flat f n)[i * 64 + j]? = some v
  | 0, _, i, hi, _ => by omega
  | n + 1, h, i, hi, hv => by
    have hj : j < 64 := by have := (List.getElem?_eq_some_iff.1 hv).1; rw [bv_len, h i hi] at this; exact this
    have hl := flat_len (n := n) fun i hi => h i (by omega)
    rw [flat_succ]
    by_cases e : i = n
    · subst e
      rw [List.getElem?_append_right (by omega), hl, Nat.add_sub_cancel_left]
      exact hv
    · have hle : (i + 1) * 64 ≤ n * 64 := Nat.mul_le_mul_right _ (by omega)
      rw [List.getElem?_append_left (by omega)]
      exact flat_get (fun i hi => h i (by omega)) i (by omega) hv

theorem flat_one (f : Nat → List Int) (n : Nat) : ∀ u ∈ flat f n, u.oneCell' = true := by
  intro u hu
  obtain ⟨i, _, hu⟩ := List.mem_flatMap.1 hu
  exact bv_one _ u hu

theorem flat_at {f : Nat → List Int} {w : World} {bl : Nat} : ∀ {n : Nat}, (∀ i, i < n → (f i).length = 64) → (∀ i, i < n → w.rangeAt bl (i * 64) (bv (f i))) → ∀ j u, (flat f n)[j]? = some u → w.cell? ⟨bl, j, none⟩ = some u
  | 0, _, _, j, u, h => by simp [flat] at h
  | n + 1, h, hr, j, u, hu => by
    have hl := flat_len (n := n) fun i hi => h i (by omega)
    rw [flat_succ] at hu
    by_cases e : j < n * 64
    · rw [List.getElem?_append_left (by omega)] at hu
      exact flat_at (fun i hi => h i (by omega)) (fun i hi => hr i (by omega)) j u hu
    · rw [List.getElem?_append_right (by omega), hl] at hu
      have := hr n (by omega) (j - n * 64) u hu
      rw [show n * 64 + (j - n * 64) = j by omega] at this
      exact this

/-- '[]sector{}' is the call's own. -/
theorem ownsNew (w : World) : (w.alloc (.cells #[] 46)).ownsRow w.heap.size 46 64 (.slice (some ⟨w.heap.size, 0, none⟩) 0 0) 0 [] :=
  ⟨by simp, .inr ⟨w.heap.size, 0, #[], rfl, Nat.le_refl _, heap_alloc_last w _, Nat.le_refl _, Nat.zero_le _, rfl, rfl⟩⟩

theorem newSrc {w : World} {bl n cap j : Nat} {u : Value} {f : Nat → List Int} (h : RowAt w bl n cap f) (hf : ∀ i, i < n → (f i).length = 64) (hu : (flat f n)[j]? = some u) : (w.alloc (.cells #[] 46)).cell? ((⟨bl, 0, none⟩ : Addr).add j) = some u := by
  rw [add_plain, Nat.zero_add, World.cell?_alloc_lt _ _ _ h.lt]
  exact flat_at hf h.last j u hu

end Go.Proofs.Ytmaahgoeblhoaaa
