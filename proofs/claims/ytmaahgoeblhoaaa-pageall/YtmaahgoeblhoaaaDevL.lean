/-
  Contract of package dev: Loose: the loose sectors, rising.
-/
import Derived.Test.YtmaahgoeblhoaaaDevK
import Derived.Test.YtmaahgoeblhoaaaDevW
namespace Go.Proofs.Ytmaahgoeblhoaaa
open Go.RowKit Go.Maps Go.Sort Go.Shelf

/-- The loose ones as the walk has them. -/
def li (l : List Nat) : List Value := l.map fun i : Nat => .int .i64 (i : Int)

theorem li_len (l : List Nat) : (li l).length = l.length := by simp [li]

theorem sorts (m : Nat) : AnyZI.SortsIn Try.prog sortedA_ren Fence.wide m :=
  ⟨fun blk off cap ss W hH hblk hsz => callsIn_wide.2 (AnyM.slices_Sort_int sortA blk off cap ss W hH hblk hsz),
   fun p cap W => callsIn_wide.2 (AnyM.slices_Sort_int_none sortA p cap W)⟩

theorem sorted_los {d : Dv} {ss : List Int} (h : ss.Perm (d.los.map fun i : Nat => (i : Int))) : (ss.mergeSort fun x y => decide (x ≤ y)) = d.los.map fun i : Nat => (i : Int) := by
  rw [show (ss.mergeSort fun x y => decide (x ≤ y)) = _ from mergeSort_of_perm_i h]
  refine List.mergeSort_of_pairwise ?_
  refine List.pairwise_map.2 ((Dv.los_sorted d).imp fun {a b} h => ?_)
  simp
  omega

set_option maxHeartbeats 1000000 in
theorem loose_any {w : World} {g bl bm : Nat} {d : Dv} (h : DevAt w g bl bm d) :
    Calls Try.prog 15 #[.pointer (some ⟨g, 0, none⟩)] w fun e w' => ∃ v, e = .returned v ∧ w'.ownsRow w.heap.size 3 1 v d.los.length (li d.los) ∧ Below w.heap.size w w' := by
  obtain ⟨cap, D, fu, le, cur, h⟩ := h
  obtain ⟨-, c1, -, -, -⟩ := h.cells
  have hown := h.map
  have hp := lo_perm hown h.lo h.ok
  have hmost := h.ok.most
  have hsz : Maps.size D ≤ d.n := hown.size_le
  have hmax : Maps.size D ≤ maxLen := by unfold maxLen; omega
  have hbytes : Maps.size D * 8 ≤ 140737488355328 := by omega
  clear h
  refine (callsIn_wide (n := 6)).1 ?_
  have hbl := hown.lt
  have hseq : SeqGives Fence.wide 2 Try.prog 27 #[.pointer (some ⟨w.heap.size, 0, none⟩)] encZ (fun ss => ss.Perm (intKeys D)) (Maps.size D) (w.alloc (.cells #[.map (some bm)] 48)) :=
    AnyZI.keys_gives (ρ := keysA_ren) { keysA with } Fence.wide _ trivial rfl (by omega) w.heap.size bm d.n D _ (by simp) (by simp) (by
      obtain ⟨es, clock, hb, Ft, hs, hD⟩ := hown
      exact ⟨es, clock, (Below.heap_alloc _ _ bm hbl).trans hb, Ft, hs, hD⟩)
  have cK : ∀ mb W, CallsIn Fence.wide 5 Try.prog 24 #[.map mb] W fun e w' => e = .returned (.func (.func 27) #[] #[.pointer (some ⟨W.heap.size, 0, none⟩)]) ∧ w' = W.alloc (.cells #[.map mb] 48) := fun mb W => AnyZI.keys_in keysA Fence.wide 5 trivial rfl mb W
  have cS := AnyZI.sorted_in sortedA Fence.wide 5 trivial trivial trivial trivial rfl (by omega) (sorts _) (enters_of Try.func26 (by kernel_rfl) rfl) 27 #[.pointer (some ⟨w.heap.size, 0, none⟩)] trivial (enters_of Try.func27 (by kernel_rfl) rfl) _ _ hmax hbytes _ hseq
  change CallsIn _ _ Try.prog 23 _ _ _ at cS
  have hfK : Fence.wide.fn 24 := trivial
  have hfS : Fence.wide.fn 23 := trivial
  have HP := hide hp
  clear hp hown hsz hmax hbytes hseq hmost hbl
  refine callsIn_of_wp Try.func15 rfl trivial ?_ rfl
  simp only [Try.ntmps15, List.size_toArray, List.length_cons, List.length_nil, Nat.reduceAdd, Nat.reduceSub, Array.replicate_succ, Array.replicate_zero, List.push_toArray, List.append_toArray, List.nil_append, List.cons_append]
  gi_wp2_with (first
    | (gi_at_call 24; refine (cK _ _).mono ?_; rintro e w' ⟨rfl, rfl⟩)
    | (gi_at_call 23; refine cS.mono ?_; rintro e w' ⟨v, ss, rfl, hS, hrow, hnil, hb⟩))
  go_ret
  have hl : ss.length = d.los.length := by have := hS.length_eq; rw [this, ← HP.out.length_eq]; simp
  refine ⟨v, rfl, ?_, ((Below.refl _ w).alloc (Nat.le_refl _) _).trans (hb.mono (by simp))⟩
  have hr : w'.ownsRow w.heap.size 3 1 v ss.length (List.map encZ (ss.mergeSort fun x y => decide (x ≤ y))) := ownsRow_base_a hrow (by simp)
  rw [sorted_los (hS.trans HP.out.symm), hl] at hr
  rw [List.map_map] at hr
  exact hr

theorem loose_nil (w : World) : Calls Try.prog 15 #[.pointer none] w fun e w' => e = .returned (.slice none 0 0) ∧ w' = w := by
  go_enter Try.func15, Try.ntmps15
  go_wp2_with fail
  go_ret
  exact ⟨rfl, rfl⟩
end Go.Proofs.Ytmaahgoeblhoaaa
