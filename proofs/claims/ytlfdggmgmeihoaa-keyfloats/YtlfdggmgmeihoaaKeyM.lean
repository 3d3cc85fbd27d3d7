/-
  Contracts of strings.Clone and key.Mid over the translated program.
-/
import Derived.Test.YtlfdggmgmeihoaaKeyW
namespace Go.Proofs.Ytlfdggmgmeihoaa
open Go.RowKit

theorem bytes_rest (s : ByteArray) (cur : Array Value) (h : cur.size = s.size) : (cur.toList.take 0 ++ Lib.byteCells s.data.toList ++ cur.toList.drop (0 + s.size)).toArray = (Lib.byteCells s.data.toList).toArray := by
  congr 1
  rw [List.take_zero, List.nil_append, Nat.zero_add, List.drop_of_length_le (by rw [Array.length_toList]; omega), List.append_nil]

set_option maxRecDepth 100000 in
set_option maxHeartbeats 1000000 in
theorem lclone_any (s : ByteArray) (w : World) (hs : s.size ≤ 281474976710656) :
    Calls Try.prog 36 #[.string s] w fun e w' => e = .returned (.string s) ∧ Below w.heap.size w w' := by
  obtain ⟨i0, hi, hz0, hz1, hz2⟩ := info_parts Try.info5
  by_cases h0 : s.size = 0
  · have HE : Hid (s = ⟨#[]⟩) := Ky.list_inj ((List.eq_nil_of_length_eq_zero (by rw [Ky.list_len]; exact h0)).trans (by rw [ByteArray.toList_eq]))
    go_enter Try.func36, Try.ntmps36
    go_wp2_with fail
    go_ret
    exact ⟨by rw [HE.out]; rfl, Below.refl _ _⟩
  · obtain ⟨x2, hmk, ho2, hg2⟩ := run_make_full (P := Try.prog) w w.heap.size 28 5 i0 (.int .u8 0) 1 Try.underlying28 hi hz0 hz1 .i64 .i64 s.size (by rw [hz2]; omega) (by unfold maxLen; omega) (Nat.le_refl _)
    have hb2 : Below w.heap.size w x2 := (Below.refl _ _).grown hg2 (Nat.le_refl _) (fun k hk => by cases hk)
    obtain ⟨g, cap, cur, e, hge, hh, -, -, hsz, -⟩ : ∃ g cap cur, Value.slice (some ⟨w.heap.size, 0, none⟩) s.size s.size = .slice (some ⟨g, 0, none⟩) s.size cap ∧ w.heap.size ≤ g ∧ x2.heap[g]? = some (.cells cur 5 (0, 0)) ∧ s.size ≤ cap ∧ cap ≤ maxLen ∧ cur.size = cap * 1 ∧ True := by
      obtain ⟨_, ⟨e, _⟩ | ⟨g, cap, cur, a1, a2, a3, a4, a5, a6, _⟩⟩ := ho2
      · cases e
      · exact ⟨g, cap, cur, a1, a2, a3, a4, a5, a6, trivial⟩
    injection e with e1 _ e3
    injection e1 with e1
    injection e1 with e1
    subst e3
    rw [Nat.mul_one] at hsz
    have hinfo : (Try.prog.info? 5).map (·.size) = some 1 := by rw [hi]; simp [hz1]
    have hco : Try.prog.cellsOf 5 = 1 := by simp [Program.cellsOf, hi, hz1]
    have hcp := Lib.run_copy_row_string (P := Try.prog) x2 28 9 3 5 g 0 s.size s.size s cur 5 Try.underlying28 hinfo hh (Nat.le_refl _) (by omega)
    rw [bytes_rest s cur hsz] at hcp
    have hY := setRow_heap x2 g cur (Lib.byteCells s.data.toList).toArray 5 (0, 0) hh
    have hYs : (Lib.byteCells s.data.toList).toArray.size = s.size := by simp [Lib.byteCells_length]
    have hne : s.data.toList ≠ [] := fun q => h0 (by rw [Lib.size_eq, q]; rfl)
    have hus := Lib.run_unsafeString_row (P := Try.prog) (x2.setRow g (Lib.byteCells s.data.toList).toArray) 49 3 9 5 Try.underlying49 hco g s.size
      (by unfold World.shape?; rw [hY, ← hYs]) s.data.toList hne (by rw [← Lib.size_eq]; exact Nat.le_refl _) (by rw [← Lib.size_eq]; omega)
      (fun j x hx => Lib.cells_of_row hY s.size j _ (by rw [List.take_of_length_le (by rw [← hYs]; simp)]; simp [Lib.byteCells, hx]))
    rw [← Lib.size_eq] at hus
    have hb3 : Below w.heap.size x2 (x2.setRow g (Lib.byteCells s.data.toList).toArray) := ⟨rfl, rfl, rfl, by simp, fun k hk => setRow_other _ _ _ _ (by omega)⟩
    have hbf := Lib.below_freeze (hb2.trans hb3) (p := ⟨g, 0, none⟩) hge s.size
    rw [e1] at hbf
    have HB := hide hbf
    clear hbf
    rw [e1] at hmk
    clear hb2 hb3 hY hne hYs
    go_enter Try.func36, Try.ntmps36
    go_wp2_with fail
    go_ret
    exact ⟨rfl, HB.out⟩

set_option maxHeartbeats 400000 in
theorem clone_any (s : ByteArray) (w : World) (hs : s.size ≤ 281474976710656) :
    Calls Try.prog 31 #[.string s] w fun e w' => e = .returned (.string s) ∧ Below w.heap.size w w' := by
  go_enter Try.func31, Try.ntmps31
  go_wp2_with fail
  refine (lclone_any s _ hs).mono ?_
  rintro e x ⟨rfl, hb⟩
  go_wp2_with fail
  go_ret
  exact ⟨rfl, hb⟩
end Go.Proofs.Ytlfdggmgmeihoaa
