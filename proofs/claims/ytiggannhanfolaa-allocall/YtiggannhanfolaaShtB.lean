/-
  Contracts of sheet.is, bytes.Clone, bytes.Equal, engrosslaw9.Of.
-/
import Derived.Test.YtiggannhanfolaaShtA
import Derived.Lib.SliceRun
import Derived.Great.BuildSlice
namespace Go.Proofs.Ytiggannhanfolaa
set_option maxRecDepth 100000
set_option linter.unusedVariables false
open Go.RowKit
set_option linter.unusedVariables false

theorem sis_any (w : World) (z : Int) : Calls Try.prog 23 #[.int .i64 z] w fun e w' => e = .returned (.bool (decide (0 ≤ z) && decide (z < 96))) ∧ w' = w := by
  by_cases h0 : 0 ≤ z
  · have h1 : decide (0 ≤ z) = true := by simpa using h0
    go_enter Try.func23, Try.ntmps23
    go_wp2_with fail
    go_ret
    exact ⟨ret_bool (by simp [h1]), rfl⟩
  · have h1 : decide (0 ≤ z) = false := by simpa using h0
    go_enter Try.func23, Try.ntmps23
    go_wp2_with fail
    go_ret
    exact ⟨ret_bool (by simp), rfl⟩

theorem nums_same {a b : List Int} (ha : ∀ z ∈ a, 0 ≤ z ∧ z ≤ 255) (hb : ∀ z ∈ b, 0 ≤ z ∧ z ≤ 255) : ((strOfNums a).toList == (strOfNums b).toList) = decide (a = b) := by
  rw [Bool.eq_iff_iff]
  simp only [beq_iff_eq, decide_eq_true_eq]
  refine ⟨fun q => ?_, fun q => by rw [q]⟩
  rw [← sb_nums a ha, ← sb_nums b hb]
  congr 1
  apply ByteArray.ext
  apply Array.toList_inj.1
  rw [← ByteArray.toList_eq, ← ByteArray.toList_eq, q]

theorem equal_any {w : World} {v u : Value} {x y : List Int} (h : Sl w v x) (k : Sl w u y) :
    Calls Try.prog 29 #[v, u] w fun e w' => e = .returned (.bool (decide (x = y))) ∧ w' = w := by
  go_enter Try.func29, Try.ntmps29
  go_wp2_with (first
    | (refine wpList_conv rfl _ 25 9 5 rfl Try.underlying25 Try.underlying5 Try.underlying9 _ _ rfl h ?_)
    | (refine wpList_conv rfl _ 25 9 5 rfl Try.underlying25 Try.underlying5 Try.underlying9 _ _ rfl k ?_))
  go_ret
  exact ⟨ret_bool (by rw [nums_same h.bd k.bd]), rfl⟩

theorem own_none (w : World) (e : TypeId) : (w.alloc (.cells #[] e)).ownsRow w.heap.size e 1 (.slice (some ⟨w.heap.size, 0, none⟩) 0 0) 0 (bv []) :=
  ⟨rfl, .inr ⟨_, 0, #[], rfl, Nat.le_refl _, heap_alloc_new w _, Nat.le_refl _, by unfold maxLen; omega, rfl, rfl⟩⟩

set_option maxHeartbeats 1000000 in
theorem clone_any {w : World} {v : Value} {zs : List Int} (h : Sl w v zs) (hz : Pg zs) :
    Calls Try.prog 24 #[v] w fun e w' => ∃ r, e = .returned r ∧ w'.ownsRow w.heap.size 5 1 r 256 (bv zs) ∧ Below w.heap.size w w' := by
  have qT : ∀ (w : World) (a : Option Addr) (n c n' c' : Nat), (binOp .eql 25 (.slice a n c) (.slice none n' c')).run Try.prog w = .ok (.bool a.isNone) w := fun w a n c n' c' => Lib.run_eql_slice_nil w _ _ a n c n' c' Try.underlying25
  obtain ⟨p, n, cp, rfl, hnc, hcp, Hn, HV⟩ := h.opens
  obtain rfl : n = 256 := by rw [Hn.out, hz.1]
  obtain ⟨b, off, rfl, -⟩ := HV.out.cell (i := 0) (by omega)
  clear h Hn
  have HZ := hide hz
  have hB : Below w.heap.size w (w.alloc (.cells #[] 5)) := (Below.refl _ _).alloc (Nat.le_refl _) _
  clear hz
  go_enter Try.func24, Try.ntmps24
  go_wp2_with (first
    | (at_builtin; (refine wpList_append_sl rfl (.tmp 5) (.tmp 6) 25 rfl w.heap.size 5 Try.underlying25 Try.info5 _ 0 [] rfl (own_none w _) _ zs rfl (HV.out.later hB) (by rw [HZ.out.1]; omega) hB.size ?_; intro v' w' ho' hg'; have hB' : Below w.heap.size w w' := hB.grown hg' hB.size (fun k hk => Nat.le_of_eq (Option.some.inj hk)))))
  go_ret
  rw [HZ.out.1] at ho'
  exact ⟨_, rfl, ho', hB'⟩
end Go.Proofs.Ytiggannhanfolaa
