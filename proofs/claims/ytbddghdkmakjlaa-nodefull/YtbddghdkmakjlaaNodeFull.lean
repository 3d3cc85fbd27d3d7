/-
  For every two ints n and text NodeFull returns true: a leaf of n cells (0 to 60) with keys of two letters and texts of that length (0 to 20) has the size that the document says, and Encode takes it just if that is at most 256, else it tells ErrFull. No condition.
-/
import Derived.Test.YtbddghdkmakjlaaRows
import Derived.WalkKit
import Derived.ProofKit
import Derived.OpenShut
import Derived.ShutString
import Derived.ChangeOld
import Derived.Below
import Derived.Test.YtbddghdkmakjlaaNodH
import Derived.Test.YtbddghdkmakjlaaNodC
import Derived.Test.YtbddghdkmakjlaaLae
import Derived.Test.YtbddghdkmakjlaaNodV
import Derived.Test.YtbddghdkmakjlaaOnn
import Derived.Test.YtbddghdkmakjlaaKry
namespace Go.Proofs.Ytbddghdkmakjlaa.nodeFull
open Go.ChangeShapes Go.WideShapes Go.ChangeAt Go.RowKit
open Go.ChangeMaps (open_string shut_string)
set_option linter.unusedVariables false

theorem own : ownKnob Try.prog.godebug = none := by kernel_rfl
theorem laidOut : laidOutB Try.prog = true := by kernel_rfl

set_option maxRecDepth 100000 in
set_option maxHeartbeats 8000000 in
theorem walk (a0 a1 : Int) (w : World) (w0 : (Lit.int .i64 a0).wf = true) (w1 : (Lit.int .i64 a1).wf = true) :
    Calls Try.prog 6 #[.int .i64 a0, .int .i64 a1] w fun e w' => e = .returned (.bool true) ∧ Below w.heap.size w w' := by
  clear w0 w1
  cases h1 : decide (a0 < 0)
  case true =>
    go_enter Try.func6, Try.ntmps6
    go_wp2_with fail
    refine (nbegun_any _).mono ?_
    rintro e W1 ⟨rfl, hB⟩
    go_wp2_with fail
    go_ret
    exact ⟨rfl, hB⟩
  cases h2 : decide (60 < a0)
  case true =>
    go_enter Try.func6, Try.ntmps6
    go_wp2_with fail
    refine (nbegun_any _).mono ?_
    rintro e W1 ⟨rfl, hB⟩
    go_wp2_with fail
    go_ret
    exact ⟨rfl, hB⟩
  cases h3 : decide (a1 < 0)
  case true =>
    go_enter Try.func6, Try.ntmps6
    go_wp2_with fail
    refine (nbegun_any _).mono ?_
    rintro e W1 ⟨rfl, hB⟩
    go_wp2_with fail
    go_ret
    exact ⟨rfl, hB⟩
  cases h4 : decide (20 < a1)
  case true =>
    go_enter Try.func6, Try.ntmps6
    go_wp2_with fail
    refine (nbegun_any _).mono ?_
    rintro e W1 ⟨rfl, hB⟩
    go_wp2_with fail
    go_ret
    exact ⟨rfl, hB⟩
  obtain ⟨n, rfl⟩ : ∃ n : Nat, a0 = (n : Int) := ⟨a0.toNat, by have := of_decide_eq_false h1; omega⟩
  obtain ⟨t, rfl⟩ : ∃ t : Nat, a1 = (t : Int) := ⟨a1.toNat, by have := of_decide_eq_false h3; omega⟩
  have HL := hide (show n ≤ 60 ∧ t ≤ 20 by have := of_decide_eq_false h2; have := of_decide_eq_false h4; omega)
  go_enter Try.func6, Try.ntmps6
  have hB : Below w.heap.size w w := Below.refl _ _
  go_upto_region 0 with fail
  refine kl_start 88 (by kernel_rfl) ?_
  refine kl_take 0 (some 4) ((Value.bool false)) (by kernel_rfl) (by kernel_rfl) (by kernel_rfl) (by kernel_rfl) ?_
  refine kl_done (by kernel_rfl) (fun y1 => #[.int .i64 (n : Int), .int .i64 (t : Int), undef, undef, (Value.bool false), undef, undef, undef, undef, undef, undef, undef, undef, undef, undef, undef, undef, undef, undef, undef, undef, undef, undef, undef, undef, undef, undef, undef, undef, undef, undef, undef, undef, undef, undef, undef, undef, undef, undef, undef, undef, undef, undef, undef, undef, undef, undef, undef, undef, undef, undef, undef, undef, undef, undef, undef, undef, undef, undef, undef, undef, undef, undef, undef, undef, undef, undef, undef, undef, undef, undef, undef, undef, undef, undef, undef, undef, undef, undef, undef, undef, undef, undef, undef, undef, undef, undef, undef]) (by kernel_rfl) ?_
  intro y1
  go_upto_region 1 with fail
  refine kl_start 88 (by kernel_rfl) ?_
  refine kl_callx 0 (some 12) (by kernel_rfl) (by kernel_rfl) (by kernel_rfl) (by kernel_rfl) (nbegun_any _) ?_
  rintro e x ⟨rfl, hb⟩
  refine ⟨_, rfl, ?_⟩
  replace hB := hB.trans (hb.mono hB.size)
  clear hb
  refine kl_take 1 (some 5) (.bool true) (by kernel_rfl) (by kernel_rfl) (by kernel_rfl) (by kernel_rfl) ?_
  refine kl_done (by kernel_rfl) (fun y2 => #[.int .i64 (n : Int), .int .i64 (t : Int), undef, undef, (Value.bool false), .bool true, undef, undef, undef, undef, undef, undef, .bool true, undef, undef, undef, undef, undef, undef, undef, undef, undef, undef, undef, undef, undef, undef, undef, undef, undef, undef, undef, undef, undef, undef, undef, undef, undef, undef, undef, undef, undef, undef, undef, undef, undef, undef, undef, undef, undef, undef, undef, undef, undef, undef, undef, undef, undef, undef, undef, undef, undef, undef, undef, undef, undef, undef, undef, undef, undef, undef, undef, undef, undef, undef, undef, undef, undef, undef, undef, undef, undef, undef, undef, undef, undef, undef, undef]) (by kernel_rfl) ?_
  intro y2
  go_upto_region 2 with fail
  refine kl_start 88 (by kernel_rfl) ?_
  refine kl_take 0 (some 13) (.bool true) (by kernel_rfl) (by kernel_rfl) (by kernel_rfl) (by kernel_rfl) ?_
  refine kl_take 1 (some 14) (.bool false) (by kernel_rfl) (by kernel_rfl) (by kernel_rfl) (by kernel_rfl) ?_
  refine kl_done (by kernel_rfl) (fun y3 => #[.int .i64 (n : Int), .int .i64 (t : Int), undef, undef, (Value.bool false), .bool true, undef, undef, undef, undef, undef, undef, .bool true, .bool true, .bool false, undef, undef, undef, undef, undef, undef, undef, undef, undef, undef, undef, undef, undef, undef, undef, undef, undef, undef, undef, undef, undef, undef, undef, undef, undef, undef, undef, undef, undef, undef, undef, undef, undef, undef, undef, undef, undef, undef, undef, undef, undef, undef, undef, undef, undef, undef, undef, undef, undef, undef, undef, undef, undef, undef, undef, undef, undef, undef, undef, undef, undef, undef, undef, undef, undef, undef, undef, undef, undef, undef, undef, undef, undef]) (by kernel_rfl) ?_
  intro y3
  go_upto_region 4 with fail
  refine kl_start 88 (by kernel_rfl) ?_
  refine kl_take 0 (some 15) (.int .i64 (n : Int)) (by kernel_rfl) (by kernel_rfl) (by kernel_rfl) (by kernel_rfl) ?_
  refine kl_test 1 (some 16) false (by kernel_rfl) (by kernel_rfl) (by kernel_rfl) (h1) (by kernel_rfl) ?_
  refine kl_take 2 (some 17) (.bool false) (by kernel_rfl) (by kernel_rfl) (by kernel_rfl) (by kernel_rfl) ?_
  refine kl_take 3 (some 18) (.int .i64 (n : Int)) (by kernel_rfl) (by kernel_rfl) (by kernel_rfl) (by kernel_rfl) ?_
  refine kl_test 4 (some 19) false (by kernel_rfl) (by kernel_rfl) (by kernel_rfl) (h2) (by kernel_rfl) ?_
  refine kl_take 5 (some 20) (.bool false) (by kernel_rfl) (by kernel_rfl) (by kernel_rfl) (by kernel_rfl) ?_
  refine kl_take 6 (some 21) (.bool false) (by kernel_rfl) (by kernel_rfl) (by kernel_rfl) (by kernel_rfl) ?_
  refine kl_take 7 (some 22) (.int .i64 (t : Int)) (by kernel_rfl) (by kernel_rfl) (by kernel_rfl) (by kernel_rfl) ?_
  refine kl_test 8 (some 23) false (by kernel_rfl) (by kernel_rfl) (by kernel_rfl) (h3) (by kernel_rfl) ?_
  refine kl_take 9 (some 24) (.bool false) (by kernel_rfl) (by kernel_rfl) (by kernel_rfl) (by kernel_rfl) ?_
  refine kl_take 10 (some 25) (.bool false) (by kernel_rfl) (by kernel_rfl) (by kernel_rfl) (by kernel_rfl) ?_
  refine kl_take 11 (some 26) (.int .i64 (t : Int)) (by kernel_rfl) (by kernel_rfl) (by kernel_rfl) (by kernel_rfl) ?_
  refine kl_test 12 (some 27) false (by kernel_rfl) (by kernel_rfl) (by kernel_rfl) (h4) (by kernel_rfl) ?_
  refine kl_take 13 (some 28) (.bool false) (by kernel_rfl) (by kernel_rfl) (by kernel_rfl) (by kernel_rfl) ?_
  refine kl_done (by kernel_rfl) (fun y4 => #[.int .i64 (n : Int), .int .i64 (t : Int), undef, undef, (Value.bool false), .bool true, undef, undef, undef, undef, undef, undef, .bool true, .bool true, .bool false, .int .i64 (n : Int), .bool false, .bool false, .int .i64 (n : Int), .bool false, .bool false, .bool false, .int .i64 (t : Int), .bool false, .bool false, .bool false, .int .i64 (t : Int), .bool false, .bool false, undef, undef, undef, undef, undef, undef, undef, undef, undef, undef, undef, undef, undef, undef, undef, undef, undef, undef, undef, undef, undef, undef, undef, undef, undef, undef, undef, undef, undef, undef, undef, undef, undef, undef, undef, undef, undef, undef, undef, undef, undef, undef, undef, undef, undef, undef, undef, undef, undef, undef, undef, undef, undef, undef, undef, undef, undef, undef, undef]) (by kernel_rfl) ?_
  intro y4
  clear h1 h2 h3 h4
  go_upto_region 6 with fail
  refine kl_start 88 (by kernel_rfl) ?_
  refine kl_build 0 (some 29) (nv true (.slice none 0 0) (.slice none 0 0) (.slice none 0 0)) 26 #[(0, .const (.bool true))] (by kernel_rfl) (by kernel_rfl) (by kernel_rfl) (by kernel_rfl) (by kernel_rfl) ?_
  refine kl_new 1 (some 6) 26 _ (by kernel_rfl) (by kernel_rfl) (by kernel_rfl) (by kernel_rfl) tyM ?_
  intro W2 hb hX0
  have hBp := hb
  generalize hbx : x.heap.size = bx at *
  generalize hBB : W2.heap.size = B at *
  refine kl_put 2 26 _ (.tmp 6) (.tmp 29) _ (nv true (.slice none 0 0) (.slice none 0 0) (.slice none 0 0)) _ (by kernel_rfl) (by kernel_rfl) (by kernel_rfl) (by kernel_rfl) (by kernel_rfl) (by kernel_rfl) hX0 tyM rfl rfl (nv3_one _ _ _ _ _ _ _ _ _) ?_
  intro W3 hb3 hs3 hX3
  have HS : Hid (Xst w W3 B bx (nv true (.slice none 0 0) (.slice none 0 0) (.slice none 0 0))) := hide ⟨hX3, by omega, Below.but (hB.trans (hb.mono (by have := hB.size; omega))) (by have := hB.size; have := hX0.lt; omega) hb3 (fun k e => by have := hB.size; omega), by have := hX0.lt; omega, by have := hB.size; omega⟩
  clear hX0 hb hBp hb3 hX3 hs3 hB hbx hBB
  refine kl_done (by kernel_rfl) (fun y5 => #[.int .i64 (n : Int), .int .i64 (t : Int), undef, undef, (Value.bool false), .bool true, .pointer (some ⟨bx, 0, none⟩), undef, undef, undef, undef, undef, .bool true, .bool true, .bool false, .int .i64 (n : Int), .bool false, .bool false, .int .i64 (n : Int), .bool false, .bool false, .bool false, .int .i64 (t : Int), .bool false, .bool false, .bool false, .int .i64 (t : Int), .bool false, .bool false, .agg (nv true (.slice none 0 0) (.slice none 0 0) (.slice none 0 0)), undef, undef, undef, undef, undef, undef, undef, undef, undef, undef, undef, undef, undef, undef, undef, undef, undef, undef, undef, undef, undef, undef, undef, undef, undef, undef, undef, undef, undef, undef, undef, undef, undef, undef, undef, undef, undef, undef, undef, undef, undef, undef, undef, undef, undef, undef, undef, undef, undef, undef, undef, undef, undef, undef, undef, undef, undef, undef]) (by kernel_rfl) ?_
  intro y5
  go_upto_region 7 with fail
  refine kl_start 88 (by kernel_rfl) ?_
  refine kl_take 0 (some 7) ((Value.int IntKind.i64 0)) (by kernel_rfl) (by kernel_rfl) (by kernel_rfl) (by kernel_rfl) ?_
  refine kl_done (by kernel_rfl) (fun y6 => #[.int .i64 (n : Int), .int .i64 (t : Int), undef, undef, (Value.bool false), .bool true, .pointer (some ⟨bx, 0, none⟩), (Value.int IntKind.i64 0), undef, undef, undef, undef, .bool true, .bool true, .bool false, .int .i64 (n : Int), .bool false, .bool false, .int .i64 (n : Int), .bool false, .bool false, .bool false, .int .i64 (t : Int), .bool false, .bool false, .bool false, .int .i64 (t : Int), .bool false, .bool false, .agg (nv true (.slice none 0 0) (.slice none 0 0) (.slice none 0 0)), undef, undef, undef, undef, undef, undef, undef, undef, undef, undef, undef, undef, undef, undef, undef, undef, undef, undef, undef, undef, undef, undef, undef, undef, undef, undef, undef, undef, undef, undef, undef, undef, undef, undef, undef, undef, undef, undef, undef, undef, undef, undef, undef, undef, undef, undef, undef, undef, undef, undef, undef, undef, undef, undef, undef, undef, undef, undef]) (by kernel_rfl) ?_
  intro y6
  go_wp2_with fail
  go_loopw [7] (fun i wr => ∃ (j : Nat) (vc : Value), j ≤ n ∧ i = .int .i64 j ∧ Hid (wr.ownsRow B 56 8 vc j (cc (celsF t j))) ∧ Hid (Xst w wr B bx (nv true vc (.slice none 0 0) (.slice none 0 0)))) (fun i _ => n - (intOf i).toNat)
  case atStart => exact ⟨0, .slice none 0 0, by omega, rfl, World.ownsRow_nil _ _ _ _, HS⟩
  case round =>
    obtain ⟨j, vc, hj0, rfl, HC, HX⟩ := hrel
    clear HS
    have hj20 := HL.out
    by_cases hj : j < n
    · skip
      go_upto_region 8 with fail
      refine kl_start 88 (by kernel_rfl) ?_
      refine kl_take 0 (some 30) (.int .i64 (j : Int)) (by kernel_rfl) (by kernel_rfl) (by kernel_rfl) (by kernel_rfl) ?_
      refine kl_take 1 (some 31) (.int .i64 (n : Int)) (by kernel_rfl) (by kernel_rfl) (by kernel_rfl) (by kernel_rfl) ?_
      refine kl_test 2 (some 32) true (by kernel_rfl) (by kernel_rfl) (by kernel_rfl) (show decide ((j : Int) < (n : Int)) = true by simp; omega) (by kernel_rfl) ?_
      refine kl_done (by kernel_rfl) (fun z7 => #[.int .i64 (n : Int), .int .i64 (t : Int), undef, undef, (Value.bool false), .bool true, .pointer (some ⟨bx, 0, none⟩), .int .i64 (j : Int), u8, undef, undef, undef, .bool true, .bool true, .bool false, .int .i64 (n : Int), .bool false, .bool false, .int .i64 (n : Int), .bool false, .bool false, .bool false, .int .i64 (t : Int), .bool false, .bool false, .bool false, .int .i64 (t : Int), .bool false, .bool false, .agg (nv true (.slice none 0 0) (.slice none 0 0) (.slice none 0 0)), .int .i64 (j : Int), .int .i64 (n : Int), .bool true, u33, u34, u35, u36, u37, u38, u39, u40, u41, u42, u43, u44, u45, u46, u47, u48, u49, u50, u51, u52, u53, u54, u55, undef, undef, undef, undef, undef, undef, undef, undef, undef, undef, undef, undef, undef, undef, undef, undef, undef, undef, undef, undef, undef, undef, undef, undef, undef, undef, undef, undef, undef, undef, undef, undef]) (by kernel_rfl) ?_
      intro z7
      have hq1 : (j : Int).tdiv 26 = ((j / 26 : Nat) : Int) := by rw [Int.tdiv_eq_ediv_of_nonneg (by omega)]; omega
      have hq2 : (j : Int).tmod 26 = ((j % 26 : Nat) : Int) := by rw [Int.tmod_eq_emod_of_nonneg (by omega)]; omega
      have hw0 : IntKind.i64.wrap ((j / 26 : Nat) : Int) = ((j / 26 : Nat) : Int) := by rw [IntKind.wrap_i64]; omega
      have hw1 : IntKind.i64.wrap (97 + ((j / 26 : Nat) : Int)) = 97 + ((j / 26 : Nat) : Int) := by rw [IntKind.wrap_i64]; omega
      have hw2 : IntKind.i64.wrap (97 + ((j % 26 : Nat) : Int)) = 97 + ((j % 26 : Nat) : Int) := by rw [IntKind.wrap_i64]; omega
      have hw3 : IntKind.u8.wrap (97 + ((j / 26 : Nat) : Int)) = 97 + ((j / 26 : Nat) : Int) := by rw [IntKind.wrap_u8]; omega
      have hw4 : IntKind.u8.wrap (97 + ((j % 26 : Nat) : Int)) = 97 + ((j % 26 : Nat) : Int) := by rw [IntKind.wrap_u8]; omega
      have hd1 : j / 26 ≤ 2 := by omega
      have hd2 : j % 26 ≤ 25 := by omega
      generalize hn1 : j / 26 = d1 at *
      generalize hn2 : j % 26 = d2 at *
      go_upto_region 10 with fail
      obtain ⟨Q0, HQ0⟩ : ∃ Q0 : Exit → Act → World → Prop, Hid (Q0 = fun e a' w' => e = Exit.normal ∧ ∃ b, ∃ x : Nat → Value, a' = ({ tmps := #[.int .i64 (n : Int), .int .i64 (t : Int), undef, undef, (Value.bool false), .bool true, .pointer (some ⟨bx, 0, none⟩), .int .i64 (j : Int), .pointer (some ⟨b, 0, none⟩), undef, undef, undef, .bool true, .bool true, .bool false, .int .i64 (n : Int), .bool false, .bool false, .int .i64 (n : Int), .bool false, .bool false, .bool false, .int .i64 (t : Int), .bool false, .bool false, .bool false, .int .i64 (t : Int), .bool false, .bool false, .agg (nv true (.slice none 0 0) (.slice none 0 0) (.slice none 0 0)), .int .i64 (j : Int), .int .i64 (n : Int), .bool true, u33, u34, x 35, x 36, x 37, x 38, x 39, x 40, x 41, x 42, x 43, x 44, x 45, x 46, x 47, x 48, x 49, u50, u51, u52, u53, u54, u55, undef, undef, undef, undef, undef, undef, undef, undef, undef, undef, undef, undef, undef, undef, undef, undef, undef, undef, undef, undef, undef, undef, undef, undef, undef, undef, undef, undef, undef, undef, undef, undef], defers := [] } : Act) ∧ Hid (Bx w' b (cv ⟨strOfNums [97 + (d1 : Int), 97 + (d2 : Int)], ⟨2, 0, strOfNums (List.replicate t 0)⟩, 0, Va.zero⟩)) ∧ Hid (Below wr.heap.size wr w')) := ⟨_, rfl⟩
      refine Code.wp_mono (Q := Q0) ?cont ?_
      rotate_left
      · skip
        refine wp_region_noPanic ?_
        refine wp_region_P 16 (fun W => Below wr.heap.size wr W) (by kernel_rfl) (Below.refl _ _).drew (fun hHeld => ?_)
        have hG : Below wr.heap.size wr wr.drew := (Below.refl _ _).drew
        generalize wr.drew = Z at *
        refine wpAnyP_takeU (i := 0) (v := ?_) rfl (by kernel_rfl) (by kernel_rfl) (by kernel_rfl) (by decide) (fun _ _ _ h => h) (Or.inl ⟨by kernel_rfl, ?_⟩) hHeld ?_
        rotate_left
        · intro W hW; clear hW; go_simp; first | done | with_reducible rfl | rfl
        try simp only [Act.put, List.getElem_toArray, List.getElem_cons_zero, List.setIfInBounds_toArray, List.set_cons_succ, List.set_cons_zero]
        refine wpAnyP_takeU (i := 1) (v := .int .i64 (d1 : Int)) rfl (by kernel_rfl) (by kernel_rfl) (by kernel_rfl) (by decide) (fun _ _ _ h => h) (Or.inl ⟨by kernel_rfl, ?_⟩) hHeld ?_
        · intro W hW; clear hW; go_simp; first | done | with_reducible rfl | rfl
        try simp only [Act.put, List.getElem_toArray, List.getElem_cons_zero, List.getElem_cons_succ, List.setIfInBounds_toArray, List.set_cons_succ, List.set_cons_zero]
        refine wpAnyP_takeU (i := 2) (v := .int .i64 (97 + (d1 : Int))) rfl (by kernel_rfl) (by kernel_rfl) (by kernel_rfl) (by decide) (fun _ _ _ h => h) (Or.inl ⟨by kernel_rfl, ?_⟩) hHeld ?_
        · intro W hW; clear hW; go_simp; first | done | with_reducible rfl | rfl
        try simp only [Act.put, List.getElem_toArray, List.getElem_cons_zero, List.getElem_cons_succ, List.setIfInBounds_toArray, List.set_cons_succ, List.set_cons_zero]
        refine wpAnyP_takeU (i := 3) (v := .int .u8 (97 + (d1 : Int))) rfl (by kernel_rfl) (by kernel_rfl) (by kernel_rfl) (by decide) (fun _ _ _ h => h) (Or.inl ⟨by kernel_rfl, ?_⟩) hHeld ?_
        · intro W hW; clear hW; go_simp; first | done | with_reducible rfl | rfl
        try simp only [Act.put, List.getElem_toArray, List.getElem_cons_zero, List.getElem_cons_succ, List.setIfInBounds_toArray, List.set_cons_succ, List.set_cons_zero]
        refine wpAnyP_takeU (i := 4) (v := ?_) rfl (by kernel_rfl) (by kernel_rfl) (by kernel_rfl) (by decide) (fun _ _ _ h => h) (Or.inl ⟨by kernel_rfl, ?_⟩) hHeld ?_
        rotate_left
        · intro W hW; clear hW; go_simp; first | done | with_reducible rfl | rfl
        try simp only [Act.put, List.getElem_toArray, List.getElem_cons_zero, List.getElem_cons_succ, List.setIfInBounds_toArray, List.set_cons_succ, List.set_cons_zero]
        refine wpAnyP_takeU (i := 5) (v := .int .i64 (d2 : Int)) rfl (by kernel_rfl) (by kernel_rfl) (by kernel_rfl) (by decide) (fun _ _ _ h => h) (Or.inl ⟨by kernel_rfl, ?_⟩) hHeld ?_
        · intro W hW; clear hW; go_simp; first | done | with_reducible rfl | rfl
        try simp only [Act.put, List.getElem_toArray, List.getElem_cons_zero, List.getElem_cons_succ, List.setIfInBounds_toArray, List.set_cons_succ, List.set_cons_zero]
        refine wpAnyP_takeU (i := 6) (v := .int .i64 (97 + (d2 : Int))) rfl (by kernel_rfl) (by kernel_rfl) (by kernel_rfl) (by decide) (fun _ _ _ h => h) (Or.inl ⟨by kernel_rfl, ?_⟩) hHeld ?_
        · intro W hW; clear hW; go_simp; first | done | with_reducible rfl | rfl
        try simp only [Act.put, List.getElem_toArray, List.getElem_cons_zero, List.getElem_cons_succ, List.setIfInBounds_toArray, List.set_cons_succ, List.set_cons_zero]
        refine wpAnyP_takeU (i := 7) (v := .int .u8 (97 + (d2 : Int))) rfl (by kernel_rfl) (by kernel_rfl) (by kernel_rfl) (by decide) (fun _ _ _ h => h) (Or.inl ⟨by kernel_rfl, ?_⟩) hHeld ?_
        · intro W hW; clear hW; go_simp; first | done | with_reducible rfl | rfl
        try simp only [Act.put, List.getElem_toArray, List.getElem_cons_zero, List.getElem_cons_succ, List.setIfInBounds_toArray, List.set_cons_succ, List.set_cons_zero]
        refine wpAnyP_takeU (i := 10) (v := ?_) rfl (by kernel_rfl) (by kernel_rfl) (by kernel_rfl) (by decide) (fun _ _ _ h => h) (Or.inl ⟨by kernel_rfl, ?_⟩) hHeld ?_
        rotate_left
        · intro W hW; clear hW; go_simp; first | done | with_reducible rfl | rfl
        try simp only [Act.put, List.getElem_toArray, List.getElem_cons_zero, List.getElem_cons_succ, List.setIfInBounds_toArray, List.set_cons_succ, List.set_cons_zero]
        refine wpAnyP_ready (rs := [8, 11, 15]) (by kernel_rfl) (by simp) ?_
        refine AllReadyP.cons (o := _) rfl (fun K hK => ?_) (AllReadyP.cons (o := _) rfl (fun K hK => ?_) (AllReadyP.cons (o := _) rfl (fun K hK => ?_) (AllReadyP.nil)))
        · skip
          rw [if_pos (by kernel_rfl)]
          refine wp_litB2 (.tmp 38) (.tmp 42) (97 + (d1 : Int)) (97 + (d2 : Int)) (by omega) (by omega) rfl rfl rfl ?_
          intro Wc hb hS
          refine hK.out _ _ (hHeld.trans (hb.mono hHeld.size)) ?_
          clear hK K
          try simp only [Act.put, List.getElem_toArray, List.getElem_cons_zero, List.getElem_cons_succ, List.setIfInBounds_toArray, List.set_cons_succ, List.set_cons_zero]
          refine heldP_mono (S' := fun W => Below Wc.heap.size Wc W) (fun W h => (hHeld.trans (hb.mono hHeld.size)).trans (h.mono (hHeld.trans (hb.mono hHeld.size)).size)) _ _ _ _ ?_
          replace hG := hG.trans (hb.mono hG.size)
          clear hHeld hb
          have hHeld : Below Wc.heap.size Wc Wc := Below.refl _ _
          refine wpAnyP_take (i := 9) (v := .string (strOfNums ([97 + (d1 : Int), 97 + (d2 : Int)]))) rfl (by kernel_rfl) (by kernel_rfl) (by kernel_rfl) (by kernel_rfl) (by kernel_rfl) (by decide) (fun _ _ _ h => h) (Or.inl ⟨by kernel_rfl, ?_⟩) hHeld ?_
          · intro W hW; have hcv := (hS.later hW).conv (P := Try.prog) 30 9 5 Try.underlying30 Try.underlying5 Try.underlying9; go_simp; first | done | with_reducible rfl | rfl
          try simp only [Act.put, List.getElem_toArray, List.getElem_cons_zero, List.getElem_cons_succ, List.setIfInBounds_toArray, List.set_cons_succ, List.set_cons_zero]
          clear hS
          refine wpAnyP_ready (rs := [11, 15]) (by kernel_rfl) (by simp) ?_
          refine AllReadyP.cons (o := _) rfl (fun K hK => ?_) (AllReadyP.cons (o := _) rfl (fun K hK => ?_) (AllReadyP.nil))
          · skip
            rw [if_pos (by kernel_rfl)]
            refine wp_mkB (.tmp 45) (.tmp 45) t (by omega) rfl rfl rfl ?_
            intro Wc hb ho
            have hS := Sl.own ho (by intro z hz; have := List.eq_of_mem_replicate hz; omega)
            refine hK.out _ _ (hHeld.trans (hb.mono hHeld.size)) ?_
            clear hK K
            try simp only [Act.put, List.getElem_toArray, List.getElem_cons_zero, List.getElem_cons_succ, List.setIfInBounds_toArray, List.set_cons_succ, List.set_cons_zero]
            refine heldP_mono (S' := fun W => Below Wc.heap.size Wc W) (fun W h => (hHeld.trans (hb.mono hHeld.size)).trans (h.mono (hHeld.trans (hb.mono hHeld.size)).size)) _ _ _ _ ?_
            replace hG := hG.trans (hb.mono hG.size)
            clear hHeld hb
            have hHeld : Below Wc.heap.size Wc Wc := Below.refl _ _
            refine wpAnyP_take (i := 12) (v := .string (strOfNums (List.replicate t 0))) rfl (by kernel_rfl) (by kernel_rfl) (by kernel_rfl) (by kernel_rfl) (by kernel_rfl) (by decide) (fun _ _ _ h => h) (Or.inl ⟨by kernel_rfl, ?_⟩) hHeld ?_
            · intro W hW; have hcv := (hS.later hW).conv (P := Try.prog) 30 9 5 Try.underlying30 Try.underlying5 Try.underlying9; go_simp; first | done | with_reducible rfl | rfl
            try simp only [Act.put, List.getElem_toArray, List.getElem_cons_zero, List.getElem_cons_succ, List.setIfInBounds_toArray, List.set_cons_succ, List.set_cons_zero]
            clear hS ho
            refine wpAnyP_takeU (i := 13) (v := .agg (va ⟨2, 0, strOfNums (List.replicate t 0)⟩)) rfl (by kernel_rfl) (by kernel_rfl) (by kernel_rfl) (by decide) (fun _ _ _ h => h) (Or.inl ⟨by kernel_rfl, ?_⟩) hHeld ?_
            · intro W hW; clear hW; go_simp; first | done | with_reducible rfl | rfl
            try simp only [Act.put, List.getElem_toArray, List.getElem_cons_zero, List.getElem_cons_succ, List.setIfInBounds_toArray, List.set_cons_succ, List.set_cons_zero]
            refine wpAnyP_takeU (i := 14) (v := .agg (cv ⟨strOfNums [97 + (d1 : Int), 97 + (d2 : Int)], ⟨2, 0, strOfNums (List.replicate t 0)⟩, 0, Va.zero⟩)) rfl (by kernel_rfl) (by kernel_rfl) (by kernel_rfl) (by decide) (fun _ _ _ h => h) (Or.inl ⟨by kernel_rfl, ?_⟩) hHeld ?_
            · intro W hW; clear hW; go_simp; first | done | with_reducible rfl | rfl
            try simp only [Act.put, List.getElem_toArray, List.getElem_cons_zero, List.getElem_cons_succ, List.setIfInBounds_toArray, List.set_cons_succ, List.set_cons_zero]
            refine wpAnyP_ready (rs := [15]) (by kernel_rfl) (by simp) ?_
            refine AllReadyP.cons (o := _) rfl (fun K hK => ?_) (AllReadyP.nil)
            · skip
              rw [if_pos (by kernel_rfl)]
              refine wp_new 56 _ rfl tyR ?_
              intro Wc hb hN
              have lN := hG.size
              refine hK.out _ _ (hHeld.trans (hb.mono hHeld.size)) ?_
              clear hK K
              try simp only [Act.put, List.getElem_toArray, List.getElem_cons_zero, List.getElem_cons_succ, List.setIfInBounds_toArray, List.set_cons_succ, List.set_cons_zero]
              refine heldP_mono (S' := fun W => Below Wc.heap.size Wc W) (fun W h => (hHeld.trans (hb.mono hHeld.size)).trans (h.mono (hHeld.trans (hb.mono hHeld.size)).size)) _ _ _ _ ?_
              replace hG := hG.trans (hb.mono hG.size)
              clear hHeld hb
              have hHeld : Below Wc.heap.size Wc Wc := Below.refl _ _
              refine wpAnyP_ready (rs := [16]) (by kernel_rfl) (by simp) ?_
              refine AllReadyP.late (o := _) rfl (by kernel_rfl) (fun K hK => ?_)
              rw [if_pos (by kernel_rfl)]
              refine wp_put 56 _ (.tmp 8) (.tmp 49) _ (cv ⟨strOfNums [97 + (d1 : Int), 97 + (d2 : Int)], ⟨2, 0, strOfNums (List.replicate t 0)⟩, 0, Va.zero⟩) _ rfl rfl rfl hN tyR rfl rfl (cv_one _) ?_
              intro Ws hbs hss hNs
              refine hK.out _ _ ?_
              clear hK K
              try simp only [Act.put, List.getElem_toArray, List.getElem_cons_zero, List.getElem_cons_succ]
              have hGs := Below.but hG hG.size hbs (fun k e => by rw [e]; exact lN)
              refine wpAnyP_done (by kernel_rfl) ?_ _
              refine NoPanic.normal ?_
              generalize hA : ({ tmps := _, defers := [] } : Act) = A
              rw [HQ0.out]
              exact ⟨rfl, _, fun k => A.tmps.getD k undef, (by subst hA; kernel_rfl), hNs, hGs⟩
          · skip
            rw [if_pos (by kernel_rfl)]
            refine wp_new 56 _ rfl tyR ?_
            intro Wc hb hN
            have lN := hG.size
            refine hK.out _ _ (hHeld.trans (hb.mono hHeld.size)) ?_
            clear hK K
            try simp only [Act.put, List.getElem_toArray, List.getElem_cons_zero, List.getElem_cons_succ, List.setIfInBounds_toArray, List.set_cons_succ, List.set_cons_zero]
            refine heldP_mono (S' := fun W => Below Wc.heap.size Wc W) (fun W h => (hHeld.trans (hb.mono hHeld.size)).trans (h.mono (hHeld.trans (hb.mono hHeld.size)).size)) _ _ _ _ ?_
            replace hG := hG.trans (hb.mono hG.size)
            clear hHeld hb
            have hHeld : Below Wc.heap.size Wc Wc := Below.refl _ _
            refine wpAnyP_ready (rs := [11]) (by kernel_rfl) (by simp) ?_
            refine AllReadyP.cons (o := _) rfl (fun K hK => ?_) (AllReadyP.nil)
            · skip
              rw [if_pos (by kernel_rfl)]
              refine wp_mkB (.tmp 45) (.tmp 45) t (by omega) rfl rfl rfl ?_
              intro Wc hb ho
              have hS := Sl.own ho (by intro z hz; have := List.eq_of_mem_replicate hz; omega)
              refine hK.out _ _ (hHeld.trans (hb.mono hHeld.size)) ?_
              clear hK K
              try simp only [Act.put, List.getElem_toArray, List.getElem_cons_zero, List.getElem_cons_succ, List.setIfInBounds_toArray, List.set_cons_succ, List.set_cons_zero]
              refine heldP_mono (S' := fun W => Below Wc.heap.size Wc W) (fun W h => (hHeld.trans (hb.mono hHeld.size)).trans (h.mono (hHeld.trans (hb.mono hHeld.size)).size)) _ _ _ _ ?_
              replace hG := hG.trans (hb.mono hG.size)
              replace hN := hN.later hb
              clear hHeld hb
              have hHeld : Below Wc.heap.size Wc Wc := Below.refl _ _
              refine wpAnyP_take (i := 12) (v := .string (strOfNums (List.replicate t 0))) rfl (by kernel_rfl) (by kernel_rfl) (by kernel_rfl) (by kernel_rfl) (by kernel_rfl) (by decide) (fun _ _ _ h => h) (Or.inl ⟨by kernel_rfl, ?_⟩) hHeld ?_
              · intro W hW; have hcv := (hS.later hW).conv (P := Try.prog) 30 9 5 Try.underlying30 Try.underlying5 Try.underlying9; go_simp; first | done | with_reducible rfl | rfl
              try simp only [Act.put, List.getElem_toArray, List.getElem_cons_zero, List.getElem_cons_succ, List.setIfInBounds_toArray, List.set_cons_succ, List.set_cons_zero]
              clear hS ho
              refine wpAnyP_takeU (i := 13) (v := .agg (va ⟨2, 0, strOfNums (List.replicate t 0)⟩)) rfl (by kernel_rfl) (by kernel_rfl) (by kernel_rfl) (by decide) (fun _ _ _ h => h) (Or.inl ⟨by kernel_rfl, ?_⟩) hHeld ?_
              · intro W hW; clear hW; go_simp; first | done | with_reducible rfl | rfl
              try simp only [Act.put, List.getElem_toArray, List.getElem_cons_zero, List.getElem_cons_succ, List.setIfInBounds_toArray, List.set_cons_succ, List.set_cons_zero]
              refine wpAnyP_takeU (i := 14) (v := .agg (cv ⟨strOfNums [97 + (d1 : Int), 97 + (d2 : Int)], ⟨2, 0, strOfNums (List.replicate t 0)⟩, 0, Va.zero⟩)) rfl (by kernel_rfl) (by kernel_rfl) (by kernel_rfl) (by decide) (fun _ _ _ h => h) (Or.inl ⟨by kernel_rfl, ?_⟩) hHeld ?_
              · intro W hW; clear hW; go_simp; first | done | with_reducible rfl | rfl
              try simp only [Act.put, List.getElem_toArray, List.getElem_cons_zero, List.getElem_cons_succ, List.setIfInBounds_toArray, List.set_cons_succ, List.set_cons_zero]
              refine wpAnyP_ready (rs := [16]) (by kernel_rfl) (by simp) ?_
              refine AllReadyP.late (o := _) rfl (by kernel_rfl) (fun K hK => ?_)
              rw [if_pos (by kernel_rfl)]
              refine wp_put 56 _ (.tmp 8) (.tmp 49) _ (cv ⟨strOfNums [97 + (d1 : Int), 97 + (d2 : Int)], ⟨2, 0, strOfNums (List.replicate t 0)⟩, 0, Va.zero⟩) _ rfl rfl rfl hN tyR rfl rfl (cv_one _) ?_
              intro Ws hbs hss hNs
              refine hK.out _ _ ?_
              clear hK K
              try simp only [Act.put, List.getElem_toArray, List.getElem_cons_zero, List.getElem_cons_succ]
              have hGs := Below.but hG hG.size hbs (fun k e => by rw [e]; exact lN)
              refine wpAnyP_done (by kernel_rfl) ?_ _
              refine NoPanic.normal ?_
              generalize hA : ({ tmps := _, defers := [] } : Act) = A
              rw [HQ0.out]
              exact ⟨rfl, _, fun k => A.tmps.getD k undef, (by subst hA; kernel_rfl), hNs, hGs⟩
        · skip
          rw [if_pos (by kernel_rfl)]
          refine wp_mkB (.tmp 45) (.tmp 45) t (by omega) rfl rfl rfl ?_
          intro Wc hb ho
          have hS := Sl.own ho (by intro z hz; have := List.eq_of_mem_replicate hz; omega)
          refine hK.out _ _ (hHeld.trans (hb.mono hHeld.size)) ?_
          clear hK K
          try simp only [Act.put, List.getElem_toArray, List.getElem_cons_zero, List.getElem_cons_succ, List.setIfInBounds_toArray, List.set_cons_succ, List.set_cons_zero]
          refine heldP_mono (S' := fun W => Below Wc.heap.size Wc W) (fun W h => (hHeld.trans (hb.mono hHeld.size)).trans (h.mono (hHeld.trans (hb.mono hHeld.size)).size)) _ _ _ _ ?_
          replace hG := hG.trans (hb.mono hG.size)
          clear hHeld hb
          have hHeld : Below Wc.heap.size Wc Wc := Below.refl _ _
          refine wpAnyP_take (i := 12) (v := .string (strOfNums (List.replicate t 0))) rfl (by kernel_rfl) (by kernel_rfl) (by kernel_rfl) (by kernel_rfl) (by kernel_rfl) (by decide) (fun _ _ _ h => h) (Or.inl ⟨by kernel_rfl, ?_⟩) hHeld ?_
          · intro W hW; have hcv := (hS.later hW).conv (P := Try.prog) 30 9 5 Try.underlying30 Try.underlying5 Try.underlying9; go_simp; first | done | with_reducible rfl | rfl
          try simp only [Act.put, List.getElem_toArray, List.getElem_cons_zero, List.getElem_cons_succ, List.setIfInBounds_toArray, List.set_cons_succ, List.set_cons_zero]
          clear hS ho
          refine wpAnyP_takeU (i := 13) (v := .agg (va ⟨2, 0, strOfNums (List.replicate t 0)⟩)) rfl (by kernel_rfl) (by kernel_rfl) (by kernel_rfl) (by decide) (fun _ _ _ h => h) (Or.inl ⟨by kernel_rfl, ?_⟩) hHeld ?_
          · intro W hW; clear hW; go_simp; first | done | with_reducible rfl | rfl
          try simp only [Act.put, List.getElem_toArray, List.getElem_cons_zero, List.getElem_cons_succ, List.setIfInBounds_toArray, List.set_cons_succ, List.set_cons_zero]
          refine wpAnyP_ready (rs := [8, 15]) (by kernel_rfl) (by simp) ?_
          refine AllReadyP.cons (o := _) rfl (fun K hK => ?_) (AllReadyP.cons (o := _) rfl (fun K hK => ?_) (AllReadyP.nil))
          · skip
            rw [if_pos (by kernel_rfl)]
            refine wp_litB2 (.tmp 38) (.tmp 42) (97 + (d1 : Int)) (97 + (d2 : Int)) (by omega) (by omega) rfl rfl rfl ?_
            intro Wc hb hS
            refine hK.out _ _ (hHeld.trans (hb.mono hHeld.size)) ?_
            clear hK K
            try simp only [Act.put, List.getElem_toArray, List.getElem_cons_zero, List.getElem_cons_succ, List.setIfInBounds_toArray, List.set_cons_succ, List.set_cons_zero]
            refine heldP_mono (S' := fun W => Below Wc.heap.size Wc W) (fun W h => (hHeld.trans (hb.mono hHeld.size)).trans (h.mono (hHeld.trans (hb.mono hHeld.size)).size)) _ _ _ _ ?_
            replace hG := hG.trans (hb.mono hG.size)
            clear hHeld hb
            have hHeld : Below Wc.heap.size Wc Wc := Below.refl _ _
            refine wpAnyP_take (i := 9) (v := .string (strOfNums ([97 + (d1 : Int), 97 + (d2 : Int)]))) rfl (by kernel_rfl) (by kernel_rfl) (by kernel_rfl) (by kernel_rfl) (by kernel_rfl) (by decide) (fun _ _ _ h => h) (Or.inl ⟨by kernel_rfl, ?_⟩) hHeld ?_
            · intro W hW; have hcv := (hS.later hW).conv (P := Try.prog) 30 9 5 Try.underlying30 Try.underlying5 Try.underlying9; go_simp; first | done | with_reducible rfl | rfl
            try simp only [Act.put, List.getElem_toArray, List.getElem_cons_zero, List.getElem_cons_succ, List.setIfInBounds_toArray, List.set_cons_succ, List.set_cons_zero]
            clear hS
            refine wpAnyP_takeU (i := 14) (v := .agg (cv ⟨strOfNums [97 + (d1 : Int), 97 + (d2 : Int)], ⟨2, 0, strOfNums (List.replicate t 0)⟩, 0, Va.zero⟩)) rfl (by kernel_rfl) (by kernel_rfl) (by kernel_rfl) (by decide) (fun _ _ _ h => h) (Or.inl ⟨by kernel_rfl, ?_⟩) hHeld ?_
            · intro W hW; clear hW; go_simp; first | done | with_reducible rfl | rfl
            try simp only [Act.put, List.getElem_toArray, List.getElem_cons_zero, List.getElem_cons_succ, List.setIfInBounds_toArray, List.set_cons_succ, List.set_cons_zero]
            refine wpAnyP_ready (rs := [15]) (by kernel_rfl) (by simp) ?_
            refine AllReadyP.cons (o := _) rfl (fun K hK => ?_) (AllReadyP.nil)
            · skip
              rw [if_pos (by kernel_rfl)]
              refine wp_new 56 _ rfl tyR ?_
              intro Wc hb hN
              have lN := hG.size
              refine hK.out _ _ (hHeld.trans (hb.mono hHeld.size)) ?_
              clear hK K
              try simp only [Act.put, List.getElem_toArray, List.getElem_cons_zero, List.getElem_cons_succ, List.setIfInBounds_toArray, List.set_cons_succ, List.set_cons_zero]
              refine heldP_mono (S' := fun W => Below Wc.heap.size Wc W) (fun W h => (hHeld.trans (hb.mono hHeld.size)).trans (h.mono (hHeld.trans (hb.mono hHeld.size)).size)) _ _ _ _ ?_
              replace hG := hG.trans (hb.mono hG.size)
              clear hHeld hb
              have hHeld : Below Wc.heap.size Wc Wc := Below.refl _ _
              refine wpAnyP_ready (rs := [16]) (by kernel_rfl) (by simp) ?_
              refine AllReadyP.late (o := _) rfl (by kernel_rfl) (fun K hK => ?_)
              rw [if_pos (by kernel_rfl)]
              refine wp_put 56 _ (.tmp 8) (.tmp 49) _ (cv ⟨strOfNums [97 + (d1 : Int), 97 + (d2 : Int)], ⟨2, 0, strOfNums (List.replicate t 0)⟩, 0, Va.zero⟩) _ rfl rfl rfl hN tyR rfl rfl (cv_one _) ?_
              intro Ws hbs hss hNs
              refine hK.out _ _ ?_
              clear hK K
              try simp only [Act.put, List.getElem_toArray, List.getElem_cons_zero, List.getElem_cons_succ]
              have hGs := Below.but hG hG.size hbs (fun k e => by rw [e]; exact lN)
              refine wpAnyP_done (by kernel_rfl) ?_ _
              refine NoPanic.normal ?_
              generalize hA : ({ tmps := _, defers := [] } : Act) = A
              rw [HQ0.out]
              exact ⟨rfl, _, fun k => A.tmps.getD k undef, (by subst hA; kernel_rfl), hNs, hGs⟩
          · skip
            rw [if_pos (by kernel_rfl)]
            refine wp_new 56 _ rfl tyR ?_
            intro Wc hb hN
            have lN := hG.size
            refine hK.out _ _ (hHeld.trans (hb.mono hHeld.size)) ?_
            clear hK K
            try simp only [Act.put, List.getElem_toArray, List.getElem_cons_zero, List.getElem_cons_succ, List.setIfInBounds_toArray, List.set_cons_succ, List.set_cons_zero]
            refine heldP_mono (S' := fun W => Below Wc.heap.size Wc W) (fun W h => (hHeld.trans (hb.mono hHeld.size)).trans (h.mono (hHeld.trans (hb.mono hHeld.size)).size)) _ _ _ _ ?_
            replace hG := hG.trans (hb.mono hG.size)
            clear hHeld hb
            have hHeld : Below Wc.heap.size Wc Wc := Below.refl _ _
            refine wpAnyP_ready (rs := [8]) (by kernel_rfl) (by simp) ?_
            refine AllReadyP.cons (o := _) rfl (fun K hK => ?_) (AllReadyP.nil)
            · skip
              rw [if_pos (by kernel_rfl)]
              refine wp_litB2 (.tmp 38) (.tmp 42) (97 + (d1 : Int)) (97 + (d2 : Int)) (by omega) (by omega) rfl rfl rfl ?_
              intro Wc hb hS
              refine hK.out _ _ (hHeld.trans (hb.mono hHeld.size)) ?_
              clear hK K
              try simp only [Act.put, List.getElem_toArray, List.getElem_cons_zero, List.getElem_cons_succ, List.setIfInBounds_toArray, List.set_cons_succ, List.set_cons_zero]
              refine heldP_mono (S' := fun W => Below Wc.heap.size Wc W) (fun W h => (hHeld.trans (hb.mono hHeld.size)).trans (h.mono (hHeld.trans (hb.mono hHeld.size)).size)) _ _ _ _ ?_
              replace hG := hG.trans (hb.mono hG.size)
              replace hN := hN.later hb
              clear hHeld hb
              have hHeld : Below Wc.heap.size Wc Wc := Below.refl _ _
              refine wpAnyP_take (i := 9) (v := .string (strOfNums ([97 + (d1 : Int), 97 + (d2 : Int)]))) rfl (by kernel_rfl) (by kernel_rfl) (by kernel_rfl) (by kernel_rfl) (by kernel_rfl) (by decide) (fun _ _ _ h => h) (Or.inl ⟨by kernel_rfl, ?_⟩) hHeld ?_
              · intro W hW; have hcv := (hS.later hW).conv (P := Try.prog) 30 9 5 Try.underlying30 Try.underlying5 Try.underlying9; go_simp; first | done | with_reducible rfl | rfl
              try simp only [Act.put, List.getElem_toArray, List.getElem_cons_zero, List.getElem_cons_succ, List.setIfInBounds_toArray, List.set_cons_succ, List.set_cons_zero]
              clear hS
              refine wpAnyP_takeU (i := 14) (v := .agg (cv ⟨strOfNums [97 + (d1 : Int), 97 + (d2 : Int)], ⟨2, 0, strOfNums (List.replicate t 0)⟩, 0, Va.zero⟩)) rfl (by kernel_rfl) (by kernel_rfl) (by kernel_rfl) (by decide) (fun _ _ _ h => h) (Or.inl ⟨by kernel_rfl, ?_⟩) hHeld ?_
              · intro W hW; clear hW; go_simp; first | done | with_reducible rfl | rfl
              try simp only [Act.put, List.getElem_toArray, List.getElem_cons_zero, List.getElem_cons_succ, List.setIfInBounds_toArray, List.set_cons_succ, List.set_cons_zero]
              refine wpAnyP_ready (rs := [16]) (by kernel_rfl) (by simp) ?_
              refine AllReadyP.late (o := _) rfl (by kernel_rfl) (fun K hK => ?_)
              rw [if_pos (by kernel_rfl)]
              refine wp_put 56 _ (.tmp 8) (.tmp 49) _ (cv ⟨strOfNums [97 + (d1 : Int), 97 + (d2 : Int)], ⟨2, 0, strOfNums (List.replicate t 0)⟩, 0, Va.zero⟩) _ rfl rfl rfl hN tyR rfl rfl (cv_one _) ?_
              intro Ws hbs hss hNs
              refine hK.out _ _ ?_
              clear hK K
              try simp only [Act.put, List.getElem_toArray, List.getElem_cons_zero, List.getElem_cons_succ]
              have hGs := Below.but hG hG.size hbs (fun k e => by rw [e]; exact lN)
              refine wpAnyP_done (by kernel_rfl) ?_ _
              refine NoPanic.normal ?_
              generalize hA : ({ tmps := _, defers := [] } : Act) = A
              rw [HQ0.out]
              exact ⟨rfl, _, fun k => A.tmps.getD k undef, (by subst hA; kernel_rfl), hNs, hGs⟩
        · skip
          rw [if_pos (by kernel_rfl)]
          refine wp_new 56 _ rfl tyR ?_
          intro Wc hb hN
          have lN := hG.size
          refine hK.out _ _ (hHeld.trans (hb.mono hHeld.size)) ?_
          clear hK K
          try simp only [Act.put, List.getElem_toArray, List.getElem_cons_zero, List.getElem_cons_succ, List.setIfInBounds_toArray, List.set_cons_succ, List.set_cons_zero]
          refine heldP_mono (S' := fun W => Below Wc.heap.size Wc W) (fun W h => (hHeld.trans (hb.mono hHeld.size)).trans (h.mono (hHeld.trans (hb.mono hHeld.size)).size)) _ _ _ _ ?_
          replace hG := hG.trans (hb.mono hG.size)
          clear hHeld hb
          have hHeld : Below Wc.heap.size Wc Wc := Below.refl _ _
          refine wpAnyP_ready (rs := [8, 11]) (by kernel_rfl) (by simp) ?_
          refine AllReadyP.cons (o := _) rfl (fun K hK => ?_) (AllReadyP.cons (o := _) rfl (fun K hK => ?_) (AllReadyP.nil))
          · skip
            rw [if_pos (by kernel_rfl)]
            refine wp_litB2 (.tmp 38) (.tmp 42) (97 + (d1 : Int)) (97 + (d2 : Int)) (by omega) (by omega) rfl rfl rfl ?_
            intro Wc hb hS
            refine hK.out _ _ (hHeld.trans (hb.mono hHeld.size)) ?_
            clear hK K
            try simp only [Act.put, List.getElem_toArray, List.getElem_cons_zero, List.getElem_cons_succ, List.setIfInBounds_toArray, List.set_cons_succ, List.set_cons_zero]
            refine heldP_mono (S' := fun W => Below Wc.heap.size Wc W) (fun W h => (hHeld.trans (hb.mono hHeld.size)).trans (h.mono (hHeld.trans (hb.mono hHeld.size)).size)) _ _ _ _ ?_
            replace hG := hG.trans (hb.mono hG.size)
            replace hN := hN.later hb
            clear hHeld hb
            have hHeld : Below Wc.heap.size Wc Wc := Below.refl _ _
            refine wpAnyP_take (i := 9) (v := .string (strOfNums ([97 + (d1 : Int), 97 + (d2 : Int)]))) rfl (by kernel_rfl) (by kernel_rfl) (by kernel_rfl) (by kernel_rfl) (by kernel_rfl) (by decide) (fun _ _ _ h => h) (Or.inl ⟨by kernel_rfl, ?_⟩) hHeld ?_
            · intro W hW; have hcv := (hS.later hW).conv (P := Try.prog) 30 9 5 Try.underlying30 Try.underlying5 Try.underlying9; go_simp; first | done | with_reducible rfl | rfl
            try simp only [Act.put, List.getElem_toArray, List.getElem_cons_zero, List.getElem_cons_succ, List.setIfInBounds_toArray, List.set_cons_succ, List.set_cons_zero]
            clear hS
            refine wpAnyP_ready (rs := [11]) (by kernel_rfl) (by simp) ?_
            refine AllReadyP.cons (o := _) rfl (fun K hK => ?_) (AllReadyP.nil)
            · skip
              rw [if_pos (by kernel_rfl)]
              refine wp_mkB (.tmp 45) (.tmp 45) t (by omega) rfl rfl rfl ?_
              intro Wc hb ho
              have hS := Sl.own ho (by intro z hz; have := List.eq_of_mem_replicate hz; omega)
              refine hK.out _ _ (hHeld.trans (hb.mono hHeld.size)) ?_
              clear hK K
              try simp only [Act.put, List.getElem_toArray, List.getElem_cons_zero, List.getElem_cons_succ, List.setIfInBounds_toArray, List.set_cons_succ, List.set_cons_zero]
              refine heldP_mono (S' := fun W => Below Wc.heap.size Wc W) (fun W h => (hHeld.trans (hb.mono hHeld.size)).trans (h.mono (hHeld.trans (hb.mono hHeld.size)).size)) _ _ _ _ ?_
              replace hG := hG.trans (hb.mono hG.size)
              replace hN := hN.later hb
              clear hHeld hb
              have hHeld : Below Wc.heap.size Wc Wc := Below.refl _ _
              refine wpAnyP_take (i := 12) (v := .string (strOfNums (List.replicate t 0))) rfl (by kernel_rfl) (by kernel_rfl) (by kernel_rfl) (by kernel_rfl) (by kernel_rfl) (by decide) (fun _ _ _ h => h) (Or.inl ⟨by kernel_rfl, ?_⟩) hHeld ?_
              · intro W hW; have hcv := (hS.later hW).conv (P := Try.prog) 30 9 5 Try.underlying30 Try.underlying5 Try.underlying9; go_simp; first | done | with_reducible rfl | rfl
              try simp only [Act.put, List.getElem_toArray, List.getElem_cons_zero, List.getElem_cons_succ, List.setIfInBounds_toArray, List.set_cons_succ, List.set_cons_zero]
              clear hS ho
              refine wpAnyP_takeU (i := 13) (v := .agg (va ⟨2, 0, strOfNums (List.replicate t 0)⟩)) rfl (by kernel_rfl) (by kernel_rfl) (by kernel_rfl) (by decide) (fun _ _ _ h => h) (Or.inl ⟨by kernel_rfl, ?_⟩) hHeld ?_
              · intro W hW; clear hW; go_simp; first | done | with_reducible rfl | rfl
              try simp only [Act.put, List.getElem_toArray, List.getElem_cons_zero, List.getElem_cons_succ, List.setIfInBounds_toArray, List.set_cons_succ, List.set_cons_zero]
              refine wpAnyP_takeU (i := 14) (v := .agg (cv ⟨strOfNums [97 + (d1 : Int), 97 + (d2 : Int)], ⟨2, 0, strOfNums (List.replicate t 0)⟩, 0, Va.zero⟩)) rfl (by kernel_rfl) (by kernel_rfl) (by kernel_rfl) (by decide) (fun _ _ _ h => h) (Or.inl ⟨by kernel_rfl, ?_⟩) hHeld ?_
              · intro W hW; clear hW; go_simp; first | done | with_reducible rfl | rfl
              try simp only [Act.put, List.getElem_toArray, List.getElem_cons_zero, List.getElem_cons_succ, List.setIfInBounds_toArray, List.set_cons_succ, List.set_cons_zero]
              refine wpAnyP_ready (rs := [16]) (by kernel_rfl) (by simp) ?_
              refine AllReadyP.late (o := _) rfl (by kernel_rfl) (fun K hK => ?_)
              rw [if_pos (by kernel_rfl)]
              refine wp_put 56 _ (.tmp 8) (.tmp 49) _ (cv ⟨strOfNums [97 + (d1 : Int), 97 + (d2 : Int)], ⟨2, 0, strOfNums (List.replicate t 0)⟩, 0, Va.zero⟩) _ rfl rfl rfl hN tyR rfl rfl (cv_one _) ?_
              intro Ws hbs hss hNs
              refine hK.out _ _ ?_
              clear hK K
              try simp only [Act.put, List.getElem_toArray, List.getElem_cons_zero, List.getElem_cons_succ]
              have hGs := Below.but hG hG.size hbs (fun k e => by rw [e]; exact lN)
              refine wpAnyP_done (by kernel_rfl) ?_ _
              refine NoPanic.normal ?_
              generalize hA : ({ tmps := _, defers := [] } : Act) = A
              rw [HQ0.out]
              exact ⟨rfl, _, fun k => A.tmps.getD k undef, (by subst hA; kernel_rfl), hNs, hGs⟩
          · skip
            rw [if_pos (by kernel_rfl)]
            refine wp_mkB (.tmp 45) (.tmp 45) t (by omega) rfl rfl rfl ?_
            intro Wc hb ho
            have hS := Sl.own ho (by intro z hz; have := List.eq_of_mem_replicate hz; omega)
            refine hK.out _ _ (hHeld.trans (hb.mono hHeld.size)) ?_
            clear hK K
            try simp only [Act.put, List.getElem_toArray, List.getElem_cons_zero, List.getElem_cons_succ, List.setIfInBounds_toArray, List.set_cons_succ, List.set_cons_zero]
            refine heldP_mono (S' := fun W => Below Wc.heap.size Wc W) (fun W h => (hHeld.trans (hb.mono hHeld.size)).trans (h.mono (hHeld.trans (hb.mono hHeld.size)).size)) _ _ _ _ ?_
            replace hG := hG.trans (hb.mono hG.size)
            replace hN := hN.later hb
            clear hHeld hb
            have hHeld : Below Wc.heap.size Wc Wc := Below.refl _ _
            refine wpAnyP_take (i := 12) (v := .string (strOfNums (List.replicate t 0))) rfl (by kernel_rfl) (by kernel_rfl) (by kernel_rfl) (by kernel_rfl) (by kernel_rfl) (by decide) (fun _ _ _ h => h) (Or.inl ⟨by kernel_rfl, ?_⟩) hHeld ?_
            · intro W hW; have hcv := (hS.later hW).conv (P := Try.prog) 30 9 5 Try.underlying30 Try.underlying5 Try.underlying9; go_simp; first | done | with_reducible rfl | rfl
            try simp only [Act.put, List.getElem_toArray, List.getElem_cons_zero, List.getElem_cons_succ, List.setIfInBounds_toArray, List.set_cons_succ, List.set_cons_zero]
            clear hS ho
            refine wpAnyP_takeU (i := 13) (v := .agg (va ⟨2, 0, strOfNums (List.replicate t 0)⟩)) rfl (by kernel_rfl) (by kernel_rfl) (by kernel_rfl) (by decide) (fun _ _ _ h => h) (Or.inl ⟨by kernel_rfl, ?_⟩) hHeld ?_
            · intro W hW; clear hW; go_simp; first | done | with_reducible rfl | rfl
            try simp only [Act.put, List.getElem_toArray, List.getElem_cons_zero, List.getElem_cons_succ, List.setIfInBounds_toArray, List.set_cons_succ, List.set_cons_zero]
            refine wpAnyP_ready (rs := [8]) (by kernel_rfl) (by simp) ?_
            refine AllReadyP.cons (o := _) rfl (fun K hK => ?_) (AllReadyP.nil)
            · skip
              rw [if_pos (by kernel_rfl)]
              refine wp_litB2 (.tmp 38) (.tmp 42) (97 + (d1 : Int)) (97 + (d2 : Int)) (by omega) (by omega) rfl rfl rfl ?_
              intro Wc hb hS
              refine hK.out _ _ (hHeld.trans (hb.mono hHeld.size)) ?_
              clear hK K
              try simp only [Act.put, List.getElem_toArray, List.getElem_cons_zero, List.getElem_cons_succ, List.setIfInBounds_toArray, List.set_cons_succ, List.set_cons_zero]
              refine heldP_mono (S' := fun W => Below Wc.heap.size Wc W) (fun W h => (hHeld.trans (hb.mono hHeld.size)).trans (h.mono (hHeld.trans (hb.mono hHeld.size)).size)) _ _ _ _ ?_
              replace hG := hG.trans (hb.mono hG.size)
              replace hN := hN.later hb
              clear hHeld hb
              have hHeld : Below Wc.heap.size Wc Wc := Below.refl _ _
              refine wpAnyP_take (i := 9) (v := .string (strOfNums ([97 + (d1 : Int), 97 + (d2 : Int)]))) rfl (by kernel_rfl) (by kernel_rfl) (by kernel_rfl) (by kernel_rfl) (by kernel_rfl) (by decide) (fun _ _ _ h => h) (Or.inl ⟨by kernel_rfl, ?_⟩) hHeld ?_
              · intro W hW; have hcv := (hS.later hW).conv (P := Try.prog) 30 9 5 Try.underlying30 Try.underlying5 Try.underlying9; go_simp; first | done | with_reducible rfl | rfl
              try simp only [Act.put, List.getElem_toArray, List.getElem_cons_zero, List.getElem_cons_succ, List.setIfInBounds_toArray, List.set_cons_succ, List.set_cons_zero]
              clear hS
              refine wpAnyP_takeU (i := 14) (v := .agg (cv ⟨strOfNums [97 + (d1 : Int), 97 + (d2 : Int)], ⟨2, 0, strOfNums (List.replicate t 0)⟩, 0, Va.zero⟩)) rfl (by kernel_rfl) (by kernel_rfl) (by kernel_rfl) (by decide) (fun _ _ _ h => h) (Or.inl ⟨by kernel_rfl, ?_⟩) hHeld ?_
              · intro W hW; clear hW; go_simp; first | done | with_reducible rfl | rfl
              try simp only [Act.put, List.getElem_toArray, List.getElem_cons_zero, List.getElem_cons_succ, List.setIfInBounds_toArray, List.set_cons_succ, List.set_cons_zero]
              refine wpAnyP_ready (rs := [16]) (by kernel_rfl) (by simp) ?_
              refine AllReadyP.late (o := _) rfl (by kernel_rfl) (fun K hK => ?_)
              rw [if_pos (by kernel_rfl)]
              refine wp_put 56 _ (.tmp 8) (.tmp 49) _ (cv ⟨strOfNums [97 + (d1 : Int), 97 + (d2 : Int)], ⟨2, 0, strOfNums (List.replicate t 0)⟩, 0, Va.zero⟩) _ rfl rfl rfl hN tyR rfl rfl (cv_one _) ?_
              intro Ws hbs hss hNs
              refine hK.out _ _ ?_
              clear hK K
              try simp only [Act.put, List.getElem_toArray, List.getElem_cons_zero, List.getElem_cons_succ]
              have hGs := Below.but hG hG.size hbs (fun k e => by rw [e]; exact lN)
              refine wpAnyP_done (by kernel_rfl) ?_ _
              refine NoPanic.normal ?_
              generalize hA : ({ tmps := _, defers := [] } : Act) = A
              rw [HQ0.out]
              exact ⟨rfl, _, fun k => A.tmps.getD k undef, (by subst hA; kernel_rfl), hNs, hGs⟩
      intro e a' Y hq
      rw [HQ0.out] at hq
      obtain ⟨rfl, b, x, rfl, HBx, HBw⟩ := hq
      clear HQ0 Q0
      have hcj : ⟨strOfNums [97 + (d1 : Int), 97 + (d2 : Int)], ⟨2, 0, strOfNums (List.replicate t 0)⟩, 0, Va.zero⟩ = celF t j := by subst hn1 hn2; rfl
      rw [hcj] at HBx
      have hcok := celF_ok t j hj20.2
      have hT := HX.out.later HBw.out
      have hC := own_below HC.out HBw.out
      clear hcj hq1 hq2 hw0 hw1 hw2 hw3 hw4 hd1 hd2
      go_upto_region 11 with fail
      refine kl_start 88 (by kernel_rfl) ?_
      refine kl_take 0 (some 50) (.pointer (some ⟨bx, 1, none⟩)) (by kernel_rfl) (by kernel_rfl) (by kernel_rfl) (by kernel_rfl) ?_
      refine kl_load 1 (some 51) (vc) 22 (.tmp 50) (by kernel_rfl) (by kernel_rfl) (by kernel_rfl) (by kernel_rfl) (by kernel_rfl) (ld_csM hT.x.nodes.2.1) ?_
      refine kl_get 2 (some 52) 56 _ (.tmp 8) _ (cv (celF t j)) (by kernel_rfl) (by kernel_rfl) (by kernel_rfl) (by kernel_rfl) (by kernel_rfl) HBx.out tyR rfl ?_
      refine kl_lit1 3 (some 53) 22 56 (.agg (cv Ce.zero)) 8 88 (.tmp 52) (.agg (cv (celF t j))) (by kernel_rfl) (by kernel_rfl) (by kernel_rfl) (by kernel_rfl) Try.underlying22 infoC rfl (by decide) (by decide) (by kernel_rfl) rfl ?_
      have hA5 : Below Y.heap.size Y (World.alloc Y (.cells (Value.agg (cv (celF t j))).cells 56)) := (Below.refl _ _).alloc (Nat.le_refl _) _
      refine kl_app1 4 (some 54) 22 56 (.agg (cv Ce.zero)) 8 88 (.tmp 51) (.tmp 53) B vc j (cc (celsF t j)) _ _ (by kernel_rfl) (by kernel_rfl) (by kernel_rfl) (by kernel_rfl) Try.underlying22 infoC rfl (by decide) (by kernel_rfl) (by kernel_rfl) (by omega) (by omega) (hC.alloc _) (heap_alloc_new _ _) rfl (cv_one _) (Nat.le_trans hT.b (alloc_le _ _)) ?_
      intro v5 W5 ho5 hg5
      have hT5 := (hT.later hA5).grown (hC.alloc _) hg5
      obtain ⟨p5, c5, rfl, hc5, hc6⟩ := own_opensN ho5
      have HO5 : Hid (W5.ownsRow B 56 8 (.slice p5 (j + 1) c5) (j + 1) (cc (celsF t (j + 1)))) := hide (by rw [show celsF t (j + 1) = celsF t j ++ [celF t j] from range_snoc _ _, cc_snoc]; exact ho5)
      clear ho5 hg5 hA5
      refine kl_take 5 (some 55) (.pointer (some ⟨bx, 1, none⟩)) (by kernel_rfl) (by kernel_rfl) (by kernel_rfl) (by kernel_rfl) ?_
      refine kl_put1 6 22 (.tmp 55) (.tmp 54) _ 1 (.slice p5 (j + 1) c5) _ (by kernel_rfl) (by kernel_rfl) (by kernel_rfl) (by kernel_rfl) (by kernel_rfl) (by kernel_rfl) hT5.x (show 1 < 4 by omega) (by kernel_rfl) rfl (fun a W => run_store Try.prog W a _ _ rfl) ?_
      intro W6 hb6 hs6 hX6
      have HX2 : Hid (Xst w W6 B bx (nv true (.slice p5 (j + 1) c5) (.slice none 0 0) (.slice none 0 0))) := hide (hT5.put hb6 hs6 hX6)
      have HC2 := hide (own_but' HO5.out hb6 (fun k hk e => by have := hT5.l; omega))
      refine kl_done (by kernel_rfl) (fun z8 => #[.int .i64 (n : Int), .int .i64 (t : Int), undef, undef, (Value.bool false), .bool true, .pointer (some ⟨bx, 0, none⟩), .int .i64 (j : Int), .pointer (some ⟨b, 0, none⟩), undef, undef, undef, .bool true, .bool true, .bool false, .int .i64 (n : Int), .bool false, .bool false, .int .i64 (n : Int), .bool false, .bool false, .bool false, .int .i64 (t : Int), .bool false, .bool false, .bool false, .int .i64 (t : Int), .bool false, .bool false, .agg (nv true (.slice none 0 0) (.slice none 0 0) (.slice none 0 0)), .int .i64 (j : Int), .int .i64 (n : Int), .bool true, u33, u34, x 35, x 36, x 37, x 38, x 39, x 40, x 41, x 42, x 43, x 44, x 45, x 46, x 47, x 48, x 49, .pointer (some ⟨bx, 1, none⟩), vc, .agg (cv (celF t j)), .slice (some ⟨Y.heap.size, 0, none⟩) 1 1, .slice p5 (j + 1) c5, .pointer (some ⟨bx, 1, none⟩), undef, undef, undef, undef, undef, undef, undef, undef, undef, undef, undef, undef, undef, undef, undef, undef, undef, undef, undef, undef, undef, undef, undef, undef, undef, undef, undef, undef, undef, undef, undef, undef]) (by kernel_rfl) ?_
      intro z8
      clear hn1 hn2
      go_wp2_with fail
      go_roundw
      case rel => exact ⟨j + 1, .slice p5 (j + 1) c5, hj, by go_num, HC2, HX2⟩
      case measure => simp [intOf]; omega
    · skip
      obtain rfl : n = j := by omega
      go_upto_region 8 with fail
      refine kl_start 88 (by kernel_rfl) ?_
      refine kl_take 0 (some 30) (.int .i64 (n : Int)) (by kernel_rfl) (by kernel_rfl) (by kernel_rfl) (by kernel_rfl) ?_
      refine kl_take 1 (some 31) (.int .i64 (n : Int)) (by kernel_rfl) (by kernel_rfl) (by kernel_rfl) (by kernel_rfl) ?_
      refine kl_test 2 (some 32) false (by kernel_rfl) (by kernel_rfl) (by kernel_rfl) (show decide ((n : Int) < (n : Int)) = false by simp) (by kernel_rfl) ?_
      refine kl_done (by kernel_rfl) (fun z7 => #[.int .i64 (n : Int), .int .i64 (t : Int), undef, undef, (Value.bool false), .bool true, .pointer (some ⟨bx, 0, none⟩), .int .i64 (n : Int), u8, undef, undef, undef, .bool true, .bool true, .bool false, .int .i64 (n : Int), .bool false, .bool false, .int .i64 (n : Int), .bool false, .bool false, .bool false, .int .i64 (t : Int), .bool false, .bool false, .bool false, .int .i64 (t : Int), .bool false, .bool false, .agg (nv true (.slice none 0 0) (.slice none 0 0) (.slice none 0 0)), .int .i64 (n : Int), .int .i64 (n : Int), .bool false, u33, u34, u35, u36, u37, u38, u39, u40, u41, u42, u43, u44, u45, u46, u47, u48, u49, u50, u51, u52, u53, u54, u55, undef, undef, undef, undef, undef, undef, undef, undef, undef, undef, undef, undef, undef, undef, undef, undef, undef, undef, undef, undef, undef, undef, undef, undef, undef, undef, undef, undef, undef, undef, undef, undef]) (by kernel_rfl) ?_
      intro z7
      have hm := celsF_may t n hj20.2 hj20.1
      have hln := celsF_len t n hj20.2 hj20.1
      have HSZ := hide (celsF_size t n hj20.2 hj20.1)
      have hN : Nb wr vc (.slice none 0 0) (.slice none 0 0) ⟨true, celsF t n, [], []⟩ := ⟨Cs.own HC.out (celsF_ok t n hj20.2).c, Ts.nil _, Is.nil _⟩
      have hX := HX.out.x
      have hB := HX.out.w
      have HEN := enc_by hm hln
      have HEB := hide (No.bytes_bd hN.ok hm (show (celsF t n).length ≤ 9223372036854775807 by simp [celsF]; omega))
      have HFW : No.few ⟨true, celsF t n, [], []⟩ := by show (celsF t n).length ≤ 100000; simp [celsF]; omega
      have hmul : n * (6 + t) ≤ 1560 := Nat.mul_le_mul hj20.1 (show 6 + t ≤ 26 by omega)
      have hm0 : IntKind.i64.wrap (5 + (t : Int)) = 5 + (t : Int) := by rw [IntKind.wrap_i64]; omega
      have hm1 : IntKind.i64.wrap (5 + (t : Int) + 1) = ((6 + t : Nat) : Int) := by rw [IntKind.wrap_i64]; omega
      have hm2 : IntKind.i64.wrap ((n : Int) * ((6 + t : Nat) : Int)) = ((n * (6 + t) : Nat) : Int) := by rw [← Int.natCast_mul, IntKind.wrap_i64]; omega
      have hm3 : IntKind.i64.wrap (2 + ((n * (6 + t) : Nat) : Int)) = ((2 + n * (6 + t) : Nat) : Int) := by rw [IntKind.wrap_i64]; omega
      generalize hz : 2 + n * (6 + t) = z at *
      clear hm HC HX hln hz hmul
      go_upto_region 12 with fail
      refine kl_start 88 (by kernel_rfl) ?_
      refine kl_take 0 (some 56) (.int .i64 (n : Int)) (by kernel_rfl) (by kernel_rfl) (by kernel_rfl) (by kernel_rfl) ?_
      refine kl_take 1 (some 57) (.int .i64 (t : Int)) (by kernel_rfl) (by kernel_rfl) (by kernel_rfl) (by kernel_rfl) ?_
      refine kl_take 2 (some 58) (.int .i64 (IntKind.i64.wrap (5 + (t : Int)))) (by kernel_rfl) (by kernel_rfl) (by kernel_rfl) (by kernel_rfl) ?_
      rw [hm0]
      refine kl_take 3 (some 59) (.int .i64 (IntKind.i64.wrap (5 + (t : Int) + 1))) (by kernel_rfl) (by kernel_rfl) (by kernel_rfl) (by kernel_rfl) ?_
      rw [hm1]
      refine kl_take 4 (some 60) (.int .i64 (IntKind.i64.wrap ((n : Int) * ((6 + t : Nat) : Int)))) (by kernel_rfl) (by kernel_rfl) (by kernel_rfl) (by kernel_rfl) ?_
      rw [hm2]
      refine kl_take 5 (some 61) (.int .i64 (IntKind.i64.wrap (2 + ((n * (6 + t) : Nat) : Int)))) (by kernel_rfl) (by kernel_rfl) (by kernel_rfl) (by kernel_rfl) ?_
      rw [hm3]
      refine kl_take 6 (some 9) (.int .i64 (z : Int)) (by kernel_rfl) (by kernel_rfl) (by kernel_rfl) (by kernel_rfl) ?_
      refine kl_done (by kernel_rfl) (fun z8 => #[.int .i64 (n : Int), .int .i64 (t : Int), undef, undef, (Value.bool false), .bool true, .pointer (some ⟨bx, 0, none⟩), .int .i64 (n : Int), u8, .int .i64 (z : Int), undef, undef, .bool true, .bool true, .bool false, .int .i64 (n : Int), .bool false, .bool false, .int .i64 (n : Int), .bool false, .bool false, .bool false, .int .i64 (t : Int), .bool false, .bool false, .bool false, .int .i64 (t : Int), .bool false, .bool false, .agg (nv true (.slice none 0 0) (.slice none 0 0) (.slice none 0 0)), .int .i64 (n : Int), .int .i64 (n : Int), .bool false, u33, u34, u35, u36, u37, u38, u39, u40, u41, u42, u43, u44, u45, u46, u47, u48, u49, u50, u51, u52, u53, u54, u55, .int .i64 (n : Int), .int .i64 (t : Int), .int .i64 (5 + (t : Int)), .int .i64 ((6 + t : Nat) : Int), .int .i64 ((n * (6 + t) : Nat) : Int), .int .i64 (z : Int), undef, undef, undef, undef, undef, undef, undef, undef, undef, undef, undef, undef, undef, undef, undef, undef, undef, undef, undef, undef, undef, undef, undef, undef, undef, undef]) (by kernel_rfl) ?_
      intro z8
      by_cases hle : z ≤ 256
      · skip
        have HE := hide (HEN.1 hle)
        clear HEN
        go_upto_region 13 with fail
        refine kl_start 88 (by kernel_rfl) ?_
        refine kl_get 0 (some 63) 26 _ (.tmp 6) _ (nv true vc (.slice none 0 0) (.slice none 0 0)) (by kernel_rfl) (by kernel_rfl) (by kernel_rfl) (by kernel_rfl) (by kernel_rfl) hX tyM rfl ?_
        refine kl_callx 1 (some 64) (by kernel_rfl) (by kernel_rfl) (by kernel_rfl) (by kernel_rfl) (nof_any vc (.slice none 0 0) (.slice none 0 0) ⟨true, celsF t n, [], []⟩ _ hN HFW) ?_
        rintro e x ⟨vc', rfl, hN', hb⟩
        refine ⟨_, rfl, ?_⟩
        replace hX := hX.later hb
        replace hN := hN.later hb
        replace hB := hB.trans (hb.mono hB.size)
        clear hb
        refine kl_callx 2 (some 65) (by kernel_rfl) (by kernel_rfl) (by kernel_rfl) (by kernel_rfl) (encode_at hN' HFW HE.out) ?_
        rintro e x ⟨v8, rfl, -, hb⟩
        refine ⟨_, rfl, ?_⟩
        replace hX := hX.later hb
        replace hN := hN.later hb
        replace hN' := hN'.later hb
        replace hB := hB.trans (hb.mono hB.size)
        clear hb
        refine kl_take 3 (some 62) (.tuple #[v8, .int .i64 0]) (by kernel_rfl) (by kernel_rfl) (by kernel_rfl) (by kernel_rfl) ?_
        refine kl_take 4 (some 66) (v8) (by kernel_rfl) (by kernel_rfl) (by kernel_rfl) (by kernel_rfl) ?_
        refine kl_take 5 (some 67) (.int .i64 0) (by kernel_rfl) (by kernel_rfl) (by kernel_rfl) (by kernel_rfl) ?_
        refine kl_take 6 (some 10) (v8) (by kernel_rfl) (by kernel_rfl) (by kernel_rfl) (by kernel_rfl) ?_
        refine kl_take 7 (some 11) (.int .i64 0) (by kernel_rfl) (by kernel_rfl) (by kernel_rfl) (by kernel_rfl) ?_
        refine kl_done (by kernel_rfl) (fun z9 => #[.int .i64 (n : Int), .int .i64 (t : Int), undef, undef, (Value.bool false), .bool true, .pointer (some ⟨bx, 0, none⟩), .int .i64 (n : Int), u8, .int .i64 (z : Int), v8, .int .i64 0, .bool true, .bool true, .bool false, .int .i64 (n : Int), .bool false, .bool false, .int .i64 (n : Int), .bool false, .bool false, .bool false, .int .i64 (t : Int), .bool false, .bool false, .bool false, .int .i64 (t : Int), .bool false, .bool false, .agg (nv true (.slice none 0 0) (.slice none 0 0) (.slice none 0 0)), .int .i64 (n : Int), .int .i64 (n : Int), .bool false, u33, u34, u35, u36, u37, u38, u39, u40, u41, u42, u43, u44, u45, u46, u47, u48, u49, u50, u51, u52, u53, u54, u55, .int .i64 (n : Int), .int .i64 (t : Int), .int .i64 (5 + (t : Int)), .int .i64 ((6 + t : Nat) : Int), .int .i64 ((n * (6 + t) : Nat) : Int), .int .i64 (z : Int), .tuple #[v8, .int .i64 0], .agg (nv true vc (.slice none 0 0) (.slice none 0 0)), .agg (nv true vc' (.slice none 0 0) (.slice none 0 0)), .tuple #[v8, .int .i64 0], v8, .int .i64 0, undef, undef, undef, undef, undef, undef, undef, undef, undef, undef, undef, undef, undef, undef, undef, undef, undef, undef, undef, undef]) (by kernel_rfl) ?_
        intro z9
        go_upto_region 14 with fail
        refine kl_start 88 (by kernel_rfl) ?_
        refine kl_get 0 (some 68) 26 _ (.tmp 6) _ (nv true vc (.slice none 0 0) (.slice none 0 0)) (by kernel_rfl) (by kernel_rfl) (by kernel_rfl) (by kernel_rfl) (by kernel_rfl) hX tyM rfl ?_
        refine kl_callx 1 (some 69) (by kernel_rfl) (by kernel_rfl) (by kernel_rfl) (by kernel_rfl) (nof_any vc (.slice none 0 0) (.slice none 0 0) ⟨true, celsF t n, [], []⟩ _ hN HFW) ?_
        rintro e x ⟨vc2, rfl, hN2, hb⟩
        refine ⟨_, rfl, ?_⟩
        replace hX := hX.later hb
        replace hN := hN.later hb
        replace hN' := hN'.later hb
        replace hB := hB.trans (hb.mono hB.size)
        clear hb
        refine kl_callx 2 (some 70) (by kernel_rfl) (by kernel_rfl) (by kernel_rfl) (by kernel_rfl) (size_at hN2 HFW HSZ.out) ?_
        rintro e x ⟨rfl, hb⟩
        refine ⟨_, rfl, ?_⟩
        replace hX := hX.later hb
        replace hN := hN.later hb
        replace hN' := hN'.later hb
        replace hN2 := hN2.later hb
        replace hB := hB.trans (hb.mono hB.size)
        clear hb
        refine kl_take 3 (some 71) (.int .i64 (z : Int)) (by kernel_rfl) (by kernel_rfl) (by kernel_rfl) (by kernel_rfl) ?_
        refine kl_test 4 (some 72) true (by kernel_rfl) (by kernel_rfl) (by kernel_rfl) (show ((z : Int) == (z : Int)) = true by simp) (by kernel_rfl) ?_
        refine kl_take 5 (some 73) (.bool true) (by kernel_rfl) (by kernel_rfl) (by kernel_rfl) (by kernel_rfl) ?_
        refine kl_take 6 (some 74) (.int .i64 0) (by kernel_rfl) (by kernel_rfl) (by kernel_rfl) (by kernel_rfl) ?_
        refine kl_take 7 (some 75) (.bool true) (by kernel_rfl) (by kernel_rfl) (by kernel_rfl) (by kernel_rfl) ?_
        refine kl_take 8 (some 76) (.int .i64 (z : Int)) (by kernel_rfl) (by kernel_rfl) (by kernel_rfl) (by kernel_rfl) ?_
        refine kl_test 9 (some 77) true (by kernel_rfl) (by kernel_rfl) (by kernel_rfl) (show decide ((z : Int) ≤ 256) = true by simp <;> omega) (by kernel_rfl) ?_
        refine kl_take 10 (some 78) (.bool true) (by kernel_rfl) (by kernel_rfl) (by kernel_rfl) (by kernel_rfl) ?_
        refine kl_take 11 (some 79) (.bool true) (by kernel_rfl) (by kernel_rfl) (by kernel_rfl) (by kernel_rfl) ?_
        refine kl_take 12 (some 80) (.bool true) (by kernel_rfl) (by kernel_rfl) (by kernel_rfl) (by kernel_rfl) ?_
        refine kl_take 13 (some 81) (.int .i64 0) (by kernel_rfl) (by kernel_rfl) (by kernel_rfl) (by kernel_rfl) ?_
        refine kl_take 14 (some 82) (.bool true) (by kernel_rfl) (by kernel_rfl) (by kernel_rfl) (by kernel_rfl) ?_
        refine kl_take 15 (some 83) (.bool true) (by kernel_rfl) (by kernel_rfl) (by kernel_rfl) (by kernel_rfl) ?_
        refine kl_skip 16 (some 84) (by kernel_rfl) (by kernel_rfl) (by kernel_rfl) ?_
        refine kl_skip 17 (some 85) (by kernel_rfl) (by kernel_rfl) (by kernel_rfl) ?_
        refine kl_take 18 (some 86) (.bool true) (by kernel_rfl) (by kernel_rfl) (by kernel_rfl) (by kernel_rfl) ?_
        refine kl_take 19 (some 87) (.bool true) (by kernel_rfl) (by kernel_rfl) (by kernel_rfl) (by kernel_rfl) ?_
        refine kl_take 20 (some 4) (.bool true) (by kernel_rfl) (by kernel_rfl) (by kernel_rfl) (by kernel_rfl) ?_
        refine kl_done (by kernel_rfl) (fun z10 => #[.int .i64 (n : Int), .int .i64 (t : Int), undef, undef, .bool true, .bool true, .pointer (some ⟨bx, 0, none⟩), .int .i64 (n : Int), u8, .int .i64 (z : Int), v8, .int .i64 0, .bool true, .bool true, .bool false, .int .i64 (n : Int), .bool false, .bool false, .int .i64 (n : Int), .bool false, .bool false, .bool false, .int .i64 (t : Int), .bool false, .bool false, .bool false, .int .i64 (t : Int), .bool false, .bool false, .agg (nv true (.slice none 0 0) (.slice none 0 0) (.slice none 0 0)), .int .i64 (n : Int), .int .i64 (n : Int), .bool false, u33, u34, u35, u36, u37, u38, u39, u40, u41, u42, u43, u44, u45, u46, u47, u48, u49, u50, u51, u52, u53, u54, u55, .int .i64 (n : Int), .int .i64 (t : Int), .int .i64 (5 + (t : Int)), .int .i64 ((6 + t : Nat) : Int), .int .i64 ((n * (6 + t) : Nat) : Int), .int .i64 (z : Int), .tuple #[v8, .int .i64 0], .agg (nv true vc (.slice none 0 0) (.slice none 0 0)), .agg (nv true vc' (.slice none 0 0) (.slice none 0 0)), .tuple #[v8, .int .i64 0], v8, .int .i64 0, .agg (nv true vc (.slice none 0 0) (.slice none 0 0)), .agg (nv true vc2 (.slice none 0 0) (.slice none 0 0)), .int .i64 (z : Int), .int .i64 (z : Int), .bool true, .bool true, .int .i64 0, .bool true, .int .i64 (z : Int), .bool true, .bool true, .bool true, .bool true, .int .i64 0, .bool true, .bool true, z10 84, z10 85, .bool true, .bool true]) (by kernel_rfl) ?_
        intro z10
        go_wp2_with fail
        go_ret
        exact ⟨rfl, hB⟩
      · skip
        have HE := hide (HEN.2 hle)
        clear HEN
        go_upto_region 13 with fail
        refine kl_start 88 (by kernel_rfl) ?_
        refine kl_get 0 (some 63) 26 _ (.tmp 6) _ (nv true vc (.slice none 0 0) (.slice none 0 0)) (by kernel_rfl) (by kernel_rfl) (by kernel_rfl) (by kernel_rfl) (by kernel_rfl) hX tyM rfl ?_
        refine kl_callx 1 (some 64) (by kernel_rfl) (by kernel_rfl) (by kernel_rfl) (by kernel_rfl) (nof_any vc (.slice none 0 0) (.slice none 0 0) ⟨true, celsF t n, [], []⟩ _ hN HFW) ?_
        rintro e x ⟨vc', rfl, hN', hb⟩
        refine ⟨_, rfl, ?_⟩
        replace hX := hX.later hb
        replace hN := hN.later hb
        replace hB := hB.trans (hb.mono hB.size)
        clear hb
        refine kl_callx 2 (some 65) (by kernel_rfl) (by kernel_rfl) (by kernel_rfl) (by kernel_rfl) (encode_at hN' HFW HE.out) ?_
        rintro e x ⟨v8, rfl, -, hb⟩
        refine ⟨_, rfl, ?_⟩
        replace hX := hX.later hb
        replace hN := hN.later hb
        replace hN' := hN'.later hb
        replace hB := hB.trans (hb.mono hB.size)
        clear hb
        refine kl_take 3 (some 62) (.tuple #[v8, .int .i64 4]) (by kernel_rfl) (by kernel_rfl) (by kernel_rfl) (by kernel_rfl) ?_
        refine kl_take 4 (some 66) (v8) (by kernel_rfl) (by kernel_rfl) (by kernel_rfl) (by kernel_rfl) ?_
        refine kl_take 5 (some 67) (.int .i64 4) (by kernel_rfl) (by kernel_rfl) (by kernel_rfl) (by kernel_rfl) ?_
        refine kl_take 6 (some 10) (v8) (by kernel_rfl) (by kernel_rfl) (by kernel_rfl) (by kernel_rfl) ?_
        refine kl_take 7 (some 11) (.int .i64 4) (by kernel_rfl) (by kernel_rfl) (by kernel_rfl) (by kernel_rfl) ?_
        refine kl_done (by kernel_rfl) (fun z9 => #[.int .i64 (n : Int), .int .i64 (t : Int), undef, undef, (Value.bool false), .bool true, .pointer (some ⟨bx, 0, none⟩), .int .i64 (n : Int), u8, .int .i64 (z : Int), v8, .int .i64 4, .bool true, .bool true, .bool false, .int .i64 (n : Int), .bool false, .bool false, .int .i64 (n : Int), .bool false, .bool false, .bool false, .int .i64 (t : Int), .bool false, .bool false, .bool false, .int .i64 (t : Int), .bool false, .bool false, .agg (nv true (.slice none 0 0) (.slice none 0 0) (.slice none 0 0)), .int .i64 (n : Int), .int .i64 (n : Int), .bool false, u33, u34, u35, u36, u37, u38, u39, u40, u41, u42, u43, u44, u45, u46, u47, u48, u49, u50, u51, u52, u53, u54, u55, .int .i64 (n : Int), .int .i64 (t : Int), .int .i64 (5 + (t : Int)), .int .i64 ((6 + t : Nat) : Int), .int .i64 ((n * (6 + t) : Nat) : Int), .int .i64 (z : Int), .tuple #[v8, .int .i64 4], .agg (nv true vc (.slice none 0 0) (.slice none 0 0)), .agg (nv true vc' (.slice none 0 0) (.slice none 0 0)), .tuple #[v8, .int .i64 4], v8, .int .i64 4, undef, undef, undef, undef, undef, undef, undef, undef, undef, undef, undef, undef, undef, undef, undef, undef, undef, undef, undef, undef]) (by kernel_rfl) ?_
        intro z9
        go_upto_region 14 with fail
        refine kl_start 88 (by kernel_rfl) ?_
        refine kl_get 0 (some 68) 26 _ (.tmp 6) _ (nv true vc (.slice none 0 0) (.slice none 0 0)) (by kernel_rfl) (by kernel_rfl) (by kernel_rfl) (by kernel_rfl) (by kernel_rfl) hX tyM rfl ?_
        refine kl_callx 1 (some 69) (by kernel_rfl) (by kernel_rfl) (by kernel_rfl) (by kernel_rfl) (nof_any vc (.slice none 0 0) (.slice none 0 0) ⟨true, celsF t n, [], []⟩ _ hN HFW) ?_
        rintro e x ⟨vc2, rfl, hN2, hb⟩
        refine ⟨_, rfl, ?_⟩
        replace hX := hX.later hb
        replace hN := hN.later hb
        replace hN' := hN'.later hb
        replace hB := hB.trans (hb.mono hB.size)
        clear hb
        refine kl_callx 2 (some 70) (by kernel_rfl) (by kernel_rfl) (by kernel_rfl) (by kernel_rfl) (size_at hN2 HFW HSZ.out) ?_
        rintro e x ⟨rfl, hb⟩
        refine ⟨_, rfl, ?_⟩
        replace hX := hX.later hb
        replace hN := hN.later hb
        replace hN' := hN'.later hb
        replace hN2 := hN2.later hb
        replace hB := hB.trans (hb.mono hB.size)
        clear hb
        refine kl_take 3 (some 71) (.int .i64 (z : Int)) (by kernel_rfl) (by kernel_rfl) (by kernel_rfl) (by kernel_rfl) ?_
        refine kl_test 4 (some 72) true (by kernel_rfl) (by kernel_rfl) (by kernel_rfl) (show ((z : Int) == (z : Int)) = true by simp) (by kernel_rfl) ?_
        refine kl_take 5 (some 73) (.bool true) (by kernel_rfl) (by kernel_rfl) (by kernel_rfl) (by kernel_rfl) ?_
        refine kl_take 6 (some 74) (.int .i64 4) (by kernel_rfl) (by kernel_rfl) (by kernel_rfl) (by kernel_rfl) ?_
        refine kl_take 7 (some 75) (.bool false) (by kernel_rfl) (by kernel_rfl) (by kernel_rfl) (by kernel_rfl) ?_
        refine kl_take 8 (some 76) (.int .i64 (z : Int)) (by kernel_rfl) (by kernel_rfl) (by kernel_rfl) (by kernel_rfl) ?_
        refine kl_test 9 (some 77) false (by kernel_rfl) (by kernel_rfl) (by kernel_rfl) (show decide ((z : Int) ≤ 256) = false by simp <;> omega) (by kernel_rfl) ?_
        refine kl_take 10 (some 78) (.bool true) (by kernel_rfl) (by kernel_rfl) (by kernel_rfl) (by kernel_rfl) ?_
        refine kl_take 11 (some 79) (.bool true) (by kernel_rfl) (by kernel_rfl) (by kernel_rfl) (by kernel_rfl) ?_
        refine kl_take 12 (some 80) (.bool true) (by kernel_rfl) (by kernel_rfl) (by kernel_rfl) (by kernel_rfl) ?_
        refine kl_take 13 (some 81) (.int .i64 4) (by kernel_rfl) (by kernel_rfl) (by kernel_rfl) (by kernel_rfl) ?_
        refine kl_take 14 (some 82) (.bool false) (by kernel_rfl) (by kernel_rfl) (by kernel_rfl) (by kernel_rfl) ?_
        refine kl_take 15 (some 83) (.bool false) (by kernel_rfl) (by kernel_rfl) (by kernel_rfl) (by kernel_rfl) ?_
        refine kl_take 16 (some 84) (.int .i64 4) (by kernel_rfl) (by kernel_rfl) (by kernel_rfl) (by kernel_rfl) ?_
        refine kl_take 17 (some 85) (.bool true) (by kernel_rfl) (by kernel_rfl) (by kernel_rfl) (by kernel_rfl) ?_
        refine kl_take 18 (some 86) (.bool true) (by kernel_rfl) (by kernel_rfl) (by kernel_rfl) (by kernel_rfl) ?_
        refine kl_take 19 (some 87) (.bool true) (by kernel_rfl) (by kernel_rfl) (by kernel_rfl) (by kernel_rfl) ?_
        refine kl_take 20 (some 4) (.bool true) (by kernel_rfl) (by kernel_rfl) (by kernel_rfl) (by kernel_rfl) ?_
        refine kl_done (by kernel_rfl) (fun z10 => #[.int .i64 (n : Int), .int .i64 (t : Int), undef, undef, .bool true, .bool true, .pointer (some ⟨bx, 0, none⟩), .int .i64 (n : Int), u8, .int .i64 (z : Int), v8, .int .i64 4, .bool true, .bool true, .bool false, .int .i64 (n : Int), .bool false, .bool false, .int .i64 (n : Int), .bool false, .bool false, .bool false, .int .i64 (t : Int), .bool false, .bool false, .bool false, .int .i64 (t : Int), .bool false, .bool false, .agg (nv true (.slice none 0 0) (.slice none 0 0) (.slice none 0 0)), .int .i64 (n : Int), .int .i64 (n : Int), .bool false, u33, u34, u35, u36, u37, u38, u39, u40, u41, u42, u43, u44, u45, u46, u47, u48, u49, u50, u51, u52, u53, u54, u55, .int .i64 (n : Int), .int .i64 (t : Int), .int .i64 (5 + (t : Int)), .int .i64 ((6 + t : Nat) : Int), .int .i64 ((n * (6 + t) : Nat) : Int), .int .i64 (z : Int), .tuple #[v8, .int .i64 4], .agg (nv true vc (.slice none 0 0) (.slice none 0 0)), .agg (nv true vc' (.slice none 0 0) (.slice none 0 0)), .tuple #[v8, .int .i64 4], v8, .int .i64 4, .agg (nv true vc (.slice none 0 0) (.slice none 0 0)), .agg (nv true vc2 (.slice none 0 0) (.slice none 0 0)), .int .i64 (z : Int), .int .i64 (z : Int), .bool true, .bool true, .int .i64 4, .bool false, .int .i64 (z : Int), .bool false, .bool true, .bool true, .bool true, .int .i64 4, .bool false, .bool false, .int .i64 4, .bool true, .bool true, .bool true]) (by kernel_rfl) ?_
        intro z10
        go_wp2_with fail
        go_ret
        exact ⟨rfl, hB⟩


set_option maxRecDepth 100000 in
theorem lifted (os : Os) (started : os.Started) (H : Type) (enc : TypeId × Value → H) :
    ReturnsInHanded {} Try.checked os 6 .any (Rows.nodeFullSpec.pre6 enc Try.prog Try.f6 Rows.nodeFullRow.domain false) (Rows.nodeFullSpec.post enc Try.prog Try.f6 false true false false) := by
  refine returnsInHanded_of_change (C := Try.checked) own started (by kernel_rfl) Try.func6
    (ChangeSpec.witness6 (enc := enc) (C := Try.checked) false ⟨#[], #[.int .i64 0, .int .i64 0], []⟩ 8 (by kernel_rfl) (by kernel_rfl) (by kernel_rfl) (by kernel_rfl)) ?_
  intro W base args ds gs before hval0 hW hcnd _
  have hval : ∀ (j : Nat) t v, Try.f6.params[j]? = some t → args[j]? = some v → Value.okWide Try.prog W .any base t v := hval0
  have hW' := hW
  obtain ⟨p, q, hA0, hV, rfl, hfz, hnd⟩ := hW
  have hA : DataW.TrodAll enc Try.prog W 0 (fun _ => true) true Try.f6.params.toList args.toList ds p := hA0
  rw [Try.params6] at hA hval
  obtain ⟨v0, vs0, d0, ds0, p0, q0, hargs, rfl, rfl, h0, r0⟩ := trodAll_cons hA
  obtain ⟨v1, vs1, d1, ds1, p1, q1, rfl, rfl, rfl, h1, r1⟩ := trodAll_cons r0
  obtain ⟨rfl, rfl, rfl⟩ := trodAll_nil r1
  obtain rfl : args = #[v0, v1] := by cases args; simp_all
  obtain ⟨rfl, rfl⟩ := trodVars_none hV
  obtain ⟨a0, rfl, rfl, rfl, w0⟩ := open_int Try.underlying3 (hval 0 3 v0 rfl rfl) h0
  obtain ⟨a1, rfl, rfl, rfl, w1⟩ := open_int Try.underlying3 (hval 1 3 v1 rfl rfl) h1
  clear hA0 hval0
  refine (walk a0 a1 W w0 w1).mono fun e W' ⟨he, bel⟩ => ?_
  subst he
  exact ⟨_, rfl, _, _, _, [], _, [], hW', trodAll_mk1 (shut_bool Try.underlying4 _), (trodAll_cons_mk (shut_int Try.underlying3 w0) (trodAll_cons_mk (shut_int Try.underlying3 w1) trodAll_mk0)), rfl, bel.frame _, fun h => by cases h⟩

theorem over : Rows.nodeFullRow.holds Try.pinned (OpenSpec.ofChange Rows.nodeFullSpec) :=
  OpenClaim.holds_of_wide 6 Try.f6 rfl rfl rfl rfl rfl rfl rfl ⟨rfl, rfl, rfl, rfl, rfl⟩ rfl rfl rfl rfl rfl (by kernel_rfl) Try.func6 (by kernel_rfl)
    (of_decide_eq_true (by kernel_rfl)) (by unfold Func.isWrapper; first | (rw [if_pos (by decide +kernel)]; kernel_rfl) | (rw [if_neg (by decide +kernel)]; exact ⟨rfl, rfl⟩))
    (fun os started H enc _ => lifted os started H enc)

theorem proved : Rows.NodeFullSaid := over
#print axioms proved
end Go.Proofs.Ytbddghdkmakjlaa.nodeFull
