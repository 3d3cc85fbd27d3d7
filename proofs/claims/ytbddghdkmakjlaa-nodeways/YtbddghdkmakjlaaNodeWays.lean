/-
  For every two ints n and long NodeWays returns true: a node of n ways (1 to 32) with keys of that length (1 to 16) between them has the size that the document says, Encode takes it just if that is at most 256, else it tells ErrFull, and Decode tells as many kids and keys. No condition.
-/
import Derived.Test.YtbddghdkmakjlaaRows
import Derived.WalkKit
import Derived.ProofKit
import Derived.OpenShut
import Derived.ShutString
import Derived.ChangeOld
import Derived.Below
import Derived.Test.YtbddghdkmakjlaaNodH
import Derived.Test.YtbddghdkmakjlaaNodC
import Derived.Test.YtbddghdkmakjlaaLae
import Derived.Test.YtbddghdkmakjlaaNodV
import Derived.Test.YtbddghdkmakjlaaOnn
import Derived.Test.YtbddghdkmakjlaaKry
namespace Go.Proofs.Ytbddghdkmakjlaa.nodeWays
open Go.ChangeShapes Go.WideShapes Go.ChangeAt Go.RowKit
open Go.ChangeMaps (open_string shut_string)
set_option linter.unusedVariables false

theorem own : ownKnob Try.prog.godebug = none := by kernel_rfl
theorem laidOut : laidOutB Try.prog = true := by kernel_rfl

theorem set_rep {m i : Nat} (z : Int) (h : i < m) : (bv (List.replicate i z ++ List.replicate (m - i) 0)).set i (.int .u8 z) = bv (List.replicate (i + 1) z ++ List.replicate (m - (i + 1)) 0) := by
  unfold bv
  obtain ⟨r, hr⟩ : ∃ r, m - i = r + 1 := ⟨m - i - 1, by omega⟩
  rw [hr, show m - (i + 1) = r by omega, List.replicate_succ, List.map_append, List.map_cons, List.set_append_right _ _ (by simp), List.length_map, List.length_replicate, Nat.sub_self, List.set_cons_zero, List.replicate_succ', List.map_append, List.map_append]
  simp

set_option maxRecDepth 100000 in
set_option maxHeartbeats 8000000 in
theorem walk (a0 a1 : Int) (w : World) (w0 : (Lit.int .i64 a0).wf = true) (w1 : (Lit.int .i64 a1).wf = true) :
    Calls Try.prog 7 #[.int .i64 a0, .int .i64 a1] w fun e w' => e = .returned (.bool true) ∧ Below w.heap.size w w' := by
  clear w0 w1
  cases h1 : decide (a0 < 1)
  case true =>
    go_enter Try.func7, Try.ntmps7
    go_wp2_with fail
    refine (nbegun_any _).mono ?_
    rintro e W1 ⟨rfl, hB⟩
    go_wp2_with fail
    go_ret
    exact ⟨rfl, hB⟩
  cases h2 : decide (32 < a0)
  case true =>
    go_enter Try.func7, Try.ntmps7
    go_wp2_with fail
    refine (nbegun_any _).mono ?_
    rintro e W1 ⟨rfl, hB⟩
    go_wp2_with fail
    go_ret
    exact ⟨rfl, hB⟩
  cases h3 : decide (a1 < 1)
  case true =>
    go_enter Try.func7, Try.ntmps7
    go_wp2_with fail
    refine (nbegun_any _).mono ?_
    rintro e W1 ⟨rfl, hB⟩
    go_wp2_with fail
    go_ret
    exact ⟨rfl, hB⟩
  cases h4 : decide (16 < a1)
  case true =>
    go_enter Try.func7, Try.ntmps7
    go_wp2_with fail
    refine (nbegun_any _).mono ?_
    rintro e W1 ⟨rfl, hB⟩
    go_wp2_with fail
    go_ret
    exact ⟨rfl, hB⟩
  obtain ⟨n, rfl⟩ : ∃ n : Nat, a0 = (n : Int) := ⟨a0.toNat, by have := of_decide_eq_false h1; omega⟩
  obtain ⟨m, rfl⟩ : ∃ m : Nat, a1 = (m : Int) := ⟨a1.toNat, by have := of_decide_eq_false h3; omega⟩
  have HL := hide (show (1 ≤ n ∧ n ≤ 32) ∧ 1 ≤ m ∧ m ≤ 16 by have := of_decide_eq_false h1; have := of_decide_eq_false h2; have := of_decide_eq_false h3; have := of_decide_eq_false h4; omega)
  go_enter Try.func7, Try.ntmps7
  have hB : Below w.heap.size w w := Below.refl _ _
  go_upto_region 0 with fail
  refine kl_start 121 (by kernel_rfl) ?_
  refine kl_take 0 (some 4) ((Value.bool false)) (by kernel_rfl) (by kernel_rfl) (by kernel_rfl) (by kernel_rfl) ?_
  refine kl_done (by kernel_rfl) (fun y1 => #[.int .i64 (n : Int), .int .i64 (m : Int), undef, undef, (Value.bool false), undef, undef, undef, undef, undef, undef, undef, undef, undef, undef, undef, undef, undef, undef, undef, undef, undef, undef, undef, undef, undef, undef, undef, undef, undef, undef, undef, undef, undef, undef, undef, undef, undef, undef, undef, undef, undef, undef, undef, undef, undef, undef, undef, undef, undef, undef, undef, undef, undef, undef, undef, undef, undef, undef, undef, undef, undef, undef, undef, undef, undef, undef, undef, undef, undef, undef, undef, undef, undef, undef, undef, undef, undef, undef, undef, undef, undef, undef, undef, undef, undef, undef, undef, undef, undef, undef, undef, undef, undef, undef, undef, undef, undef, undef, undef, undef, undef, undef, undef, undef, undef, undef, undef, undef, undef, undef, undef, undef, undef, undef, undef, undef, undef, undef, undef, undef]) (by kernel_rfl) ?_
  intro y1
  go_upto_region 1 with fail
  refine kl_start 121 (by kernel_rfl) ?_
  refine kl_callx 0 (some 15) (by kernel_rfl) (by kernel_rfl) (by kernel_rfl) (by kernel_rfl) (nbegun_any _) ?_
  rintro e x ⟨rfl, hb⟩
  refine ⟨_, rfl, ?_⟩
  replace hB := hB.trans (hb.mono hB.size)
  clear hb
  refine kl_take 1 (some 5) (.bool true) (by kernel_rfl) (by kernel_rfl) (by kernel_rfl) (by kernel_rfl) ?_
  refine kl_done (by kernel_rfl) (fun y2 => #[.int .i64 (n : Int), .int .i64 (m : Int), undef, undef, (Value.bool false), .bool true, undef, undef, undef, undef, undef, undef, undef, undef, undef, .bool true, undef, undef, undef, undef, undef, undef, undef, undef, undef, undef, undef, undef, undef, undef, undef, undef, undef, undef, undef, undef, undef, undef, undef, undef, undef, undef, undef, undef, undef, undef, undef, undef, undef, undef, undef, undef, undef, undef, undef, undef, undef, undef, undef, undef, undef, undef, undef, undef, undef, undef, undef, undef, undef, undef, undef, undef, undef, undef, undef, undef, undef, undef, undef, undef, undef, undef, undef, undef, undef, undef, undef, undef, undef, undef, undef, undef, undef, undef, undef, undef, undef, undef, undef, undef, undef, undef, undef, undef, undef, undef, undef, undef, undef, undef, undef, undef, undef, undef, undef, undef, undef, undef, undef, undef, undef]) (by kernel_rfl) ?_
  intro y2
  go_upto_region 2 with fail
  refine kl_start 121 (by kernel_rfl) ?_
  refine kl_take 0 (some 16) (.bool true) (by kernel_rfl) (by kernel_rfl) (by kernel_rfl) (by kernel_rfl) ?_
  refine kl_take 1 (some 17) (.bool false) (by kernel_rfl) (by kernel_rfl) (by kernel_rfl) (by kernel_rfl) ?_
  refine kl_done (by kernel_rfl) (fun y3 => #[.int .i64 (n : Int), .int .i64 (m : Int), undef, undef, (Value.bool false), .bool true, undef, undef, undef, undef, undef, undef, undef, undef, undef, .bool true, .bool true, .bool false, undef, undef, undef, undef, undef, undef, undef, undef, undef, undef, undef, undef, undef, undef, undef, undef, undef, undef, undef, undef, undef, undef, undef, undef, undef, undef, undef, undef, undef, undef, undef, undef, undef, undef, undef, undef, undef, undef, undef, undef, undef, undef, undef, undef, undef, undef, undef, undef, undef, undef, undef, undef, undef, undef, undef, undef, undef, undef, undef, undef, undef, undef, undef, undef, undef, undef, undef, undef, undef, undef, undef, undef, undef, undef, undef, undef, undef, undef, undef, undef, undef, undef, undef, undef, undef, undef, undef, undef, undef, undef, undef, undef, undef, undef, undef, undef, undef, undef, undef, undef, undef, undef, undef]) (by kernel_rfl) ?_
  intro y3
  go_upto_region 4 with fail
  refine kl_start 121 (by kernel_rfl) ?_
  refine kl_take 0 (some 18) (.int .i64 (n : Int)) (by kernel_rfl) (by kernel_rfl) (by kernel_rfl) (by kernel_rfl) ?_
  refine kl_test 1 (some 19) false (by kernel_rfl) (by kernel_rfl) (by kernel_rfl) (h1) (by kernel_rfl) ?_
  refine kl_take 2 (some 20) (.bool false) (by kernel_rfl) (by kernel_rfl) (by kernel_rfl) (by kernel_rfl) ?_
  refine kl_take 3 (some 21) (.int .i64 (n : Int)) (by kernel_rfl) (by kernel_rfl) (by kernel_rfl) (by kernel_rfl) ?_
  refine kl_test 4 (some 22) false (by kernel_rfl) (by kernel_rfl) (by kernel_rfl) (h2) (by kernel_rfl) ?_
  refine kl_take 5 (some 23) (.bool false) (by kernel_rfl) (by kernel_rfl) (by kernel_rfl) (by kernel_rfl) ?_
  refine kl_take 6 (some 24) (.bool false) (by kernel_rfl) (by kernel_rfl) (by kernel_rfl) (by kernel_rfl) ?_
  refine kl_take 7 (some 25) (.int .i64 (m : Int)) (by kernel_rfl) (by kernel_rfl) (by kernel_rfl) (by kernel_rfl) ?_
  refine kl_test 8 (some 26) false (by kernel_rfl) (by kernel_rfl) (by kernel_rfl) (h3) (by kernel_rfl) ?_
  refine kl_take 9 (some 27) (.bool false) (by kernel_rfl) (by kernel_rfl) (by kernel_rfl) (by kernel_rfl) ?_
  refine kl_take 10 (some 28) (.bool false) (by kernel_rfl) (by kernel_rfl) (by kernel_rfl) (by kernel_rfl) ?_
  refine kl_take 11 (some 29) (.int .i64 (m : Int)) (by kernel_rfl) (by kernel_rfl) (by kernel_rfl) (by kernel_rfl) ?_
  refine kl_test 12 (some 30) false (by kernel_rfl) (by kernel_rfl) (by kernel_rfl) (h4) (by kernel_rfl) ?_
  refine kl_take 13 (some 31) (.bool false) (by kernel_rfl) (by kernel_rfl) (by kernel_rfl) (by kernel_rfl) ?_
  refine kl_done (by kernel_rfl) (fun y4 => #[.int .i64 (n : Int), .int .i64 (m : Int), undef, undef, (Value.bool false), .bool true, undef, undef, undef, undef, undef, undef, undef, undef, undef, .bool true, .bool true, .bool false, .int .i64 (n : Int), .bool false, .bool false, .int .i64 (n : Int), .bool false, .bool false, .bool false, .int .i64 (m : Int), .bool false, .bool false, .bool false, .int .i64 (m : Int), .bool false, .bool false, undef, undef, undef, undef, undef, undef, undef, undef, undef, undef, undef, undef, undef, undef, undef, undef, undef, undef, undef, undef, undef, undef, undef, undef, undef, undef, undef, undef, undef, undef, undef, undef, undef, undef, undef, undef, undef, undef, undef, undef, undef, undef, undef, undef, undef, undef, undef, undef, undef, undef, undef, undef, undef, undef, undef, undef, undef, undef, undef, undef, undef, undef, undef, undef, undef, undef, undef, undef, undef, undef, undef, undef, undef, undef, undef, undef, undef, undef, undef, undef, undef, undef, undef, undef, undef, undef, undef, undef, undef]) (by kernel_rfl) ?_
  intro y4
  clear h1 h2 h3 h4
  go_upto_region 6 with fail
  refine kl_start 121 (by kernel_rfl) ?_
  refine kl_build 0 (some 32) nn0 26 #[] (by kernel_rfl) (by kernel_rfl) (by kernel_rfl) (by kernel_rfl) (by kernel_rfl) ?_
  refine kl_new 1 (some 6) 26 _ (by kernel_rfl) (by kernel_rfl) (by kernel_rfl) (by kernel_rfl) tyM ?_
  intro W2 hb hX0
  have hBp := hb
  generalize hbx : x.heap.size = bx at *
  generalize hBB : W2.heap.size = B at *
  refine kl_put 2 26 _ (.tmp 6) (.tmp 32) _ nn0 _ (by kernel_rfl) (by kernel_rfl) (by kernel_rfl) (by kernel_rfl) (by kernel_rfl) (by kernel_rfl) hX0 tyM rfl rfl nn0_one ?_
  intro W3 hb3 hs3 hX3
  have HS : Hid (Xst w W3 B bx (nv false (.slice none 0 0) (.slice none 0 0) (.slice none 0 0))) := hide ⟨hX3, by omega, Below.but (hB.trans (hb.mono (by have := hB.size; omega))) (by have := hB.size; have := hX0.lt; omega) hb3 (fun k e => by have := hB.size; omega), by have := hX0.lt; omega, by have := hB.size; omega⟩
  clear hX0 hb hBp hb3 hX3 hs3 hB hbx hBB
  refine kl_done (by kernel_rfl) (fun y5 => #[.int .i64 (n : Int), .int .i64 (m : Int), undef, undef, (Value.bool false), .bool true, .pointer (some ⟨bx, 0, none⟩), undef, undef, undef, undef, undef, undef, undef, undef, .bool true, .bool true, .bool false, .int .i64 (n : Int), .bool false, .bool false, .int .i64 (n : Int), .bool false, .bool false, .bool false, .int .i64 (m : Int), .bool false, .bool false, .bool false, .int .i64 (m : Int), .bool false, .bool false, .agg nn0, undef, undef, undef, undef, undef, undef, undef, undef, undef, undef, undef, undef, undef, undef, undef, undef, undef, undef, undef, undef, undef, undef, undef, undef, undef, undef, undef, undef, undef, undef, undef, undef, undef, undef, undef, undef, undef, undef, undef, undef, undef, undef, undef, undef, undef, undef, undef, undef, undef, undef, undef, undef, undef, undef, undef, undef, undef, undef, undef, undef, undef, undef, undef, undef, undef, undef, undef, undef, undef, undef, undef, undef, undef, undef, undef, undef, undef, undef, undef, undef, undef, undef, undef, undef, undef, undef, undef, undef]) (by kernel_rfl) ?_
  intro y5
  go_upto_region 7 with fail
  refine kl_start 121 (by kernel_rfl) ?_
  refine kl_take 0 (some 7) ((Value.int IntKind.i64 0)) (by kernel_rfl) (by kernel_rfl) (by kernel_rfl) (by kernel_rfl) ?_
  refine kl_done (by kernel_rfl) (fun y6 => #[.int .i64 (n : Int), .int .i64 (m : Int), undef, undef, (Value.bool false), .bool true, .pointer (some ⟨bx, 0, none⟩), (Value.int IntKind.i64 0), undef, undef, undef, undef, undef, undef, undef, .bool true, .bool true, .bool false, .int .i64 (n : Int), .bool false, .bool false, .int .i64 (n : Int), .bool false, .bool false, .bool false, .int .i64 (m : Int), .bool false, .bool false, .bool false, .int .i64 (m : Int), .bool false, .bool false, .agg nn0, undef, undef, undef, undef, undef, undef, undef, undef, undef, undef, undef, undef, undef, undef, undef, undef, undef, undef, undef, undef, undef, undef, undef, undef, undef, undef, undef, undef, undef, undef, undef, undef, undef, undef, undef, undef, undef, undef, undef, undef, undef, undef, undef, undef, undef, undef, undef, undef, undef, undef, undef, undef, undef, undef, undef, undef, undef, undef, undef, undef, undef, undef, undef, undef, undef, undef, undef, undef, undef, undef, undef, undef, undef, undef, undef, undef, undef, undef, undef, undef, undef, undef, undef, undef, undef, undef, undef, undef]) (by kernel_rfl) ?_
  intro y6
  go_wp2_with fail
  go_loopw [7] (fun i wr => ∃ (j : Nat) (vk vi : Value), j ≤ n ∧ i = .int .i64 j ∧ Hid (wr.ownsRow B 3 1 vi j ((kidsW j).map (Value.int .i64))) ∧ Hid (wr.ownsRow B 9 1 vk (j - 1) ((keysW m j).map Value.string)) ∧ Hid (Xst w wr B bx (nv false (.slice none 0 0) vk vi))) (fun i _ => n - (intOf i).toNat)
  case atStart => exact ⟨0, .slice none 0 0, .slice none 0 0, by omega, rfl, World.ownsRow_nil _ _ _ _, World.ownsRow_nil _ _ _ _, HS⟩
  case round =>
    obtain ⟨j, vk, vi, hj0, rfl, HI, HK, HX⟩ := hrel
    clear HS
    have hj20 := HL.out
    by_cases hj : j < n
    · skip
      have hw1 : (j : Int).tmod 30 = ((j % 30 : Nat) : Int) := by rw [Int.tmod_eq_emod_of_nonneg (by omega)]; omega
      have hw2 : IntKind.i64.wrap (2 + ((j % 30 : Nat) : Int)) = kidi j := by unfold kidi; rw [IntKind.wrap_i64]; omega
      go_upto_region 8 with fail
      refine kl_start 121 (by kernel_rfl) ?_
      refine kl_take 0 (some 33) (.int .i64 (j : Int)) (by kernel_rfl) (by kernel_rfl) (by kernel_rfl) (by kernel_rfl) ?_
      refine kl_take 1 (some 34) (.int .i64 (n : Int)) (by kernel_rfl) (by kernel_rfl) (by kernel_rfl) (by kernel_rfl) ?_
      refine kl_test 2 (some 35) true (by kernel_rfl) (by kernel_rfl) (by kernel_rfl) (show decide ((j : Int) < (n : Int)) = true by simp; omega) (by kernel_rfl) ?_
      refine kl_done (by kernel_rfl) (fun z7 => #[.int .i64 (n : Int), .int .i64 (m : Int), undef, undef, (Value.bool false), .bool true, .pointer (some ⟨bx, 0, none⟩), .int .i64 (j : Int), u8, u9, undef, undef, undef, undef, undef, .bool true, .bool true, .bool false, .int .i64 (n : Int), .bool false, .bool false, .int .i64 (n : Int), .bool false, .bool false, .bool false, .int .i64 (m : Int), .bool false, .bool false, .bool false, .int .i64 (m : Int), .bool false, .bool false, .agg nn0, .int .i64 (j : Int), .int .i64 (n : Int), .bool true, u36, u37, u38, u39, u40, u41, u42, u43, u44, u45, u46, u47, u48, u49, u50, u51, u52, u53, u54, u55, u56, u57, u58, u59, u60, u61, u62, u63, u64, u65, u66, u67, u68, undef, undef, undef, undef, undef, undef, undef, undef, undef, undef, undef, undef, undef, undef, undef, undef, undef, undef, undef, undef, undef, undef, undef, undef, undef, undef, undef, undef, undef, undef, undef, undef, undef, undef, undef, undef, undef, undef, undef, undef, undef, undef, undef, undef, undef, undef, undef, undef, undef, undef, undef, undef]) (by kernel_rfl) ?_
      intro z7
      go_upto_region 10 with fail
      refine kl_start 121 (by kernel_rfl) ?_
      refine kl_take 0 (some 38) (.pointer (some ⟨bx, 3, none⟩)) (by kernel_rfl) (by kernel_rfl) (by kernel_rfl) (by kernel_rfl) ?_
      refine kl_load 1 (some 39) (vi) 24 (.tmp 38) (by kernel_rfl) (by kernel_rfl) (by kernel_rfl) (by kernel_rfl) (by kernel_rfl) (ld_is HX.out.x.nodes.2.2.2) ?_
      refine kl_take 2 (some 40) (.int .i64 (j : Int)) (by kernel_rfl) (by kernel_rfl) (by kernel_rfl) (by kernel_rfl) ?_
      refine kl_take 3 (some 41) (.int .i64 ((j : Int).tmod 30)) (by kernel_rfl) (by kernel_rfl) (by kernel_rfl) (by kernel_rfl) ?_
      rw [hw1]
      refine kl_take 4 (some 42) (.int .i64 (IntKind.i64.wrap (2 + ((j % 30 : Nat) : Int)))) (by kernel_rfl) (by kernel_rfl) (by kernel_rfl) (by kernel_rfl) ?_
      rw [hw2]
      refine kl_lit1 5 (some 43) 24 3 (.int .i64 0) 1 8 (.tmp 42) (.int .i64 (kidi j)) (by kernel_rfl) (by kernel_rfl) (by kernel_rfl) (by kernel_rfl) Try.underlying24 infoI rfl (by decide) (by decide) (by kernel_rfl) rfl ?_
      have hA5 : Below wr.heap.size wr (World.alloc wr (.cells (Value.int .i64 (kidi j)).cells 3)) := (Below.refl _ _).alloc (Nat.le_refl _) _
      refine kl_app1 6 (some 44) 24 3 (.int .i64 0) 1 8 (.tmp 39) (.tmp 43) B vi j ((kidsW j).map (Value.int .i64)) _ _ (by kernel_rfl) (by kernel_rfl) (by kernel_rfl) (by kernel_rfl) Try.underlying24 infoI rfl (by decide) (by kernel_rfl) (by kernel_rfl) (by omega) (by omega) (HI.out.alloc _) (heap_alloc_new _ _) rfl (int_one' _) (Nat.le_trans HX.out.b (alloc_le _ _)) ?_
      intro v5 W5 ho5 hg5
      have hT5 := (HX.out.later hA5).grown (HI.out.alloc _) hg5
      have hK5 := (own_below HK.out hA5).kept hg5 (own_apart (own_below HK.out hA5) (HI.out.alloc _) (by decide))
      obtain ⟨p5, c5, rfl, hc5, hc6⟩ := own_opensN ho5
      have HO5 : Hid (W5.ownsRow B 3 1 (.slice p5 (j + 1) c5) (j + 1) ((kidsW (j + 1)).map (Value.int .i64))) := hide (by rw [show kidsW (j + 1) = kidsW j ++ [kidi j] from range_snoc _ _, List.map_append]; exact ho5)
      clear ho5 hg5 hA5
      refine kl_take 7 (some 45) (.pointer (some ⟨bx, 3, none⟩)) (by kernel_rfl) (by kernel_rfl) (by kernel_rfl) (by kernel_rfl) ?_
      refine kl_put1 8 24 (.tmp 45) (.tmp 44) _ 3 (.slice p5 (j + 1) c5) _ (by kernel_rfl) (by kernel_rfl) (by kernel_rfl) (by kernel_rfl) (by kernel_rfl) (by kernel_rfl) hT5.x (show 3 < 4 by omega) (by kernel_rfl) rfl (fun a W => run_store Try.prog W a _ _ rfl) ?_
      intro W6 hb6 hs6 hX6
      have HX2 : Hid (Xst w W6 B bx (nv false (.slice none 0 0) vk (.slice p5 (j + 1) c5))) := hide (hT5.put hb6 hs6 hX6)
      have HI2 := hide (own_but' HO5.out hb6 (fun k hk e => by have := hT5.l; omega))
      have HK2 := hide (own_but' hK5 hb6 (fun k hk e => by have := hT5.l; omega))
      clear hb6 hs6 hX6 hT5 hK5 HO5 HI HK HX hc5 hc6
      refine kl_done (by kernel_rfl) (fun z8 => #[.int .i64 (n : Int), .int .i64 (m : Int), undef, undef, (Value.bool false), .bool true, .pointer (some ⟨bx, 0, none⟩), .int .i64 (j : Int), u8, u9, undef, undef, undef, undef, undef, .bool true, .bool true, .bool false, .int .i64 (n : Int), .bool false, .bool false, .int .i64 (n : Int), .bool false, .bool false, .bool false, .int .i64 (m : Int), .bool false, .bool false, .bool false, .int .i64 (m : Int), .bool false, .bool false, .agg nn0, .int .i64 (j : Int), .int .i64 (n : Int), .bool true, u36, u37, .pointer (some ⟨bx, 3, none⟩), z8 39, .int .i64 (j : Int), .int .i64 ((j % 30 : Nat) : Int), .int .i64 (kidi j), z8 43, z8 44, .pointer (some ⟨bx, 3, none⟩), u46, u47, u48, u49, u50, u51, u52, u53, u54, u55, u56, u57, u58, u59, u60, u61, u62, u63, u64, u65, u66, u67, u68, undef, undef, undef, undef, undef, undef, undef, undef, undef, undef, undef, undef, undef, undef, undef, undef, undef, undef, undef, undef, undef, undef, undef, undef, undef, undef, undef, undef, undef, undef, undef, undef, undef, undef, undef, undef, undef, undef, undef, undef, undef, undef, undef, undef, undef, undef, undef, undef, undef, undef, undef, undef]) (by kernel_rfl) ?_
      intro z8
      cases hz : decide ((0 : Int) < (j : Int))
      · skip
        have hj00 : j = 0 := by have := of_decide_eq_false hz; omega
        go_upto_region 11 with fail
        refine kl_start 121 (by kernel_rfl) ?_
        refine kl_take 0 (some 46) (.int .i64 (j : Int)) (by kernel_rfl) (by kernel_rfl) (by kernel_rfl) (by kernel_rfl) ?_
        refine kl_test 1 (some 47) false (by kernel_rfl) (by kernel_rfl) (by kernel_rfl) (hz) (by kernel_rfl) ?_
        refine kl_done (by kernel_rfl) (fun z9 => #[.int .i64 (n : Int), .int .i64 (m : Int), undef, undef, (Value.bool false), .bool true, .pointer (some ⟨bx, 0, none⟩), .int .i64 (j : Int), u8, u9, undef, undef, undef, undef, undef, .bool true, .bool true, .bool false, .int .i64 (n : Int), .bool false, .bool false, .int .i64 (n : Int), .bool false, .bool false, .bool false, .int .i64 (m : Int), .bool false, .bool false, .bool false, .int .i64 (m : Int), .bool false, .bool false, .agg nn0, .int .i64 (j : Int), .int .i64 (n : Int), .bool true, u36, u37, .pointer (some ⟨bx, 3, none⟩), z8 39, .int .i64 (j : Int), .int .i64 ((j % 30 : Nat) : Int), .int .i64 (kidi j), z8 43, z8 44, .pointer (some ⟨bx, 3, none⟩), .int .i64 (j : Int), .bool false, u48, u49, u50, u51, u52, u53, u54, u55, u56, u57, u58, u59, u60, u61, u62, u63, u64, u65, u66, u67, u68, undef, undef, undef, undef, undef, undef, undef, undef, undef, undef, undef, undef, undef, undef, undef, undef, undef, undef, undef, undef, undef, undef, undef, undef, undef, undef, undef, undef, undef, undef, undef, undef, undef, undef, undef, undef, undef, undef, undef, undef, undef, undef, undef, undef, undef, undef, undef, undef, undef, undef, undef, undef]) (by kernel_rfl) ?_
        intro z9
        go_wp2_with fail
        go_roundw
        case rel => exact ⟨j + 1, vk, .slice p5 (j + 1) c5, hj, by go_num, HI2, by subst hj00; exact HK2, HX2⟩
        case measure => simp [intOf]; omega
      · skip
        have hj1 : 1 ≤ j := by have := of_decide_eq_true hz; omega
        have hw3 : IntKind.i64.wrap (97 + (j : Int)) = 97 + (j : Int) := by rw [IntKind.wrap_i64]; omega
        have hw4 : IntKind.u8.wrap (97 + (j : Int)) = 97 + (j : Int) := by rw [IntKind.wrap_u8]; omega
        go_upto_region 11 with fail
        refine kl_start 121 (by kernel_rfl) ?_
        refine kl_take 0 (some 46) (.int .i64 (j : Int)) (by kernel_rfl) (by kernel_rfl) (by kernel_rfl) (by kernel_rfl) ?_
        refine kl_test 1 (some 47) true (by kernel_rfl) (by kernel_rfl) (by kernel_rfl) (hz) (by kernel_rfl) ?_
        refine kl_done (by kernel_rfl) (fun z9 => #[.int .i64 (n : Int), .int .i64 (m : Int), undef, undef, (Value.bool false), .bool true, .pointer (some ⟨bx, 0, none⟩), .int .i64 (j : Int), u8, u9, undef, undef, undef, undef, undef, .bool true, .bool true, .bool false, .int .i64 (n : Int), .bool false, .bool false, .int .i64 (n : Int), .bool false, .bool false, .bool false, .int .i64 (m : Int), .bool false, .bool false, .bool false, .int .i64 (m : Int), .bool false, .bool false, .agg nn0, .int .i64 (j : Int), .int .i64 (n : Int), .bool true, u36, u37, .pointer (some ⟨bx, 3, none⟩), z8 39, .int .i64 (j : Int), .int .i64 ((j % 30 : Nat) : Int), .int .i64 (kidi j), z8 43, z8 44, .pointer (some ⟨bx, 3, none⟩), .int .i64 (j : Int), .bool true, u48, u49, u50, u51, u52, u53, u54, u55, u56, u57, u58, u59, u60, u61, u62, u63, u64, u65, u66, u67, u68, undef, undef, undef, undef, undef, undef, undef, undef, undef, undef, undef, undef, undef, undef, undef, undef, undef, undef, undef, undef, undef, undef, undef, undef, undef, undef, undef, undef, undef, undef, undef, undef, undef, undef, undef, undef, undef, undef, undef, undef, undef, undef, undef, undef, undef, undef, undef, undef, undef, undef, undef, undef]) (by kernel_rfl) ?_
        intro z9
        go_upto_region 12 with fail
        refine kl_start 121 (by kernel_rfl) ?_
        refine kl_take 0 (some 48) (.int .i64 (m : Int)) (by kernel_rfl) (by kernel_rfl) (by kernel_rfl) (by kernel_rfl) ?_
        refine kl_mkB 1 (some 49) (.tmp 48) (.tmp 48) m (by omega) (by kernel_rfl) (by kernel_rfl) (by kernel_rfl) (by kernel_rfl) (by kernel_rfl) (by kernel_rfl) ?_
        intro W7 hb ho7
        have hX7 := HX2.out.later hb
        have hI7 := own_below HI2.out hb
        have hK7 := own_below HK2.out hb
        have hbm := hX7.b
        have hBm : B ≤ W6.heap.size := HX2.out.b
        clear HX2 HI2 HK2 hb
        generalize W6.heap.size = bm at *
        refine kl_take 2 (some 8) (.slice (some ⟨bm, 0, none⟩) m m) (by kernel_rfl) (by kernel_rfl) (by kernel_rfl) (by kernel_rfl) ?_
        refine kl_done (by kernel_rfl) (fun z10 => #[.int .i64 (n : Int), .int .i64 (m : Int), undef, undef, (Value.bool false), .bool true, .pointer (some ⟨bx, 0, none⟩), .int .i64 (j : Int), .slice (some ⟨bm, 0, none⟩) m m, u9, undef, undef, undef, undef, undef, .bool true, .bool true, .bool false, .int .i64 (n : Int), .bool false, .bool false, .int .i64 (n : Int), .bool false, .bool false, .bool false, .int .i64 (m : Int), .bool false, .bool false, .bool false, .int .i64 (m : Int), .bool false, .bool false, .agg nn0, .int .i64 (j : Int), .int .i64 (n : Int), .bool true, u36, u37, .pointer (some ⟨bx, 3, none⟩), z8 39, .int .i64 (j : Int), .int .i64 ((j % 30 : Nat) : Int), .int .i64 (kidi j), z8 43, z8 44, .pointer (some ⟨bx, 3, none⟩), .int .i64 (j : Int), .bool true, .int .i64 (m : Int), .slice (some ⟨bm, 0, none⟩) m m, u50, u51, u52, u53, u54, u55, u56, u57, u58, u59, u60, u61, u62, u63, u64, u65, u66, u67, u68, undef, undef, undef, undef, undef, undef, undef, undef, undef, undef, undef, undef, undef, undef, undef, undef, undef, undef, undef, undef, undef, undef, undef, undef, undef, undef, undef, undef, undef, undef, undef, undef, undef, undef, undef, undef, undef, undef, undef, undef, undef, undef, undef, undef, undef, undef, undef, undef, undef, undef, undef, undef]) (by kernel_rfl) ?_
        intro z10
        go_upto_region 13 with fail
        refine kl_start 121 (by kernel_rfl) ?_
        refine kl_take 0 (some 50) (.slice (some ⟨bm, 0, none⟩) m m) (by kernel_rfl) (by kernel_rfl) (by kernel_rfl) (by kernel_rfl) ?_
        refine kl_take 1 (some 51) (.int .i64 (m : Int)) (by kernel_rfl) (by kernel_rfl) (by kernel_rfl) (by kernel_rfl) ?_
        refine kl_take 2 (some 52) ((Value.int IntKind.i64 0)) (by kernel_rfl) (by kernel_rfl) (by kernel_rfl) (by kernel_rfl) ?_
        refine kl_done (by kernel_rfl) (fun z11 => #[.int .i64 (n : Int), .int .i64 (m : Int), undef, undef, (Value.bool false), .bool true, .pointer (some ⟨bx, 0, none⟩), .int .i64 (j : Int), .slice (some ⟨bm, 0, none⟩) m m, u9, undef, undef, undef, undef, undef, .bool true, .bool true, .bool false, .int .i64 (n : Int), .bool false, .bool false, .int .i64 (n : Int), .bool false, .bool false, .bool false, .int .i64 (m : Int), .bool false, .bool false, .bool false, .int .i64 (m : Int), .bool false, .bool false, .agg nn0, .int .i64 (j : Int), .int .i64 (n : Int), .bool true, u36, u37, .pointer (some ⟨bx, 3, none⟩), z8 39, .int .i64 (j : Int), .int .i64 ((j % 30 : Nat) : Int), .int .i64 (kidi j), z8 43, z8 44, .pointer (some ⟨bx, 3, none⟩), .int .i64 (j : Int), .bool true, .int .i64 (m : Int), .slice (some ⟨bm, 0, none⟩) m m, .slice (some ⟨bm, 0, none⟩) m m, .int .i64 (m : Int), (Value.int IntKind.i64 0), u53, u54, u55, u56, u57, u58, u59, u60, u61, u62, u63, u64, u65, u66, u67, u68, undef, undef, undef, undef, undef, undef, undef, undef, undef, undef, undef, undef, undef, undef, undef, undef, undef, undef, undef, undef, undef, undef, undef, undef, undef, undef, undef, undef, undef, undef, undef, undef, undef, undef, undef, undef, undef, undef, undef, undef, undef, undef, undef, undef, undef, undef, undef, undef, undef, undef, undef, undef]) (by kernel_rfl) ?_
        intro z11
        have HO7 : Hid (W7.ownsRow bm 5 1 (.slice (some ⟨bm, 0, none⟩) m m) m (bv (List.replicate 0 (97 + (j : Int)) ++ List.replicate (m - 0) 0))) := hide ho7
        have HX7 := hide hX7
        have HI7 := hide hI7
        have HK7 := hide hK7
        clear ho7 hX7 hI7 hK7 hbm
        go_wp2_with fail
        go_loopw [52] (fun q ww => ∃ i : Nat, i ≤ m ∧ q = .int .i64 i ∧ Hid (ww.ownsRow bm 5 1 (.slice (some ⟨bm, 0, none⟩) m m) m (bv (List.replicate i (97 + (j : Int)) ++ List.replicate (m - i) 0))) ∧ Hid (ww.ownsRow B 3 1 (.slice p5 (j + 1) c5) (j + 1) ((kidsW (j + 1)).map (Value.int .i64))) ∧ Hid (ww.ownsRow B 9 1 vk (j - 1) ((keysW m j).map Value.string)) ∧ Hid (Xst w ww B bx (nv false (.slice none 0 0) vk (.slice p5 (j + 1) c5)))) (fun q _ => m - (intOf q).toNat)
        case atStart => exact ⟨0, by omega, rfl, HO7, HI7, HK7, HX7⟩
        case round =>
          obtain ⟨i, hi0, rfl, HO, HIw, HKw, HXw⟩ := hrel
          clear HO7 HI7 HK7 HX7
          by_cases hi : i < m
          · skip
            go_upto_region 14 with fail
            refine kl_start 121 (by kernel_rfl) ?_
            refine kl_test 0 (some 53) true (by kernel_rfl) (by kernel_rfl) (by kernel_rfl) (show decide ((i : Int) < (m : Int)) = true by simp; omega) (by kernel_rfl) ?_
            refine kl_done (by kernel_rfl) (fun v12 => #[.int .i64 (n : Int), .int .i64 (m : Int), undef, undef, (Value.bool false), .bool true, .pointer (some ⟨bx, 0, none⟩), .int .i64 (j : Int), .slice (some ⟨bm, 0, none⟩) m m, u9, undef, undef, undef, undef, undef, .bool true, .bool true, .bool false, .int .i64 (n : Int), .bool false, .bool false, .int .i64 (n : Int), .bool false, .bool false, .bool false, .int .i64 (m : Int), .bool false, .bool false, .bool false, .int .i64 (m : Int), .bool false, .bool false, .agg nn0, .int .i64 (j : Int), .int .i64 (n : Int), .bool true, u36, u37, .pointer (some ⟨bx, 3, none⟩), z8 39, .int .i64 (j : Int), .int .i64 ((j % 30 : Nat) : Int), .int .i64 (kidi j), z8 43, z8 44, .pointer (some ⟨bx, 3, none⟩), .int .i64 (j : Int), .bool true, .int .i64 (m : Int), .slice (some ⟨bm, 0, none⟩) m m, .slice (some ⟨bm, 0, none⟩) m m, .int .i64 (m : Int), .int .i64 (i : Int), .bool true, u54, u55, u56, u57, u58, u59, u60, u61, u62, u63, u64, u65, u66, u67, u68, undef, undef, undef, undef, undef, undef, undef, undef, undef, undef, undef, undef, undef, undef, undef, undef, undef, undef, undef, undef, undef, undef, undef, undef, undef, undef, undef, undef, undef, undef, undef, undef, undef, undef, undef, undef, undef, undef, undef, undef, undef, undef, undef, undef, undef, undef, undef, undef, undef, undef, undef, undef]) (by kernel_rfl) ?_
            intro v12
            go_upto_region 15 with fail
            refine kl_start 121 (by kernel_rfl) ?_
            refine kl_take 0 (some 54) (.int .i64 (i : Int)) (by kernel_rfl) (by kernel_rfl) (by kernel_rfl) (by kernel_rfl) ?_
            refine kl_take 1 (some 9) (.int .i64 (i : Int)) (by kernel_rfl) (by kernel_rfl) (by kernel_rfl) (by kernel_rfl) ?_
            refine kl_done (by kernel_rfl) (fun v13 => #[.int .i64 (n : Int), .int .i64 (m : Int), undef, undef, (Value.bool false), .bool true, .pointer (some ⟨bx, 0, none⟩), .int .i64 (j : Int), .slice (some ⟨bm, 0, none⟩) m m, .int .i64 (i : Int), undef, undef, undef, undef, undef, .bool true, .bool true, .bool false, .int .i64 (n : Int), .bool false, .bool false, .int .i64 (n : Int), .bool false, .bool false, .bool false, .int .i64 (m : Int), .bool false, .bool false, .bool false, .int .i64 (m : Int), .bool false, .bool false, .agg nn0, .int .i64 (j : Int), .int .i64 (n : Int), .bool true, u36, u37, .pointer (some ⟨bx, 3, none⟩), z8 39, .int .i64 (j : Int), .int .i64 ((j % 30 : Nat) : Int), .int .i64 (kidi j), z8 43, z8 44, .pointer (some ⟨bx, 3, none⟩), .int .i64 (j : Int), .bool true, .int .i64 (m : Int), .slice (some ⟨bm, 0, none⟩) m m, .slice (some ⟨bm, 0, none⟩) m m, .int .i64 (m : Int), .int .i64 (i : Int), .bool true, .int .i64 (i : Int), u55, u56, u57, u58, u59, u60, u61, u62, u63, u64, u65, u66, u67, u68, undef, undef, undef, undef, undef, undef, undef, undef, undef, undef, undef, undef, undef, undef, undef, undef, undef, undef, undef, undef, undef, undef, undef, undef, undef, undef, undef, undef, undef, undef, undef, undef, undef, undef, undef, undef, undef, undef, undef, undef, undef, undef, undef, undef, undef, undef, undef, undef, undef, undef, undef, undef]) (by kernel_rfl) ?_
            intro v13
            have hlen0 : (bv (List.replicate i (97 + (j : Int)) ++ List.replicate (m - i) 0)).length = m := by simp [bv]; omega
            obtain ⟨u0, hu0⟩ : ∃ u0, (bv (List.replicate i (97 + (j : Int)) ++ List.replicate (m - i) 0))[i]? = some u0 := ⟨_, List.getElem?_eq_getElem (by omega)⟩
            have hst := HO.out.stored i (.int .u8 (97 + (j : Int)))
            rw [set_rep _ hi] at hst
            have hce := (HO.out.cellAt i (by omega)).trans hu0
            have hfr := HO.out.frozenAt i
            have HO2 := hide hst.1
            have HI2 := hide (HIw.out.kept hst.2 (own_apart HIw.out HO.out (by decide)))
            have HK2 := hide (HKw.out.kept hst.2 (own_apart HKw.out HO.out (by decide)))
            have HX2 := hide (HXw.out.grown (own_mono HO.out hBm) hst.2)
            clear hst hlen0 hu0 HO HIw HKw HXw
            go_upto_region 16 with fail
            refine kl_start 121 (by kernel_rfl) ?_
            refine kl_take 0 (some 55) (.slice (some ⟨bm, 0, none⟩) m m) (by kernel_rfl) (by kernel_rfl) (by kernel_rfl) (by kernel_rfl) ?_
            refine kl_take 1 (some 56) (.int .i64 (i : Int)) (by kernel_rfl) (by kernel_rfl) (by kernel_rfl) (by kernel_rfl) ?_
            refine kl_take 2 (some 57) (.int .i64 (j : Int)) (by kernel_rfl) (by kernel_rfl) (by kernel_rfl) (by kernel_rfl) ?_
            refine kl_take 3 (some 58) (.int .i64 (IntKind.i64.wrap (97 + (j : Int)))) (by kernel_rfl) (by kernel_rfl) (by kernel_rfl) (by kernel_rfl) ?_
            rw [hw3]
            refine kl_take 4 (some 59) (.int .u8 (IntKind.u8.wrap (97 + (j : Int)))) (by kernel_rfl) (by kernel_rfl) (by kernel_rfl) (by kernel_rfl) ?_
            rw [hw4]
            refine kl_index 5 (some 60) 30 (.tmp 55) (.tmp 56) 1 bm (0) (m) (m) (i) (by kernel_rfl) (by kernel_rfl) (by kernel_rfl) (by kernel_rfl) (by kernel_rfl) (by kernel_rfl) Try.underlying30 (by kernel_rfl) (hi) ?_
            rw [show 0 + i * 1 = i by omega]
            refine kl_putO 6 5 (.tmp 60) (.tmp 59) bm i (.int .u8 (97 + (j : Int))) _ (by kernel_rfl) (by kernel_rfl) (by kernel_rfl) (by kernel_rfl) (by kernel_rfl) (by kernel_rfl) hce hfr (by kernel_rfl) rfl (fun a W => run_store Try.prog W a _ _ rfl) ?_
            refine kl_done (by kernel_rfl) (fun v14 => #[.int .i64 (n : Int), .int .i64 (m : Int), undef, undef, (Value.bool false), .bool true, .pointer (some ⟨bx, 0, none⟩), .int .i64 (j : Int), .slice (some ⟨bm, 0, none⟩) m m, .int .i64 (i : Int), undef, undef, undef, undef, undef, .bool true, .bool true, .bool false, .int .i64 (n : Int), .bool false, .bool false, .int .i64 (n : Int), .bool false, .bool false, .bool false, .int .i64 (m : Int), .bool false, .bool false, .bool false, .int .i64 (m : Int), .bool false, .bool false, .agg nn0, .int .i64 (j : Int), .int .i64 (n : Int), .bool true, u36, u37, .pointer (some ⟨bx, 3, none⟩), z8 39, .int .i64 (j : Int), .int .i64 ((j % 30 : Nat) : Int), .int .i64 (kidi j), z8 43, z8 44, .pointer (some ⟨bx, 3, none⟩), .int .i64 (j : Int), .bool true, .int .i64 (m : Int), .slice (some ⟨bm, 0, none⟩) m m, .slice (some ⟨bm, 0, none⟩) m m, .int .i64 (m : Int), .int .i64 (i : Int), .bool true, .int .i64 (i : Int), .slice (some ⟨bm, 0, none⟩) m m, .int .i64 (i : Int), .int .i64 (j : Int), .int .i64 (97 + (j : Int)), .int .u8 (97 + (j : Int)), .pointer (some ⟨bm, i, none⟩), u61, u62, u63, u64, u65, u66, u67, u68, undef, undef, undef, undef, undef, undef, undef, undef, undef, undef, undef, undef, undef, undef, undef, undef, undef, undef, undef, undef, undef, undef, undef, undef, undef, undef, undef, undef, undef, undef, undef, undef, undef, undef, undef, undef, undef, undef, undef, undef, undef, undef, undef, undef, undef, undef, undef, undef, undef, undef, undef, undef]) (by kernel_rfl) ?_
            intro v14
            go_wp2_with fail
            go_roundw
            case rel => exact ⟨i + 1, hi, by go_num, HO2, HI2, HK2, HX2⟩
            case measure => simp [intOf]; omega
          · skip
            obtain rfl : m = i := by omega
            go_upto_region 14 with fail
            refine kl_start 121 (by kernel_rfl) ?_
            refine kl_test 0 (some 53) false (by kernel_rfl) (by kernel_rfl) (by kernel_rfl) (show decide ((m : Int) < (m : Int)) = false by simp) (by kernel_rfl) ?_
            refine kl_done (by kernel_rfl) (fun v12 => #[.int .i64 (n : Int), .int .i64 (m : Int), undef, undef, (Value.bool false), .bool true, .pointer (some ⟨bx, 0, none⟩), .int .i64 (j : Int), .slice (some ⟨bm, 0, none⟩) m m, u9, undef, undef, undef, undef, undef, .bool true, .bool true, .bool false, .int .i64 (n : Int), .bool false, .bool false, .int .i64 (n : Int), .bool false, .bool false, .bool false, .int .i64 (m : Int), .bool false, .bool false, .bool false, .int .i64 (m : Int), .bool false, .bool false, .agg nn0, .int .i64 (j : Int), .int .i64 (n : Int), .bool true, u36, u37, .pointer (some ⟨bx, 3, none⟩), z8 39, .int .i64 (j : Int), .int .i64 ((j % 30 : Nat) : Int), .int .i64 (kidi j), z8 43, z8 44, .pointer (some ⟨bx, 3, none⟩), .int .i64 (j : Int), .bool true, .int .i64 (m : Int), .slice (some ⟨bm, 0, none⟩) m m, .slice (some ⟨bm, 0, none⟩) m m, .int .i64 (m : Int), .int .i64 (m : Int), .bool false, u54, u55, u56, u57, u58, u59, u60, u61, u62, u63, u64, u65, u66, u67, u68, undef, undef, undef, undef, undef, undef, undef, undef, undef, undef, undef, undef, undef, undef, undef, undef, undef, undef, undef, undef, undef, undef, undef, undef, undef, undef, undef, undef, undef, undef, undef, undef, undef, undef, undef, undef, undef, undef, undef, undef, undef, undef, undef, undef, undef, undef, undef, undef, undef, undef, undef, undef]) (by kernel_rfl) ?_
            intro v12
            have hS8 : Sl wr (.slice (some ⟨bm, 0, none⟩) m m) (List.replicate m (97 + (j : Int))) := Sl.own (by have := HO.out; rw [Nat.sub_self, List.replicate_zero, List.append_nil] at this; exact this) (by intro z hz; have := List.eq_of_mem_replicate hz; omega)
            have hX7 := HXw.out
            have hI7 := HIw.out
            have hK7 := HKw.out
            clear HO HIw HKw HXw
            go_upto_region 18 with fail
            refine kl_start 121 (by kernel_rfl) ?_
            refine kl_take 0 (some 62) (.pointer (some ⟨bx, 2, none⟩)) (by kernel_rfl) (by kernel_rfl) (by kernel_rfl) (by kernel_rfl) ?_
            refine kl_load 1 (some 63) (vk) 23 (.tmp 62) (by kernel_rfl) (by kernel_rfl) (by kernel_rfl) (by kernel_rfl) (by kernel_rfl) (ld_ts hX7.x.nodes.2.2.1) ?_
            refine kl_take 2 (some 64) (.slice (some ⟨bm, 0, none⟩) m m) (by kernel_rfl) (by kernel_rfl) (by kernel_rfl) (by kernel_rfl) ?_
            refine kl_conv 3 (some 65) _ (List.replicate m (97 + (j : Int))) (.tmp 64) (by kernel_rfl) (by kernel_rfl) (by kernel_rfl) (by kernel_rfl) (by kernel_rfl) hS8 ?_
            refine kl_lit1 4 (some 66) 23 9 (.string ⟨#[]⟩) 1 16 (.tmp 65) (.string (strOfNums (List.replicate m (97 + (j : Int))))) (by kernel_rfl) (by kernel_rfl) (by kernel_rfl) (by kernel_rfl) Try.underlying23 infoT rfl (by decide) (by decide) (by kernel_rfl) rfl ?_
            have hA8 : Below wr.heap.size wr (World.alloc wr (.cells (Value.string (strOfNums (List.replicate m (97 + (j : Int))))).cells 9)) := (Below.refl _ _).alloc (Nat.le_refl _) _
            refine kl_app1 5 (some 67) 23 9 (.string ⟨#[]⟩) 1 16 (.tmp 63) (.tmp 66) B vk (j - 1) ((keysW m j).map Value.string) _ _ (by kernel_rfl) (by kernel_rfl) (by kernel_rfl) (by kernel_rfl) Try.underlying23 infoT rfl (by decide) (by kernel_rfl) (by kernel_rfl) (by omega) (by omega) (hK7.alloc _) (heap_alloc_new _ _) rfl (str_one' _) (Nat.le_trans hX7.b (alloc_le _ _)) ?_
            intro v8 W8 ho8 hg8
            have hX8 := (hX7.later hA8).grown (hK7.alloc _) hg8
            have hI8 := (own_below hI7 hA8).kept hg8 (own_apart (own_below hI7 hA8) (hK7.alloc _) (by decide))
            obtain ⟨p8, c8, rfl, hc8, hc9⟩ := own_opensN ho8
            have HO8 : Hid (W8.ownsRow B 9 1 (.slice p8 (j - 1 + 1) c8) (j - 1 + 1) ((keysW m (j + 1)).map Value.string)) := hide (by rw [keysW_step m hj1, List.map_append]; exact ho8)
            clear ho8 hg8 hA8 hX7 hI7 hK7 hS8
            refine kl_take 6 (some 68) (.pointer (some ⟨bx, 2, none⟩)) (by kernel_rfl) (by kernel_rfl) (by kernel_rfl) (by kernel_rfl) ?_
            refine kl_put1 7 23 (.tmp 68) (.tmp 67) _ 2 (.slice p8 (j - 1 + 1) c8) _ (by kernel_rfl) (by kernel_rfl) (by kernel_rfl) (by kernel_rfl) (by kernel_rfl) (by kernel_rfl) hX8.x (show 2 < 4 by omega) (by kernel_rfl) rfl (fun a W => run_store Try.prog W a _ _ rfl) ?_
            intro W9 hb9 hs9 hX9
            have HX2 : Hid (Xst w W9 B bx (nv false (.slice none 0 0) (.slice p8 (j - 1 + 1) c8) (.slice p5 (j + 1) c5))) := hide (hX8.put hb9 hs9 hX9)
            have HK2 := hide (own_but' HO8.out hb9 (fun k hk e => by have := hX8.l; omega))
            have HI2 := hide (own_but' hI8 hb9 (fun k hk e => by have := hX8.l; omega))
            clear hb9 hs9 hX9 hX8 hI8 HO8 hc8 hc9
            refine kl_done (by kernel_rfl) (fun v13 => #[.int .i64 (n : Int), .int .i64 (m : Int), undef, undef, (Value.bool false), .bool true, .pointer (some ⟨bx, 0, none⟩), .int .i64 (j : Int), .slice (some ⟨bm, 0, none⟩) m m, u9, undef, undef, undef, undef, undef, .bool true, .bool true, .bool false, .int .i64 (n : Int), .bool false, .bool false, .int .i64 (n : Int), .bool false, .bool false, .bool false, .int .i64 (m : Int), .bool false, .bool false, .bool false, .int .i64 (m : Int), .bool false, .bool false, .agg nn0, .int .i64 (j : Int), .int .i64 (n : Int), .bool true, u36, u37, .pointer (some ⟨bx, 3, none⟩), z8 39, .int .i64 (j : Int), .int .i64 ((j % 30 : Nat) : Int), .int .i64 (kidi j), z8 43, z8 44, .pointer (some ⟨bx, 3, none⟩), .int .i64 (j : Int), .bool true, .int .i64 (m : Int), .slice (some ⟨bm, 0, none⟩) m m, .slice (some ⟨bm, 0, none⟩) m m, .int .i64 (m : Int), .int .i64 (m : Int), .bool false, u54, u55, u56, u57, u58, u59, u60, u61, .pointer (some ⟨bx, 2, none⟩), vk, .slice (some ⟨bm, 0, none⟩) m m, .string (strOfNums (List.replicate m (97 + (j : Int)))), .slice (some ⟨wr.heap.size, 0, none⟩) 1 1, .slice p8 (j - 1 + 1) c8, .pointer (some ⟨bx, 2, none⟩), undef, undef, undef, undef, undef, undef, undef, undef, undef, undef, undef, undef, undef, undef, undef, undef, undef, undef, undef, undef, undef, undef, undef, undef, undef, undef, undef, undef, undef, undef, undef, undef, undef, undef, undef, undef, undef, undef, undef, undef, undef, undef, undef, undef, undef, undef, undef, undef, undef, undef, undef, undef]) (by kernel_rfl) ?_
            intro v13
            go_wp2_with fail
            go_roundw
            case rel => exact ⟨j + 1, .slice p8 (j - 1 + 1) c8, .slice p5 (j + 1) c5, hj, by go_num, HI2, by rw [show j + 1 - 1 = j - 1 + 1 by omega]; exact HK2, HX2⟩
            case measure => simp [intOf]; omega
    · skip
      obtain rfl : n = j := by omega
      go_upto_region 8 with fail
      refine kl_start 121 (by kernel_rfl) ?_
      refine kl_take 0 (some 33) (.int .i64 (n : Int)) (by kernel_rfl) (by kernel_rfl) (by kernel_rfl) (by kernel_rfl) ?_
      refine kl_take 1 (some 34) (.int .i64 (n : Int)) (by kernel_rfl) (by kernel_rfl) (by kernel_rfl) (by kernel_rfl) ?_
      refine kl_test 2 (some 35) false (by kernel_rfl) (by kernel_rfl) (by kernel_rfl) (show decide ((n : Int) < (n : Int)) = false by simp) (by kernel_rfl) ?_
      refine kl_done (by kernel_rfl) (fun z7 => #[.int .i64 (n : Int), .int .i64 (m : Int), undef, undef, (Value.bool false), .bool true, .pointer (some ⟨bx, 0, none⟩), .int .i64 (n : Int), u8, u9, undef, undef, undef, undef, undef, .bool true, .bool true, .bool false, .int .i64 (n : Int), .bool false, .bool false, .int .i64 (n : Int), .bool false, .bool false, .bool false, .int .i64 (m : Int), .bool false, .bool false, .bool false, .int .i64 (m : Int), .bool false, .bool false, .agg nn0, .int .i64 (n : Int), .int .i64 (n : Int), .bool false, u36, u37, u38, u39, u40, u41, u42, u43, u44, u45, u46, u47, u48, u49, u50, u51, u52, u53, u54, u55, u56, u57, u58, u59, u60, u61, u62, u63, u64, u65, u66, u67, u68, undef, undef, undef, undef, undef, undef, undef, undef, undef, undef, undef, undef, undef, undef, undef, undef, undef, undef, undef, undef, undef, undef, undef, undef, undef, undef, undef, undef, undef, undef, undef, undef, undef, undef, undef, undef, undef, undef, undef, undef, undef, undef, undef, undef, undef, undef, undef, undef, undef, undef, undef, undef]) (by kernel_rfl) ?_
      intro z7
      have hm := ways_may hj20.1.1 hj20.1.2 hj20.2.1 hj20.2.2
      have hln := ways_len hj20.1.1 hj20.1.2 hj20.2.2 (m := m)
      have hok := ways_ok m n hj20.2.2
      have HSZ : Hid (No.size ⟨false, [], keysW m n, kidsW n⟩ = ((2 + n + (n - 1) * (1 + m) : Nat) : Int)) := hide (by rw [No.size_is hm, hln])
      have hN : Nb wr (.slice none 0 0) vk vi ⟨false, [], keysW m n, kidsW n⟩ := ⟨Cs.nil _, Ts.own HK.out hok.k, Is.own HI.out hok.i⟩
      have hX := HX.out.x
      have hB := HX.out.w
      have HEN := enc_by hm hln
      have HEB := hide (No.pad_bd (No.bytes_bd hok hm (show 0 ≤ 9223372036854775807 by omega)))
      have HDE := hide (fun h => No.dec_page hok hm h)
      have HFW : No.few ⟨false, [], keysW m n, kidsW n⟩ := by show 0 ≤ 100000; omega
      have HLB := hide hln
      have hmul : (n - 1) * (1 + m) ≤ 527 := Nat.mul_le_mul (show n - 1 ≤ 31 by omega) (show 1 + m ≤ 17 by omega)
      have hm0 : IntKind.i64.wrap (2 + (n : Int)) = 2 + (n : Int) := by rw [IntKind.wrap_i64]; omega
      have hm1 : IntKind.i64.wrap ((n : Int) - 1) = ((n - 1 : Nat) : Int) := by rw [IntKind.wrap_i64]; omega
      have hm2 : IntKind.i64.wrap (1 + (m : Int)) = ((1 + m : Nat) : Int) := by rw [IntKind.wrap_i64]; omega
      have hm3 : IntKind.i64.wrap (((n - 1 : Nat) : Int) * ((1 + m : Nat) : Int)) = (((n - 1) * (1 + m) : Nat) : Int) := by rw [← Int.natCast_mul, IntKind.wrap_i64]; omega
      have hm4 : IntKind.i64.wrap (2 + (n : Int) + (((n - 1) * (1 + m) : Nat) : Int)) = ((2 + n + (n - 1) * (1 + m) : Nat) : Int) := by rw [IntKind.wrap_i64]; omega
      generalize hz : 2 + n + (n - 1) * (1 + m) = z at *
      clear hm HI HK HX hz hmul hln
      go_upto_region 19 with fail
      refine kl_start 121 (by kernel_rfl) ?_
      refine kl_take 0 (some 69) (.int .i64 (n : Int)) (by kernel_rfl) (by kernel_rfl) (by kernel_rfl) (by kernel_rfl) ?_
      refine kl_take 1 (some 70) (.int .i64 (IntKind.i64.wrap (2 + (n : Int)))) (by kernel_rfl) (by kernel_rfl) (by kernel_rfl) (by kernel_rfl) ?_
      rw [hm0]
      refine kl_take 2 (some 71) (.int .i64 (n : Int)) (by kernel_rfl) (by kernel_rfl) (by kernel_rfl) (by kernel_rfl) ?_
      refine kl_take 3 (some 72) (.int .i64 (IntKind.i64.wrap ((n : Int) - 1))) (by kernel_rfl) (by kernel_rfl) (by kernel_rfl) (by kernel_rfl) ?_
      rw [hm1]
      refine kl_take 4 (some 73) (.int .i64 (m : Int)) (by kernel_rfl) (by kernel_rfl) (by kernel_rfl) (by kernel_rfl) ?_
      refine kl_take 5 (some 74) (.int .i64 (IntKind.i64.wrap (1 + (m : Int)))) (by kernel_rfl) (by kernel_rfl) (by kernel_rfl) (by kernel_rfl) ?_
      rw [hm2]
      refine kl_take 6 (some 75) (.int .i64 (IntKind.i64.wrap (((n - 1 : Nat) : Int) * ((1 + m : Nat) : Int)))) (by kernel_rfl) (by kernel_rfl) (by kernel_rfl) (by kernel_rfl) ?_
      rw [hm3]
      refine kl_take 7 (some 76) (.int .i64 (IntKind.i64.wrap (2 + (n : Int) + (((n - 1) * (1 + m) : Nat) : Int)))) (by kernel_rfl) (by kernel_rfl) (by kernel_rfl) (by kernel_rfl) ?_
      rw [hm4]
      refine kl_take 8 (some 10) (.int .i64 (z : Int)) (by kernel_rfl) (by kernel_rfl) (by kernel_rfl) (by kernel_rfl) ?_
      refine kl_done (by kernel_rfl) (fun z8 => #[.int .i64 (n : Int), .int .i64 (m : Int), undef, undef, (Value.bool false), .bool true, .pointer (some ⟨bx, 0, none⟩), .int .i64 (n : Int), u8, u9, .int .i64 (z : Int), undef, undef, undef, undef, .bool true, .bool true, .bool false, .int .i64 (n : Int), .bool false, .bool false, .int .i64 (n : Int), .bool false, .bool false, .bool false, .int .i64 (m : Int), .bool false, .bool false, .bool false, .int .i64 (m : Int), .bool false, .bool false, .agg nn0, .int .i64 (n : Int), .int .i64 (n : Int), .bool false, u36, u37, u38, u39, u40, u41, u42, u43, u44, u45, u46, u47, u48, u49, u50, u51, u52, u53, u54, u55, u56, u57, u58, u59, u60, u61, u62, u63, u64, u65, u66, u67, u68, .int .i64 (n : Int), .int .i64 (2 + (n : Int)), .int .i64 (n : Int), .int .i64 ((n - 1 : Nat) : Int), .int .i64 (m : Int), .int .i64 ((1 + m : Nat) : Int), .int .i64 (((n - 1) * (1 + m) : Nat) : Int), .int .i64 (z : Int), undef, undef, undef, undef, undef, undef, undef, undef, undef, undef, undef, undef, undef, undef, undef, undef, undef, undef, undef, undef, undef, undef, undef, undef, undef, undef, undef, undef, undef, undef, undef, undef, undef, undef, undef, undef, undef, undef, undef, undef, undef, undef, undef, undef]) (by kernel_rfl) ?_
      intro z8
      by_cases hle : z ≤ 256
      · skip
        have HE := hide (HEN.1 hle)
        clear HEN
        go_upto_region 20 with fail
        refine kl_start 121 (by kernel_rfl) ?_
        refine kl_get 0 (some 78) 26 _ (.tmp 6) _ (nv false (.slice none 0 0) vk vi) (by kernel_rfl) (by kernel_rfl) (by kernel_rfl) (by kernel_rfl) (by kernel_rfl) hX tyM rfl ?_
        refine kl_callx 1 (some 79) (by kernel_rfl) (by kernel_rfl) (by kernel_rfl) (by kernel_rfl) (nof_any (.slice none 0 0) vk vi ⟨false, [], keysW m n, kidsW n⟩ _ hN HFW) ?_
        rintro e x ⟨vc', rfl, hN', hb⟩
        refine ⟨_, rfl, ?_⟩
        replace hX := hX.later hb
        replace hN := hN.later hb
        replace hB := hB.trans (hb.mono hB.size)
        clear hb
        refine kl_callx 2 (some 80) (by kernel_rfl) (by kernel_rfl) (by kernel_rfl) (by kernel_rfl) (encode_at hN' HFW HE.out) ?_
        rintro e x ⟨v8, rfl, ho8, hb⟩
        refine ⟨_, rfl, ?_⟩
        replace hX := hX.later hb
        replace hN := hN.later hb
        replace hN' := hN'.later hb
        replace hB := hB.trans (hb.mono hB.size)
        clear hb
        have hp8 := Sl.own ho8 HEB.out
        clear ho8
        refine kl_take 3 (some 77) (.tuple #[v8, .int .i64 0]) (by kernel_rfl) (by kernel_rfl) (by kernel_rfl) (by kernel_rfl) ?_
        refine kl_take 4 (some 81) (v8) (by kernel_rfl) (by kernel_rfl) (by kernel_rfl) (by kernel_rfl) ?_
        refine kl_take 5 (some 82) (.int .i64 0) (by kernel_rfl) (by kernel_rfl) (by kernel_rfl) (by kernel_rfl) ?_
        refine kl_take 6 (some 11) (v8) (by kernel_rfl) (by kernel_rfl) (by kernel_rfl) (by kernel_rfl) ?_
        refine kl_take 7 (some 12) (.int .i64 0) (by kernel_rfl) (by kernel_rfl) (by kernel_rfl) (by kernel_rfl) ?_
        refine kl_done (by kernel_rfl) (fun z9 => #[.int .i64 (n : Int), .int .i64 (m : Int), undef, undef, (Value.bool false), .bool true, .pointer (some ⟨bx, 0, none⟩), .int .i64 (n : Int), u8, u9, .int .i64 (z : Int), v8, .int .i64 0, undef, undef, .bool true, .bool true, .bool false, .int .i64 (n : Int), .bool false, .bool false, .int .i64 (n : Int), .bool false, .bool false, .bool false, .int .i64 (m : Int), .bool false, .bool false, .bool false, .int .i64 (m : Int), .bool false, .bool false, .agg nn0, .int .i64 (n : Int), .int .i64 (n : Int), .bool false, u36, u37, u38, u39, u40, u41, u42, u43, u44, u45, u46, u47, u48, u49, u50, u51, u52, u53, u54, u55, u56, u57, u58, u59, u60, u61, u62, u63, u64, u65, u66, u67, u68, .int .i64 (n : Int), .int .i64 (2 + (n : Int)), .int .i64 (n : Int), .int .i64 ((n - 1 : Nat) : Int), .int .i64 (m : Int), .int .i64 ((1 + m : Nat) : Int), .int .i64 (((n - 1) * (1 + m) : Nat) : Int), .int .i64 (z : Int), .tuple #[v8, .int .i64 0], .agg (nv false (.slice none 0 0) vk vi), .agg (nv false vc' vk vi), .tuple #[v8, .int .i64 0], v8, .int .i64 0, undef, undef, undef, undef, undef, undef, undef, undef, undef, undef, undef, undef, undef, undef, undef, undef, undef, undef, undef, undef, undef, undef, undef, undef, undef, undef, undef, undef, undef, undef, undef, undef, undef, undef, undef, undef, undef, undef]) (by kernel_rfl) ?_
        intro z9
        go_upto_region 21 with fail
        refine kl_start 121 (by kernel_rfl) ?_
        refine kl_take 0 (some 83) (.int .i64 0) (by kernel_rfl) (by kernel_rfl) (by kernel_rfl) (by kernel_rfl) ?_
        refine kl_take 1 (some 84) (.bool true) (by kernel_rfl) (by kernel_rfl) (by kernel_rfl) (by kernel_rfl) ?_
        refine kl_take 2 (some 85) (.int .i64 (z : Int)) (by kernel_rfl) (by kernel_rfl) (by kernel_rfl) (by kernel_rfl) ?_
        refine kl_test 3 (some 86) true (by kernel_rfl) (by kernel_rfl) (by kernel_rfl) (show decide ((z : Int) ≤ 256) = true by simp <;> omega) (by kernel_rfl) ?_
        refine kl_take 4 (some 87) (.bool false) (by kernel_rfl) (by kernel_rfl) (by kernel_rfl) (by kernel_rfl) ?_
        refine kl_take 5 (some 88) (.bool false) (by kernel_rfl) (by kernel_rfl) (by kernel_rfl) (by kernel_rfl) ?_
        refine kl_get 6 (some 89) 26 _ (.tmp 6) _ (nv false (.slice none 0 0) vk vi) (by kernel_rfl) (by kernel_rfl) (by kernel_rfl) (by kernel_rfl) (by kernel_rfl) hX tyM rfl ?_
        refine kl_callx 7 (some 90) (by kernel_rfl) (by kernel_rfl) (by kernel_rfl) (by kernel_rfl) (nof_any (.slice none 0 0) vk vi ⟨false, [], keysW m n, kidsW n⟩ _ hN HFW) ?_
        rintro e x ⟨vc2, rfl, hN2, hb⟩
        refine ⟨_, rfl, ?_⟩
        replace hX := hX.later hb
        replace hN := hN.later hb
        replace hN' := hN'.later hb
        replace hp8 := hp8.later hb
        replace hB := hB.trans (hb.mono hB.size)
        clear hb
        refine kl_callx 8 (some 91) (by kernel_rfl) (by kernel_rfl) (by kernel_rfl) (by kernel_rfl) (size_at hN2 HFW HSZ.out) ?_
        rintro e x ⟨rfl, hb⟩
        refine ⟨_, rfl, ?_⟩
        replace hX := hX.later hb
        replace hN := hN.later hb
        replace hN' := hN'.later hb
        replace hp8 := hp8.later hb
        replace hN2 := hN2.later hb
        replace hB := hB.trans (hb.mono hB.size)
        clear hb
        refine kl_take 9 (some 92) (.int .i64 (z : Int)) (by kernel_rfl) (by kernel_rfl) (by kernel_rfl) (by kernel_rfl) ?_
        refine kl_test 10 (some 93) false (by kernel_rfl) (by kernel_rfl) (by kernel_rfl) (show ((z : Int) != (z : Int)) = false by simp) (by kernel_rfl) ?_
        refine kl_take 11 (some 94) (.bool false) (by kernel_rfl) (by kernel_rfl) (by kernel_rfl) (by kernel_rfl) ?_
        refine kl_done (by kernel_rfl) (fun z10 => #[.int .i64 (n : Int), .int .i64 (m : Int), undef, undef, (Value.bool false), .bool true, .pointer (some ⟨bx, 0, none⟩), .int .i64 (n : Int), u8, u9, .int .i64 (z : Int), v8, .int .i64 0, undef, undef, .bool true, .bool true, .bool false, .int .i64 (n : Int), .bool false, .bool false, .int .i64 (n : Int), .bool false, .bool false, .bool false, .int .i64 (m : Int), .bool false, .bool false, .bool false, .int .i64 (m : Int), .bool false, .bool false, .agg nn0, .int .i64 (n : Int), .int .i64 (n : Int), .bool false, u36, u37, u38, u39, u40, u41, u42, u43, u44, u45, u46, u47, u48, u49, u50, u51, u52, u53, u54, u55, u56, u57, u58, u59, u60, u61, u62, u63, u64, u65, u66, u67, u68, .int .i64 (n : Int), .int .i64 (2 + (n : Int)), .int .i64 (n : Int), .int .i64 ((n - 1 : Nat) : Int), .int .i64 (m : Int), .int .i64 ((1 + m : Nat) : Int), .int .i64 (((n - 1) * (1 + m) : Nat) : Int), .int .i64 (z : Int), .tuple #[v8, .int .i64 0], .agg (nv false (.slice none 0 0) vk vi), .agg (nv false vc' vk vi), .tuple #[v8, .int .i64 0], v8, .int .i64 0, .int .i64 0, .bool true, .int .i64 (z : Int), .bool true, .bool false, .bool false, .agg (nv false (.slice none 0 0) vk vi), .agg (nv false vc2 vk vi), .int .i64 (z : Int), .int .i64 (z : Int), .bool false, .bool false, undef, undef, undef, undef, undef, undef, undef, undef, undef, undef, undef, undef, undef, undef, undef, undef, undef, undef, undef, undef, undef, undef, undef, undef, undef, undef]) (by kernel_rfl) ?_
        intro z10
        go_upto_region 23 with fail
        refine kl_start 121 (by kernel_rfl) ?_
        refine kl_take 0 (some 95) (.int .i64 0) (by kernel_rfl) (by kernel_rfl) (by kernel_rfl) (by kernel_rfl) ?_
        refine kl_take 1 (some 96) (.bool false) (by kernel_rfl) (by kernel_rfl) (by kernel_rfl) (by kernel_rfl) ?_
        refine kl_done (by kernel_rfl) (fun z11 => #[.int .i64 (n : Int), .int .i64 (m : Int), undef, undef, (Value.bool false), .bool true, .pointer (some ⟨bx, 0, none⟩), .int .i64 (n : Int), u8, u9, .int .i64 (z : Int), v8, .int .i64 0, undef, undef, .bool true, .bool true, .bool false, .int .i64 (n : Int), .bool false, .bool false, .int .i64 (n : Int), .bool false, .bool false, .bool false, .int .i64 (m : Int), .bool false, .bool false, .bool false, .int .i64 (m : Int), .bool false, .bool false, .agg nn0, .int .i64 (n : Int), .int .i64 (n : Int), .bool false, u36, u37, u38, u39, u40, u41, u42, u43, u44, u45, u46, u47, u48, u49, u50, u51, u52, u53, u54, u55, u56, u57, u58, u59, u60, u61, u62, u63, u64, u65, u66, u67, u68, .int .i64 (n : Int), .int .i64 (2 + (n : Int)), .int .i64 (n : Int), .int .i64 ((n - 1 : Nat) : Int), .int .i64 (m : Int), .int .i64 ((1 + m : Nat) : Int), .int .i64 (((n - 1) * (1 + m) : Nat) : Int), .int .i64 (z : Int), .tuple #[v8, .int .i64 0], .agg (nv false (.slice none 0 0) vk vi), .agg (nv false vc' vk vi), .tuple #[v8, .int .i64 0], v8, .int .i64 0, .int .i64 0, .bool true, .int .i64 (z : Int), .bool true, .bool false, .bool false, .agg (nv false (.slice none 0 0) vk vi), .agg (nv false vc2 vk vi), .int .i64 (z : Int), .int .i64 (z : Int), .bool false, .bool false, .int .i64 0, .bool false, undef, undef, undef, undef, undef, undef, undef, undef, undef, undef, undef, undef, undef, undef, undef, undef, undef, undef, undef, undef, undef, undef, undef, undef]) (by kernel_rfl) ?_
        intro z11
        go_upto_region 25 with fail
        refine kl_start 121 (by kernel_rfl) ?_
        refine kl_take 0 (some 100) (v8) (by kernel_rfl) (by kernel_rfl) (by kernel_rfl) (by kernel_rfl) ?_
        refine kl_callx 1 (some 101) (by kernel_rfl) (by kernel_rfl) (by kernel_rfl) (by kernel_rfl) (decode_at hp8 (HDE.out (by rw [HLB.out]; exact hle))) ?_
        rintro e x ⟨hb, vc3, vk3, vi3, rfl, hN3, -⟩
        refine ⟨_, rfl, ?_⟩
        replace hX := hX.later hb
        replace hN := hN.later hb
        replace hN' := hN'.later hb
        replace hp8 := hp8.later hb
        replace hN2 := hN2.later hb
        replace hB := hB.trans (hb.mono hB.size)
        clear hb
        refine kl_take 2 (some 99) (.tuple #[.agg (nv false vc3 vk3 vi3), .int .i64 0]) (by kernel_rfl) (by kernel_rfl) (by kernel_rfl) (by kernel_rfl) ?_
        refine kl_take 3 (some 102) (.agg (nv false vc3 vk3 vi3)) (by kernel_rfl) (by kernel_rfl) (by kernel_rfl) (by kernel_rfl) ?_
        refine kl_take 4 (some 103) (.int .i64 0) (by kernel_rfl) (by kernel_rfl) (by kernel_rfl) (by kernel_rfl) ?_
        refine kl_new 5 (some 13) 36 _ (by kernel_rfl) (by kernel_rfl) (by kernel_rfl) (by kernel_rfl) tyN ?_
        intro Wn hb hY0
        have hYn := hN3.later hb
        have hBn := hb
        generalize hbn2 : x.heap.size = bn at hY0 ⊢
        refine kl_put 6 36 _ (.tmp 13) (.tmp 102) _ (nv false vc3 vk3 vi3) _ (by kernel_rfl) (by kernel_rfl) (by kernel_rfl) (by kernel_rfl) (by kernel_rfl) (by kernel_rfl) hY0 tyN rfl rfl (nv_one hYn) ?_
        intro Wp hbp hsp hY
        rw [← hbn2] at hbp
        have hB2 := hB.trans ((newput hBn hbp).mono hB.size)
        have hN4 := hN3.later (newput hBn hbp)
        clear hb hY0 hYn hBn hbp hsp hN3 hN2 hN hX hB hN' hp8
        refine kl_take 7 (some 14) (.int .i64 0) (by kernel_rfl) (by kernel_rfl) (by kernel_rfl) (by kernel_rfl) ?_
        refine kl_done (by kernel_rfl) (fun z12 => #[.int .i64 (n : Int), .int .i64 (m : Int), undef, undef, (Value.bool false), .bool true, .pointer (some ⟨bx, 0, none⟩), .int .i64 (n : Int), u8, u9, .int .i64 (z : Int), v8, .int .i64 0, .pointer (some ⟨bn, 0, none⟩), .int .i64 0, .bool true, .bool true, .bool false, .int .i64 (n : Int), .bool false, .bool false, .int .i64 (n : Int), .bool false, .bool false, .bool false, .int .i64 (m : Int), .bool false, .bool false, .bool false, .int .i64 (m : Int), .bool false, .bool false, .agg nn0, .int .i64 (n : Int), .int .i64 (n : Int), .bool false, u36, u37, u38, u39, u40, u41, u42, u43, u44, u45, u46, u47, u48, u49, u50, u51, u52, u53, u54, u55, u56, u57, u58, u59, u60, u61, u62, u63, u64, u65, u66, u67, u68, .int .i64 (n : Int), .int .i64 (2 + (n : Int)), .int .i64 (n : Int), .int .i64 ((n - 1 : Nat) : Int), .int .i64 (m : Int), .int .i64 ((1 + m : Nat) : Int), .int .i64 (((n - 1) * (1 + m) : Nat) : Int), .int .i64 (z : Int), .tuple #[v8, .int .i64 0], .agg (nv false (.slice none 0 0) vk vi), .agg (nv false vc' vk vi), .tuple #[v8, .int .i64 0], v8, .int .i64 0, .int .i64 0, .bool true, .int .i64 (z : Int), .bool true, .bool false, .bool false, .agg (nv false (.slice none 0 0) vk vi), .agg (nv false vc2 vk vi), .int .i64 (z : Int), .int .i64 (z : Int), .bool false, .bool false, .int .i64 0, .bool false, undef, undef, .tuple #[.agg (nv false vc3 vk3 vi3), .int .i64 0], v8, .tuple #[.agg (nv false vc3 vk3 vi3), .int .i64 0], .agg (nv false vc3 vk3 vi3), .int .i64 0, undef, undef, undef, undef, undef, undef, undef, undef, undef, undef, undef, undef, undef, undef, undef, undef, undef]) (by kernel_rfl) ?_
        intro z12
        obtain ⟨pk3, nk3, ck3, rfl, -, -, hk3, -⟩ := hN4.k.opens
        obtain ⟨pi3, ni3, ci3, rfl, -, -, hi3, -⟩ := hN4.i.opens
        obtain rfl : nk3 = n - 1 := by rw [hk3.out]; simp [keysW]
        obtain rfl : n = ni3 := by rw [hi3.out]; simp [kidsW]
        go_upto_region 26 with fail
        refine kl_start 121 (by kernel_rfl) ?_
        refine kl_take 0 (some 104) (.int .i64 0) (by kernel_rfl) (by kernel_rfl) (by kernel_rfl) (by kernel_rfl) ?_
        refine kl_take 1 (some 105) (.bool true) (by kernel_rfl) (by kernel_rfl) (by kernel_rfl) (by kernel_rfl) ?_
        refine kl_take 2 (some 106) (.bool true) (by kernel_rfl) (by kernel_rfl) (by kernel_rfl) (by kernel_rfl) ?_
        refine kl_take 3 (some 107) (.pointer (some ⟨bn, 3, none⟩)) (by kernel_rfl) (by kernel_rfl) (by kernel_rfl) (by kernel_rfl) ?_
        refine kl_load 4 (some 108) (.slice pi3 n ci3) 24 (.tmp 107) (by kernel_rfl) (by kernel_rfl) (by kernel_rfl) (by kernel_rfl) (by kernel_rfl) (ld_is hY.nodes.2.2.2) ?_
        refine kl_take 5 (some 109) (.int .i64 (n : Int)) (by kernel_rfl) (by kernel_rfl) (by kernel_rfl) (by kernel_rfl) ?_
        refine kl_take 6 (some 110) (.int .i64 (n : Int)) (by kernel_rfl) (by kernel_rfl) (by kernel_rfl) (by kernel_rfl) ?_
        refine kl_test 7 (some 111) true (by kernel_rfl) (by kernel_rfl) (by kernel_rfl) (show ((n : Int) == (n : Int)) = true by simp) (by kernel_rfl) ?_
        refine kl_take 8 (some 112) (.bool true) (by kernel_rfl) (by kernel_rfl) (by kernel_rfl) (by kernel_rfl) ?_
        refine kl_take 9 (some 113) (.bool true) (by kernel_rfl) (by kernel_rfl) (by kernel_rfl) (by kernel_rfl) ?_
        refine kl_take 10 (some 114) (.pointer (some ⟨bn, 2, none⟩)) (by kernel_rfl) (by kernel_rfl) (by kernel_rfl) (by kernel_rfl) ?_
        refine kl_load 11 (some 115) (.slice pk3 (n - 1) ck3) 23 (.tmp 114) (by kernel_rfl) (by kernel_rfl) (by kernel_rfl) (by kernel_rfl) (by kernel_rfl) (ld_ts hY.nodes.2.2.1) ?_
        refine kl_take 12 (some 116) (.int .i64 ((n - 1 : Nat) : Int)) (by kernel_rfl) (by kernel_rfl) (by kernel_rfl) (by kernel_rfl) ?_
        refine kl_take 13 (some 117) (.int .i64 (n : Int)) (by kernel_rfl) (by kernel_rfl) (by kernel_rfl) (by kernel_rfl) ?_
        refine kl_take 14 (some 118) (.int .i64 (IntKind.i64.wrap ((n : Int) - 1))) (by kernel_rfl) (by kernel_rfl) (by kernel_rfl) (by kernel_rfl) ?_
        rw [hm1]
        refine kl_test 15 (some 119) true (by kernel_rfl) (by kernel_rfl) (by kernel_rfl) (show (((n - 1 : Nat) : Int) == ((n - 1 : Nat) : Int)) = true by simp) (by kernel_rfl) ?_
        refine kl_take 16 (some 120) (.bool true) (by kernel_rfl) (by kernel_rfl) (by kernel_rfl) (by kernel_rfl) ?_
        refine kl_take 17 (some 4) (.bool true) (by kernel_rfl) (by kernel_rfl) (by kernel_rfl) (by kernel_rfl) ?_
        refine kl_done (by kernel_rfl) (fun z13 => #[.int .i64 (n : Int), .int .i64 (m : Int), undef, undef, .bool true, .bool true, .pointer (some ⟨bx, 0, none⟩), .int .i64 (n : Int), u8, u9, .int .i64 (z : Int), v8, .int .i64 0, .pointer (some ⟨bn, 0, none⟩), .int .i64 0, .bool true, .bool true, .bool false, .int .i64 (n : Int), .bool false, .bool false, .int .i64 (n : Int), .bool false, .bool false, .bool false, .int .i64 (m : Int), .bool false, .bool false, .bool false, .int .i64 (m : Int), .bool false, .bool false, .agg nn0, .int .i64 (n : Int), .int .i64 (n : Int), .bool false, u36, u37, u38, u39, u40, u41, u42, u43, u44, u45, u46, u47, u48, u49, u50, u51, u52, u53, u54, u55, u56, u57, u58, u59, u60, u61, u62, u63, u64, u65, u66, u67, u68, .int .i64 (n : Int), .int .i64 (2 + (n : Int)), .int .i64 (n : Int), .int .i64 ((n - 1 : Nat) : Int), .int .i64 (m : Int), .int .i64 ((1 + m : Nat) : Int), .int .i64 (((n - 1) * (1 + m) : Nat) : Int), .int .i64 (z : Int), .tuple #[v8, .int .i64 0], .agg (nv false (.slice none 0 0) vk vi), .agg (nv false vc' vk vi), .tuple #[v8, .int .i64 0], v8, .int .i64 0, .int .i64 0, .bool true, .int .i64 (z : Int), .bool true, .bool false, .bool false, .agg (nv false (.slice none 0 0) vk vi), .agg (nv false vc2 vk vi), .int .i64 (z : Int), .int .i64 (z : Int), .bool false, .bool false, .int .i64 0, .bool false, undef, undef, .tuple #[.agg (nv false vc3 (.slice pk3 (n - 1) ck3) (.slice pi3 n ci3)), .int .i64 0], v8, .tuple #[.agg (nv false vc3 (.slice pk3 (n - 1) ck3) (.slice pi3 n ci3)), .int .i64 0], .agg (nv false vc3 (.slice pk3 (n - 1) ck3) (.slice pi3 n ci3)), .int .i64 0, .int .i64 0, .bool true, .bool true, .pointer (some ⟨bn, 3, none⟩), .slice pi3 n ci3, .int .i64 (n : Int), .int .i64 (n : Int), .bool true, .bool true, .bool true, .pointer (some ⟨bn, 2, none⟩), .slice pk3 (n - 1) ck3, .int .i64 ((n - 1 : Nat) : Int), .int .i64 (n : Int), .int .i64 ((n - 1 : Nat) : Int), .bool true, .bool true]) (by kernel_rfl) ?_
        intro z13
        go_wp2_with fail
        go_ret
        exact ⟨rfl, hB2⟩
      · skip
        have HE := hide (HEN.2 hle)
        clear HEN
        go_upto_region 20 with fail
        refine kl_start 121 (by kernel_rfl) ?_
        refine kl_get 0 (some 78) 26 _ (.tmp 6) _ (nv false (.slice none 0 0) vk vi) (by kernel_rfl) (by kernel_rfl) (by kernel_rfl) (by kernel_rfl) (by kernel_rfl) hX tyM rfl ?_
        refine kl_callx 1 (some 79) (by kernel_rfl) (by kernel_rfl) (by kernel_rfl) (by kernel_rfl) (nof_any (.slice none 0 0) vk vi ⟨false, [], keysW m n, kidsW n⟩ _ hN HFW) ?_
        rintro e x ⟨vc', rfl, hN', hb⟩
        refine ⟨_, rfl, ?_⟩
        replace hX := hX.later hb
        replace hN := hN.later hb
        replace hB := hB.trans (hb.mono hB.size)
        clear hb
        refine kl_callx 2 (some 80) (by kernel_rfl) (by kernel_rfl) (by kernel_rfl) (by kernel_rfl) (encode_at hN' HFW HE.out) ?_
        rintro e x ⟨v8, rfl, ho8, hb⟩
        refine ⟨_, rfl, ?_⟩
        replace hX := hX.later hb
        replace hN := hN.later hb
        replace hN' := hN'.later hb
        replace hB := hB.trans (hb.mono hB.size)
        clear hb
        clear ho8
        refine kl_take 3 (some 77) (.tuple #[v8, .int .i64 4]) (by kernel_rfl) (by kernel_rfl) (by kernel_rfl) (by kernel_rfl) ?_
        refine kl_take 4 (some 81) (v8) (by kernel_rfl) (by kernel_rfl) (by kernel_rfl) (by kernel_rfl) ?_
        refine kl_take 5 (some 82) (.int .i64 4) (by kernel_rfl) (by kernel_rfl) (by kernel_rfl) (by kernel_rfl) ?_
        refine kl_take 6 (some 11) (v8) (by kernel_rfl) (by kernel_rfl) (by kernel_rfl) (by kernel_rfl) ?_
        refine kl_take 7 (some 12) (.int .i64 4) (by kernel_rfl) (by kernel_rfl) (by kernel_rfl) (by kernel_rfl) ?_
        refine kl_done (by kernel_rfl) (fun z9 => #[.int .i64 (n : Int), .int .i64 (m : Int), undef, undef, (Value.bool false), .bool true, .pointer (some ⟨bx, 0, none⟩), .int .i64 (n : Int), u8, u9, .int .i64 (z : Int), v8, .int .i64 4, undef, undef, .bool true, .bool true, .bool false, .int .i64 (n : Int), .bool false, .bool false, .int .i64 (n : Int), .bool false, .bool false, .bool false, .int .i64 (m : Int), .bool false, .bool false, .bool false, .int .i64 (m : Int), .bool false, .bool false, .agg nn0, .int .i64 (n : Int), .int .i64 (n : Int), .bool false, u36, u37, u38, u39, u40, u41, u42, u43, u44, u45, u46, u47, u48, u49, u50, u51, u52, u53, u54, u55, u56, u57, u58, u59, u60, u61, u62, u63, u64, u65, u66, u67, u68, .int .i64 (n : Int), .int .i64 (2 + (n : Int)), .int .i64 (n : Int), .int .i64 ((n - 1 : Nat) : Int), .int .i64 (m : Int), .int .i64 ((1 + m : Nat) : Int), .int .i64 (((n - 1) * (1 + m) : Nat) : Int), .int .i64 (z : Int), .tuple #[v8, .int .i64 4], .agg (nv false (.slice none 0 0) vk vi), .agg (nv false vc' vk vi), .tuple #[v8, .int .i64 4], v8, .int .i64 4, undef, undef, undef, undef, undef, undef, undef, undef, undef, undef, undef, undef, undef, undef, undef, undef, undef, undef, undef, undef, undef, undef, undef, undef, undef, undef, undef, undef, undef, undef, undef, undef, undef, undef, undef, undef, undef, undef]) (by kernel_rfl) ?_
        intro z9
        go_upto_region 21 with fail
        refine kl_start 121 (by kernel_rfl) ?_
        refine kl_take 0 (some 83) (.int .i64 4) (by kernel_rfl) (by kernel_rfl) (by kernel_rfl) (by kernel_rfl) ?_
        refine kl_take 1 (some 84) (.bool false) (by kernel_rfl) (by kernel_rfl) (by kernel_rfl) (by kernel_rfl) ?_
        refine kl_take 2 (some 85) (.int .i64 (z : Int)) (by kernel_rfl) (by kernel_rfl) (by kernel_rfl) (by kernel_rfl) ?_
        refine kl_test 3 (some 86) false (by kernel_rfl) (by kernel_rfl) (by kernel_rfl) (show decide ((z : Int) ≤ 256) = false by simp <;> omega) (by kernel_rfl) ?_
        refine kl_take 4 (some 87) (.bool false) (by kernel_rfl) (by kernel_rfl) (by kernel_rfl) (by kernel_rfl) ?_
        refine kl_take 5 (some 88) (.bool false) (by kernel_rfl) (by kernel_rfl) (by kernel_rfl) (by kernel_rfl) ?_
        refine kl_get 6 (some 89) 26 _ (.tmp 6) _ (nv false (.slice none 0 0) vk vi) (by kernel_rfl) (by kernel_rfl) (by kernel_rfl) (by kernel_rfl) (by kernel_rfl) hX tyM rfl ?_
        refine kl_callx 7 (some 90) (by kernel_rfl) (by kernel_rfl) (by kernel_rfl) (by kernel_rfl) (nof_any (.slice none 0 0) vk vi ⟨false, [], keysW m n, kidsW n⟩ _ hN HFW) ?_
        rintro e x ⟨vc2, rfl, hN2, hb⟩
        refine ⟨_, rfl, ?_⟩
        replace hX := hX.later hb
        replace hN := hN.later hb
        replace hN' := hN'.later hb
        replace hB := hB.trans (hb.mono hB.size)
        clear hb
        refine kl_callx 8 (some 91) (by kernel_rfl) (by kernel_rfl) (by kernel_rfl) (by kernel_rfl) (size_at hN2 HFW HSZ.out) ?_
        rintro e x ⟨rfl, hb⟩
        refine ⟨_, rfl, ?_⟩
        replace hX := hX.later hb
        replace hN := hN.later hb
        replace hN' := hN'.later hb
        replace hN2 := hN2.later hb
        replace hB := hB.trans (hb.mono hB.size)
        clear hb
        refine kl_take 9 (some 92) (.int .i64 (z : Int)) (by kernel_rfl) (by kernel_rfl) (by kernel_rfl) (by kernel_rfl) ?_
        refine kl_test 10 (some 93) false (by kernel_rfl) (by kernel_rfl) (by kernel_rfl) (show ((z : Int) != (z : Int)) = false by simp) (by kernel_rfl) ?_
        refine kl_take 11 (some 94) (.bool false) (by kernel_rfl) (by kernel_rfl) (by kernel_rfl) (by kernel_rfl) ?_
        refine kl_done (by kernel_rfl) (fun z10 => #[.int .i64 (n : Int), .int .i64 (m : Int), undef, undef, (Value.bool false), .bool true, .pointer (some ⟨bx, 0, none⟩), .int .i64 (n : Int), u8, u9, .int .i64 (z : Int), v8, .int .i64 4, undef, undef, .bool true, .bool true, .bool false, .int .i64 (n : Int), .bool false, .bool false, .int .i64 (n : Int), .bool false, .bool false, .bool false, .int .i64 (m : Int), .bool false, .bool false, .bool false, .int .i64 (m : Int), .bool false, .bool false, .agg nn0, .int .i64 (n : Int), .int .i64 (n : Int), .bool false, u36, u37, u38, u39, u40, u41, u42, u43, u44, u45, u46, u47, u48, u49, u50, u51, u52, u53, u54, u55, u56, u57, u58, u59, u60, u61, u62, u63, u64, u65, u66, u67, u68, .int .i64 (n : Int), .int .i64 (2 + (n : Int)), .int .i64 (n : Int), .int .i64 ((n - 1 : Nat) : Int), .int .i64 (m : Int), .int .i64 ((1 + m : Nat) : Int), .int .i64 (((n - 1) * (1 + m) : Nat) : Int), .int .i64 (z : Int), .tuple #[v8, .int .i64 4], .agg (nv false (.slice none 0 0) vk vi), .agg (nv false vc' vk vi), .tuple #[v8, .int .i64 4], v8, .int .i64 4, .int .i64 4, .bool false, .int .i64 (z : Int), .bool false, .bool false, .bool false, .agg (nv false (.slice none 0 0) vk vi), .agg (nv false vc2 vk vi), .int .i64 (z : Int), .int .i64 (z : Int), .bool false, .bool false, undef, undef, undef, undef, undef, undef, undef, undef, undef, undef, undef, undef, undef, undef, undef, undef, undef, undef, undef, undef, undef, undef, undef, undef, undef, undef]) (by kernel_rfl) ?_
        intro z10
        go_upto_region 23 with fail
        refine kl_start 121 (by kernel_rfl) ?_
        refine kl_take 0 (some 95) (.int .i64 4) (by kernel_rfl) (by kernel_rfl) (by kernel_rfl) (by kernel_rfl) ?_
        refine kl_take 1 (some 96) (.bool true) (by kernel_rfl) (by kernel_rfl) (by kernel_rfl) (by kernel_rfl) ?_
        refine kl_done (by kernel_rfl) (fun z11 => #[.int .i64 (n : Int), .int .i64 (m : Int), undef, undef, (Value.bool false), .bool true, .pointer (some ⟨bx, 0, none⟩), .int .i64 (n : Int), u8, u9, .int .i64 (z : Int), v8, .int .i64 4, undef, undef, .bool true, .bool true, .bool false, .int .i64 (n : Int), .bool false, .bool false, .int .i64 (n : Int), .bool false, .bool false, .bool false, .int .i64 (m : Int), .bool false, .bool false, .bool false, .int .i64 (m : Int), .bool false, .bool false, .agg nn0, .int .i64 (n : Int), .int .i64 (n : Int), .bool false, u36, u37, u38, u39, u40, u41, u42, u43, u44, u45, u46, u47, u48, u49, u50, u51, u52, u53, u54, u55, u56, u57, u58, u59, u60, u61, u62, u63, u64, u65, u66, u67, u68, .int .i64 (n : Int), .int .i64 (2 + (n : Int)), .int .i64 (n : Int), .int .i64 ((n - 1 : Nat) : Int), .int .i64 (m : Int), .int .i64 ((1 + m : Nat) : Int), .int .i64 (((n - 1) * (1 + m) : Nat) : Int), .int .i64 (z : Int), .tuple #[v8, .int .i64 4], .agg (nv false (.slice none 0 0) vk vi), .agg (nv false vc' vk vi), .tuple #[v8, .int .i64 4], v8, .int .i64 4, .int .i64 4, .bool false, .int .i64 (z : Int), .bool false, .bool false, .bool false, .agg (nv false (.slice none 0 0) vk vi), .agg (nv false vc2 vk vi), .int .i64 (z : Int), .int .i64 (z : Int), .bool false, .bool false, .int .i64 4, .bool true, undef, undef, undef, undef, undef, undef, undef, undef, undef, undef, undef, undef, undef, undef, undef, undef, undef, undef, undef, undef, undef, undef, undef, undef]) (by kernel_rfl) ?_
        intro z11
        go_upto_region 24 with fail
        refine kl_start 121 (by kernel_rfl) ?_
        refine kl_take 0 (some 97) (.int .i64 4) (by kernel_rfl) (by kernel_rfl) (by kernel_rfl) (by kernel_rfl) ?_
        refine kl_take 1 (some 98) (.bool true) (by kernel_rfl) (by kernel_rfl) (by kernel_rfl) (by kernel_rfl) ?_
        refine kl_take 2 (some 4) (.bool true) (by kernel_rfl) (by kernel_rfl) (by kernel_rfl) (by kernel_rfl) ?_
        refine kl_done (by kernel_rfl) (fun z12 => #[.int .i64 (n : Int), .int .i64 (m : Int), undef, undef, .bool true, .bool true, .pointer (some ⟨bx, 0, none⟩), .int .i64 (n : Int), u8, u9, .int .i64 (z : Int), v8, .int .i64 4, undef, undef, .bool true, .bool true, .bool false, .int .i64 (n : Int), .bool false, .bool false, .int .i64 (n : Int), .bool false, .bool false, .bool false, .int .i64 (m : Int), .bool false, .bool false, .bool false, .int .i64 (m : Int), .bool false, .bool false, .agg nn0, .int .i64 (n : Int), .int .i64 (n : Int), .bool false, u36, u37, u38, u39, u40, u41, u42, u43, u44, u45, u46, u47, u48, u49, u50, u51, u52, u53, u54, u55, u56, u57, u58, u59, u60, u61, u62, u63, u64, u65, u66, u67, u68, .int .i64 (n : Int), .int .i64 (2 + (n : Int)), .int .i64 (n : Int), .int .i64 ((n - 1 : Nat) : Int), .int .i64 (m : Int), .int .i64 ((1 + m : Nat) : Int), .int .i64 (((n - 1) * (1 + m) : Nat) : Int), .int .i64 (z : Int), .tuple #[v8, .int .i64 4], .agg (nv false (.slice none 0 0) vk vi), .agg (nv false vc' vk vi), .tuple #[v8, .int .i64 4], v8, .int .i64 4, .int .i64 4, .bool false, .int .i64 (z : Int), .bool false, .bool false, .bool false, .agg (nv false (.slice none 0 0) vk vi), .agg (nv false vc2 vk vi), .int .i64 (z : Int), .int .i64 (z : Int), .bool false, .bool false, .int .i64 4, .bool true, .int .i64 4, .bool true, undef, undef, undef, undef, undef, undef, undef, undef, undef, undef, undef, undef, undef, undef, undef, undef, undef, undef, undef, undef, undef, undef]) (by kernel_rfl) ?_
        intro z12
        go_wp2_with fail
        go_ret
        exact ⟨rfl, hB⟩


set_option maxRecDepth 100000 in
theorem lifted (os : Os) (started : os.Started) (H : Type) (enc : TypeId × Value → H) :
    ReturnsInHanded {} Try.checked os 7 .any (Rows.nodeWaysSpec.pre6 enc Try.prog Try.f7 Rows.nodeWaysRow.domain false) (Rows.nodeWaysSpec.post enc Try.prog Try.f7 false true false false) := by
  refine returnsInHanded_of_change (C := Try.checked) own started (by kernel_rfl) Try.func7
    (ChangeSpec.witness6 (enc := enc) (C := Try.checked) false ⟨#[], #[.int .i64 0, .int .i64 0], []⟩ 8 (by kernel_rfl) (by kernel_rfl) (by kernel_rfl) (by kernel_rfl)) ?_
  intro W base args ds gs before hval0 hW hcnd _
  have hval : ∀ (j : Nat) t v, Try.f7.params[j]? = some t → args[j]? = some v → Value.okWide Try.prog W .any base t v := hval0
  have hW' := hW
  obtain ⟨p, q, hA0, hV, rfl, hfz, hnd⟩ := hW
  have hA : DataW.TrodAll enc Try.prog W 0 (fun _ => true) true Try.f7.params.toList args.toList ds p := hA0
  rw [Try.params7] at hA hval
  obtain ⟨v0, vs0, d0, ds0, p0, q0, hargs, rfl, rfl, h0, r0⟩ := trodAll_cons hA
  obtain ⟨v1, vs1, d1, ds1, p1, q1, rfl, rfl, rfl, h1, r1⟩ := trodAll_cons r0
  obtain ⟨rfl, rfl, rfl⟩ := trodAll_nil r1
  obtain rfl : args = #[v0, v1] := by cases args; simp_all
  obtain ⟨rfl, rfl⟩ := trodVars_none hV
  obtain ⟨a0, rfl, rfl, rfl, w0⟩ := open_int Try.underlying3 (hval 0 3 v0 rfl rfl) h0
  obtain ⟨a1, rfl, rfl, rfl, w1⟩ := open_int Try.underlying3 (hval 1 3 v1 rfl rfl) h1
  clear hA0 hval0
  refine (walk a0 a1 W w0 w1).mono fun e W' ⟨he, bel⟩ => ?_
  subst he
  exact ⟨_, rfl, _, _, _, [], _, [], hW', trodAll_mk1 (shut_bool Try.underlying4 _), (trodAll_cons_mk (shut_int Try.underlying3 w0) (trodAll_cons_mk (shut_int Try.underlying3 w1) trodAll_mk0)), rfl, bel.frame _, fun h => by cases h⟩

theorem over : Rows.nodeWaysRow.holds Try.pinned (OpenSpec.ofChange Rows.nodeWaysSpec) :=
  OpenClaim.holds_of_wide 7 Try.f7 rfl rfl rfl rfl rfl rfl rfl ⟨rfl, rfl, rfl, rfl, rfl⟩ rfl rfl rfl rfl rfl (by kernel_rfl) Try.func7 (by kernel_rfl)
    (of_decide_eq_true (by kernel_rfl)) (by unfold Func.isWrapper; first | (rw [if_pos (by decide +kernel)]; kernel_rfl) | (rw [if_neg (by decide +kernel)]; exact ⟨rfl, rfl⟩))
    (fun os started H enc _ => lifted os started H enc)

theorem proved : Rows.NodeWaysSaid := over
#print axioms proved
end Go.Proofs.Ytbddghdkmakjlaa.nodeWays
