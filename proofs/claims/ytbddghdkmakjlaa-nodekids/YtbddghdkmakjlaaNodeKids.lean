/-
  For every int n and every key NodeKids returns true: in a node of n ways (1 to 20) with keys of one letter between them Kid leads a key of at most 16 bytes to the one kid whose keys stand about it. No condition.
-/
import Derived.Test.YtbddghdkmakjlaaRows
import Derived.WalkKit
import Derived.ProofKit
import Derived.OpenShut
import Derived.ShutString
import Derived.ChangeOld
import Derived.Below
import Derived.Test.YtbddghdkmakjlaaNodH
import Derived.Test.YtbddghdkmakjlaaNodC
import Derived.Test.YtbddghdkmakjlaaLad
import Derived.Test.YtbddghdkmakjlaaNodV
import Derived.Test.YtbddghdkmakjlaaOnn
import Derived.Test.YtbddghdkmakjlaaKrx
namespace Go.Proofs.Ytbddghdkmakjlaa.nodeKids
open Go.ChangeShapes Go.WideShapes Go.ChangeAt Go.RowKit
open Go.ChangeMaps (open_string shut_string)
set_option linter.unusedVariables false

theorem own : ownKnob Try.prog.godebug = none := by kernel_rfl
theorem laidOut : laidOutB Try.prog = true := by kernel_rfl

/-- The variable x of a law: it and what was laid behind it. -/
structure Xst (w0 w : World) (B bx : Nat) (X : Array Value) : Prop where
  x : Bx w bx X
  b : B ≤ w.heap.size
  w : Below w0.heap.size w0 w
  l : bx < B
  o : w0.heap.size ≤ bx
theorem Xst.later {w0 w w' : World} {B bx : Nat} {X : Array Value} (h : Xst w0 w B bx X) (hb : Below w.heap.size w w') : Xst w0 w' B bx X := ⟨h.x.later hb, Nat.le_trans h.b hb.size, h.w.trans (hb.mono h.w.size), h.l, h.o⟩
theorem Xst.grown {w0 w w' : World} {B bx : Nat} {X : Array Value} (h : Xst w0 w B bx X) {e : TypeId} {s : Nat} {v : Value} {n : Nat} {xs : List Value} (ho : w.ownsRow B e s v n xs) (hg : w.grownBy w' v.ownBlock) : Xst w0 w' B bx X :=
  ⟨h.x.grown hg (own_ne ho h.l), Nat.le_trans h.b hg.size, h.w.grown hg h.w.size (fun j hj => by have := (ho.lt j hj).1; have := h.l; have := h.o; omega), h.l, h.o⟩
theorem Xst.put {w0 w w' : World} {B bx : Nat} {X X' : Array Value} (h : Xst w0 w B bx X) (hb : But (· = bx) w w') (hz : w'.heap.size = w.heap.size) (hx : Bx w' bx X') : Xst w0 w' B bx X' :=
  ⟨hx, by rw [hz]; exact h.b, Below.but h.w h.w.size hb (fun k e => by have := h.o; omega), h.l, h.o⟩

theorem ld_st {w : World} {p : Addr} {v : Value} (h : w.cell? p = some v) : (Instr.loadAt 9 (.pointer (some p))).run Try.prog w = .ok v w := by simp [Instr.loadAt, Instr.sureAddr, go_sem, loadVar, h]
theorem mul1 {w : World} {b off i : Nat} {v : Value} (h : w.cell? ⟨b, off + i, none⟩ = some v) : w.cell? ⟨b, off + i * 1, none⟩ = some v := by rw [Nat.mul_one]; exact h
theorem keysK_step {j : Nat} (h : 1 ≤ j) : keysK (j + 1) = keysK j ++ [strOfNums [97 + (j : Int)]] := by
  obtain ⟨i, rfl⟩ : ∃ i, j = i + 1 := ⟨j - 1, by omega⟩
  exact range_snoc onek i
theorem one_byte (w : World) (z : Int) (h0 : 0 ≤ z) (h1 : z ≤ 255) : Sl (w.alloc (.cells (Value.int .u8 z).cells 5)) (.slice (some ⟨w.heap.size, 0, none⟩) 1 1) [z] := by
  have := World.ownsRow_lit (base := 0) (e := 5) (size := 1) w (Value.int .u8 z).cells 1 (Nat.zero_le _) (by unfold maxLen; omega) rfl
  exact Sl.own (zs := [z]) this (by intro q hq; rw [List.mem_singleton] at hq; omega)

set_option maxRecDepth 100000 in
set_option maxHeartbeats 8000000 in
theorem walk (a0 : Int) (a1 : ByteArray) (w : World) (w0 : (Lit.int .i64 a0).wf = true) (w1 : a1.size ≤ maxLen) :
    Calls Try.prog 8 #[.int .i64 a0, .string a1] w fun e w' => e = .returned (.bool true) ∧ Below w.heap.size w w' := by
  unfold maxLen at w1
  clear w0
  cases h1 : decide (a0 < 1)
  case true =>
    go_enter Try.func8, Try.ntmps8
    go_wp2_with fail
    refine (nbegun_any _).mono ?_
    rintro e W1 ⟨rfl, hB⟩
    go_wp2_with fail
    go_ret
    exact ⟨rfl, hB⟩
  cases h2 : decide (20 < a0)
  case true =>
    go_enter Try.func8, Try.ntmps8
    go_wp2_with fail
    refine (nbegun_any _).mono ?_
    rintro e W1 ⟨rfl, hB⟩
    go_wp2_with fail
    go_ret
    exact ⟨rfl, hB⟩
  cases h3 : decide ((16 : Int) < (a1.size : Int))
  case true =>
    go_enter Try.func8, Try.ntmps8
    go_wp2_with fail
    refine (nbegun_any _).mono ?_
    rintro e W1 ⟨rfl, hB⟩
    go_wp2_with fail
    go_ret
    exact ⟨rfl, hB⟩
  obtain ⟨n, rfl⟩ : ∃ n : Nat, a0 = (n : Int) := ⟨a0.toNat, by have := of_decide_eq_false h1; omega⟩
  have HL := hide (show 1 ≤ n ∧ n ≤ 20 by have := of_decide_eq_false h1; have := of_decide_eq_false h2; omega)
  go_enter Try.func8, Try.ntmps8
  have hB : Below w.heap.size w w := Below.refl _ _
  go_upto_region 0 with fail
  refine kl_start 86 (by kernel_rfl) ?_
  refine kl_take 0 (some 4) ((Value.bool false)) (by kernel_rfl) (by kernel_rfl) (by kernel_rfl) (by kernel_rfl) ?_
  refine kl_done (by kernel_rfl) (fun y1 => #[.int .i64 (n : Int), .string a1, undef, undef, (Value.bool false), undef, undef, undef, undef, undef, undef, undef, undef, undef, undef, undef, undef, undef, undef, undef, undef, undef, undef, undef, undef, undef, undef, undef, undef, undef, undef, undef, undef, undef, undef, undef, undef, undef, undef, undef, undef, undef, undef, undef, undef, undef, undef, undef, undef, undef, undef, undef, undef, undef, undef, undef, undef, undef, undef, undef, undef, undef, undef, undef, undef, undef, undef, undef, undef, undef, undef, undef, undef, undef, undef, undef, undef, undef, undef, undef, undef, undef, undef, undef, undef, undef]) (by kernel_rfl) ?_
  intro y1
  go_upto_region 1 with fail
  refine kl_start 86 (by kernel_rfl) ?_
  refine kl_callx 0 (some 9) (by kernel_rfl) (by kernel_rfl) (by kernel_rfl) (by kernel_rfl) (nbegun_any _) ?_
  rintro e x ⟨rfl, hb⟩
  refine ⟨_, rfl, ?_⟩
  replace hB := hB.trans (hb.mono hB.size)
  clear hb
  refine kl_take 1 (some 5) (.bool true) (by kernel_rfl) (by kernel_rfl) (by kernel_rfl) (by kernel_rfl) ?_
  refine kl_done (by kernel_rfl) (fun y2 => #[.int .i64 (n : Int), .string a1, undef, undef, (Value.bool false), .bool true, undef, undef, undef, .bool true, undef, undef, undef, undef, undef, undef, undef, undef, undef, undef, undef, undef, undef, undef, undef, undef, undef, undef, undef, undef, undef, undef, undef, undef, undef, undef, undef, undef, undef, undef, undef, undef, undef, undef, undef, undef, undef, undef, undef, undef, undef, undef, undef, undef, undef, undef, undef, undef, undef, undef, undef, undef, undef, undef, undef, undef, undef, undef, undef, undef, undef, undef, undef, undef, undef, undef, undef, undef, undef, undef, undef, undef, undef, undef, undef, undef]) (by kernel_rfl) ?_
  intro y2
  go_upto_region 2 with fail
  refine kl_start 86 (by kernel_rfl) ?_
  refine kl_take 0 (some 10) (.bool true) (by kernel_rfl) (by kernel_rfl) (by kernel_rfl) (by kernel_rfl) ?_
  refine kl_take 1 (some 11) (.bool false) (by kernel_rfl) (by kernel_rfl) (by kernel_rfl) (by kernel_rfl) ?_
  refine kl_done (by kernel_rfl) (fun y3 => #[.int .i64 (n : Int), .string a1, undef, undef, (Value.bool false), .bool true, undef, undef, undef, .bool true, .bool true, .bool false, undef, undef, undef, undef, undef, undef, undef, undef, undef, undef, undef, undef, undef, undef, undef, undef, undef, undef, undef, undef, undef, undef, undef, undef, undef, undef, undef, undef, undef, undef, undef, undef, undef, undef, undef, undef, undef, undef, undef, undef, undef, undef, undef, undef, undef, undef, undef, undef, undef, undef, undef, undef, undef, undef, undef, undef, undef, undef, undef, undef, undef, undef, undef, undef, undef, undef, undef, undef, undef, undef, undef, undef, undef, undef]) (by kernel_rfl) ?_
  intro y3
  go_upto_region 4 with fail
  refine kl_start 86 (by kernel_rfl) ?_
  refine kl_take 0 (some 12) (.int .i64 (n : Int)) (by kernel_rfl) (by kernel_rfl) (by kernel_rfl) (by kernel_rfl) ?_
  refine kl_test 1 (some 13) false (by kernel_rfl) (by kernel_rfl) (by kernel_rfl) (h1) (by kernel_rfl) ?_
  refine kl_take 2 (some 14) (.bool false) (by kernel_rfl) (by kernel_rfl) (by kernel_rfl) (by kernel_rfl) ?_
  refine kl_take 3 (some 15) (.int .i64 (n : Int)) (by kernel_rfl) (by kernel_rfl) (by kernel_rfl) (by kernel_rfl) ?_
  refine kl_test 4 (some 16) false (by kernel_rfl) (by kernel_rfl) (by kernel_rfl) (h2) (by kernel_rfl) ?_
  refine kl_take 5 (some 17) (.bool false) (by kernel_rfl) (by kernel_rfl) (by kernel_rfl) (by kernel_rfl) ?_
  refine kl_take 6 (some 18) (.bool false) (by kernel_rfl) (by kernel_rfl) (by kernel_rfl) (by kernel_rfl) ?_
  refine kl_take 7 (some 19) (.string a1) (by kernel_rfl) (by kernel_rfl) (by kernel_rfl) (by kernel_rfl) ?_
  refine kl_take 8 (some 20) (.int .i64 (a1.size : Int)) (by kernel_rfl) (by kernel_rfl) (by kernel_rfl) (by kernel_rfl) ?_
  refine kl_test 9 (some 21) false (by kernel_rfl) (by kernel_rfl) (by kernel_rfl) (h3) (by kernel_rfl) ?_
  refine kl_take 10 (some 22) (.bool false) (by kernel_rfl) (by kernel_rfl) (by kernel_rfl) (by kernel_rfl) ?_
  refine kl_done (by kernel_rfl) (fun y4 => #[.int .i64 (n : Int), .string a1, undef, undef, (Value.bool false), .bool true, undef, undef, undef, .bool true, .bool true, .bool false, .int .i64 (n : Int), .bool false, .bool false, .int .i64 (n : Int), .bool false, .bool false, .bool false, .string a1, .int .i64 (a1.size : Int), .bool false, .bool false, undef, undef, undef, undef, undef, undef, undef, undef, undef, undef, undef, undef, undef, undef, undef, undef, undef, undef, undef, undef, undef, undef, undef, undef, undef, undef, undef, undef, undef, undef, undef, undef, undef, undef, undef, undef, undef, undef, undef, undef, undef, undef, undef, undef, undef, undef, undef, undef, undef, undef, undef, undef, undef, undef, undef, undef, undef, undef, undef, undef, undef, undef, undef]) (by kernel_rfl) ?_
  intro y4
  clear h1 h2 h3
  go_upto_region 6 with fail
  refine kl_start 86 (by kernel_rfl) ?_
  refine kl_build 0 (some 23) nn0 26 #[] (by kernel_rfl) (by kernel_rfl) (by kernel_rfl) (by kernel_rfl) (by kernel_rfl) ?_
  refine kl_new 1 (some 6) 26 _ (by kernel_rfl) (by kernel_rfl) (by kernel_rfl) (by kernel_rfl) tyM ?_
  intro W2 hb hX0
  have hBp := hb
  generalize hbx : x.heap.size = bx at *
  generalize hBB : W2.heap.size = B at *
  refine kl_put 2 26 _ (.tmp 6) (.tmp 23) _ nn0 _ (by kernel_rfl) (by kernel_rfl) (by kernel_rfl) (by kernel_rfl) (by kernel_rfl) (by kernel_rfl) hX0 tyM rfl rfl nn0_one ?_
  intro W3 hb3 hs3 hX3
  have HS : Hid (Xst w W3 B bx (nv false (.slice none 0 0) (.slice none 0 0) (.slice none 0 0))) := hide ⟨hX3, by omega, Below.but (hB.trans (hb.mono (by have := hB.size; omega))) (by have := hB.size; have := hX0.lt; omega) hb3 (fun k e => by have := hB.size; omega), by have := hX0.lt; omega, by have := hB.size; omega⟩
  clear hX0 hb hBp hb3 hX3 hs3 hB hbx hBB
  refine kl_done (by kernel_rfl) (fun y5 => #[.int .i64 (n : Int), .string a1, undef, undef, (Value.bool false), .bool true, .pointer (some ⟨bx, 0, none⟩), undef, undef, .bool true, .bool true, .bool false, .int .i64 (n : Int), .bool false, .bool false, .int .i64 (n : Int), .bool false, .bool false, .bool false, .string a1, .int .i64 (a1.size : Int), .bool false, .bool false, (.agg nn0), undef, undef, undef, undef, undef, undef, undef, undef, undef, undef, undef, undef, undef, undef, undef, undef, undef, undef, undef, undef, undef, undef, undef, undef, undef, undef, undef, undef, undef, undef, undef, undef, undef, undef, undef, undef, undef, undef, undef, undef, undef, undef, undef, undef, undef, undef, undef, undef, undef, undef, undef, undef, undef, undef, undef, undef, undef, undef, undef, undef, undef, undef]) (by kernel_rfl) ?_
  intro y5
  go_upto_region 7 with fail
  refine kl_start 86 (by kernel_rfl) ?_
  refine kl_take 0 (some 7) ((Value.int IntKind.i64 0)) (by kernel_rfl) (by kernel_rfl) (by kernel_rfl) (by kernel_rfl) ?_
  refine kl_done (by kernel_rfl) (fun y6 => #[.int .i64 (n : Int), .string a1, undef, undef, (Value.bool false), .bool true, .pointer (some ⟨bx, 0, none⟩), (Value.int IntKind.i64 0), undef, .bool true, .bool true, .bool false, .int .i64 (n : Int), .bool false, .bool false, .int .i64 (n : Int), .bool false, .bool false, .bool false, .string a1, .int .i64 (a1.size : Int), .bool false, .bool false, (.agg nn0), undef, undef, undef, undef, undef, undef, undef, undef, undef, undef, undef, undef, undef, undef, undef, undef, undef, undef, undef, undef, undef, undef, undef, undef, undef, undef, undef, undef, undef, undef, undef, undef, undef, undef, undef, undef, undef, undef, undef, undef, undef, undef, undef, undef, undef, undef, undef, undef, undef, undef, undef, undef, undef, undef, undef, undef, undef, undef, undef, undef, undef, undef]) (by kernel_rfl) ?_
  intro y6
  go_wp2_with fail
  go_loopw [7] (fun i wr => ∃ (j : Nat) (vk vi : Value), j ≤ n ∧ i = .int .i64 j ∧ Hid (wr.ownsRow B 3 1 vi j ((kidsI j).map (Value.int .i64))) ∧ Hid (wr.ownsRow B 9 1 vk (j - 1) ((keysK j).map Value.string)) ∧ Hid (Xst w wr B bx (nv false (.slice none 0 0) vk vi))) (fun i _ => n - (intOf i).toNat)
  case atStart => exact ⟨0, .slice none 0 0, .slice none 0 0, by omega, rfl, World.ownsRow_nil _ _ _ _, World.ownsRow_nil _ _ _ _, HS⟩
  case round =>
    obtain ⟨j, vk, vi, hj0, rfl, HI, HK, HX⟩ := hrel
    clear HS
    have hj20 := HL.out
    by_cases hj : j < n
    · skip
      have hw2 : IntKind.i64.wrap (2 + (j : Int)) = 2 + (j : Int) := by rw [IntKind.wrap_i64]; omega
      go_upto_region 8 with fail
      refine kl_start 86 (by kernel_rfl) ?_
      refine kl_take 0 (some 24) (.int .i64 (j : Int)) (by kernel_rfl) (by kernel_rfl) (by kernel_rfl) (by kernel_rfl) ?_
      refine kl_take 1 (some 25) (.int .i64 (n : Int)) (by kernel_rfl) (by kernel_rfl) (by kernel_rfl) (by kernel_rfl) ?_
      refine kl_test 2 (some 26) true (by kernel_rfl) (by kernel_rfl) (by kernel_rfl) (show decide ((j : Int) < (n : Int)) = true by simp; omega) (by kernel_rfl) ?_
      refine kl_done (by kernel_rfl) (fun z7 => #[.int .i64 (n : Int), .string a1, undef, undef, (Value.bool false), .bool true, .pointer (some ⟨bx, 0, none⟩), .int .i64 (j : Int), undef, .bool true, .bool true, .bool false, .int .i64 (n : Int), .bool false, .bool false, .int .i64 (n : Int), .bool false, .bool false, .bool false, .string a1, .int .i64 (a1.size : Int), .bool false, .bool false, (.agg nn0), .int .i64 (j : Int), .int .i64 (n : Int), .bool true, u27, u28, u29, u30, u31, u32, u33, u34, u35, u36, u37, u38, u39, u40, u41, u42, u43, u44, u45, u46, u47, undef, undef, undef, undef, undef, undef, undef, undef, undef, undef, undef, undef, undef, undef, undef, undef, undef, undef, undef, undef, undef, undef, undef, undef, undef, undef, undef, undef, undef, undef, undef, undef, undef, undef, undef, undef, undef, undef]) (by kernel_rfl) ?_
      intro z7
      go_upto_region 10 with fail
      refine kl_start 86 (by kernel_rfl) ?_
      refine kl_take 0 (some 29) (.pointer (some ⟨bx, 3, none⟩)) (by kernel_rfl) (by kernel_rfl) (by kernel_rfl) (by kernel_rfl) ?_
      refine kl_load 1 (some 30) (vi) 24 (.tmp 29) (by kernel_rfl) (by kernel_rfl) (by kernel_rfl) (by kernel_rfl) (by kernel_rfl) (ld_is HX.out.x.nodes.2.2.2) ?_
      refine kl_take 2 (some 31) (.int .i64 (j : Int)) (by kernel_rfl) (by kernel_rfl) (by kernel_rfl) (by kernel_rfl) ?_
      refine kl_take 3 (some 32) (.int .i64 (IntKind.i64.wrap (2 + (j : Int)))) (by kernel_rfl) (by kernel_rfl) (by kernel_rfl) (by kernel_rfl) ?_
      rw [hw2]
      refine kl_lit1 4 (some 33) 24 3 (.int .i64 0) 1 8 (.tmp 32) (.int .i64 (2 + (j : Int))) (by kernel_rfl) (by kernel_rfl) (by kernel_rfl) (by kernel_rfl) Try.underlying24 infoI rfl (by decide) (by decide) (by kernel_rfl) rfl ?_
      have hA5 : Below wr.heap.size wr (World.alloc wr (.cells (Value.int .i64 (2 + (j : Int))).cells 3)) := (Below.refl _ _).alloc (Nat.le_refl _) _
      refine kl_app1 5 (some 34) 24 3 (.int .i64 0) 1 8 (.tmp 30) (.tmp 33) B vi j ((kidsI j).map (Value.int .i64)) _ _ (by kernel_rfl) (by kernel_rfl) (by kernel_rfl) (by kernel_rfl) Try.underlying24 infoI rfl (by decide) (by kernel_rfl) (by kernel_rfl) (by omega) (by omega) (HI.out.alloc _) (heap_alloc_new _ _) rfl (int_one' _) (Nat.le_trans HX.out.b (alloc_le _ _)) ?_
      intro v5 W5 ho5 hg5
      have hT5 := (HX.out.later hA5).grown (HI.out.alloc _) hg5
      have hK5 := (own_below HK.out hA5).kept hg5 (own_apart (own_below HK.out hA5) (HI.out.alloc _) (by decide))
      obtain ⟨p5, c5, rfl, hc5, hc6⟩ := own_opensN ho5
      have HO5 : Hid (W5.ownsRow B 3 1 (.slice p5 (j + 1) c5) (j + 1) ((kidsI (j + 1)).map (Value.int .i64))) := hide (by rw [show kidsI (j + 1) = kidsI j ++ [twoi j] from range_snoc _ _, List.map_append]; exact ho5)
      clear ho5 hg5 hA5
      refine kl_take 6 (some 35) (.pointer (some ⟨bx, 3, none⟩)) (by kernel_rfl) (by kernel_rfl) (by kernel_rfl) (by kernel_rfl) ?_
      refine kl_put1 7 24 (.tmp 35) (.tmp 34) _ 3 (.slice p5 (j + 1) c5) _ (by kernel_rfl) (by kernel_rfl) (by kernel_rfl) (by kernel_rfl) (by kernel_rfl) (by kernel_rfl) hT5.x (show 3 < 4 by omega) (by kernel_rfl) rfl (fun a W => run_store Try.prog W a _ _ rfl) ?_
      intro W6 hb6 hs6 hX6
      have HX2 : Hid (Xst w W6 B bx (nv false (.slice none 0 0) vk (.slice p5 (j + 1) c5))) := hide (hT5.put hb6 hs6 hX6)
      have HI2 := hide (own_but' HO5.out hb6 (fun k hk e => by have := hT5.l; omega))
      have HK2 := hide (own_but' hK5 hb6 (fun k hk e => by have := hT5.l; omega))
      clear hb6 hs6 hX6 hT5 hK5 HO5 HI HK HX hc5 hc6
      refine kl_done (by kernel_rfl) (fun z8 => #[.int .i64 (n : Int), .string a1, undef, undef, (Value.bool false), .bool true, .pointer (some ⟨bx, 0, none⟩), .int .i64 (j : Int), undef, .bool true, .bool true, .bool false, .int .i64 (n : Int), .bool false, .bool false, .int .i64 (n : Int), .bool false, .bool false, .bool false, .string a1, .int .i64 (a1.size : Int), .bool false, .bool false, (.agg nn0), .int .i64 (j : Int), .int .i64 (n : Int), .bool true, u27, u28, .pointer (some ⟨bx, 3, none⟩), vi, .int .i64 (j : Int), .int .i64 (2 + (j : Int)), .slice (some ⟨wr.heap.size, 0, none⟩) 1 1, .slice p5 (j + 1) c5, .pointer (some ⟨bx, 3, none⟩), u36, u37, u38, u39, u40, u41, u42, u43, u44, u45, u46, u47, undef, undef, undef, undef, undef, undef, undef, undef, undef, undef, undef, undef, undef, undef, undef, undef, undef, undef, undef, undef, undef, undef, undef, undef, undef, undef, undef, undef, undef, undef, undef, undef, undef, undef, undef, undef, undef, undef]) (by kernel_rfl) ?_
      intro z8
      cases hz : decide ((0 : Int) < (j : Int))
      · skip
        have hj00 : j = 0 := by have := of_decide_eq_false hz; omega
        go_upto_region 11 with fail
        refine kl_start 86 (by kernel_rfl) ?_
        refine kl_take 0 (some 36) (.int .i64 (j : Int)) (by kernel_rfl) (by kernel_rfl) (by kernel_rfl) (by kernel_rfl) ?_
        refine kl_test 1 (some 37) false (by kernel_rfl) (by kernel_rfl) (by kernel_rfl) (hz) (by kernel_rfl) ?_
        refine kl_done (by kernel_rfl) (fun z9 => #[.int .i64 (n : Int), .string a1, undef, undef, (Value.bool false), .bool true, .pointer (some ⟨bx, 0, none⟩), .int .i64 (j : Int), undef, .bool true, .bool true, .bool false, .int .i64 (n : Int), .bool false, .bool false, .int .i64 (n : Int), .bool false, .bool false, .bool false, .string a1, .int .i64 (a1.size : Int), .bool false, .bool false, (.agg nn0), .int .i64 (j : Int), .int .i64 (n : Int), .bool true, u27, u28, .pointer (some ⟨bx, 3, none⟩), vi, .int .i64 (j : Int), .int .i64 (2 + (j : Int)), .slice (some ⟨wr.heap.size, 0, none⟩) 1 1, .slice p5 (j + 1) c5, .pointer (some ⟨bx, 3, none⟩), .int .i64 (j : Int), .bool false, u38, u39, u40, u41, u42, u43, u44, u45, u46, u47, undef, undef, undef, undef, undef, undef, undef, undef, undef, undef, undef, undef, undef, undef, undef, undef, undef, undef, undef, undef, undef, undef, undef, undef, undef, undef, undef, undef, undef, undef, undef, undef, undef, undef, undef, undef, undef, undef]) (by kernel_rfl) ?_
        intro z9
        go_wp2_with fail
        go_roundw
        case rel => exact ⟨j + 1, vk, .slice p5 (j + 1) c5, hj, by go_num, HI2, by subst hj00; exact HK2, HX2⟩
        case measure => simp [intOf]; omega
      · skip
        have hj1 : 1 ≤ j := by have := of_decide_eq_true hz; omega
        have hw3 : IntKind.i64.wrap (97 + (j : Int)) = 97 + (j : Int) := by rw [IntKind.wrap_i64]; omega
        have hw4 : IntKind.u8.wrap (97 + (j : Int)) = 97 + (j : Int) := by rw [IntKind.wrap_u8]; omega
        go_upto_region 11 with fail
        refine kl_start 86 (by kernel_rfl) ?_
        refine kl_take 0 (some 36) (.int .i64 (j : Int)) (by kernel_rfl) (by kernel_rfl) (by kernel_rfl) (by kernel_rfl) ?_
        refine kl_test 1 (some 37) true (by kernel_rfl) (by kernel_rfl) (by kernel_rfl) (hz) (by kernel_rfl) ?_
        refine kl_done (by kernel_rfl) (fun z9 => #[.int .i64 (n : Int), .string a1, undef, undef, (Value.bool false), .bool true, .pointer (some ⟨bx, 0, none⟩), .int .i64 (j : Int), undef, .bool true, .bool true, .bool false, .int .i64 (n : Int), .bool false, .bool false, .int .i64 (n : Int), .bool false, .bool false, .bool false, .string a1, .int .i64 (a1.size : Int), .bool false, .bool false, (.agg nn0), .int .i64 (j : Int), .int .i64 (n : Int), .bool true, u27, u28, .pointer (some ⟨bx, 3, none⟩), vi, .int .i64 (j : Int), .int .i64 (2 + (j : Int)), .slice (some ⟨wr.heap.size, 0, none⟩) 1 1, .slice p5 (j + 1) c5, .pointer (some ⟨bx, 3, none⟩), .int .i64 (j : Int), .bool true, u38, u39, u40, u41, u42, u43, u44, u45, u46, u47, undef, undef, undef, undef, undef, undef, undef, undef, undef, undef, undef, undef, undef, undef, undef, undef, undef, undef, undef, undef, undef, undef, undef, undef, undef, undef, undef, undef, undef, undef, undef, undef, undef, undef, undef, undef, undef, undef]) (by kernel_rfl) ?_
        intro z9
        go_upto_region 12 with fail
        refine kl_start 86 (by kernel_rfl) ?_
        refine kl_take 0 (some 38) (.pointer (some ⟨bx, 2, none⟩)) (by kernel_rfl) (by kernel_rfl) (by kernel_rfl) (by kernel_rfl) ?_
        refine kl_load 1 (some 39) (vk) 23 (.tmp 38) (by kernel_rfl) (by kernel_rfl) (by kernel_rfl) (by kernel_rfl) (by kernel_rfl) (ld_ts HX2.out.x.nodes.2.2.1) ?_
        refine kl_take 2 (some 40) (.int .i64 (j : Int)) (by kernel_rfl) (by kernel_rfl) (by kernel_rfl) (by kernel_rfl) ?_
        refine kl_take 3 (some 41) (.int .i64 (IntKind.i64.wrap (97 + (j : Int)))) (by kernel_rfl) (by kernel_rfl) (by kernel_rfl) (by kernel_rfl) ?_
        rw [hw3]
        refine kl_take 4 (some 42) (.int .u8 (IntKind.u8.wrap (97 + (j : Int)))) (by kernel_rfl) (by kernel_rfl) (by kernel_rfl) (by kernel_rfl) ?_
        rw [hw4]
        refine kl_lit1 5 (some 43) 30 5 (.int .u8 0) 1 1 (.tmp 42) (.int .u8 (97 + (j : Int))) (by kernel_rfl) (by kernel_rfl) (by kernel_rfl) (by kernel_rfl) Try.underlying30 Try.info5 rfl (by decide) (by decide) (by kernel_rfl) rfl ?_
        have hS7 := one_byte W6 (97 + (j : Int)) (by omega) (by omega)
        have hA6 : Below W6.heap.size W6 (World.alloc W6 (.cells (Value.int .u8 (97 + (j : Int))).cells 5)) := (Below.refl _ _).alloc (Nat.le_refl _) _
        have hX7 := HX2.out.later hA6
        have hI7 := own_below HI2.out hA6
        have hK7 := own_below HK2.out hA6
        clear hA6 HX2 HI2 HK2
        generalize hW7 : World.alloc W6 (.cells (Value.int .u8 (97 + (j : Int))).cells 5) = W7 at *
        clear hW7
        refine kl_conv 6 (some 44) _ ([97 + (j : Int)]) (.tmp 43) (by kernel_rfl) (by kernel_rfl) (by kernel_rfl) (by kernel_rfl) (by kernel_rfl) hS7 ?_
        refine kl_lit1 7 (some 45) 23 9 (.string ⟨#[]⟩) 1 16 (.tmp 44) (.string (strOfNums [97 + (j : Int)])) (by kernel_rfl) (by kernel_rfl) (by kernel_rfl) (by kernel_rfl) Try.underlying23 infoT rfl (by decide) (by decide) (by kernel_rfl) rfl ?_
        have hA8 : Below W7.heap.size W7 (World.alloc W7 (.cells (Value.string (strOfNums [97 + (j : Int)])).cells 9)) := (Below.refl _ _).alloc (Nat.le_refl _) _
        refine kl_app1 8 (some 46) 23 9 (.string ⟨#[]⟩) 1 16 (.tmp 39) (.tmp 45) B vk (j - 1) ((keysK j).map Value.string) _ _ (by kernel_rfl) (by kernel_rfl) (by kernel_rfl) (by kernel_rfl) Try.underlying23 infoT rfl (by decide) (by kernel_rfl) (by kernel_rfl) (by omega) (by omega) (hK7.alloc _) (heap_alloc_new _ _) rfl (str_one' _) (Nat.le_trans hX7.b (alloc_le _ _)) ?_
        intro v8 W8 ho8 hg8
        have hX8 := (hX7.later hA8).grown (hK7.alloc _) hg8
        have hI8 := (own_below hI7 hA8).kept hg8 (own_apart (own_below hI7 hA8) (hK7.alloc _) (by decide))
        obtain ⟨p8, c8, rfl, hc8, hc9⟩ := own_opensN ho8
        have HO8 : Hid (W8.ownsRow B 9 1 (.slice p8 (j - 1 + 1) c8) (j - 1 + 1) ((keysK (j + 1)).map Value.string)) := hide (by rw [keysK_step hj1, List.map_append]; exact ho8)
        clear ho8 hg8 hA8 hX7 hI7 hK7 hS7
        refine kl_take 9 (some 47) (.pointer (some ⟨bx, 2, none⟩)) (by kernel_rfl) (by kernel_rfl) (by kernel_rfl) (by kernel_rfl) ?_
        refine kl_put1 10 23 (.tmp 47) (.tmp 46) _ 2 (.slice p8 (j - 1 + 1) c8) _ (by kernel_rfl) (by kernel_rfl) (by kernel_rfl) (by kernel_rfl) (by kernel_rfl) (by kernel_rfl) hX8.x (show 2 < 4 by omega) (by kernel_rfl) rfl (fun a W => run_store Try.prog W a _ _ rfl) ?_
        intro W9 hb9 hs9 hX9
        have HX2 : Hid (Xst w W9 B bx (nv false (.slice none 0 0) (.slice p8 (j - 1 + 1) c8) (.slice p5 (j + 1) c5))) := hide (hX8.put hb9 hs9 hX9)
        have HK2 := hide (own_but' HO8.out hb9 (fun k hk e => by have := hX8.l; omega))
        have HI2 := hide (own_but' hI8 hb9 (fun k hk e => by have := hX8.l; omega))
        clear hb9 hs9 hX9 hX8 hI8 HO8 hc8 hc9
        refine kl_done (by kernel_rfl) (fun z10 => #[.int .i64 (n : Int), .string a1, undef, undef, (Value.bool false), .bool true, .pointer (some ⟨bx, 0, none⟩), .int .i64 (j : Int), undef, .bool true, .bool true, .bool false, .int .i64 (n : Int), .bool false, .bool false, .int .i64 (n : Int), .bool false, .bool false, .bool false, .string a1, .int .i64 (a1.size : Int), .bool false, .bool false, (.agg nn0), .int .i64 (j : Int), .int .i64 (n : Int), .bool true, u27, u28, .pointer (some ⟨bx, 3, none⟩), vi, .int .i64 (j : Int), .int .i64 (2 + (j : Int)), .slice (some ⟨wr.heap.size, 0, none⟩) 1 1, .slice p5 (j + 1) c5, .pointer (some ⟨bx, 3, none⟩), .int .i64 (j : Int), .bool true, .pointer (some ⟨bx, 2, none⟩), vk, .int .i64 (j : Int), .int .i64 (97 + (j : Int)), .int .u8 (97 + (j : Int)), .slice (some ⟨W6.heap.size, 0, none⟩) 1 1, .string (strOfNums ([97 + (j : Int)])), .slice (some ⟨W7.heap.size, 0, none⟩) 1 1, .slice p8 (j - 1 + 1) c8, .pointer (some ⟨bx, 2, none⟩), undef, undef, undef, undef, undef, undef, undef, undef, undef, undef, undef, undef, undef, undef, undef, undef, undef, undef, undef, undef, undef, undef, undef, undef, undef, undef, undef, undef, undef, undef, undef, undef, undef, undef, undef, undef, undef, undef]) (by kernel_rfl) ?_
        intro z10
        go_wp2_with fail
        go_roundw
        case rel => exact ⟨j + 1, .slice p8 (j - 1 + 1) c8, .slice p5 (j + 1) c5, hj, by go_num, HI2, by rw [show j + 1 - 1 = j - 1 + 1 by omega]; exact HK2, HX2⟩
        case measure => simp [intOf]; omega
    · skip
      obtain rfl : n = j := by omega
      go_upto_region 8 with fail
      refine kl_start 86 (by kernel_rfl) ?_
      refine kl_take 0 (some 24) (.int .i64 (n : Int)) (by kernel_rfl) (by kernel_rfl) (by kernel_rfl) (by kernel_rfl) ?_
      refine kl_take 1 (some 25) (.int .i64 (n : Int)) (by kernel_rfl) (by kernel_rfl) (by kernel_rfl) (by kernel_rfl) ?_
      refine kl_test 2 (some 26) false (by kernel_rfl) (by kernel_rfl) (by kernel_rfl) (show decide ((n : Int) < (n : Int)) = false by simp) (by kernel_rfl) ?_
      refine kl_done (by kernel_rfl) (fun z7 => #[.int .i64 (n : Int), .string a1, undef, undef, (Value.bool false), .bool true, .pointer (some ⟨bx, 0, none⟩), .int .i64 (n : Int), undef, .bool true, .bool true, .bool false, .int .i64 (n : Int), .bool false, .bool false, .int .i64 (n : Int), .bool false, .bool false, .bool false, .string a1, .int .i64 (a1.size : Int), .bool false, .bool false, (.agg nn0), .int .i64 (n : Int), .int .i64 (n : Int), .bool false, u27, u28, u29, u30, u31, u32, u33, u34, u35, u36, u37, u38, u39, u40, u41, u42, u43, u44, u45, u46, u47, undef, undef, undef, undef, undef, undef, undef, undef, undef, undef, undef, undef, undef, undef, undef, undef, undef, undef, undef, undef, undef, undef, undef, undef, undef, undef, undef, undef, undef, undef, undef, undef, undef, undef, undef, undef, undef, undef]) (by kernel_rfl) ?_
      intro z7
      have hm := kids_may hj20.1 hj20.2
      have hN : Nb wr (.slice none 0 0) vk vi ⟨false, [], keysK n, kidsI n⟩ := ⟨Cs.nil _, Ts.own HK.out (kids_ok n (by omega)).k, Is.own HI.out (kids_ok n (by omega)).i⟩
      have hX := HX.out.x
      have hB := HX.out.w
      obtain ⟨l1, l2, l3⟩ := No.lead_spec (keysK n) a1
      have HKI := hide (kids_kid hj20.1 hj20.2 a1)
      generalize hq : No.lead (keysK n) a1 = q at *
      have hlen : (keysK n).length = n - 1 := by simp [keysK]
      have HL2 := hide l2
      have HL3 := hide l3
      clear hm HI HK HX hq l2 l3
      go_upto_region 13 with fail
      refine kl_start 86 (by kernel_rfl) ?_
      refine kl_get 0 (some 48) 26 _ (.tmp 6) _ (nv false (.slice none 0 0) vk vi) (by kernel_rfl) (by kernel_rfl) (by kernel_rfl) (by kernel_rfl) (by kernel_rfl) hX tyM rfl ?_
      refine kl_callx 1 (some 49) (by kernel_rfl) (by kernel_rfl) (by kernel_rfl) (by kernel_rfl) (nof_any (.slice none 0 0) vk vi ⟨false, [], keysK n, kidsI n⟩ _ hN (by show 0 ≤ 100000; omega)) ?_
      rintro e x ⟨vc', rfl, hN', hb⟩
      refine ⟨_, rfl, ?_⟩
      replace hX := hX.later hb
      replace hN := hN.later hb
      replace hB := hB.trans (hb.mono hB.size)
      clear hb
      refine kl_take 2 (some 50) (.string a1) (by kernel_rfl) (by kernel_rfl) (by kernel_rfl) (by kernel_rfl) ?_
      refine kl_callx 3 (some 51) (by kernel_rfl) (by kernel_rfl) (by kernel_rfl) (by kernel_rfl) (kid_at hN' HKI.out) ?_
      rintro e x ⟨rfl, hb⟩
      refine ⟨_, rfl, ?_⟩
      replace hX := hX.later hb
      replace hN := hN.later hb
      replace hN' := hN'.later hb
      replace hB := hB.trans (hb.mono hB.size)
      clear hb
      refine kl_take 4 (some 8) (.int .i64 (q : Int)) (by kernel_rfl) (by kernel_rfl) (by kernel_rfl) (by kernel_rfl) ?_
      refine kl_done (by kernel_rfl) (fun z8 => #[.int .i64 (n : Int), .string a1, undef, undef, (Value.bool false), .bool true, .pointer (some ⟨bx, 0, none⟩), .int .i64 (n : Int), .int .i64 (q : Int), .bool true, .bool true, .bool false, .int .i64 (n : Int), .bool false, .bool false, .int .i64 (n : Int), .bool false, .bool false, .bool false, .string a1, .int .i64 (a1.size : Int), .bool false, .bool false, (.agg nn0), .int .i64 (n : Int), .int .i64 (n : Int), .bool false, u27, u28, u29, u30, u31, u32, u33, u34, u35, u36, u37, u38, u39, u40, u41, u42, u43, u44, u45, u46, u47, .agg (nv false (.slice none 0 0) vk vi), .agg (nv false vc' vk vi), .string a1, .int .i64 (q : Int), undef, undef, undef, undef, undef, undef, undef, undef, undef, undef, undef, undef, undef, undef, undef, undef, undef, undef, undef, undef, undef, undef, undef, undef, undef, undef, undef, undef, undef, undef, undef, undef, undef, undef]) (by kernel_rfl) ?_
      intro z8
      go_upto_region 14 with fail
      refine kl_start 86 (by kernel_rfl) ?_
      refine kl_take 0 (some 52) (.int .i64 (q : Int)) (by kernel_rfl) (by kernel_rfl) (by kernel_rfl) (by kernel_rfl) ?_
      refine kl_test 1 (some 53) false (by kernel_rfl) (by kernel_rfl) (by kernel_rfl) (show decide ((q : Int) < 0) = false by simp) (by kernel_rfl) ?_
      refine kl_take 2 (some 54) (.bool false) (by kernel_rfl) (by kernel_rfl) (by kernel_rfl) (by kernel_rfl) ?_
      refine kl_take 3 (some 55) (.int .i64 (q : Int)) (by kernel_rfl) (by kernel_rfl) (by kernel_rfl) (by kernel_rfl) ?_
      refine kl_take 4 (some 56) (.int .i64 (n : Int)) (by kernel_rfl) (by kernel_rfl) (by kernel_rfl) (by kernel_rfl) ?_
      refine kl_test 5 (some 57) false (by kernel_rfl) (by kernel_rfl) (by kernel_rfl) (show decide ((n : Int) ≤ (q : Int)) = false by simp; omega) (by kernel_rfl) ?_
      refine kl_take 6 (some 58) (.bool false) (by kernel_rfl) (by kernel_rfl) (by kernel_rfl) (by kernel_rfl) ?_
      refine kl_done (by kernel_rfl) (fun z9 => #[.int .i64 (n : Int), .string a1, undef, undef, (Value.bool false), .bool true, .pointer (some ⟨bx, 0, none⟩), .int .i64 (n : Int), .int .i64 (q : Int), .bool true, .bool true, .bool false, .int .i64 (n : Int), .bool false, .bool false, .int .i64 (n : Int), .bool false, .bool false, .bool false, .string a1, .int .i64 (a1.size : Int), .bool false, .bool false, (.agg nn0), .int .i64 (n : Int), .int .i64 (n : Int), .bool false, u27, u28, u29, u30, u31, u32, u33, u34, u35, u36, u37, u38, u39, u40, u41, u42, u43, u44, u45, u46, u47, .agg (nv false (.slice none 0 0) vk vi), .agg (nv false vc' vk vi), .string a1, .int .i64 (q : Int), .int .i64 (q : Int), .bool false, .bool false, .int .i64 (q : Int), .int .i64 (n : Int), .bool false, .bool false, undef, undef, undef, undef, undef, undef, undef, undef, undef, undef, undef, undef, undef, undef, undef, undef, undef, undef, undef, undef, undef, undef, undef, undef, undef, undef, undef]) (by kernel_rfl) ?_
      intro z9
      have hwn : IntKind.i64.wrap ((n : Int) - 1) = (n : Int) - 1 := by rw [IntKind.wrap_i64]; omega
      obtain ⟨pk, nk, ck, rfl, -, -, hk1, -⟩ := hN.k.opens
      obtain rfl : nk = n - 1 := by rw [hk1.out]; exact hlen
      have hTK := hN.k
      cases q with
      | zero =>
        by_cases hqe : (0 : Int) = (n : Int) - 1
        · skip
          go_upto_region 16 with fail
          refine kl_start 86 (by kernel_rfl) ?_
          refine kl_take 0 (some 59) (.int .i64 ((0 : Nat) : Int)) (by kernel_rfl) (by kernel_rfl) (by kernel_rfl) (by kernel_rfl) ?_
          refine kl_test 1 (some 60) true (by kernel_rfl) (by kernel_rfl) (by kernel_rfl) (show (((0 : Nat) : Int) == 0) = true by simp) (by kernel_rfl) ?_
          refine kl_take 2 (some 61) (.bool true) (by kernel_rfl) (by kernel_rfl) (by kernel_rfl) (by kernel_rfl) ?_
          refine kl_skip 3 (some 62) (by kernel_rfl) (by kernel_rfl) (by kernel_rfl) ?_
          refine kl_skip 4 (some 63) (by kernel_rfl) (by kernel_rfl) (by kernel_rfl) ?_
          refine kl_skip 5 (some 64) (by kernel_rfl) (by kernel_rfl) (by kernel_rfl) ?_
          refine kl_skip 6 (some 65) (by kernel_rfl) (by kernel_rfl) (by kernel_rfl) ?_
          refine kl_skip 7 (some 66) (by kernel_rfl) (by kernel_rfl) (by kernel_rfl) ?_
          refine kl_skip 8 (some 67) (by kernel_rfl) (by kernel_rfl) (by kernel_rfl) ?_
          refine kl_skip 9 (some 68) (by kernel_rfl) (by kernel_rfl) (by kernel_rfl) ?_
          refine kl_skip 10 (some 69) (by kernel_rfl) (by kernel_rfl) (by kernel_rfl) ?_
          refine kl_take 11 (some 70) (.bool true) (by kernel_rfl) (by kernel_rfl) (by kernel_rfl) (by kernel_rfl) ?_
          refine kl_take 12 (some 71) (.bool true) (by kernel_rfl) (by kernel_rfl) (by kernel_rfl) (by kernel_rfl) ?_
          refine kl_take 13 (some 72) (.int .i64 ((0 : Nat) : Int)) (by kernel_rfl) (by kernel_rfl) (by kernel_rfl) (by kernel_rfl) ?_
          refine kl_take 14 (some 73) (.int .i64 (n : Int)) (by kernel_rfl) (by kernel_rfl) (by kernel_rfl) (by kernel_rfl) ?_
          refine kl_take 15 (some 74) (.int .i64 (IntKind.i64.wrap ((n : Int) - 1))) (by kernel_rfl) (by kernel_rfl) (by kernel_rfl) (by kernel_rfl) ?_
          rw [hwn]
          refine kl_test 16 (some 75) true (by kernel_rfl) (by kernel_rfl) (by kernel_rfl) (show (((0 : Nat) : Int) == (n : Int) - 1) = true by simp <;> omega) (by kernel_rfl) ?_
          refine kl_take 17 (some 76) (.bool true) (by kernel_rfl) (by kernel_rfl) (by kernel_rfl) (by kernel_rfl) ?_
          refine kl_skip 18 (some 77) (by kernel_rfl) (by kernel_rfl) (by kernel_rfl) ?_
          refine kl_skip 19 (some 78) (by kernel_rfl) (by kernel_rfl) (by kernel_rfl) ?_
          refine kl_skip 20 (some 79) (by kernel_rfl) (by kernel_rfl) (by kernel_rfl) ?_
          refine kl_skip 21 (some 80) (by kernel_rfl) (by kernel_rfl) (by kernel_rfl) ?_
          refine kl_skip 22 (some 81) (by kernel_rfl) (by kernel_rfl) (by kernel_rfl) ?_
          refine kl_skip 23 (some 82) (by kernel_rfl) (by kernel_rfl) (by kernel_rfl) ?_
          refine kl_skip 24 (some 83) (by kernel_rfl) (by kernel_rfl) (by kernel_rfl) ?_
          refine kl_take 25 (some 84) (.bool true) (by kernel_rfl) (by kernel_rfl) (by kernel_rfl) (by kernel_rfl) ?_
          refine kl_take 26 (some 85) (.bool true) (by kernel_rfl) (by kernel_rfl) (by kernel_rfl) (by kernel_rfl) ?_
          refine kl_take 27 (some 4) (.bool true) (by kernel_rfl) (by kernel_rfl) (by kernel_rfl) (by kernel_rfl) ?_
          refine kl_done (by kernel_rfl) (fun z10 => #[.int .i64 (n : Int), .string a1, undef, undef, .bool true, .bool true, .pointer (some ⟨bx, 0, none⟩), .int .i64 (n : Int), .int .i64 ((0 : Nat) : Int), .bool true, .bool true, .bool false, .int .i64 (n : Int), .bool false, .bool false, .int .i64 (n : Int), .bool false, .bool false, .bool false, .string a1, .int .i64 (a1.size : Int), .bool false, .bool false, (.agg nn0), .int .i64 (n : Int), .int .i64 (n : Int), .bool false, u27, u28, u29, u30, u31, u32, u33, u34, u35, u36, u37, u38, u39, u40, u41, u42, u43, u44, u45, u46, u47, .agg (nv false (.slice none 0 0) (.slice pk (n - 1) ck) vi), .agg (nv false vc' (.slice pk (n - 1) ck) vi), .string a1, .int .i64 ((0 : Nat) : Int), .int .i64 ((0 : Nat) : Int), .bool false, .bool false, .int .i64 ((0 : Nat) : Int), .int .i64 (n : Int), .bool false, .bool false, .int .i64 ((0 : Nat) : Int), .bool true, .bool true, z10 62, z10 63, z10 64, z10 65, z10 66, z10 67, z10 68, z10 69, .bool true, .bool true, .int .i64 ((0 : Nat) : Int), .int .i64 (n : Int), .int .i64 ((n : Int) - 1), .bool true, .bool true, z10 77, z10 78, z10 79, z10 80, z10 81, z10 82, z10 83, .bool true, .bool true]) (by kernel_rfl) ?_
          intro z10
          go_wp2_with fail
          go_ret
          exact ⟨rfl, hB⟩
        · skip
          have hlt : Ky.bl a1.toList ((keysK n).getD 0 No.bz).toList = true := HL3.out (by rw [hlen]; omega)
          obtain ⟨b3, off3, e3, hc3, -⟩ := hTK.at_ (i := 0) (by rw [hlen]; omega)
          subst e3
          generalize (keysK n).getD 0 No.bz = s2 at *
          go_upto_region 16 with fail
          refine kl_start 86 (by kernel_rfl) ?_
          refine kl_take 0 (some 59) (.int .i64 ((0 : Nat) : Int)) (by kernel_rfl) (by kernel_rfl) (by kernel_rfl) (by kernel_rfl) ?_
          refine kl_test 1 (some 60) true (by kernel_rfl) (by kernel_rfl) (by kernel_rfl) (show (((0 : Nat) : Int) == 0) = true by simp) (by kernel_rfl) ?_
          refine kl_take 2 (some 61) (.bool true) (by kernel_rfl) (by kernel_rfl) (by kernel_rfl) (by kernel_rfl) ?_
          refine kl_skip 3 (some 62) (by kernel_rfl) (by kernel_rfl) (by kernel_rfl) ?_
          refine kl_skip 4 (some 63) (by kernel_rfl) (by kernel_rfl) (by kernel_rfl) ?_
          refine kl_skip 5 (some 64) (by kernel_rfl) (by kernel_rfl) (by kernel_rfl) ?_
          refine kl_skip 6 (some 65) (by kernel_rfl) (by kernel_rfl) (by kernel_rfl) ?_
          refine kl_skip 7 (some 66) (by kernel_rfl) (by kernel_rfl) (by kernel_rfl) ?_
          refine kl_skip 8 (some 67) (by kernel_rfl) (by kernel_rfl) (by kernel_rfl) ?_
          refine kl_skip 9 (some 68) (by kernel_rfl) (by kernel_rfl) (by kernel_rfl) ?_
          refine kl_skip 10 (some 69) (by kernel_rfl) (by kernel_rfl) (by kernel_rfl) ?_
          refine kl_take 11 (some 70) (.bool true) (by kernel_rfl) (by kernel_rfl) (by kernel_rfl) (by kernel_rfl) ?_
          refine kl_take 12 (some 71) (.bool true) (by kernel_rfl) (by kernel_rfl) (by kernel_rfl) (by kernel_rfl) ?_
          refine kl_take 13 (some 72) (.int .i64 ((0 : Nat) : Int)) (by kernel_rfl) (by kernel_rfl) (by kernel_rfl) (by kernel_rfl) ?_
          refine kl_take 14 (some 73) (.int .i64 (n : Int)) (by kernel_rfl) (by kernel_rfl) (by kernel_rfl) (by kernel_rfl) ?_
          refine kl_take 15 (some 74) (.int .i64 (IntKind.i64.wrap ((n : Int) - 1))) (by kernel_rfl) (by kernel_rfl) (by kernel_rfl) (by kernel_rfl) ?_
          rw [hwn]
          refine kl_test 16 (some 75) false (by kernel_rfl) (by kernel_rfl) (by kernel_rfl) (show (((0 : Nat) : Int) == (n : Int) - 1) = false by simp <;> omega) (by kernel_rfl) ?_
          refine kl_take 17 (some 76) (.bool false) (by kernel_rfl) (by kernel_rfl) (by kernel_rfl) (by kernel_rfl) ?_
          refine kl_take 18 (some 77) (.string a1) (by kernel_rfl) (by kernel_rfl) (by kernel_rfl) (by kernel_rfl) ?_
          refine kl_take 19 (some 78) (.pointer (some ⟨bx, 2, none⟩)) (by kernel_rfl) (by kernel_rfl) (by kernel_rfl) (by kernel_rfl) ?_
          refine kl_load 20 (some 79) (.slice (some ⟨b3, off3, none⟩) (n - 1) ck) 23 (.tmp 78) (by kernel_rfl) (by kernel_rfl) (by kernel_rfl) (by kernel_rfl) (by kernel_rfl) (ld_ts hX.nodes.2.2.1) ?_
          refine kl_take 21 (some 80) (.int .i64 ((0 : Nat) : Int)) (by kernel_rfl) (by kernel_rfl) (by kernel_rfl) (by kernel_rfl) ?_
          refine kl_index 22 (some 81) 23 (.tmp 79) (.tmp 80) 1 b3 (off3) ((n - 1)) (ck) (0) (by kernel_rfl) (by kernel_rfl) (by kernel_rfl) (by kernel_rfl) (by kernel_rfl) (by kernel_rfl) Try.underlying23 (by kernel_rfl) (by omega) ?_
          refine kl_load 23 (some 82) (.string s2) 9 (.tmp 81) (by kernel_rfl) (by kernel_rfl) (by kernel_rfl) (by kernel_rfl) (by kernel_rfl) (ld_st (mul1 hc3)) ?_
          refine kl_test 24 (some 83) true (by kernel_rfl) (by kernel_rfl) (by kernel_rfl) (hlt) (by kernel_rfl) ?_
          refine kl_take 25 (some 84) (.bool true) (by kernel_rfl) (by kernel_rfl) (by kernel_rfl) (by kernel_rfl) ?_
          refine kl_take 26 (some 85) (.bool true) (by kernel_rfl) (by kernel_rfl) (by kernel_rfl) (by kernel_rfl) ?_
          refine kl_take 27 (some 4) (.bool true) (by kernel_rfl) (by kernel_rfl) (by kernel_rfl) (by kernel_rfl) ?_
          refine kl_done (by kernel_rfl) (fun z10 => #[.int .i64 (n : Int), .string a1, undef, undef, .bool true, .bool true, .pointer (some ⟨bx, 0, none⟩), .int .i64 (n : Int), .int .i64 ((0 : Nat) : Int), .bool true, .bool true, .bool false, .int .i64 (n : Int), .bool false, .bool false, .int .i64 (n : Int), .bool false, .bool false, .bool false, .string a1, .int .i64 (a1.size : Int), .bool false, .bool false, (.agg nn0), .int .i64 (n : Int), .int .i64 (n : Int), .bool false, u27, u28, u29, u30, u31, u32, u33, u34, u35, u36, u37, u38, u39, u40, u41, u42, u43, u44, u45, u46, u47, .agg (nv false (.slice none 0 0) (.slice (some ⟨b3, off3, none⟩) (n - 1) ck) vi), .agg (nv false vc' (.slice (some ⟨b3, off3, none⟩) (n - 1) ck) vi), .string a1, .int .i64 ((0 : Nat) : Int), .int .i64 ((0 : Nat) : Int), .bool false, .bool false, .int .i64 ((0 : Nat) : Int), .int .i64 (n : Int), .bool false, .bool false, .int .i64 ((0 : Nat) : Int), .bool true, .bool true, z10 62, z10 63, z10 64, z10 65, z10 66, z10 67, z10 68, z10 69, .bool true, .bool true, .int .i64 ((0 : Nat) : Int), .int .i64 (n : Int), .int .i64 ((n : Int) - 1), .bool false, .bool false, .string a1, .pointer (some ⟨bx, 2, none⟩), .slice (some ⟨b3, off3, none⟩) (n - 1) ck, .int .i64 ((0 : Nat) : Int), .pointer (some ⟨b3, off3 + 0 * 1, none⟩), .string s2, .bool true, .bool true, .bool true]) (by kernel_rfl) ?_
          intro z10
          go_wp2_with fail
          go_ret
          exact ⟨rfl, hB⟩
      | succ i =>
        by_cases hqe : ((i + 1 : Nat) : Int) = (n : Int) - 1
        · skip
          obtain ⟨b, off, e2, hc2, -⟩ := hTK.at_ (i := i) (by rw [hlen]; omega)
          subst e2
          have hle := HL2.out i (by omega)
          have hwi : IntKind.i64.wrap (((i + 1 : Nat) : Int) - 1) = (i : Int) := by rw [IntKind.wrap_i64]; omega
          generalize (keysK n).getD i No.bz = s1 at *
          have hlq : (Op.bytesLess s1.toList a1.toList || s1.toList == a1.toList) = true := by rw [Ky.le_not s1.toList a1.toList, show Ky.bl a1.toList s1.toList = false from hle]; rfl
          go_upto_region 16 with fail
          refine kl_start 86 (by kernel_rfl) ?_
          refine kl_take 0 (some 59) (.int .i64 ((i + 1 : Nat) : Int)) (by kernel_rfl) (by kernel_rfl) (by kernel_rfl) (by kernel_rfl) ?_
          refine kl_test 1 (some 60) false (by kernel_rfl) (by kernel_rfl) (by kernel_rfl) (show (((i + 1 : Nat) : Int) == 0) = false by simp <;> omega) (by kernel_rfl) ?_
          refine kl_take 2 (some 61) (.bool false) (by kernel_rfl) (by kernel_rfl) (by kernel_rfl) (by kernel_rfl) ?_
          refine kl_take 3 (some 62) (.pointer (some ⟨bx, 2, none⟩)) (by kernel_rfl) (by kernel_rfl) (by kernel_rfl) (by kernel_rfl) ?_
          refine kl_load 4 (some 63) (.slice (some ⟨b, off, none⟩) (n - 1) ck) 23 (.tmp 62) (by kernel_rfl) (by kernel_rfl) (by kernel_rfl) (by kernel_rfl) (by kernel_rfl) (ld_ts hX.nodes.2.2.1) ?_
          refine kl_take 5 (some 64) (.int .i64 ((i + 1 : Nat) : Int)) (by kernel_rfl) (by kernel_rfl) (by kernel_rfl) (by kernel_rfl) ?_
          refine kl_take 6 (some 65) (.int .i64 (IntKind.i64.wrap (((i + 1 : Nat) : Int) - 1))) (by kernel_rfl) (by kernel_rfl) (by kernel_rfl) (by kernel_rfl) ?_
          rw [hwi]
          refine kl_index 7 (some 66) 23 (.tmp 63) (.tmp 65) 1 b (off) ((n - 1)) (ck) (i) (by kernel_rfl) (by kernel_rfl) (by kernel_rfl) (by kernel_rfl) (by kernel_rfl) (by kernel_rfl) Try.underlying23 (by kernel_rfl) (by omega) ?_
          refine kl_load 8 (some 67) (.string s1) 9 (.tmp 66) (by kernel_rfl) (by kernel_rfl) (by kernel_rfl) (by kernel_rfl) (by kernel_rfl) (ld_st (mul1 hc2)) ?_
          refine kl_take 9 (some 68) (.string a1) (by kernel_rfl) (by kernel_rfl) (by kernel_rfl) (by kernel_rfl) ?_
          refine kl_test 10 (some 69) true (by kernel_rfl) (by kernel_rfl) (by kernel_rfl) (hlq) (by kernel_rfl) ?_
          refine kl_take 11 (some 70) (.bool true) (by kernel_rfl) (by kernel_rfl) (by kernel_rfl) (by kernel_rfl) ?_
          refine kl_take 12 (some 71) (.bool true) (by kernel_rfl) (by kernel_rfl) (by kernel_rfl) (by kernel_rfl) ?_
          refine kl_take 13 (some 72) (.int .i64 ((i + 1 : Nat) : Int)) (by kernel_rfl) (by kernel_rfl) (by kernel_rfl) (by kernel_rfl) ?_
          refine kl_take 14 (some 73) (.int .i64 (n : Int)) (by kernel_rfl) (by kernel_rfl) (by kernel_rfl) (by kernel_rfl) ?_
          refine kl_take 15 (some 74) (.int .i64 (IntKind.i64.wrap ((n : Int) - 1))) (by kernel_rfl) (by kernel_rfl) (by kernel_rfl) (by kernel_rfl) ?_
          rw [hwn]
          refine kl_test 16 (some 75) true (by kernel_rfl) (by kernel_rfl) (by kernel_rfl) (show (((i + 1 : Nat) : Int) == (n : Int) - 1) = true by simp <;> omega) (by kernel_rfl) ?_
          refine kl_take 17 (some 76) (.bool true) (by kernel_rfl) (by kernel_rfl) (by kernel_rfl) (by kernel_rfl) ?_
          refine kl_skip 18 (some 77) (by kernel_rfl) (by kernel_rfl) (by kernel_rfl) ?_
          refine kl_skip 19 (some 78) (by kernel_rfl) (by kernel_rfl) (by kernel_rfl) ?_
          refine kl_skip 20 (some 79) (by kernel_rfl) (by kernel_rfl) (by kernel_rfl) ?_
          refine kl_skip 21 (some 80) (by kernel_rfl) (by kernel_rfl) (by kernel_rfl) ?_
          refine kl_skip 22 (some 81) (by kernel_rfl) (by kernel_rfl) (by kernel_rfl) ?_
          refine kl_skip 23 (some 82) (by kernel_rfl) (by kernel_rfl) (by kernel_rfl) ?_
          refine kl_skip 24 (some 83) (by kernel_rfl) (by kernel_rfl) (by kernel_rfl) ?_
          refine kl_take 25 (some 84) (.bool true) (by kernel_rfl) (by kernel_rfl) (by kernel_rfl) (by kernel_rfl) ?_
          refine kl_take 26 (some 85) (.bool true) (by kernel_rfl) (by kernel_rfl) (by kernel_rfl) (by kernel_rfl) ?_
          refine kl_take 27 (some 4) (.bool true) (by kernel_rfl) (by kernel_rfl) (by kernel_rfl) (by kernel_rfl) ?_
          refine kl_done (by kernel_rfl) (fun z10 => #[.int .i64 (n : Int), .string a1, undef, undef, .bool true, .bool true, .pointer (some ⟨bx, 0, none⟩), .int .i64 (n : Int), .int .i64 ((i + 1 : Nat) : Int), .bool true, .bool true, .bool false, .int .i64 (n : Int), .bool false, .bool false, .int .i64 (n : Int), .bool false, .bool false, .bool false, .string a1, .int .i64 (a1.size : Int), .bool false, .bool false, (.agg nn0), .int .i64 (n : Int), .int .i64 (n : Int), .bool false, u27, u28, u29, u30, u31, u32, u33, u34, u35, u36, u37, u38, u39, u40, u41, u42, u43, u44, u45, u46, u47, .agg (nv false (.slice none 0 0) (.slice (some ⟨b, off, none⟩) (n - 1) ck) vi), .agg (nv false vc' (.slice (some ⟨b, off, none⟩) (n - 1) ck) vi), .string a1, .int .i64 ((i + 1 : Nat) : Int), .int .i64 ((i + 1 : Nat) : Int), .bool false, .bool false, .int .i64 ((i + 1 : Nat) : Int), .int .i64 (n : Int), .bool false, .bool false, .int .i64 ((i + 1 : Nat) : Int), .bool false, .bool false, .pointer (some ⟨bx, 2, none⟩), .slice (some ⟨b, off, none⟩) (n - 1) ck, .int .i64 ((i + 1 : Nat) : Int), .int .i64 (i : Int), .pointer (some ⟨b, off + i * 1, none⟩), .string s1, .string a1, .bool true, .bool true, .bool true, .int .i64 ((i + 1 : Nat) : Int), .int .i64 (n : Int), .int .i64 ((n : Int) - 1), .bool true, .bool true, z10 77, z10 78, z10 79, z10 80, z10 81, z10 82, z10 83, .bool true, .bool true]) (by kernel_rfl) ?_
          intro z10
          go_wp2_with fail
          go_ret
          exact ⟨rfl, hB⟩
        · skip
          obtain ⟨b, off, e2, hc2, -⟩ := hTK.at_ (i := i) (by rw [hlen]; omega)
          subst e2
          have hle := HL2.out i (by omega)
          have hwi : IntKind.i64.wrap (((i + 1 : Nat) : Int) - 1) = (i : Int) := by rw [IntKind.wrap_i64]; omega
          generalize (keysK n).getD i No.bz = s1 at *
          have hlq : (Op.bytesLess s1.toList a1.toList || s1.toList == a1.toList) = true := by rw [Ky.le_not s1.toList a1.toList, show Ky.bl a1.toList s1.toList = false from hle]; rfl
          have hlt : Ky.bl a1.toList ((keysK n).getD (i + 1) No.bz).toList = true := HL3.out (by rw [hlen]; omega)
          obtain ⟨b3, off3, e3, hc3, -⟩ := hTK.at_ (i := (i + 1)) (by rw [hlen]; omega)
          simp only [Option.some.injEq, Addr.mk.injEq, and_true] at e3
          obtain ⟨rfl, rfl⟩ := e3
          generalize (keysK n).getD (i + 1) No.bz = s2 at *
          go_upto_region 16 with fail
          refine kl_start 86 (by kernel_rfl) ?_
          refine kl_take 0 (some 59) (.int .i64 ((i + 1 : Nat) : Int)) (by kernel_rfl) (by kernel_rfl) (by kernel_rfl) (by kernel_rfl) ?_
          refine kl_test 1 (some 60) false (by kernel_rfl) (by kernel_rfl) (by kernel_rfl) (show (((i + 1 : Nat) : Int) == 0) = false by simp <;> omega) (by kernel_rfl) ?_
          refine kl_take 2 (some 61) (.bool false) (by kernel_rfl) (by kernel_rfl) (by kernel_rfl) (by kernel_rfl) ?_
          refine kl_take 3 (some 62) (.pointer (some ⟨bx, 2, none⟩)) (by kernel_rfl) (by kernel_rfl) (by kernel_rfl) (by kernel_rfl) ?_
          refine kl_load 4 (some 63) (.slice (some ⟨b, off, none⟩) (n - 1) ck) 23 (.tmp 62) (by kernel_rfl) (by kernel_rfl) (by kernel_rfl) (by kernel_rfl) (by kernel_rfl) (ld_ts hX.nodes.2.2.1) ?_
          refine kl_take 5 (some 64) (.int .i64 ((i + 1 : Nat) : Int)) (by kernel_rfl) (by kernel_rfl) (by kernel_rfl) (by kernel_rfl) ?_
          refine kl_take 6 (some 65) (.int .i64 (IntKind.i64.wrap (((i + 1 : Nat) : Int) - 1))) (by kernel_rfl) (by kernel_rfl) (by kernel_rfl) (by kernel_rfl) ?_
          rw [hwi]
          refine kl_index 7 (some 66) 23 (.tmp 63) (.tmp 65) 1 b (off) ((n - 1)) (ck) (i) (by kernel_rfl) (by kernel_rfl) (by kernel_rfl) (by kernel_rfl) (by kernel_rfl) (by kernel_rfl) Try.underlying23 (by kernel_rfl) (by omega) ?_
          refine kl_load 8 (some 67) (.string s1) 9 (.tmp 66) (by kernel_rfl) (by kernel_rfl) (by kernel_rfl) (by kernel_rfl) (by kernel_rfl) (ld_st (mul1 hc2)) ?_
          refine kl_take 9 (some 68) (.string a1) (by kernel_rfl) (by kernel_rfl) (by kernel_rfl) (by kernel_rfl) ?_
          refine kl_test 10 (some 69) true (by kernel_rfl) (by kernel_rfl) (by kernel_rfl) (hlq) (by kernel_rfl) ?_
          refine kl_take 11 (some 70) (.bool true) (by kernel_rfl) (by kernel_rfl) (by kernel_rfl) (by kernel_rfl) ?_
          refine kl_take 12 (some 71) (.bool true) (by kernel_rfl) (by kernel_rfl) (by kernel_rfl) (by kernel_rfl) ?_
          refine kl_take 13 (some 72) (.int .i64 ((i + 1 : Nat) : Int)) (by kernel_rfl) (by kernel_rfl) (by kernel_rfl) (by kernel_rfl) ?_
          refine kl_take 14 (some 73) (.int .i64 (n : Int)) (by kernel_rfl) (by kernel_rfl) (by kernel_rfl) (by kernel_rfl) ?_
          refine kl_take 15 (some 74) (.int .i64 (IntKind.i64.wrap ((n : Int) - 1))) (by kernel_rfl) (by kernel_rfl) (by kernel_rfl) (by kernel_rfl) ?_
          rw [hwn]
          refine kl_test 16 (some 75) false (by kernel_rfl) (by kernel_rfl) (by kernel_rfl) (show (((i + 1 : Nat) : Int) == (n : Int) - 1) = false by simp <;> omega) (by kernel_rfl) ?_
          refine kl_take 17 (some 76) (.bool false) (by kernel_rfl) (by kernel_rfl) (by kernel_rfl) (by kernel_rfl) ?_
          refine kl_take 18 (some 77) (.string a1) (by kernel_rfl) (by kernel_rfl) (by kernel_rfl) (by kernel_rfl) ?_
          refine kl_take 19 (some 78) (.pointer (some ⟨bx, 2, none⟩)) (by kernel_rfl) (by kernel_rfl) (by kernel_rfl) (by kernel_rfl) ?_
          refine kl_load 20 (some 79) (.slice (some ⟨b, off, none⟩) (n - 1) ck) 23 (.tmp 78) (by kernel_rfl) (by kernel_rfl) (by kernel_rfl) (by kernel_rfl) (by kernel_rfl) (ld_ts hX.nodes.2.2.1) ?_
          refine kl_take 21 (some 80) (.int .i64 ((i + 1 : Nat) : Int)) (by kernel_rfl) (by kernel_rfl) (by kernel_rfl) (by kernel_rfl) ?_
          refine kl_index 22 (some 81) 23 (.tmp 79) (.tmp 80) 1 b (off) ((n - 1)) (ck) ((i + 1)) (by kernel_rfl) (by kernel_rfl) (by kernel_rfl) (by kernel_rfl) (by kernel_rfl) (by kernel_rfl) Try.underlying23 (by kernel_rfl) (by omega) ?_
          refine kl_load 23 (some 82) (.string s2) 9 (.tmp 81) (by kernel_rfl) (by kernel_rfl) (by kernel_rfl) (by kernel_rfl) (by kernel_rfl) (ld_st (mul1 hc3)) ?_
          refine kl_test 24 (some 83) true (by kernel_rfl) (by kernel_rfl) (by kernel_rfl) (hlt) (by kernel_rfl) ?_
          refine kl_take 25 (some 84) (.bool true) (by kernel_rfl) (by kernel_rfl) (by kernel_rfl) (by kernel_rfl) ?_
          refine kl_take 26 (some 85) (.bool true) (by kernel_rfl) (by kernel_rfl) (by kernel_rfl) (by kernel_rfl) ?_
          refine kl_take 27 (some 4) (.bool true) (by kernel_rfl) (by kernel_rfl) (by kernel_rfl) (by kernel_rfl) ?_
          refine kl_done (by kernel_rfl) (fun z10 => #[.int .i64 (n : Int), .string a1, undef, undef, .bool true, .bool true, .pointer (some ⟨bx, 0, none⟩), .int .i64 (n : Int), .int .i64 ((i + 1 : Nat) : Int), .bool true, .bool true, .bool false, .int .i64 (n : Int), .bool false, .bool false, .int .i64 (n : Int), .bool false, .bool false, .bool false, .string a1, .int .i64 (a1.size : Int), .bool false, .bool false, (.agg nn0), .int .i64 (n : Int), .int .i64 (n : Int), .bool false, u27, u28, u29, u30, u31, u32, u33, u34, u35, u36, u37, u38, u39, u40, u41, u42, u43, u44, u45, u46, u47, .agg (nv false (.slice none 0 0) (.slice (some ⟨b, off, none⟩) (n - 1) ck) vi), .agg (nv false vc' (.slice (some ⟨b, off, none⟩) (n - 1) ck) vi), .string a1, .int .i64 ((i + 1 : Nat) : Int), .int .i64 ((i + 1 : Nat) : Int), .bool false, .bool false, .int .i64 ((i + 1 : Nat) : Int), .int .i64 (n : Int), .bool false, .bool false, .int .i64 ((i + 1 : Nat) : Int), .bool false, .bool false, .pointer (some ⟨bx, 2, none⟩), .slice (some ⟨b, off, none⟩) (n - 1) ck, .int .i64 ((i + 1 : Nat) : Int), .int .i64 (i : Int), .pointer (some ⟨b, off + i * 1, none⟩), .string s1, .string a1, .bool true, .bool true, .bool true, .int .i64 ((i + 1 : Nat) : Int), .int .i64 (n : Int), .int .i64 ((n : Int) - 1), .bool false, .bool false, .string a1, .pointer (some ⟨bx, 2, none⟩), .slice (some ⟨b, off, none⟩) (n - 1) ck, .int .i64 ((i + 1 : Nat) : Int), .pointer (some ⟨b, off + (i + 1) * 1, none⟩), .string s2, .bool true, .bool true, .bool true]) (by kernel_rfl) ?_
          intro z10
          go_wp2_with fail
          go_ret
          exact ⟨rfl, hB⟩


set_option maxRecDepth 100000 in
theorem lifted (os : Os) (started : os.Started) (H : Type) (enc : TypeId × Value → H) :
    ReturnsInHanded {} Try.checked os 8 .any (Rows.nodeKidsSpec.pre6 enc Try.prog Try.f8 Rows.nodeKidsRow.domain false) (Rows.nodeKidsSpec.post enc Try.prog Try.f8 false true false false) := by
  refine returnsInHanded_of_change (C := Try.checked) own started (by kernel_rfl) Try.func8
    (ChangeSpec.witness6 (enc := enc) (C := Try.checked) false ⟨#[], #[.int .i64 0, .string ByteArray.empty], []⟩ 8 (by kernel_rfl) (by kernel_rfl) (by kernel_rfl) (by kernel_rfl)) ?_
  intro W base args ds gs before hval0 hW hcnd _
  have hval : ∀ (j : Nat) t v, Try.f8.params[j]? = some t → args[j]? = some v → Value.okWide Try.prog W .any base t v := hval0
  have hW' := hW
  obtain ⟨p, q, hA0, hV, rfl, hfz, hnd⟩ := hW
  have hA : DataW.TrodAll enc Try.prog W 0 (fun _ => true) true Try.f8.params.toList args.toList ds p := hA0
  rw [Try.params8] at hA hval
  obtain ⟨v0, vs0, d0, ds0, p0, q0, hargs, rfl, rfl, h0, r0⟩ := trodAll_cons hA
  obtain ⟨v1, vs1, d1, ds1, p1, q1, rfl, rfl, rfl, h1, r1⟩ := trodAll_cons r0
  obtain ⟨rfl, rfl, rfl⟩ := trodAll_nil r1
  obtain rfl : args = #[v0, v1] := by cases args; simp_all
  obtain ⟨rfl, rfl⟩ := trodVars_none hV
  obtain ⟨a0, rfl, rfl, rfl, w0⟩ := open_int Try.underlying3 (hval 0 3 v0 rfl rfl) h0
  obtain ⟨a1, rfl, rfl, rfl, w1⟩ := open_string Try.underlying9 (hval 1 9 v1 rfl rfl) h1
  clear hA0 hval0
  refine (walk a0 a1 W w0 w1).mono fun e W' ⟨he, bel⟩ => ?_
  subst he
  exact ⟨_, rfl, _, _, _, [], _, [], hW', trodAll_mk1 (shut_bool Try.underlying4 _), (trodAll_cons_mk (shut_int Try.underlying3 w0) (trodAll_cons_mk (shut_string Try.underlying9 w1) trodAll_mk0)), rfl, bel.frame _, fun h => by cases h⟩

theorem over : Rows.nodeKidsRow.holds Try.pinned (OpenSpec.ofChange Rows.nodeKidsSpec) :=
  OpenClaim.holds_of_wide 8 Try.f8 rfl rfl rfl rfl rfl rfl rfl ⟨rfl, rfl, rfl, rfl, rfl⟩ rfl rfl rfl rfl rfl (by kernel_rfl) Try.func8 (by kernel_rfl)
    (of_decide_eq_true (by kernel_rfl)) (by unfold Func.isWrapper; first | (rw [if_pos (by decide +kernel)]; kernel_rfl) | (rw [if_neg (by decide +kernel)]; exact ⟨rfl, rfl⟩))
    (fun os started H enc _ => lifted os started H enc)

theorem proved : Rows.NodeKidsSaid := over
#print axioms proved
end Go.Proofs.Ytbddghdkmakjlaa.nodeKids
