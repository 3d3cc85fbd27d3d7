/-
  For every slice of bytes, every node, every int at and every byte x NodeAny returns true: any bytes (at most 260) are the page of just the node that Decode tells, or ErrCorrupt; so are those bytes laid into a page, a node's page with one byte changed, and its first 255 bytes. No condition.
-/
import Derived.Test.YtbddghdkmakjlaaRows
import Derived.WalkKit
import Derived.ProofKit
import Derived.OpenShut
import Derived.ShutString
import Derived.ChangeOld
import Derived.Below
import Derived.Test.YtbddghdkmakjlaaNodH
import Derived.Test.YtbddghdkmakjlaaNodC
import Derived.Test.YtbddghdkmakjlaaLae
import Derived.Test.YtbddghdkmakjlaaNodV
import Derived.Test.YtbddghdkmakjlaaNodL
import Derived.Test.YtbddghdkmakjlaaOnn
import Derived.Test.YtbddghdkmakjlaaKry
namespace Go.Proofs.Ytbddghdkmakjlaa.nodeAny
open Go.ChangeShapes Go.WideShapes Go.ChangeAt Go.RowKit
open Go.ChangeMaps (open_string shut_string)
set_option linter.unusedVariables false

theorem own : ownKnob Try.prog.godebug = none := by kernel_rfl
theorem laidOut : laidOutB Try.prog = true := by kernel_rfl

theorem whole_bd {zs : List Int} (h : ∀ z ∈ zs, 0 ≤ z ∧ z ≤ 255) : ∀ z ∈ No.whole zs, 0 ≤ z ∧ z ≤ 255 := by
  by_cases hl : zs.length ≤ 256
  · rw [No.whole_is hl]
    exact No.pad_bd h
  · rw [No.whole_no (by omega)]
    simp
theorem refB_bd {n : No} (hok : n.Ok) (hf : n.few) : ∀ z ∈ n.refB, 0 ≤ z ∧ z ≤ 255 := by
  cases hm : n.may
  · rw [No.refB_no hm]
    simp
  · rw [No.refB_is hm]
    exact No.bytes_bd hok hm (by unfold No.few at hf; omega)
theorem sl_nb {w : World} {l : Bool} {vc vk vi : Value} {n : No} (h : Nb w vc vk vi n) : ∀ (k : Nat) z, (nv l vc vk vi)[k]? ≠ some (Value.int .u8 z) := by
  obtain ⟨_, _, _, rfl, -⟩ := h.c.opens
  obtain ⟨_, _, _, rfl, -⟩ := h.k.opens
  obtain ⟨_, _, _, rfl, -⟩ := h.i.opens
  intro k z
  match k with
  | 0 => simp [nv]
  | 1 => simp [nv]
  | 2 => simp [nv]
  | 3 => simp [nv]
  | n + 4 => simp [nv]
theorem refMay_at {vc vk vi : Value} {n : No} {w : World} {b : Bool} (h : Nb w vc vk vi n) (he : n.may = b) :
    Calls Try.prog 13 #[.agg (nv n.L vc vk vi)] w fun e w' => e = .returned (.bool b) ∧ Below w.heap.size w w' := by rw [← he]; exact refMayNode_any vc vk vi n w h

theorem xor8 (a b : Int) : ∃ z, bits .xor .u8 a b = z ∧ 0 ≤ z ∧ z ≤ 255 := by
  refine ⟨_, rfl, ?_⟩
  show 0 ≤ IntKind.u8.wrap _ ∧ IntKind.u8.wrap _ ≤ 255
  rw [IntKind.wrap_u8]
  omega
theorem rem_at {x : Int} {n : Nat} (h0 : 0 ≤ x) (hn : 0 < n) : ∃ k : Nat, x % (n : Int) = (k : Int) ∧ x.tmod (n : Int) = (k : Int) ∧ k < n := by
  have h1 := Int.emod_nonneg x (show (n : Int) ≠ 0 by omega)
  have h2 := Int.emod_lt_of_pos x (show (0 : Int) < (n : Int) by omega)
  refine ⟨(x % (n : Int)).toNat, by omega, ?_, by omega⟩
  rw [Int.tmod_eq_emod_of_nonneg h0]
  omega
theorem own_at {w : World} {B m : Nat} {v : Value} {zs : List Int} (h : w.ownsRow B 5 1 v zs.length (bv zs)) (hl : zs.length = m) (hm : 0 < m) : ∃ g c, v = .slice (some ⟨g, 0, none⟩) m c ∧ B ≤ g := by
  rcases h.2 with ⟨rfl, h0⟩ | ⟨g, cp, cur, rfl, hbg, -⟩
  · omega
  · exact ⟨g, cp, by rw [hl], hbg⟩

set_option maxRecDepth 100000 in
set_option maxHeartbeats 8000000 in
theorem walk (a0 : Option Addr) (len0 cap0 : Nat) (z0 : List Int) (n1 : No) (vc1 vk1 vi1 : Value) (a2 a3 : Int) (w : World) (w0 : Sl w (.slice a0 len0 cap0) z0) (w1 : Nb w vc1 vk1 vi1 n1) (w2 : (Lit.int .i64 a2).wf = true) (w3 : (Lit.int .u8 a3).wf = true) :
    Calls Try.prog 4 #[.slice a0 len0 cap0, .agg (nv n1.L vc1 vk1 vi1), .int .i64 a2, .int .u8 a3] w fun e w' => e = .returned (.bool true) ∧ Below w.heap.size w w' := by
  obtain ⟨pp, nn, cc, e0, -, -, hn, -⟩ := w0.opens
  simp only [Value.slice.injEq] at e0
  obtain ⟨rfl, rfl, rfl⟩ := e0
  obtain rfl : len0 = z0.length := hn.out
  clear hn
  have hS := w0
  have hN := w1
  clear w0 w1 w2 w3
  go_enter Try.func4, Try.ntmps4
  have hB : Below w.heap.size w w := Below.refl _ _
  go_upto_region 0 with fail
  refine kl_start 64 (by kernel_rfl) ?_
  refine kl_box 0 (some 5) 26 (.tmp 1) (nv n1.L vc1 vk1 vi1) (by kernel_rfl) (by kernel_rfl) (by kernel_rfl) (by kernel_rfl) (by kernel_rfl) ?_
  intro W1 hb hX
  replace hS := hS.later hb
  replace hN := hN.later hb
  replace hB := hB.trans (hb.mono hB.size)
  clear hb
  refine kl_take 1 (some 8) ((Value.bool false)) (by kernel_rfl) (by kernel_rfl) (by kernel_rfl) (by kernel_rfl) ?_
  refine kl_done (by kernel_rfl) (fun y1 => #[.slice a0 z0.length cap0, .agg (nv n1.L vc1 vk1 vi1), .int .i64 a2, .int .u8 a3, undef, .pointer (some ⟨w.heap.size, 0, none⟩), undef, undef, (Value.bool false), undef, undef, undef, undef, undef, undef, undef, undef, undef, undef, undef, undef, undef, undef, undef, undef, undef, undef, undef, undef, undef, undef, undef, undef, undef, undef, undef, undef, undef, undef, undef, undef, undef, undef, undef, undef, undef, undef, undef, undef, undef, undef, undef, undef, undef, undef, undef, undef, undef, undef, undef, undef, undef, undef, undef]) (by kernel_rfl) ?_
  intro y1
  go_upto_region 1 with fail
  refine kl_start 64 (by kernel_rfl) ?_
  refine kl_callx 0 (some 12) (by kernel_rfl) (by kernel_rfl) (by kernel_rfl) (by kernel_rfl) (nbegun_any _) ?_
  rintro e x ⟨rfl, hb⟩
  refine ⟨_, rfl, ?_⟩
  replace hS := hS.later hb
  replace hN := hN.later hb
  replace hX := hX.later hb
  replace hB := hB.trans (hb.mono hB.size)
  clear hb
  refine kl_take 1 (some 9) (.bool true) (by kernel_rfl) (by kernel_rfl) (by kernel_rfl) (by kernel_rfl) ?_
  refine kl_done (by kernel_rfl) (fun y2 => #[.slice a0 z0.length cap0, .agg (nv n1.L vc1 vk1 vi1), .int .i64 a2, .int .u8 a3, undef, .pointer (some ⟨w.heap.size, 0, none⟩), undef, undef, (Value.bool false), .bool true, undef, undef, .bool true, undef, undef, undef, undef, undef, undef, undef, undef, undef, undef, undef, undef, undef, undef, undef, undef, undef, undef, undef, undef, undef, undef, undef, undef, undef, undef, undef, undef, undef, undef, undef, undef, undef, undef, undef, undef, undef, undef, undef, undef, undef, undef, undef, undef, undef, undef, undef, undef, undef, undef, undef]) (by kernel_rfl) ?_
  intro y2
  go_upto_region 2 with fail
  refine kl_start 64 (by kernel_rfl) ?_
  refine kl_take 0 (some 13) (.bool true) (by kernel_rfl) (by kernel_rfl) (by kernel_rfl) (by kernel_rfl) ?_
  refine kl_take 1 (some 14) (.bool false) (by kernel_rfl) (by kernel_rfl) (by kernel_rfl) (by kernel_rfl) ?_
  refine kl_done (by kernel_rfl) (fun y3 => #[.slice a0 z0.length cap0, .agg (nv n1.L vc1 vk1 vi1), .int .i64 a2, .int .u8 a3, undef, .pointer (some ⟨w.heap.size, 0, none⟩), undef, undef, (Value.bool false), .bool true, undef, undef, .bool true, .bool true, .bool false, undef, undef, undef, undef, undef, undef, undef, undef, undef, undef, undef, undef, undef, undef, undef, undef, undef, undef, undef, undef, undef, undef, undef, undef, undef, undef, undef, undef, undef, undef, undef, undef, undef, undef, undef, undef, undef, undef, undef, undef, undef, undef, undef, undef, undef, undef, undef, undef, undef]) (by kernel_rfl) ?_
  intro y3
  go_upto_region 4 with fail
  refine kl_start 64 (by kernel_rfl) ?_
  refine kl_get 0 (some 15) 26 _ (.tmp 5) _ (nv n1.L vc1 vk1 vi1) (by kernel_rfl) (by kernel_rfl) (by kernel_rfl) (by kernel_rfl) (by kernel_rfl) hX tyM rfl ?_
  refine kl_callx 1 (some 16) (by kernel_rfl) (by kernel_rfl) (by kernel_rfl) (by kernel_rfl) (ncut_any vc1 vk1 vi1 n1 _ hN) ?_
  rintro e x ⟨vc, vk, vi, rfl, hcu, hb⟩
  refine ⟨_, rfl, ?_⟩
  replace hS := hS.later hb
  replace hN := hN.later hb
  replace hX := hX.later hb
  replace hB := hB.trans (hb.mono hB.size)
  clear hb
  have hP := hcu.nb (No.cut_ok hN.ok)
  refine kl_put 2 26 _ (.tmp 5) (.tmp 16) _ (nv n1.L vc vk vi) _ (by kernel_rfl) (by kernel_rfl) (by kernel_rfl) (by kernel_rfl) (by kernel_rfl) (by kernel_rfl) hX tyM rfl rfl (nv_one hP) ?_
  intro W4 hb4 hz4 hX4
  have pX := plain_nb (l := n1.L) hN
  have sX := sl_nb (l := n1.L) hN
  replace hP := hP.beside hX pX hb4
  replace hS := sl_beside hX sX hb4 hS
  replace hB := Below.but hB hB.size hb4 (fun k e => by omega)
  clear hX hN hcu hb4 hz4 pX sX
  have hX := hX4
  clear hX4
  have HF := hide (show n1.cut.few from Nat.le_trans (No.cut_small n1).c (by omega))
  refine kl_done (by kernel_rfl) (fun y4 => #[.slice a0 z0.length cap0, .agg (nv n1.L vc1 vk1 vi1), .int .i64 a2, .int .u8 a3, undef, .pointer (some ⟨w.heap.size, 0, none⟩), undef, undef, (Value.bool false), .bool true, undef, undef, .bool true, .bool true, .bool false, .agg (nv n1.L vc1 vk1 vi1), .agg (nv n1.L vc vk vi), undef, undef, undef, undef, undef, undef, undef, undef, undef, undef, undef, undef, undef, undef, undef, undef, undef, undef, undef, undef, undef, undef, undef, undef, undef, undef, undef, undef, undef, undef, undef, undef, undef, undef, undef, undef, undef, undef, undef, undef, undef, undef, undef, undef, undef, undef, undef]) (by kernel_rfl) ?_
  intro y4
  change Nb _ vc vk vi n1.cut at hP
  have hLL : n1.cut.L = n1.L := rfl
  cases hc : decide ((260 : Int) < (z0.length : Int))
  · skip
    go_upto_region 5 with fail
    refine kl_start 64 (by kernel_rfl) ?_
    refine kl_take 0 (some 17) (.slice a0 z0.length cap0) (by kernel_rfl) (by kernel_rfl) (by kernel_rfl) (by kernel_rfl) ?_
    refine kl_take 1 (some 18) (.int .i64 (z0.length : Int)) (by kernel_rfl) (by kernel_rfl) (by kernel_rfl) (by kernel_rfl) ?_
    refine kl_test 2 (some 19) false (by kernel_rfl) (by kernel_rfl) (by kernel_rfl) (hc) (by kernel_rfl) ?_
    refine kl_done (by kernel_rfl) (fun s5 => #[.slice a0 z0.length cap0, .agg (nv n1.L vc1 vk1 vi1), .int .i64 a2, .int .u8 a3, undef, .pointer (some ⟨w.heap.size, 0, none⟩), undef, undef, (Value.bool false), .bool true, undef, undef, .bool true, .bool true, .bool false, .agg (nv n1.L vc1 vk1 vi1), .agg (nv n1.L vc vk vi), .slice a0 z0.length cap0, .int .i64 (z0.length : Int), .bool false, undef, undef, undef, undef, undef, undef, undef, undef, undef, undef, undef, undef, undef, undef, undef, undef, undef, undef, undef, undef, undef, undef, undef, undef, undef, undef, undef, undef, undef, undef, undef, undef, undef, undef, undef, undef, undef, undef, undef, undef, undef, undef, undef, undef]) (by kernel_rfl) ?_
    intro s5
    have hV := hS
    clear hS
    go_upto_region 7 with fail
    refine kl_start 64 (by kernel_rfl) ?_
    refine kl_take 0 (some 22) (.slice a0 z0.length cap0) (by kernel_rfl) (by kernel_rfl) (by kernel_rfl) (by kernel_rfl) ?_
    refine kl_callx 1 (some 23) (by kernel_rfl) (by kernel_rfl) (by kernel_rfl) (by kernel_rfl) (ntells_any (.slice a0 z0.length cap0) _ _ hV) ?_
    rintro e x ⟨rfl, hb⟩
    refine ⟨_, rfl, ?_⟩
    replace hP := hP.later hb
    replace hX := hX.later hb
    replace hV := hV.later hb
    replace hB := hB.trans (hb.mono hB.size)
    clear hb
    refine kl_take 2 (some 24) (.bool false) (by kernel_rfl) (by kernel_rfl) (by kernel_rfl) (by kernel_rfl) ?_
    refine kl_take 3 (some 25) (.bool false) (by kernel_rfl) (by kernel_rfl) (by kernel_rfl) (by kernel_rfl) ?_
    refine kl_take 4 (some 26) (.slice a0 z0.length cap0) (by kernel_rfl) (by kernel_rfl) (by kernel_rfl) (by kernel_rfl) ?_
    refine kl_callx 5 (some 27) (by kernel_rfl) (by kernel_rfl) (by kernel_rfl) (by kernel_rfl) (short_any (.slice a0 z0.length cap0) _ 256 _ hV) ?_
    rintro e x5 ⟨v5, rfl, hS5, rfl⟩
    refine ⟨_, rfl, ?_⟩
    have hbd5 := whole_bd hS5.bd
    refine kl_callx 6 (some 28) (by kernel_rfl) (by kernel_rfl) (by kernel_rfl) (by kernel_rfl) (whole_any v5 _ _ hS5) ?_
    rintro e x ⟨v6, rfl, ho6, hb⟩
    refine ⟨_, rfl, ?_⟩
    replace hP := hP.later hb
    replace hX := hX.later hb
    replace hV := hV.later hb
    replace hB := hB.trans (hb.mono hB.size)
    clear hb
    have hS6 := Sl.own ho6 hbd5
    clear ho6 hbd5 hS5
    refine kl_callx 7 (some 29) (by kernel_rfl) (by kernel_rfl) (by kernel_rfl) (by kernel_rfl) (ntells_any v6 _ _ hS6) ?_
    rintro e x ⟨rfl, hb⟩
    refine ⟨_, rfl, ?_⟩
    replace hP := hP.later hb
    replace hX := hX.later hb
    replace hV := hV.later hb
    replace hB := hB.trans (hb.mono hB.size)
    clear hb
    clear hS6
    refine kl_take 8 (some 30) (.bool false) (by kernel_rfl) (by kernel_rfl) (by kernel_rfl) (by kernel_rfl) ?_
    refine kl_take 9 (some 31) (.bool false) (by kernel_rfl) (by kernel_rfl) (by kernel_rfl) (by kernel_rfl) ?_
    refine kl_done (by kernel_rfl) (fun s6 => #[.slice a0 z0.length cap0, .agg (nv n1.L vc1 vk1 vi1), .int .i64 a2, .int .u8 a3, undef, .pointer (some ⟨w.heap.size, 0, none⟩), undef, undef, (Value.bool false), .bool true, undef, undef, .bool true, .bool true, .bool false, .agg (nv n1.L vc1 vk1 vi1), .agg (nv n1.L vc vk vi), .slice a0 z0.length cap0, .int .i64 (z0.length : Int), .bool false, undef, undef, .slice a0 z0.length cap0, .bool true, .bool false, .bool false, .slice a0 z0.length cap0, s6 27, s6 28, .bool true, .bool false, .bool false, undef, undef, undef, undef, undef, undef, undef, undef, undef, undef, undef, undef, undef, undef, undef, undef, undef, undef, undef, undef, undef, undef, undef, undef, undef, undef, undef, undef, undef, undef, undef, undef]) (by kernel_rfl) ?_
    intro s6
    clear hV
    have HRB := hide (refB_bd hP.ok HF.out)
    go_upto_region 9 with fail
    refine kl_start 64 (by kernel_rfl) ?_
    refine kl_get 0 (some 32) 26 _ (.tmp 5) _ (nv n1.L vc vk vi) (by kernel_rfl) (by kernel_rfl) (by kernel_rfl) (by kernel_rfl) (by kernel_rfl) hX tyM rfl ?_
    refine kl_callx 1 (some 33) (by kernel_rfl) (by kernel_rfl) (by kernel_rfl) (by kernel_rfl) (refNodeBytes_any vc vk vi n1.cut _ hP HF.out) ?_
    rintro e x ⟨v7, rfl, ho7, hb⟩
    refine ⟨_, rfl, ?_⟩
    replace hP := hP.later hb
    replace hX := hX.later hb
    replace hB := hB.trans (hb.mono hB.size)
    clear hb
    have hS7 := Sl.own ho7 HRB.out
    clear ho7
    refine kl_callx 2 (some 34) (by kernel_rfl) (by kernel_rfl) (by kernel_rfl) (by kernel_rfl) (whole_any v7 _ _ hS7) ?_
    rintro e x ⟨v8, rfl, ho8, hb⟩
    refine ⟨_, rfl, ?_⟩
    replace hP := hP.later hb
    replace hX := hX.later hb
    replace hB := hB.trans (hb.mono hB.size)
    clear hb
    have hS8 := Sl.own ho8 (whole_bd HRB.out)
    clear ho8 hS7
    refine kl_take 3 (some 10) (v8) (by kernel_rfl) (by kernel_rfl) (by kernel_rfl) (by kernel_rfl) ?_
    refine kl_done (by kernel_rfl) (fun s7 => #[.slice a0 z0.length cap0, .agg (nv n1.L vc1 vk1 vi1), .int .i64 a2, .int .u8 a3, undef, .pointer (some ⟨w.heap.size, 0, none⟩), undef, undef, (Value.bool false), .bool true, v8, undef, .bool true, .bool true, .bool false, .agg (nv n1.L vc1 vk1 vi1), .agg (nv n1.L vc vk vi), .slice a0 z0.length cap0, .int .i64 (z0.length : Int), .bool false, undef, undef, .slice a0 z0.length cap0, .bool true, .bool false, .bool false, .slice a0 z0.length cap0, s6 27, s6 28, .bool true, .bool false, .bool false, .agg (nv n1.L vc vk vi), s7 33, v8, undef, undef, undef, undef, undef, undef, undef, undef, undef, undef, undef, undef, undef, undef, undef, undef, undef, undef, undef, undef, undef, undef, undef, undef, undef, undef, undef, undef, undef]) (by kernel_rfl) ?_
    intro s7
    cases hm : No.may n1.cut
    · skip
      go_upto_region 10 with fail
      refine kl_start 64 (by kernel_rfl) ?_
      refine kl_get 0 (some 35) 26 _ (.tmp 5) _ (nv n1.L vc vk vi) (by kernel_rfl) (by kernel_rfl) (by kernel_rfl) (by kernel_rfl) (by kernel_rfl) hX tyM rfl ?_
      refine kl_callx 1 (some 36) (by kernel_rfl) (by kernel_rfl) (by kernel_rfl) (by kernel_rfl) (refMay_at hP hm) ?_
      rintro e x ⟨rfl, hb⟩
      refine ⟨_, rfl, ?_⟩
      replace hP := hP.later hb
      replace hX := hX.later hb
      replace hS8 := hS8.later hb
      replace hB := hB.trans (hb.mono hB.size)
      clear hb
      refine kl_take 2 (some 37) (.bool true) (by kernel_rfl) (by kernel_rfl) (by kernel_rfl) (by kernel_rfl) ?_
      refine kl_take 3 (some 38) (.bool true) (by kernel_rfl) (by kernel_rfl) (by kernel_rfl) (by kernel_rfl) ?_
      refine kl_skip 4 (some 39) (by kernel_rfl) (by kernel_rfl) (by kernel_rfl) ?_
      refine kl_skip 5 (some 40) (by kernel_rfl) (by kernel_rfl) (by kernel_rfl) ?_
      refine kl_skip 6 (some 41) (by kernel_rfl) (by kernel_rfl) (by kernel_rfl) ?_
      refine kl_take 7 (some 42) (.bool true) (by kernel_rfl) (by kernel_rfl) (by kernel_rfl) (by kernel_rfl) ?_
      refine kl_take 8 (some 43) (.bool true) (by kernel_rfl) (by kernel_rfl) (by kernel_rfl) (by kernel_rfl) ?_
      refine kl_skip 9 (some 44) (by kernel_rfl) (by kernel_rfl) (by kernel_rfl) ?_
      refine kl_skip 10 (some 45) (by kernel_rfl) (by kernel_rfl) (by kernel_rfl) ?_
      refine kl_take 11 (some 46) (.bool true) (by kernel_rfl) (by kernel_rfl) (by kernel_rfl) (by kernel_rfl) ?_
      refine kl_done (by kernel_rfl) (fun s8 => #[.slice a0 z0.length cap0, .agg (nv n1.L vc1 vk1 vi1), .int .i64 a2, .int .u8 a3, undef, .pointer (some ⟨w.heap.size, 0, none⟩), undef, undef, (Value.bool false), .bool true, v8, undef, .bool true, .bool true, .bool false, .agg (nv n1.L vc1 vk1 vi1), .agg (nv n1.L vc vk vi), .slice a0 z0.length cap0, .int .i64 (z0.length : Int), .bool false, undef, undef, .slice a0 z0.length cap0, .bool true, .bool false, .bool false, .slice a0 z0.length cap0, s6 27, s6 28, .bool true, .bool false, .bool false, .agg (nv n1.L vc vk vi), s7 33, v8, .agg (nv n1.L vc vk vi), .bool false, .bool true, .bool true, s8 39, s8 40, s8 41, .bool true, .bool true, s8 44, s8 45, .bool true, undef, undef, undef, undef, undef, undef, undef, undef, undef, undef, undef, undef, undef, undef, undef, undef, undef]) (by kernel_rfl) ?_
      intro s8
      go_wp2_with fail
      go_ret
      exact ⟨rfl, hB⟩
    · skip
      obtain ⟨p8, n8, c8, rfl, -, -, hn8, HS8⟩ := hS8.opens
      have hS8 := HS8.out
      clear HS8
      by_cases hl : (No.refB n1.cut).length ≤ 256
      rotate_left
      · obtain rfl : n8 = 0 := by rw [hn8.out, No.whole_no (by omega)]; rfl
        go_upto_region 10 with fail
        refine kl_start 64 (by kernel_rfl) ?_
        refine kl_get 0 (some 35) 26 _ (.tmp 5) _ (nv n1.L vc vk vi) (by kernel_rfl) (by kernel_rfl) (by kernel_rfl) (by kernel_rfl) (by kernel_rfl) hX tyM rfl ?_
        refine kl_callx 1 (some 36) (by kernel_rfl) (by kernel_rfl) (by kernel_rfl) (by kernel_rfl) (refMay_at hP hm) ?_
        rintro e x ⟨rfl, hb⟩
        refine ⟨_, rfl, ?_⟩
        replace hP := hP.later hb
        replace hX := hX.later hb
        replace hS8 := hS8.later hb
        replace hB := hB.trans (hb.mono hB.size)
        clear hb
        refine kl_take 2 (some 37) (.bool false) (by kernel_rfl) (by kernel_rfl) (by kernel_rfl) (by kernel_rfl) ?_
        refine kl_take 3 (some 38) (.bool false) (by kernel_rfl) (by kernel_rfl) (by kernel_rfl) (by kernel_rfl) ?_
        refine kl_take 4 (some 39) (.slice p8 0 c8) (by kernel_rfl) (by kernel_rfl) (by kernel_rfl) (by kernel_rfl) ?_
        refine kl_take 5 (some 40) (.int .i64 0) (by kernel_rfl) (by kernel_rfl) (by kernel_rfl) (by kernel_rfl) ?_
        refine kl_take 6 (some 41) (.bool true) (by kernel_rfl) (by kernel_rfl) (by kernel_rfl) (by kernel_rfl) ?_
        refine kl_take 7 (some 42) (.bool true) (by kernel_rfl) (by kernel_rfl) (by kernel_rfl) (by kernel_rfl) ?_
        refine kl_take 8 (some 43) (.bool true) (by kernel_rfl) (by kernel_rfl) (by kernel_rfl) (by kernel_rfl) ?_
        refine kl_skip 9 (some 44) (by kernel_rfl) (by kernel_rfl) (by kernel_rfl) ?_
        refine kl_skip 10 (some 45) (by kernel_rfl) (by kernel_rfl) (by kernel_rfl) ?_
        refine kl_take 11 (some 46) (.bool true) (by kernel_rfl) (by kernel_rfl) (by kernel_rfl) (by kernel_rfl) ?_
        refine kl_done (by kernel_rfl) (fun s8 => #[.slice a0 z0.length cap0, .agg (nv n1.L vc1 vk1 vi1), .int .i64 a2, .int .u8 a3, undef, .pointer (some ⟨w.heap.size, 0, none⟩), undef, undef, (Value.bool false), .bool true, .slice p8 0 c8, undef, .bool true, .bool true, .bool false, .agg (nv n1.L vc1 vk1 vi1), .agg (nv n1.L vc vk vi), .slice a0 z0.length cap0, .int .i64 (z0.length : Int), .bool false, undef, undef, .slice a0 z0.length cap0, .bool true, .bool false, .bool false, .slice a0 z0.length cap0, s6 27, s6 28, .bool true, .bool false, .bool false, .agg (nv n1.L vc vk vi), s7 33, .slice p8 0 c8, .agg (nv n1.L vc vk vi), .bool true, .bool false, .bool false, .slice p8 0 c8, .int .i64 0, .bool true, .bool true, .bool true, s8 44, s8 45, .bool true, undef, undef, undef, undef, undef, undef, undef, undef, undef, undef, undef, undef, undef, undef, undef, undef, undef]) (by kernel_rfl) ?_
        intro s8
        go_wp2_with fail
        go_ret
        exact ⟨rfl, hB⟩
      have hw8 := No.whole_is hl
      obtain rfl : n8 = 256 := by rw [hn8.out, hw8]; exact No.pad_len hl
      rw [hw8] at hS8
      cases hneg : decide (a2 < 0)
      case true =>
        go_upto_region 10 with fail
        refine kl_start 64 (by kernel_rfl) ?_
        refine kl_get 0 (some 35) 26 _ (.tmp 5) _ (nv n1.L vc vk vi) (by kernel_rfl) (by kernel_rfl) (by kernel_rfl) (by kernel_rfl) (by kernel_rfl) hX tyM rfl ?_
        refine kl_callx 1 (some 36) (by kernel_rfl) (by kernel_rfl) (by kernel_rfl) (by kernel_rfl) (refMay_at hP hm) ?_
        rintro e x ⟨rfl, hb⟩
        refine ⟨_, rfl, ?_⟩
        replace hP := hP.later hb
        replace hX := hX.later hb
        replace hS8 := hS8.later hb
        replace hB := hB.trans (hb.mono hB.size)
        clear hb
        refine kl_take 2 (some 37) (.bool false) (by kernel_rfl) (by kernel_rfl) (by kernel_rfl) (by kernel_rfl) ?_
        refine kl_take 3 (some 38) (.bool false) (by kernel_rfl) (by kernel_rfl) (by kernel_rfl) (by kernel_rfl) ?_
        refine kl_take 4 (some 39) (.slice p8 256 c8) (by kernel_rfl) (by kernel_rfl) (by kernel_rfl) (by kernel_rfl) ?_
        refine kl_take 5 (some 40) (.int .i64 256) (by kernel_rfl) (by kernel_rfl) (by kernel_rfl) (by kernel_rfl) ?_
        refine kl_take 6 (some 41) (.bool false) (by kernel_rfl) (by kernel_rfl) (by kernel_rfl) (by kernel_rfl) ?_
        refine kl_take 7 (some 42) (.bool false) (by kernel_rfl) (by kernel_rfl) (by kernel_rfl) (by kernel_rfl) ?_
        refine kl_take 8 (some 43) (.bool false) (by kernel_rfl) (by kernel_rfl) (by kernel_rfl) (by kernel_rfl) ?_
        refine kl_take 9 (some 44) (.int .i64 a2) (by kernel_rfl) (by kernel_rfl) (by kernel_rfl) (by kernel_rfl) ?_
        refine kl_test 10 (some 45) true (by kernel_rfl) (by kernel_rfl) (by kernel_rfl) (hneg) (by kernel_rfl) ?_
        refine kl_take 11 (some 46) (.bool true) (by kernel_rfl) (by kernel_rfl) (by kernel_rfl) (by kernel_rfl) ?_
        refine kl_done (by kernel_rfl) (fun s8 => #[.slice a0 z0.length cap0, .agg (nv n1.L vc1 vk1 vi1), .int .i64 a2, .int .u8 a3, undef, .pointer (some ⟨w.heap.size, 0, none⟩), undef, undef, (Value.bool false), .bool true, .slice p8 256 c8, undef, .bool true, .bool true, .bool false, .agg (nv n1.L vc1 vk1 vi1), .agg (nv n1.L vc vk vi), .slice a0 z0.length cap0, .int .i64 (z0.length : Int), .bool false, undef, undef, .slice a0 z0.length cap0, .bool true, .bool false, .bool false, .slice a0 z0.length cap0, s6 27, s6 28, .bool true, .bool false, .bool false, .agg (nv n1.L vc vk vi), s7 33, .slice p8 256 c8, .agg (nv n1.L vc vk vi), .bool true, .bool false, .bool false, .slice p8 256 c8, .int .i64 256, .bool false, .bool false, .bool false, .int .i64 a2, .bool true, .bool true, undef, undef, undef, undef, undef, undef, undef, undef, undef, undef, undef, undef, undef, undef, undef, undef, undef]) (by kernel_rfl) ?_
        intro s8
        go_wp2_with fail
        go_ret
        exact ⟨rfl, hB⟩
      go_upto_region 10 with fail
      refine kl_start 64 (by kernel_rfl) ?_
      refine kl_get 0 (some 35) 26 _ (.tmp 5) _ (nv n1.L vc vk vi) (by kernel_rfl) (by kernel_rfl) (by kernel_rfl) (by kernel_rfl) (by kernel_rfl) hX tyM rfl ?_
      refine kl_callx 1 (some 36) (by kernel_rfl) (by kernel_rfl) (by kernel_rfl) (by kernel_rfl) (refMay_at hP hm) ?_
      rintro e x ⟨rfl, hb⟩
      refine ⟨_, rfl, ?_⟩
      replace hP := hP.later hb
      replace hX := hX.later hb
      replace hS8 := hS8.later hb
      replace hB := hB.trans (hb.mono hB.size)
      clear hb
      refine kl_take 2 (some 37) (.bool false) (by kernel_rfl) (by kernel_rfl) (by kernel_rfl) (by kernel_rfl) ?_
      refine kl_take 3 (some 38) (.bool false) (by kernel_rfl) (by kernel_rfl) (by kernel_rfl) (by kernel_rfl) ?_
      refine kl_take 4 (some 39) (.slice p8 256 c8) (by kernel_rfl) (by kernel_rfl) (by kernel_rfl) (by kernel_rfl) ?_
      refine kl_take 5 (some 40) (.int .i64 256) (by kernel_rfl) (by kernel_rfl) (by kernel_rfl) (by kernel_rfl) ?_
      refine kl_take 6 (some 41) (.bool false) (by kernel_rfl) (by kernel_rfl) (by kernel_rfl) (by kernel_rfl) ?_
      refine kl_take 7 (some 42) (.bool false) (by kernel_rfl) (by kernel_rfl) (by kernel_rfl) (by kernel_rfl) ?_
      refine kl_take 8 (some 43) (.bool false) (by kernel_rfl) (by kernel_rfl) (by kernel_rfl) (by kernel_rfl) ?_
      refine kl_take 9 (some 44) (.int .i64 a2) (by kernel_rfl) (by kernel_rfl) (by kernel_rfl) (by kernel_rfl) ?_
      refine kl_test 10 (some 45) false (by kernel_rfl) (by kernel_rfl) (by kernel_rfl) (hneg) (by kernel_rfl) ?_
      refine kl_take 11 (some 46) (.bool false) (by kernel_rfl) (by kernel_rfl) (by kernel_rfl) (by kernel_rfl) ?_
      refine kl_done (by kernel_rfl) (fun s8 => #[.slice a0 z0.length cap0, .agg (nv n1.L vc1 vk1 vi1), .int .i64 a2, .int .u8 a3, undef, .pointer (some ⟨w.heap.size, 0, none⟩), undef, undef, (Value.bool false), .bool true, .slice p8 256 c8, undef, .bool true, .bool true, .bool false, .agg (nv n1.L vc1 vk1 vi1), .agg (nv n1.L vc vk vi), .slice a0 z0.length cap0, .int .i64 (z0.length : Int), .bool false, undef, undef, .slice a0 z0.length cap0, .bool true, .bool false, .bool false, .slice a0 z0.length cap0, s6 27, s6 28, .bool true, .bool false, .bool false, .agg (nv n1.L vc vk vi), s7 33, .slice p8 256 c8, .agg (nv n1.L vc vk vi), .bool true, .bool false, .bool false, .slice p8 256 c8, .int .i64 256, .bool false, .bool false, .bool false, .int .i64 a2, .bool false, .bool false, undef, undef, undef, undef, undef, undef, undef, undef, undef, undef, undef, undef, undef, undef, undef, undef, undef]) (by kernel_rfl) ?_
      intro s8
      have hbd8 := hS8.bd
      have hl8 : (No.pad (No.refB n1.cut)).length = 256 := No.pad_len hl
      generalize No.pad (No.refB n1.cut) = Z at *
      clear hP hX hw8 hl hm HRB HF hn8
      go_upto_region 12 with fail
      refine kl_start 64 (by kernel_rfl) ?_
      refine kl_take 0 (some 47) (.slice p8 256 c8) (by kernel_rfl) (by kernel_rfl) (by kernel_rfl) (by kernel_rfl) ?_
      refine kl_appn 1 (some 48) (.const (.slice none 0 0)) (.tmp 47) _ Z (by kernel_rfl) (by kernel_rfl) (by kernel_rfl) (by kernel_rfl) (by kernel_rfl) (by kernel_rfl) hS8 (by omega) ?_
      intro v9 W9 ho9 hb9
      obtain ⟨g, c9, rfl, hg⟩ := own_at ho9 hl8 (by omega)
      rw [hl8] at ho9
      refine kl_take 2 (some 11) (.slice (some ⟨g, 0, none⟩) 256 c9) (by kernel_rfl) (by kernel_rfl) (by kernel_rfl) (by kernel_rfl) ?_
      refine kl_done (by kernel_rfl) (fun s9 => #[.slice a0 z0.length cap0, .agg (nv n1.L vc1 vk1 vi1), .int .i64 a2, .int .u8 a3, undef, .pointer (some ⟨w.heap.size, 0, none⟩), undef, undef, (Value.bool false), .bool true, .slice p8 256 c8, .slice (some ⟨g, 0, none⟩) 256 c9, .bool true, .bool true, .bool false, .agg (nv n1.L vc1 vk1 vi1), .agg (nv n1.L vc vk vi), .slice a0 z0.length cap0, .int .i64 (z0.length : Int), .bool false, undef, undef, .slice a0 z0.length cap0, .bool true, .bool false, .bool false, .slice a0 z0.length cap0, s6 27, s6 28, .bool true, .bool false, .bool false, .agg (nv n1.L vc vk vi), s7 33, .slice p8 256 c8, .agg (nv n1.L vc vk vi), .bool true, .bool false, .bool false, .slice p8 256 c8, .int .i64 256, .bool false, .bool false, .bool false, .int .i64 a2, .bool false, .bool false, .slice p8 256 c8, .slice (some ⟨g, 0, none⟩) 256 c9, undef, undef, undef, undef, undef, undef, undef, undef, undef, undef, undef, undef, undef, undef, undef]) (by kernel_rfl) ?_
      intro s9
      obtain ⟨k, -, hk2, hk3⟩ := rem_at (x := a2) (n := 256) (by have := of_decide_eq_false hneg; omega) (by omega)
      have hk4 : a2.tmod 256 = (k : Int) := hk2
      have hfr := ho9.frozenAt k
      have hce : W9.cell? ⟨g, k, none⟩ = some (.int .u8 (Z.getD k 0)) := by
        rw [ho9.cellAt k (by omega)]
        simp [bv, List.getD, List.getElem?_eq_getElem (show k < Z.length by omega)]
      generalize Z.getD k 0 = y at hce
      obtain ⟨z, hz1, hz2, hz3⟩ := xor8 y a3
      have hst := ho9.stored k (.int .u8 z)
      have hS9 := Sl.own (zs := Z.set k z) (by rw [← bv_set]; exact hst.1) (fun y hy => by
        rcases List.mem_or_eq_of_mem_set hy with h | h
        · exact hbd8 y h
        · rw [h]; exact ⟨hz2, hz3⟩)
      have hbs := hb9.setCell (p := ⟨g, k, none⟩) hg (.int .u8 z)
      have hS8' := hS8.later hbs
      have hB' := hB.trans (hbs.mono hB.size)
      clear hst hbs hb9 hS8 hB ho9 hg
      go_upto_region 13 with fail
      refine kl_start 64 (by kernel_rfl) ?_
      refine kl_take 0 (some 49) (.slice (some ⟨g, 0, none⟩) 256 c9) (by kernel_rfl) (by kernel_rfl) (by kernel_rfl) (by kernel_rfl) ?_
      refine kl_take 1 (some 50) (.int .i64 a2) (by kernel_rfl) (by kernel_rfl) (by kernel_rfl) (by kernel_rfl) ?_
      refine kl_take 2 (some 51) (.int .i64 (a2.tmod 256)) (by kernel_rfl) (by kernel_rfl) (by kernel_rfl) (by kernel_rfl) ?_
      rw [hk4]
      refine kl_index 3 (some 52) 30 (.tmp 49) (.tmp 51) 1 g (0) (256) (c9) (k) (by kernel_rfl) (by kernel_rfl) (by kernel_rfl) (by kernel_rfl) (by kernel_rfl) (by kernel_rfl) Try.underlying30 (by kernel_rfl) (hk3) ?_
      rw [show 0 + k * 1 = k by omega]
      refine kl_load 4 (some 53) (.int .u8 y) 5 (.tmp 52) (by kernel_rfl) (by kernel_rfl) (by kernel_rfl) (by kernel_rfl) (by kernel_rfl) (ld_u8 hce) ?_
      refine kl_take 5 (some 54) (.int .u8 a3) (by kernel_rfl) (by kernel_rfl) (by kernel_rfl) (by kernel_rfl) ?_
      refine kl_take 6 (some 55) (.int .u8 (bits .xor .u8 y a3)) (by kernel_rfl) (by kernel_rfl) (by kernel_rfl) (by kernel_rfl) ?_
      rw [hz1]
      refine kl_index 7 (some 56) 30 (.tmp 49) (.tmp 51) 1 g (0) (256) (c9) (k) (by kernel_rfl) (by kernel_rfl) (by kernel_rfl) (by kernel_rfl) (by kernel_rfl) (by kernel_rfl) Try.underlying30 (by kernel_rfl) (hk3) ?_
      rw [show 0 + k * 1 = k by omega]
      refine kl_putO 8 5 (.tmp 56) (.tmp 55) g k (.int .u8 z) _ (by kernel_rfl) (by kernel_rfl) (by kernel_rfl) (by kernel_rfl) (by kernel_rfl) (by kernel_rfl) hce hfr (by kernel_rfl) rfl (fun a W => run_store Try.prog W a _ _ rfl) ?_
      generalize W9.setCell ⟨g, k, none⟩ (.int .u8 z) = WA at *
      refine kl_done (by kernel_rfl) (fun s10 => #[.slice a0 z0.length cap0, .agg (nv n1.L vc1 vk1 vi1), .int .i64 a2, .int .u8 a3, undef, .pointer (some ⟨w.heap.size, 0, none⟩), undef, undef, (Value.bool false), .bool true, .slice p8 256 c8, .slice (some ⟨g, 0, none⟩) 256 c9, .bool true, .bool true, .bool false, .agg (nv n1.L vc1 vk1 vi1), .agg (nv n1.L vc vk vi), .slice a0 z0.length cap0, .int .i64 (z0.length : Int), .bool false, undef, undef, .slice a0 z0.length cap0, .bool true, .bool false, .bool false, .slice a0 z0.length cap0, s6 27, s6 28, .bool true, .bool false, .bool false, .agg (nv n1.L vc vk vi), s7 33, .slice p8 256 c8, .agg (nv n1.L vc vk vi), .bool true, .bool false, .bool false, .slice p8 256 c8, .int .i64 256, .bool false, .bool false, .bool false, .int .i64 a2, .bool false, .bool false, .slice p8 256 c8, .slice (some ⟨g, 0, none⟩) 256 c9, .slice (some ⟨g, 0, none⟩) 256 c9, .int .i64 a2, .int .i64 (k : Int), .pointer (some ⟨g, k, none⟩), .int .u8 y, .int .u8 a3, .int .u8 z, .pointer (some ⟨g, k, none⟩), undef, undef, undef, undef, undef, undef, undef]) (by kernel_rfl) ?_
      intro s10
      go_upto_region 14 with fail
      refine kl_start 64 (by kernel_rfl) ?_
      refine kl_take 0 (some 57) (.slice (some ⟨g, 0, none⟩) 256 c9) (by kernel_rfl) (by kernel_rfl) (by kernel_rfl) (by kernel_rfl) ?_
      refine kl_callx 1 (some 58) (by kernel_rfl) (by kernel_rfl) (by kernel_rfl) (by kernel_rfl) (ntells_any _ _ _ hS9) ?_
      rintro e x ⟨rfl, hb⟩
      refine ⟨_, rfl, ?_⟩
      replace hS9 := hS9.later hb
      replace hS8' := hS8'.later hb
      replace hB' := hB'.trans (hb.mono hB'.size)
      clear hb
      refine kl_take 2 (some 59) (.bool true) (by kernel_rfl) (by kernel_rfl) (by kernel_rfl) (by kernel_rfl) ?_
      refine kl_take 3 (some 60) (.slice p8 256 c8) (by kernel_rfl) (by kernel_rfl) (by kernel_rfl) (by kernel_rfl) ?_
      refine kl_cuth 4 (some 61) (.tmp 60) (.const (.int .i64 255)) _ Z 255 (by kernel_rfl) (by kernel_rfl) (by kernel_rfl) (by kernel_rfl) (by kernel_rfl) (by kernel_rfl) hS8' (by omega) (by omega) ?_
      intro V5 hV5
      refine kl_callx 5 (some 62) (by kernel_rfl) (by kernel_rfl) (by kernel_rfl) (by kernel_rfl) (ntells_any V5 _ _ hV5) ?_
      rintro e x ⟨rfl, hb⟩
      refine ⟨_, rfl, ?_⟩
      replace hS9 := hS9.later hb
      replace hS8' := hS8'.later hb
      replace hB' := hB'.trans (hb.mono hB'.size)
      clear hb
      refine kl_take 6 (some 63) (.bool true) (by kernel_rfl) (by kernel_rfl) (by kernel_rfl) (by kernel_rfl) ?_
      refine kl_take 7 (some 8) (.bool true) (by kernel_rfl) (by kernel_rfl) (by kernel_rfl) (by kernel_rfl) ?_
      refine kl_done (by kernel_rfl) (fun s11 => #[.slice a0 z0.length cap0, .agg (nv n1.L vc1 vk1 vi1), .int .i64 a2, .int .u8 a3, undef, .pointer (some ⟨w.heap.size, 0, none⟩), undef, undef, .bool true, .bool true, .slice p8 256 c8, .slice (some ⟨g, 0, none⟩) 256 c9, .bool true, .bool true, .bool false, .agg (nv n1.L vc1 vk1 vi1), .agg (nv n1.L vc vk vi), .slice a0 z0.length cap0, .int .i64 (z0.length : Int), .bool false, undef, undef, .slice a0 z0.length cap0, .bool true, .bool false, .bool false, .slice a0 z0.length cap0, s6 27, s6 28, .bool true, .bool false, .bool false, .agg (nv n1.L vc vk vi), s7 33, .slice p8 256 c8, .agg (nv n1.L vc vk vi), .bool true, .bool false, .bool false, .slice p8 256 c8, .int .i64 256, .bool false, .bool false, .bool false, .int .i64 a2, .bool false, .bool false, .slice p8 256 c8, .slice (some ⟨g, 0, none⟩) 256 c9, .slice (some ⟨g, 0, none⟩) 256 c9, .int .i64 a2, .int .i64 (k : Int), .pointer (some ⟨g, k, none⟩), .int .u8 y, .int .u8 a3, .int .u8 z, .pointer (some ⟨g, k, none⟩), .slice (some ⟨g, 0, none⟩) 256 c9, .bool true, .bool true, .slice p8 256 c8, V5, .bool true, .bool true]) (by kernel_rfl) ?_
      intro s11
      go_wp2_with fail
      go_ret
      exact ⟨rfl, hB'⟩
  · skip
    go_upto_region 5 with fail
    refine kl_start 64 (by kernel_rfl) ?_
    refine kl_take 0 (some 17) (.slice a0 z0.length cap0) (by kernel_rfl) (by kernel_rfl) (by kernel_rfl) (by kernel_rfl) ?_
    refine kl_take 1 (some 18) (.int .i64 (z0.length : Int)) (by kernel_rfl) (by kernel_rfl) (by kernel_rfl) (by kernel_rfl) ?_
    refine kl_test 2 (some 19) true (by kernel_rfl) (by kernel_rfl) (by kernel_rfl) (hc) (by kernel_rfl) ?_
    refine kl_done (by kernel_rfl) (fun l5 => #[.slice a0 z0.length cap0, .agg (nv n1.L vc1 vk1 vi1), .int .i64 a2, .int .u8 a3, undef, .pointer (some ⟨w.heap.size, 0, none⟩), undef, undef, (Value.bool false), .bool true, undef, undef, .bool true, .bool true, .bool false, .agg (nv n1.L vc1 vk1 vi1), .agg (nv n1.L vc vk vi), .slice a0 z0.length cap0, .int .i64 (z0.length : Int), .bool true, undef, undef, undef, undef, undef, undef, undef, undef, undef, undef, undef, undef, undef, undef, undef, undef, undef, undef, undef, undef, undef, undef, undef, undef, undef, undef, undef, undef, undef, undef, undef, undef, undef, undef, undef, undef, undef, undef, undef, undef, undef, undef, undef, undef]) (by kernel_rfl) ?_
    intro l5
    go_upto_region 6 with fail
    refine kl_start 64 (by kernel_rfl) ?_
    refine kl_take 0 (some 20) (.slice a0 z0.length cap0) (by kernel_rfl) (by kernel_rfl) (by kernel_rfl) (by kernel_rfl) ?_
    refine kl_cuth 1 (some 21) (.tmp 20) (.const (.int .i64 260)) _ z0 260 (by kernel_rfl) (by kernel_rfl) (by kernel_rfl) (by kernel_rfl) (by kernel_rfl) (by kernel_rfl) hS (by omega) (by have := of_decide_eq_true hc; omega) ?_
    intro V hV
    clear hS
    refine kl_take 2 (some 0) (V) (by kernel_rfl) (by kernel_rfl) (by kernel_rfl) (by kernel_rfl) ?_
    refine kl_done (by kernel_rfl) (fun l6 => #[V, .agg (nv n1.L vc1 vk1 vi1), .int .i64 a2, .int .u8 a3, undef, .pointer (some ⟨w.heap.size, 0, none⟩), undef, undef, (Value.bool false), .bool true, undef, undef, .bool true, .bool true, .bool false, .agg (nv n1.L vc1 vk1 vi1), .agg (nv n1.L vc vk vi), .slice a0 z0.length cap0, .int .i64 (z0.length : Int), .bool true, .slice a0 z0.length cap0, V, undef, undef, undef, undef, undef, undef, undef, undef, undef, undef, undef, undef, undef, undef, undef, undef, undef, undef, undef, undef, undef, undef, undef, undef, undef, undef, undef, undef, undef, undef, undef, undef, undef, undef, undef, undef, undef, undef, undef, undef, undef, undef]) (by kernel_rfl) ?_
    intro l6
    go_upto_region 7 with fail
    refine kl_start 64 (by kernel_rfl) ?_
    refine kl_take 0 (some 22) (V) (by kernel_rfl) (by kernel_rfl) (by kernel_rfl) (by kernel_rfl) ?_
    refine kl_callx 1 (some 23) (by kernel_rfl) (by kernel_rfl) (by kernel_rfl) (by kernel_rfl) (ntells_any V _ _ hV) ?_
    rintro e x ⟨rfl, hb⟩
    refine ⟨_, rfl, ?_⟩
    replace hP := hP.later hb
    replace hX := hX.later hb
    replace hV := hV.later hb
    replace hB := hB.trans (hb.mono hB.size)
    clear hb
    refine kl_take 2 (some 24) (.bool false) (by kernel_rfl) (by kernel_rfl) (by kernel_rfl) (by kernel_rfl) ?_
    refine kl_take 3 (some 25) (.bool false) (by kernel_rfl) (by kernel_rfl) (by kernel_rfl) (by kernel_rfl) ?_
    refine kl_take 4 (some 26) (V) (by kernel_rfl) (by kernel_rfl) (by kernel_rfl) (by kernel_rfl) ?_
    refine kl_callx 5 (some 27) (by kernel_rfl) (by kernel_rfl) (by kernel_rfl) (by kernel_rfl) (short_any V _ 256 _ hV) ?_
    rintro e x5 ⟨v5, rfl, hS5, rfl⟩
    refine ⟨_, rfl, ?_⟩
    have hbd5 := whole_bd hS5.bd
    refine kl_callx 6 (some 28) (by kernel_rfl) (by kernel_rfl) (by kernel_rfl) (by kernel_rfl) (whole_any v5 _ _ hS5) ?_
    rintro e x ⟨v6, rfl, ho6, hb⟩
    refine ⟨_, rfl, ?_⟩
    replace hP := hP.later hb
    replace hX := hX.later hb
    replace hV := hV.later hb
    replace hB := hB.trans (hb.mono hB.size)
    clear hb
    have hS6 := Sl.own ho6 hbd5
    clear ho6 hbd5 hS5
    refine kl_callx 7 (some 29) (by kernel_rfl) (by kernel_rfl) (by kernel_rfl) (by kernel_rfl) (ntells_any v6 _ _ hS6) ?_
    rintro e x ⟨rfl, hb⟩
    refine ⟨_, rfl, ?_⟩
    replace hP := hP.later hb
    replace hX := hX.later hb
    replace hV := hV.later hb
    replace hB := hB.trans (hb.mono hB.size)
    clear hb
    clear hS6
    refine kl_take 8 (some 30) (.bool false) (by kernel_rfl) (by kernel_rfl) (by kernel_rfl) (by kernel_rfl) ?_
    refine kl_take 9 (some 31) (.bool false) (by kernel_rfl) (by kernel_rfl) (by kernel_rfl) (by kernel_rfl) ?_
    refine kl_done (by kernel_rfl) (fun l7 => #[V, .agg (nv n1.L vc1 vk1 vi1), .int .i64 a2, .int .u8 a3, undef, .pointer (some ⟨w.heap.size, 0, none⟩), undef, undef, (Value.bool false), .bool true, undef, undef, .bool true, .bool true, .bool false, .agg (nv n1.L vc1 vk1 vi1), .agg (nv n1.L vc vk vi), .slice a0 z0.length cap0, .int .i64 (z0.length : Int), .bool true, .slice a0 z0.length cap0, V, V, .bool true, .bool false, .bool false, V, l7 27, l7 28, .bool true, .bool false, .bool false, undef, undef, undef, undef, undef, undef, undef, undef, undef, undef, undef, undef, undef, undef, undef, undef, undef, undef, undef, undef, undef, undef, undef, undef, undef, undef, undef, undef, undef, undef, undef, undef]) (by kernel_rfl) ?_
    intro l7
    clear hV
    have HRB := hide (refB_bd hP.ok HF.out)
    go_upto_region 9 with fail
    refine kl_start 64 (by kernel_rfl) ?_
    refine kl_get 0 (some 32) 26 _ (.tmp 5) _ (nv n1.L vc vk vi) (by kernel_rfl) (by kernel_rfl) (by kernel_rfl) (by kernel_rfl) (by kernel_rfl) hX tyM rfl ?_
    refine kl_callx 1 (some 33) (by kernel_rfl) (by kernel_rfl) (by kernel_rfl) (by kernel_rfl) (refNodeBytes_any vc vk vi n1.cut _ hP HF.out) ?_
    rintro e x ⟨v7, rfl, ho7, hb⟩
    refine ⟨_, rfl, ?_⟩
    replace hP := hP.later hb
    replace hX := hX.later hb
    replace hB := hB.trans (hb.mono hB.size)
    clear hb
    have hS7 := Sl.own ho7 HRB.out
    clear ho7
    refine kl_callx 2 (some 34) (by kernel_rfl) (by kernel_rfl) (by kernel_rfl) (by kernel_rfl) (whole_any v7 _ _ hS7) ?_
    rintro e x ⟨v8, rfl, ho8, hb⟩
    refine ⟨_, rfl, ?_⟩
    replace hP := hP.later hb
    replace hX := hX.later hb
    replace hB := hB.trans (hb.mono hB.size)
    clear hb
    have hS8 := Sl.own ho8 (whole_bd HRB.out)
    clear ho8 hS7
    refine kl_take 3 (some 10) (v8) (by kernel_rfl) (by kernel_rfl) (by kernel_rfl) (by kernel_rfl) ?_
    refine kl_done (by kernel_rfl) (fun l8 => #[V, .agg (nv n1.L vc1 vk1 vi1), .int .i64 a2, .int .u8 a3, undef, .pointer (some ⟨w.heap.size, 0, none⟩), undef, undef, (Value.bool false), .bool true, v8, undef, .bool true, .bool true, .bool false, .agg (nv n1.L vc1 vk1 vi1), .agg (nv n1.L vc vk vi), .slice a0 z0.length cap0, .int .i64 (z0.length : Int), .bool true, .slice a0 z0.length cap0, V, V, .bool true, .bool false, .bool false, V, l7 27, l7 28, .bool true, .bool false, .bool false, .agg (nv n1.L vc vk vi), l8 33, v8, undef, undef, undef, undef, undef, undef, undef, undef, undef, undef, undef, undef, undef, undef, undef, undef, undef, undef, undef, undef, undef, undef, undef, undef, undef, undef, undef, undef, undef]) (by kernel_rfl) ?_
    intro l8
    cases hm : No.may n1.cut
    · skip
      go_upto_region 10 with fail
      refine kl_start 64 (by kernel_rfl) ?_
      refine kl_get 0 (some 35) 26 _ (.tmp 5) _ (nv n1.L vc vk vi) (by kernel_rfl) (by kernel_rfl) (by kernel_rfl) (by kernel_rfl) (by kernel_rfl) hX tyM rfl ?_
      refine kl_callx 1 (some 36) (by kernel_rfl) (by kernel_rfl) (by kernel_rfl) (by kernel_rfl) (refMay_at hP hm) ?_
      rintro e x ⟨rfl, hb⟩
      refine ⟨_, rfl, ?_⟩
      replace hP := hP.later hb
      replace hX := hX.later hb
      replace hS8 := hS8.later hb
      replace hB := hB.trans (hb.mono hB.size)
      clear hb
      refine kl_take 2 (some 37) (.bool true) (by kernel_rfl) (by kernel_rfl) (by kernel_rfl) (by kernel_rfl) ?_
      refine kl_take 3 (some 38) (.bool true) (by kernel_rfl) (by kernel_rfl) (by kernel_rfl) (by kernel_rfl) ?_
      refine kl_skip 4 (some 39) (by kernel_rfl) (by kernel_rfl) (by kernel_rfl) ?_
      refine kl_skip 5 (some 40) (by kernel_rfl) (by kernel_rfl) (by kernel_rfl) ?_
      refine kl_skip 6 (some 41) (by kernel_rfl) (by kernel_rfl) (by kernel_rfl) ?_
      refine kl_take 7 (some 42) (.bool true) (by kernel_rfl) (by kernel_rfl) (by kernel_rfl) (by kernel_rfl) ?_
      refine kl_take 8 (some 43) (.bool true) (by kernel_rfl) (by kernel_rfl) (by kernel_rfl) (by kernel_rfl) ?_
      refine kl_skip 9 (some 44) (by kernel_rfl) (by kernel_rfl) (by kernel_rfl) ?_
      refine kl_skip 10 (some 45) (by kernel_rfl) (by kernel_rfl) (by kernel_rfl) ?_
      refine kl_take 11 (some 46) (.bool true) (by kernel_rfl) (by kernel_rfl) (by kernel_rfl) (by kernel_rfl) ?_
      refine kl_done (by kernel_rfl) (fun l9 => #[V, .agg (nv n1.L vc1 vk1 vi1), .int .i64 a2, .int .u8 a3, undef, .pointer (some ⟨w.heap.size, 0, none⟩), undef, undef, (Value.bool false), .bool true, v8, undef, .bool true, .bool true, .bool false, .agg (nv n1.L vc1 vk1 vi1), .agg (nv n1.L vc vk vi), .slice a0 z0.length cap0, .int .i64 (z0.length : Int), .bool true, .slice a0 z0.length cap0, V, V, .bool true, .bool false, .bool false, V, l7 27, l7 28, .bool true, .bool false, .bool false, .agg (nv n1.L vc vk vi), l8 33, v8, .agg (nv n1.L vc vk vi), .bool false, .bool true, .bool true, l9 39, l9 40, l9 41, .bool true, .bool true, l9 44, l9 45, .bool true, undef, undef, undef, undef, undef, undef, undef, undef, undef, undef, undef, undef, undef, undef, undef, undef, undef]) (by kernel_rfl) ?_
      intro l9
      go_wp2_with fail
      go_ret
      exact ⟨rfl, hB⟩
    · skip
      obtain ⟨p8, n8, c8, rfl, -, -, hn8, HS8⟩ := hS8.opens
      have hS8 := HS8.out
      clear HS8
      by_cases hl : (No.refB n1.cut).length ≤ 256
      rotate_left
      · obtain rfl : n8 = 0 := by rw [hn8.out, No.whole_no (by omega)]; rfl
        go_upto_region 10 with fail
        refine kl_start 64 (by kernel_rfl) ?_
        refine kl_get 0 (some 35) 26 _ (.tmp 5) _ (nv n1.L vc vk vi) (by kernel_rfl) (by kernel_rfl) (by kernel_rfl) (by kernel_rfl) (by kernel_rfl) hX tyM rfl ?_
        refine kl_callx 1 (some 36) (by kernel_rfl) (by kernel_rfl) (by kernel_rfl) (by kernel_rfl) (refMay_at hP hm) ?_
        rintro e x ⟨rfl, hb⟩
        refine ⟨_, rfl, ?_⟩
        replace hP := hP.later hb
        replace hX := hX.later hb
        replace hS8 := hS8.later hb
        replace hB := hB.trans (hb.mono hB.size)
        clear hb
        refine kl_take 2 (some 37) (.bool false) (by kernel_rfl) (by kernel_rfl) (by kernel_rfl) (by kernel_rfl) ?_
        refine kl_take 3 (some 38) (.bool false) (by kernel_rfl) (by kernel_rfl) (by kernel_rfl) (by kernel_rfl) ?_
        refine kl_take 4 (some 39) (.slice p8 0 c8) (by kernel_rfl) (by kernel_rfl) (by kernel_rfl) (by kernel_rfl) ?_
        refine kl_take 5 (some 40) (.int .i64 0) (by kernel_rfl) (by kernel_rfl) (by kernel_rfl) (by kernel_rfl) ?_
        refine kl_take 6 (some 41) (.bool true) (by kernel_rfl) (by kernel_rfl) (by kernel_rfl) (by kernel_rfl) ?_
        refine kl_take 7 (some 42) (.bool true) (by kernel_rfl) (by kernel_rfl) (by kernel_rfl) (by kernel_rfl) ?_
        refine kl_take 8 (some 43) (.bool true) (by kernel_rfl) (by kernel_rfl) (by kernel_rfl) (by kernel_rfl) ?_
        refine kl_skip 9 (some 44) (by kernel_rfl) (by kernel_rfl) (by kernel_rfl) ?_
        refine kl_skip 10 (some 45) (by kernel_rfl) (by kernel_rfl) (by kernel_rfl) ?_
        refine kl_take 11 (some 46) (.bool true) (by kernel_rfl) (by kernel_rfl) (by kernel_rfl) (by kernel_rfl) ?_
        refine kl_done (by kernel_rfl) (fun l9 => #[V, .agg (nv n1.L vc1 vk1 vi1), .int .i64 a2, .int .u8 a3, undef, .pointer (some ⟨w.heap.size, 0, none⟩), undef, undef, (Value.bool false), .bool true, .slice p8 0 c8, undef, .bool true, .bool true, .bool false, .agg (nv n1.L vc1 vk1 vi1), .agg (nv n1.L vc vk vi), .slice a0 z0.length cap0, .int .i64 (z0.length : Int), .bool true, .slice a0 z0.length cap0, V, V, .bool true, .bool false, .bool false, V, l7 27, l7 28, .bool true, .bool false, .bool false, .agg (nv n1.L vc vk vi), l8 33, .slice p8 0 c8, .agg (nv n1.L vc vk vi), .bool true, .bool false, .bool false, .slice p8 0 c8, .int .i64 0, .bool true, .bool true, .bool true, l9 44, l9 45, .bool true, undef, undef, undef, undef, undef, undef, undef, undef, undef, undef, undef, undef, undef, undef, undef, undef, undef]) (by kernel_rfl) ?_
        intro l9
        go_wp2_with fail
        go_ret
        exact ⟨rfl, hB⟩
      have hw8 := No.whole_is hl
      obtain rfl : n8 = 256 := by rw [hn8.out, hw8]; exact No.pad_len hl
      rw [hw8] at hS8
      cases hneg : decide (a2 < 0)
      case true =>
        go_upto_region 10 with fail
        refine kl_start 64 (by kernel_rfl) ?_
        refine kl_get 0 (some 35) 26 _ (.tmp 5) _ (nv n1.L vc vk vi) (by kernel_rfl) (by kernel_rfl) (by kernel_rfl) (by kernel_rfl) (by kernel_rfl) hX tyM rfl ?_
        refine kl_callx 1 (some 36) (by kernel_rfl) (by kernel_rfl) (by kernel_rfl) (by kernel_rfl) (refMay_at hP hm) ?_
        rintro e x ⟨rfl, hb⟩
        refine ⟨_, rfl, ?_⟩
        replace hP := hP.later hb
        replace hX := hX.later hb
        replace hS8 := hS8.later hb
        replace hB := hB.trans (hb.mono hB.size)
        clear hb
        refine kl_take 2 (some 37) (.bool false) (by kernel_rfl) (by kernel_rfl) (by kernel_rfl) (by kernel_rfl) ?_
        refine kl_take 3 (some 38) (.bool false) (by kernel_rfl) (by kernel_rfl) (by kernel_rfl) (by kernel_rfl) ?_
        refine kl_take 4 (some 39) (.slice p8 256 c8) (by kernel_rfl) (by kernel_rfl) (by kernel_rfl) (by kernel_rfl) ?_
        refine kl_take 5 (some 40) (.int .i64 256) (by kernel_rfl) (by kernel_rfl) (by kernel_rfl) (by kernel_rfl) ?_
        refine kl_take 6 (some 41) (.bool false) (by kernel_rfl) (by kernel_rfl) (by kernel_rfl) (by kernel_rfl) ?_
        refine kl_take 7 (some 42) (.bool false) (by kernel_rfl) (by kernel_rfl) (by kernel_rfl) (by kernel_rfl) ?_
        refine kl_take 8 (some 43) (.bool false) (by kernel_rfl) (by kernel_rfl) (by kernel_rfl) (by kernel_rfl) ?_
        refine kl_take 9 (some 44) (.int .i64 a2) (by kernel_rfl) (by kernel_rfl) (by kernel_rfl) (by kernel_rfl) ?_
        refine kl_test 10 (some 45) true (by kernel_rfl) (by kernel_rfl) (by kernel_rfl) (hneg) (by kernel_rfl) ?_
        refine kl_take 11 (some 46) (.bool true) (by kernel_rfl) (by kernel_rfl) (by kernel_rfl) (by kernel_rfl) ?_
        refine kl_done (by kernel_rfl) (fun l9 => #[V, .agg (nv n1.L vc1 vk1 vi1), .int .i64 a2, .int .u8 a3, undef, .pointer (some ⟨w.heap.size, 0, none⟩), undef, undef, (Value.bool false), .bool true, .slice p8 256 c8, undef, .bool true, .bool true, .bool false, .agg (nv n1.L vc1 vk1 vi1), .agg (nv n1.L vc vk vi), .slice a0 z0.length cap0, .int .i64 (z0.length : Int), .bool true, .slice a0 z0.length cap0, V, V, .bool true, .bool false, .bool false, V, l7 27, l7 28, .bool true, .bool false, .bool false, .agg (nv n1.L vc vk vi), l8 33, .slice p8 256 c8, .agg (nv n1.L vc vk vi), .bool true, .bool false, .bool false, .slice p8 256 c8, .int .i64 256, .bool false, .bool false, .bool false, .int .i64 a2, .bool true, .bool true, undef, undef, undef, undef, undef, undef, undef, undef, undef, undef, undef, undef, undef, undef, undef, undef, undef]) (by kernel_rfl) ?_
        intro l9
        go_wp2_with fail
        go_ret
        exact ⟨rfl, hB⟩
      go_upto_region 10 with fail
      refine kl_start 64 (by kernel_rfl) ?_
      refine kl_get 0 (some 35) 26 _ (.tmp 5) _ (nv n1.L vc vk vi) (by kernel_rfl) (by kernel_rfl) (by kernel_rfl) (by kernel_rfl) (by kernel_rfl) hX tyM rfl ?_
      refine kl_callx 1 (some 36) (by kernel_rfl) (by kernel_rfl) (by kernel_rfl) (by kernel_rfl) (refMay_at hP hm) ?_
      rintro e x ⟨rfl, hb⟩
      refine ⟨_, rfl, ?_⟩
      replace hP := hP.later hb
      replace hX := hX.later hb
      replace hS8 := hS8.later hb
      replace hB := hB.trans (hb.mono hB.size)
      clear hb
      refine kl_take 2 (some 37) (.bool false) (by kernel_rfl) (by kernel_rfl) (by kernel_rfl) (by kernel_rfl) ?_
      refine kl_take 3 (some 38) (.bool false) (by kernel_rfl) (by kernel_rfl) (by kernel_rfl) (by kernel_rfl) ?_
      refine kl_take 4 (some 39) (.slice p8 256 c8) (by kernel_rfl) (by kernel_rfl) (by kernel_rfl) (by kernel_rfl) ?_
      refine kl_take 5 (some 40) (.int .i64 256) (by kernel_rfl) (by kernel_rfl) (by kernel_rfl) (by kernel_rfl) ?_
      refine kl_take 6 (some 41) (.bool false) (by kernel_rfl) (by kernel_rfl) (by kernel_rfl) (by kernel_rfl) ?_
      refine kl_take 7 (some 42) (.bool false) (by kernel_rfl) (by kernel_rfl) (by kernel_rfl) (by kernel_rfl) ?_
      refine kl_take 8 (some 43) (.bool false) (by kernel_rfl) (by kernel_rfl) (by kernel_rfl) (by kernel_rfl) ?_
      refine kl_take 9 (some 44) (.int .i64 a2) (by kernel_rfl) (by kernel_rfl) (by kernel_rfl) (by kernel_rfl) ?_
      refine kl_test 10 (some 45) false (by kernel_rfl) (by kernel_rfl) (by kernel_rfl) (hneg) (by kernel_rfl) ?_
      refine kl_take 11 (some 46) (.bool false) (by kernel_rfl) (by kernel_rfl) (by kernel_rfl) (by kernel_rfl) ?_
      refine kl_done (by kernel_rfl) (fun l9 => #[V, .agg (nv n1.L vc1 vk1 vi1), .int .i64 a2, .int .u8 a3, undef, .pointer (some ⟨w.heap.size, 0, none⟩), undef, undef, (Value.bool false), .bool true, .slice p8 256 c8, undef, .bool true, .bool true, .bool false, .agg (nv n1.L vc1 vk1 vi1), .agg (nv n1.L vc vk vi), .slice a0 z0.length cap0, .int .i64 (z0.length : Int), .bool true, .slice a0 z0.length cap0, V, V, .bool true, .bool false, .bool false, V, l7 27, l7 28, .bool true, .bool false, .bool false, .agg (nv n1.L vc vk vi), l8 33, .slice p8 256 c8, .agg (nv n1.L vc vk vi), .bool true, .bool false, .bool false, .slice p8 256 c8, .int .i64 256, .bool false, .bool false, .bool false, .int .i64 a2, .bool false, .bool false, undef, undef, undef, undef, undef, undef, undef, undef, undef, undef, undef, undef, undef, undef, undef, undef, undef]) (by kernel_rfl) ?_
      intro l9
      have hbd8 := hS8.bd
      have hl8 : (No.pad (No.refB n1.cut)).length = 256 := No.pad_len hl
      generalize No.pad (No.refB n1.cut) = Z at *
      clear hP hX hw8 hl hm HRB HF hn8
      go_upto_region 12 with fail
      refine kl_start 64 (by kernel_rfl) ?_
      refine kl_take 0 (some 47) (.slice p8 256 c8) (by kernel_rfl) (by kernel_rfl) (by kernel_rfl) (by kernel_rfl) ?_
      refine kl_appn 1 (some 48) (.const (.slice none 0 0)) (.tmp 47) _ Z (by kernel_rfl) (by kernel_rfl) (by kernel_rfl) (by kernel_rfl) (by kernel_rfl) (by kernel_rfl) hS8 (by omega) ?_
      intro v9 W9 ho9 hb9
      obtain ⟨g, c9, rfl, hg⟩ := own_at ho9 hl8 (by omega)
      rw [hl8] at ho9
      refine kl_take 2 (some 11) (.slice (some ⟨g, 0, none⟩) 256 c9) (by kernel_rfl) (by kernel_rfl) (by kernel_rfl) (by kernel_rfl) ?_
      refine kl_done (by kernel_rfl) (fun l10 => #[V, .agg (nv n1.L vc1 vk1 vi1), .int .i64 a2, .int .u8 a3, undef, .pointer (some ⟨w.heap.size, 0, none⟩), undef, undef, (Value.bool false), .bool true, .slice p8 256 c8, .slice (some ⟨g, 0, none⟩) 256 c9, .bool true, .bool true, .bool false, .agg (nv n1.L vc1 vk1 vi1), .agg (nv n1.L vc vk vi), .slice a0 z0.length cap0, .int .i64 (z0.length : Int), .bool true, .slice a0 z0.length cap0, V, V, .bool true, .bool false, .bool false, V, l7 27, l7 28, .bool true, .bool false, .bool false, .agg (nv n1.L vc vk vi), l8 33, .slice p8 256 c8, .agg (nv n1.L vc vk vi), .bool true, .bool false, .bool false, .slice p8 256 c8, .int .i64 256, .bool false, .bool false, .bool false, .int .i64 a2, .bool false, .bool false, .slice p8 256 c8, .slice (some ⟨g, 0, none⟩) 256 c9, undef, undef, undef, undef, undef, undef, undef, undef, undef, undef, undef, undef, undef, undef, undef]) (by kernel_rfl) ?_
      intro l10
      obtain ⟨k, -, hk2, hk3⟩ := rem_at (x := a2) (n := 256) (by have := of_decide_eq_false hneg; omega) (by omega)
      have hk4 : a2.tmod 256 = (k : Int) := hk2
      have hfr := ho9.frozenAt k
      have hce : W9.cell? ⟨g, k, none⟩ = some (.int .u8 (Z.getD k 0)) := by
        rw [ho9.cellAt k (by omega)]
        simp [bv, List.getD, List.getElem?_eq_getElem (show k < Z.length by omega)]
      generalize Z.getD k 0 = y at hce
      obtain ⟨z, hz1, hz2, hz3⟩ := xor8 y a3
      have hst := ho9.stored k (.int .u8 z)
      have hS9 := Sl.own (zs := Z.set k z) (by rw [← bv_set]; exact hst.1) (fun y hy => by
        rcases List.mem_or_eq_of_mem_set hy with h | h
        · exact hbd8 y h
        · rw [h]; exact ⟨hz2, hz3⟩)
      have hbs := hb9.setCell (p := ⟨g, k, none⟩) hg (.int .u8 z)
      have hS8' := hS8.later hbs
      have hB' := hB.trans (hbs.mono hB.size)
      clear hst hbs hb9 hS8 hB ho9 hg
      go_upto_region 13 with fail
      refine kl_start 64 (by kernel_rfl) ?_
      refine kl_take 0 (some 49) (.slice (some ⟨g, 0, none⟩) 256 c9) (by kernel_rfl) (by kernel_rfl) (by kernel_rfl) (by kernel_rfl) ?_
      refine kl_take 1 (some 50) (.int .i64 a2) (by kernel_rfl) (by kernel_rfl) (by kernel_rfl) (by kernel_rfl) ?_
      refine kl_take 2 (some 51) (.int .i64 (a2.tmod 256)) (by kernel_rfl) (by kernel_rfl) (by kernel_rfl) (by kernel_rfl) ?_
      rw [hk4]
      refine kl_index 3 (some 52) 30 (.tmp 49) (.tmp 51) 1 g (0) (256) (c9) (k) (by kernel_rfl) (by kernel_rfl) (by kernel_rfl) (by kernel_rfl) (by kernel_rfl) (by kernel_rfl) Try.underlying30 (by kernel_rfl) (hk3) ?_
      rw [show 0 + k * 1 = k by omega]
      refine kl_load 4 (some 53) (.int .u8 y) 5 (.tmp 52) (by kernel_rfl) (by kernel_rfl) (by kernel_rfl) (by kernel_rfl) (by kernel_rfl) (ld_u8 hce) ?_
      refine kl_take 5 (some 54) (.int .u8 a3) (by kernel_rfl) (by kernel_rfl) (by kernel_rfl) (by kernel_rfl) ?_
      refine kl_take 6 (some 55) (.int .u8 (bits .xor .u8 y a3)) (by kernel_rfl) (by kernel_rfl) (by kernel_rfl) (by kernel_rfl) ?_
      rw [hz1]
      refine kl_index 7 (some 56) 30 (.tmp 49) (.tmp 51) 1 g (0) (256) (c9) (k) (by kernel_rfl) (by kernel_rfl) (by kernel_rfl) (by kernel_rfl) (by kernel_rfl) (by kernel_rfl) Try.underlying30 (by kernel_rfl) (hk3) ?_
      rw [show 0 + k * 1 = k by omega]
      refine kl_putO 8 5 (.tmp 56) (.tmp 55) g k (.int .u8 z) _ (by kernel_rfl) (by kernel_rfl) (by kernel_rfl) (by kernel_rfl) (by kernel_rfl) (by kernel_rfl) hce hfr (by kernel_rfl) rfl (fun a W => run_store Try.prog W a _ _ rfl) ?_
      generalize W9.setCell ⟨g, k, none⟩ (.int .u8 z) = WA at *
      refine kl_done (by kernel_rfl) (fun l11 => #[V, .agg (nv n1.L vc1 vk1 vi1), .int .i64 a2, .int .u8 a3, undef, .pointer (some ⟨w.heap.size, 0, none⟩), undef, undef, (Value.bool false), .bool true, .slice p8 256 c8, .slice (some ⟨g, 0, none⟩) 256 c9, .bool true, .bool true, .bool false, .agg (nv n1.L vc1 vk1 vi1), .agg (nv n1.L vc vk vi), .slice a0 z0.length cap0, .int .i64 (z0.length : Int), .bool true, .slice a0 z0.length cap0, V, V, .bool true, .bool false, .bool false, V, l7 27, l7 28, .bool true, .bool false, .bool false, .agg (nv n1.L vc vk vi), l8 33, .slice p8 256 c8, .agg (nv n1.L vc vk vi), .bool true, .bool false, .bool false, .slice p8 256 c8, .int .i64 256, .bool false, .bool false, .bool false, .int .i64 a2, .bool false, .bool false, .slice p8 256 c8, .slice (some ⟨g, 0, none⟩) 256 c9, .slice (some ⟨g, 0, none⟩) 256 c9, .int .i64 a2, .int .i64 (k : Int), .pointer (some ⟨g, k, none⟩), .int .u8 y, .int .u8 a3, .int .u8 z, .pointer (some ⟨g, k, none⟩), undef, undef, undef, undef, undef, undef, undef]) (by kernel_rfl) ?_
      intro l11
      go_upto_region 14 with fail
      refine kl_start 64 (by kernel_rfl) ?_
      refine kl_take 0 (some 57) (.slice (some ⟨g, 0, none⟩) 256 c9) (by kernel_rfl) (by kernel_rfl) (by kernel_rfl) (by kernel_rfl) ?_
      refine kl_callx 1 (some 58) (by kernel_rfl) (by kernel_rfl) (by kernel_rfl) (by kernel_rfl) (ntells_any _ _ _ hS9) ?_
      rintro e x ⟨rfl, hb⟩
      refine ⟨_, rfl, ?_⟩
      replace hS9 := hS9.later hb
      replace hS8' := hS8'.later hb
      replace hB' := hB'.trans (hb.mono hB'.size)
      clear hb
      refine kl_take 2 (some 59) (.bool true) (by kernel_rfl) (by kernel_rfl) (by kernel_rfl) (by kernel_rfl) ?_
      refine kl_take 3 (some 60) (.slice p8 256 c8) (by kernel_rfl) (by kernel_rfl) (by kernel_rfl) (by kernel_rfl) ?_
      refine kl_cuth 4 (some 61) (.tmp 60) (.const (.int .i64 255)) _ Z 255 (by kernel_rfl) (by kernel_rfl) (by kernel_rfl) (by kernel_rfl) (by kernel_rfl) (by kernel_rfl) hS8' (by omega) (by omega) ?_
      intro V5 hV5
      refine kl_callx 5 (some 62) (by kernel_rfl) (by kernel_rfl) (by kernel_rfl) (by kernel_rfl) (ntells_any V5 _ _ hV5) ?_
      rintro e x ⟨rfl, hb⟩
      refine ⟨_, rfl, ?_⟩
      replace hS9 := hS9.later hb
      replace hS8' := hS8'.later hb
      replace hB' := hB'.trans (hb.mono hB'.size)
      clear hb
      refine kl_take 6 (some 63) (.bool true) (by kernel_rfl) (by kernel_rfl) (by kernel_rfl) (by kernel_rfl) ?_
      refine kl_take 7 (some 8) (.bool true) (by kernel_rfl) (by kernel_rfl) (by kernel_rfl) (by kernel_rfl) ?_
      refine kl_done (by kernel_rfl) (fun l12 => #[V, .agg (nv n1.L vc1 vk1 vi1), .int .i64 a2, .int .u8 a3, undef, .pointer (some ⟨w.heap.size, 0, none⟩), undef, undef, .bool true, .bool true, .slice p8 256 c8, .slice (some ⟨g, 0, none⟩) 256 c9, .bool true, .bool true, .bool false, .agg (nv n1.L vc1 vk1 vi1), .agg (nv n1.L vc vk vi), .slice a0 z0.length cap0, .int .i64 (z0.length : Int), .bool true, .slice a0 z0.length cap0, V, V, .bool true, .bool false, .bool false, V, l7 27, l7 28, .bool true, .bool false, .bool false, .agg (nv n1.L vc vk vi), l8 33, .slice p8 256 c8, .agg (nv n1.L vc vk vi), .bool true, .bool false, .bool false, .slice p8 256 c8, .int .i64 256, .bool false, .bool false, .bool false, .int .i64 a2, .bool false, .bool false, .slice p8 256 c8, .slice (some ⟨g, 0, none⟩) 256 c9, .slice (some ⟨g, 0, none⟩) 256 c9, .int .i64 a2, .int .i64 (k : Int), .pointer (some ⟨g, k, none⟩), .int .u8 y, .int .u8 a3, .int .u8 z, .pointer (some ⟨g, k, none⟩), .slice (some ⟨g, 0, none⟩) 256 c9, .bool true, .bool true, .slice p8 256 c8, V5, .bool true, .bool true]) (by kernel_rfl) ?_
      intro l12
      go_wp2_with fail
      go_ret
      exact ⟨rfl, hB'⟩


set_option maxRecDepth 100000 in
theorem lifted (os : Os) (started : os.Started) (H : Type) (enc : TypeId × Value → H) :
    ReturnsInHanded {} Try.checked os 4 .any (Rows.nodeAnySpec.pre6 enc Try.prog Try.f4 Rows.nodeAnyRow.domain false) (Rows.nodeAnySpec.post enc Try.prog Try.f4 false true false false) := by
  refine returnsInHanded_of_change (C := Try.checked) own started (by kernel_rfl) Try.func4
    (ChangeSpec.witness6 (enc := enc) (C := Try.checked) false ⟨#[], #[.slice none 0 0, .agg nn0, .int .i64 0, .int .u8 0], []⟩ 8 (by kernel_rfl) (by kernel_rfl) (by kernel_rfl) (by kernel_rfl)) ?_
  intro W base args ds gs before hval0 hW hcnd _
  have hval : ∀ (j : Nat) t v, Try.f4.params[j]? = some t → args[j]? = some v → Value.okWide Try.prog W .any base t v := hval0
  have hW' := hW
  obtain ⟨p, q, hA0, hV, rfl, hfz, hnd⟩ := hW
  have hA : DataW.TrodAll enc Try.prog W 0 (fun _ => true) true Try.f4.params.toList args.toList ds p := hA0
  rw [Try.params4] at hA hval
  obtain ⟨v0, vs0, d0, ds0, p0, q0, hargs, rfl, rfl, h0, r0⟩ := trodAll_cons hA
  obtain ⟨v1, vs1, d1, ds1, p1, q1, rfl, rfl, rfl, h1, r1⟩ := trodAll_cons r0
  obtain ⟨v2, vs2, d2, ds2, p2, q2, rfl, rfl, rfl, h2, r2⟩ := trodAll_cons r1
  obtain ⟨v3, vs3, d3, ds3, p3, q3, rfl, rfl, rfl, h3, r3⟩ := trodAll_cons r2
  obtain ⟨rfl, rfl, rfl⟩ := trodAll_nil r3
  obtain rfl : args = #[v0, v1, v2, v3] := by cases args; simp_all
  obtain ⟨rfl, rfl⟩ := trodVars_none hV
  obtain ⟨a0, len0, cap0, rfl⟩ := okWide_slice Try.underlying30 (hval 0 30 v0 rfl rfl)
  have k0 := h0
  have lt0 : ∀ x ∈ p0, x.block < W.heap.size := by obtain ⟨m, hm⟩ := k0; exact DataW.trod_lt m _ _ _ hm
  obtain ⟨z0, w0⟩ : ∃ zs, Sl W (.slice a0 len0 cap0) zs := by
    obtain ⟨fuel, hf⟩ := h0
    obtain ⟨a, len, cap, zs, hcs, hz⟩ := open_bytes Try.underlying30 Try.underlying5 (by kernel_rfl) hf
    simp [Value.cells] at hcs
    obtain ⟨rfl, rfl, rfl⟩ := hcs
    exact ⟨zs, hz⟩
  have k1 := h1
  have lt1 : ∀ x ∈ p1, x.block < W.heap.size := by obtain ⟨m, hm⟩ := k1; exact DataW.trod_lt m _ _ _ hm
  obtain ⟨n1, vc1, vk1, vi1, rfl, w1⟩ := open_node (hval 1 26 v1 rfl rfl) h1
  obtain ⟨a2, rfl, rfl, rfl, w2⟩ := open_int Try.underlying3 (hval 2 3 v2 rfl rfl) h2
  obtain ⟨a3, rfl, rfl, rfl, w3⟩ := open_int Try.underlying5 (hval 3 5 v3 rfl rfl) h3
  clear hA0 hval0
  refine (walk a0 len0 cap0 z0 n1 vc1 vk1 vi1 a2 a3 W w0 w1 w2 w3).mono fun e W' ⟨he, bel⟩ => ?_
  subst he
  exact ⟨_, rfl, _, _, _, [], _, [], hW', trodAll_mk1 (shut_bool Try.underlying4 _), (trodAll_cons_mk (Below.trod laidOut (by kernel_rfl) (of_decide_eq_true (by kernel_rfl)) k0 bel lt0) (trodAll_cons_mk (Below.trod laidOut (by kernel_rfl) (of_decide_eq_true (by kernel_rfl)) k1 bel lt1) (trodAll_cons_mk (shut_int Try.underlying3 w2) (trodAll_cons_mk (shut_int Try.underlying5 w3) trodAll_mk0)))), rfl, bel.frame _, fun h => by cases h⟩

theorem over : Rows.nodeAnyRow.holds Try.pinned (OpenSpec.ofChange Rows.nodeAnySpec) :=
  OpenClaim.holds_of_wide 4 Try.f4 rfl rfl rfl rfl rfl rfl rfl ⟨rfl, rfl, rfl, rfl, rfl⟩ rfl rfl rfl rfl rfl (by kernel_rfl) Try.func4 (by kernel_rfl)
    (of_decide_eq_true (by kernel_rfl)) (by unfold Func.isWrapper; first | (rw [if_pos (by decide +kernel)]; kernel_rfl) | (rw [if_neg (by decide +kernel)]; exact ⟨rfl, rfl⟩))
    (fun os started H enc _ => lifted os started H enc)

theorem proved : Rows.NodeAnySaid := over
#print axioms proved
end Go.Proofs.Ytbddghdkmakjlaa.nodeAny
