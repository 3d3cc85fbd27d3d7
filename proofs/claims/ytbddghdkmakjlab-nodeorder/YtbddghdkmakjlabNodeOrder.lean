/-
  For every node n and every two ints i and j NodeOrder returns true: of a node that may be (its lists cut to 40, its texts to 20 and 25 bytes) with two cells or two keys changed for one another May is true, and Encode tells no ErrForm, just if they are the same one. No condition.
-/
import Derived.Test.YtbddghdkmakjlabRows
import Derived.WalkKit
import Derived.ProofKit
import Derived.OpenShut
import Derived.ShutString
import Derived.ChangeOld
import Derived.Below
import Derived.Test.YtbddghdkmakjlabNodH
import Derived.Test.YtbddghdkmakjlabNodC
import Derived.Test.YtbddghdkmakjlabNodV
import Derived.Test.YtbddghdkmakjlabOnn
import Derived.Test.YtbddghdkmakjlabSwp
import Derived.Test.YtbddghdkmakjlabKrp
namespace Go.Proofs.Ytbddghdkmakjlab.nodeOrder
open Go.ChangeShapes Go.WideShapes Go.ChangeAt Go.RowKit
open Go.ChangeMaps (open_string shut_string)
set_option linter.unusedVariables false

theorem own : ownKnob Try.prog.godebug = none := by kernel_rfl
theorem laidOut : laidOutB Try.prog = true := by kernel_rfl

theorem refMay_at {vc vk vi : Value} {n : No} {w : World} {b : Bool} (h : Nb w vc vk vi n) (he : n.may = b) :
    Calls Try.prog 7 #[.agg (nv n.L vc vk vi)] w fun e w' => e = .returned (.bool b) ∧ Below w.heap.size w w' := by rw [← he]; exact refMayNode_any vc vk vi n w h


theorem rem_nat {x : Int} {n : Nat} (h0 : 0 ≤ x) (hn : 0 < n) : ∃ k : Nat, x.tmod (n : Int) = (k : Int) ∧ k < n := by
  have h1 := Int.emod_nonneg x (show (n : Int) ≠ 0 by omega)
  have h2 := Int.emod_lt_of_pos x (show (0 : Int) < (n : Int) by omega)
  refine ⟨(x % (n : Int)).toNat, ?_, by omega⟩
  rw [Int.tmod_eq_emod_of_nonneg h0]
  omega
theorem enc_at0 {vc vk vi : Value} {n : No} {w : World} (h : Nb w vc vk vi n) (hf : n.few) :
    Calls Try.prog 8 #[.agg (nv n.L vc vk vi)] w fun e w' => ∃ v', e = .returned (.tuple #[v', .int .i64 n.enc.2]) ∧ Below w.heap.size w w' := (encode_any vc vk vi n w h hf).mono fun _ _ ⟨v, h1, _, h3⟩ => ⟨v, h1, h3⟩
/-- The second node's variable and what it holds. -/
structure Mst (w0 w : World) (B b8 : Nat) (vc vk vi : Value) (M : No) : Prop where
  y : Bx w b8 (nv M.L vc vk vi)
  m : Cu w B vc vk vi M
  b : Below w0.heap.size w0 w
  l : w0.heap.size ≤ B
theorem Mst.later {w0 w w' : World} {B b8 : Nat} {vc vk vi : Value} {M : No} (h : Mst w0 w B b8 vc vk vi M) (hb : Below w.heap.size w w') : Mst w0 w' B b8 vc vk vi M := ⟨h.y.later hb, h.m.below hb, h.b.trans (hb.mono h.b.size), h.l⟩
theorem Mst.setC {w0 w : World} {B b8 g n c k : Nat} {vk vi : Value} {L : Bool} {C : List Ce} {K : List ByteArray} {I : List Int} (h : Mst w0 w B b8 (.slice (some ⟨g, 0, none⟩) n c) vk vi ⟨L, C, K, I⟩) (hn : n = C.length) (hk : k < C.length) (q : Ce) :
    Mst w0 (w.setCells g (k * 8) (cv q).toList) B b8 (.slice (some ⟨g, 0, none⟩) n c) vk vi ⟨L, C.set k q, K, I⟩ := by
  subst hn
  obtain ⟨h1, h2⟩ := own_setC q h.m.c hk
  have hx : ∃ u s, (cc C)[0]? = some u ∧ u = Value.string s := by
    cases C with
    | nil => simp at hk
    | cons c C => exact ⟨_, c.N, rfl, rfl⟩
  obtain ⟨u, s, hu, rfl⟩ := hx
  have hlt := h.m.c.lt g rfl
  refine ⟨h.y.grown h2 (bx_ne h.y rfl h.m.c hu (by simp) (by omega)), ⟨?_, h.m.k.kept h2 (own_apart h.m.k h.m.c (by decide)), h.m.i.kept h2 (own_apart h.m.i h.m.c (by decide))⟩, h.b.grown h2 h.b.size (fun j hj => ?_), h.l⟩
  · simpa using h1
  · have := Option.some.inj hj
    have := h.l
    omega
theorem Mst.setK {w0 w : World} {B b8 g n c k : Nat} {vc vi : Value} {L : Bool} {C : List Ce} {K : List ByteArray} {I : List Int} (h : Mst w0 w B b8 vc (.slice (some ⟨g, 0, none⟩) n c) vi ⟨L, C, K, I⟩) (hn : n = K.length) (hk : k < K.length) (q : ByteArray) :
    Mst w0 (w.setCell ⟨g, k, none⟩ (.string q)) B b8 vc (.slice (some ⟨g, 0, none⟩) n c) vi ⟨L, C, K.set k q, I⟩ := by
  subst hn
  obtain ⟨h1, h2⟩ := own_setK (a := k) q h.m.k
  have hx : ∃ s, (K.map Value.string)[0]? = some (.string s) := by
    cases K with
    | nil => simp at hk
    | cons c C => exact ⟨c, rfl⟩
  obtain ⟨s, hu⟩ := hx
  have hlt := h.m.k.lt g rfl
  refine ⟨h.y.grown h2 (bx_ne h.y rfl h.m.k hu (by simp) (by omega)), ⟨h.m.c.kept h2 (own_apart h.m.c h.m.k (by decide)), ?_, h.m.i.kept h2 (own_apart h.m.i h.m.k (by decide))⟩, h.b.grown h2 h.b.size (fun j hj => ?_), h.l⟩
  · simpa using h1
  · have := Option.some.inj hj
    have := h.l
    omega

set_option maxRecDepth 100000 in
set_option maxHeartbeats 16000000 in
theorem walk (n0 : No) (vc0 vk0 vi0 : Value) (a1 a2 : Int) (w : World) (w0 : Nb w vc0 vk0 vi0 n0) (w1 : (Lit.int .i64 a1).wf = true) (w2 : (Lit.int .i64 a2).wf = true) :
    Calls Try.prog 3 #[.agg (nv n0.L vc0 vk0 vi0), .int .i64 a1, .int .i64 a2] w fun e w' => e = .returned (.bool true) ∧ Below w.heap.size w w' := by
  have hN := w0
  clear w0 w1 w2
  go_enter Try.func3, Try.ntmps3
  have hB : Below w.heap.size w w := Below.refl _ _
  go_upto_region 0 with fail
  refine kl_start 126 (by kernel_rfl) ?_
  refine kl_box 0 (some 3) 26 (.tmp 0) (nv n0.L vc0 vk0 vi0) (by kernel_rfl) (by kernel_rfl) (by kernel_rfl) (by kernel_rfl) (by kernel_rfl) ?_
  intro W1 hb hX
  replace hN := hN.later hb
  replace hB := hB.trans (hb.mono hB.size)
  clear hb
  refine kl_take 1 (some 6) ((Value.bool false)) (by kernel_rfl) (by kernel_rfl) (by kernel_rfl) (by kernel_rfl) ?_
  refine kl_done (by kernel_rfl) (fun y1 => #[.agg (nv n0.L vc0 vk0 vi0), .int .i64 a1, .int .i64 a2, .pointer (some ⟨w.heap.size, 0, none⟩), undef, undef, (Value.bool false), undef, undef, undef, undef, undef, undef, undef, undef, undef, undef, undef, undef, undef, undef, undef, undef, undef, undef, undef, undef, undef, undef, undef, undef, undef, undef, undef, undef, undef, undef, undef, undef, undef, undef, undef, undef, undef, undef, undef, undef, undef, undef, undef, undef, undef, undef, undef, undef, undef, undef, undef, undef, undef, undef, undef, undef, undef, undef, undef, undef, undef, undef, undef, undef, undef, undef, undef, undef, undef, undef, undef, undef, undef, undef, undef, undef, undef, undef, undef, undef, undef, undef, undef, undef, undef, undef, undef, undef, undef, undef, undef, undef, undef, undef, undef, undef, undef, undef, undef, undef, undef, undef, undef, undef, undef, undef, undef, undef, undef, undef, undef, undef, undef, undef, undef, undef, undef, undef, undef]) (by kernel_rfl) ?_
  intro y1
  go_upto_region 1 with fail
  refine kl_start 126 (by kernel_rfl) ?_
  refine kl_callx 0 (some 16) (by kernel_rfl) (by kernel_rfl) (by kernel_rfl) (by kernel_rfl) (nbegun_any _) ?_
  rintro e x ⟨rfl, hb⟩
  refine ⟨_, rfl, ?_⟩
  replace hN := hN.later hb
  replace hX := hX.later hb
  replace hB := hB.trans (hb.mono hB.size)
  clear hb
  refine kl_take 1 (some 7) (.bool true) (by kernel_rfl) (by kernel_rfl) (by kernel_rfl) (by kernel_rfl) ?_
  refine kl_done (by kernel_rfl) (fun y2 => #[.agg (nv n0.L vc0 vk0 vi0), .int .i64 a1, .int .i64 a2, .pointer (some ⟨w.heap.size, 0, none⟩), undef, undef, (Value.bool false), .bool true, undef, undef, undef, undef, undef, undef, undef, undef, .bool true, undef, undef, undef, undef, undef, undef, undef, undef, undef, undef, undef, undef, undef, undef, undef, undef, undef, undef, undef, undef, undef, undef, undef, undef, undef, undef, undef, undef, undef, undef, undef, undef, undef, undef, undef, undef, undef, undef, undef, undef, undef, undef, undef, undef, undef, undef, undef, undef, undef, undef, undef, undef, undef, undef, undef, undef, undef, undef, undef, undef, undef, undef, undef, undef, undef, undef, undef, undef, undef, undef, undef, undef, undef, undef, undef, undef, undef, undef, undef, undef, undef, undef, undef, undef, undef, undef, undef, undef, undef, undef, undef, undef, undef, undef, undef, undef, undef, undef, undef, undef, undef, undef, undef, undef, undef, undef, undef, undef, undef]) (by kernel_rfl) ?_
  intro y2
  go_upto_region 2 with fail
  refine kl_start 126 (by kernel_rfl) ?_
  refine kl_take 0 (some 17) (.bool true) (by kernel_rfl) (by kernel_rfl) (by kernel_rfl) (by kernel_rfl) ?_
  refine kl_take 1 (some 18) (.bool false) (by kernel_rfl) (by kernel_rfl) (by kernel_rfl) (by kernel_rfl) ?_
  refine kl_done (by kernel_rfl) (fun y3 => #[.agg (nv n0.L vc0 vk0 vi0), .int .i64 a1, .int .i64 a2, .pointer (some ⟨w.heap.size, 0, none⟩), undef, undef, (Value.bool false), .bool true, undef, undef, undef, undef, undef, undef, undef, undef, .bool true, .bool true, .bool false, undef, undef, undef, undef, undef, undef, undef, undef, undef, undef, undef, undef, undef, undef, undef, undef, undef, undef, undef, undef, undef, undef, undef, undef, undef, undef, undef, undef, undef, undef, undef, undef, undef, undef, undef, undef, undef, undef, undef, undef, undef, undef, undef, undef, undef, undef, undef, undef, undef, undef, undef, undef, undef, undef, undef, undef, undef, undef, undef, undef, undef, undef, undef, undef, undef, undef, undef, undef, undef, undef, undef, undef, undef, undef, undef, undef, undef, undef, undef, undef, undef, undef, undef, undef, undef, undef, undef, undef, undef, undef, undef, undef, undef, undef, undef, undef, undef, undef, undef, undef, undef, undef, undef, undef, undef, undef, undef]) (by kernel_rfl) ?_
  intro y3
  go_upto_region 4 with fail
  refine kl_start 126 (by kernel_rfl) ?_
  refine kl_get 0 (some 19) 26 _ (.tmp 3) _ (nv n0.L vc0 vk0 vi0) (by kernel_rfl) (by kernel_rfl) (by kernel_rfl) (by kernel_rfl) (by kernel_rfl) hX tyM rfl ?_
  refine kl_callx 1 (some 20) (by kernel_rfl) (by kernel_rfl) (by kernel_rfl) (by kernel_rfl) (ncut_any vc0 vk0 vi0 n0 _ hN) ?_
  rintro e x ⟨vc, vk, vi, rfl, hcu, hb⟩
  refine ⟨_, rfl, ?_⟩
  replace hN := hN.later hb
  replace hX := hX.later hb
  replace hB := hB.trans (hb.mono hB.size)
  clear hb
  have hP := hcu.nb (No.cut_ok hN.ok)
  clear hcu
  refine kl_put 2 26 _ (.tmp 3) (.tmp 20) _ (nv n0.L vc vk vi) _ (by kernel_rfl) (by kernel_rfl) (by kernel_rfl) (by kernel_rfl) (by kernel_rfl) (by kernel_rfl) hX tyM rfl rfl (nv_one hP) ?_
  intro W4 hb4 hz4 hX4
  have pX := plain_nb (l := n0.L) hN
  replace hP := hP.beside hX pX hb4
  replace hB := Below.but hB hB.size hb4 (fun k e => by omega)
  clear hX hN hb4 hz4 pX
  have hX := hX4
  clear hX4
  refine kl_done (by kernel_rfl) (fun y4 => #[.agg (nv n0.L vc0 vk0 vi0), .int .i64 a1, .int .i64 a2, .pointer (some ⟨w.heap.size, 0, none⟩), undef, undef, (Value.bool false), .bool true, undef, undef, undef, undef, undef, undef, undef, undef, .bool true, .bool true, .bool false, y4 19, y4 20, undef, undef, undef, undef, undef, undef, undef, undef, undef, undef, undef, undef, undef, undef, undef, undef, undef, undef, undef, undef, undef, undef, undef, undef, undef, undef, undef, undef, undef, undef, undef, undef, undef, undef, undef, undef, undef, undef, undef, undef, undef, undef, undef, undef, undef, undef, undef, undef, undef, undef, undef, undef, undef, undef, undef, undef, undef, undef, undef, undef, undef, undef, undef, undef, undef, undef, undef, undef, undef, undef, undef, undef, undef, undef, undef, undef, undef, undef, undef, undef, undef, undef, undef, undef, undef, undef, undef, undef, undef, undef, undef, undef, undef, undef, undef, undef, undef, undef, undef, undef, undef, undef, undef, undef, undef]) (by kernel_rfl) ?_
  intro y4
  obtain ⟨P, hPe⟩ : ∃ P, P = n0.cut := ⟨_, rfl⟩
  have hLP : n0.L = P.L := by rw [hPe]; rfl
  have HSm : Hid (P.Small) := hide (by rw [hPe]; exact No.cut_small n0)
  rw [← hPe] at hP
  rw [hLP] at hX
  clear hPe
  obtain ⟨L, C, K, I⟩ := P
  change Bx _ _ (nv L vc vk vi) at hX
  cases hm : No.may ⟨L, C, K, I⟩
  · skip
    go_upto_region 5 with fail
    refine kl_start 126 (by kernel_rfl) ?_
    refine kl_get 0 (some 21) 26 _ (.tmp 3) _ (nv L vc vk vi) (by kernel_rfl) (by kernel_rfl) (by kernel_rfl) (by kernel_rfl) (by kernel_rfl) hX tyM rfl ?_
    refine kl_callx 1 (some 22) (by kernel_rfl) (by kernel_rfl) (by kernel_rfl) (by kernel_rfl) (refMay_at hP hm) ?_
    rintro e x ⟨rfl, hb⟩
    refine ⟨_, rfl, ?_⟩
    replace hX := hX.later hb
    replace hP := hP.later hb
    replace hB := hB.trans (hb.mono hB.size)
    clear hb
    refine kl_take 2 (some 23) (.bool true) (by kernel_rfl) (by kernel_rfl) (by kernel_rfl) (by kernel_rfl) ?_
    refine kl_take 3 (some 24) (.bool true) (by kernel_rfl) (by kernel_rfl) (by kernel_rfl) (by kernel_rfl) ?_
    refine kl_skip 4 (some 25) (by kernel_rfl) (by kernel_rfl) (by kernel_rfl) ?_
    refine kl_skip 5 (some 26) (by kernel_rfl) (by kernel_rfl) (by kernel_rfl) ?_
    refine kl_take 6 (some 27) (.bool true) (by kernel_rfl) (by kernel_rfl) (by kernel_rfl) (by kernel_rfl) ?_
    refine kl_take 7 (some 28) (.bool true) (by kernel_rfl) (by kernel_rfl) (by kernel_rfl) (by kernel_rfl) ?_
    refine kl_skip 8 (some 29) (by kernel_rfl) (by kernel_rfl) (by kernel_rfl) ?_
    refine kl_skip 9 (some 30) (by kernel_rfl) (by kernel_rfl) (by kernel_rfl) ?_
    refine kl_take 10 (some 31) (.bool true) (by kernel_rfl) (by kernel_rfl) (by kernel_rfl) (by kernel_rfl) ?_
    refine kl_done (by kernel_rfl) (fun e5 => #[.agg (nv n0.L vc0 vk0 vi0), .int .i64 a1, .int .i64 a2, .pointer (some ⟨w.heap.size, 0, none⟩), undef, undef, (Value.bool false), .bool true, undef, undef, undef, undef, undef, undef, undef, undef, .bool true, .bool true, .bool false, y4 19, y4 20, e5 21, .bool false, .bool true, .bool true, e5 25, e5 26, .bool true, .bool true, e5 29, e5 30, .bool true, undef, undef, undef, undef, undef, undef, undef, undef, undef, undef, undef, undef, undef, undef, undef, undef, undef, undef, undef, undef, undef, undef, undef, undef, undef, undef, undef, undef, undef, undef, undef, undef, undef, undef, undef, undef, undef, undef, undef, undef, undef, undef, undef, undef, undef, undef, undef, undef, undef, undef, undef, undef, undef, undef, undef, undef, undef, undef, undef, undef, undef, undef, undef, undef, undef, undef, undef, undef, undef, undef, undef, undef, undef, undef, undef, undef, undef, undef, undef, undef, undef, undef, undef, undef, undef, undef, undef, undef, undef, undef, undef, undef, undef, undef]) (by kernel_rfl) ?_
    intro e5
    go_wp2_with fail
    go_ret
    exact ⟨rfl, hB⟩
  · skip
    cases h1 : decide (a1 < 0)
    case true =>
      go_upto_region 5 with fail
      refine kl_start 126 (by kernel_rfl) ?_
      refine kl_get 0 (some 21) 26 _ (.tmp 3) _ (nv L vc vk vi) (by kernel_rfl) (by kernel_rfl) (by kernel_rfl) (by kernel_rfl) (by kernel_rfl) hX tyM rfl ?_
      refine kl_callx 1 (some 22) (by kernel_rfl) (by kernel_rfl) (by kernel_rfl) (by kernel_rfl) (refMay_at hP hm) ?_
      rintro e x ⟨rfl, hb⟩
      refine ⟨_, rfl, ?_⟩
      replace hX := hX.later hb
      replace hP := hP.later hb
      replace hB := hB.trans (hb.mono hB.size)
      clear hb
      refine kl_take 2 (some 23) (.bool false) (by kernel_rfl) (by kernel_rfl) (by kernel_rfl) (by kernel_rfl) ?_
      refine kl_take 3 (some 24) (.bool false) (by kernel_rfl) (by kernel_rfl) (by kernel_rfl) (by kernel_rfl) ?_
      refine kl_take 4 (some 25) (.int .i64 a1) (by kernel_rfl) (by kernel_rfl) (by kernel_rfl) (by kernel_rfl) ?_
      refine kl_test 5 (some 26) true (by kernel_rfl) (by kernel_rfl) (by kernel_rfl) (h1) (by kernel_rfl) ?_
      refine kl_take 6 (some 27) (.bool true) (by kernel_rfl) (by kernel_rfl) (by kernel_rfl) (by kernel_rfl) ?_
      refine kl_take 7 (some 28) (.bool true) (by kernel_rfl) (by kernel_rfl) (by kernel_rfl) (by kernel_rfl) ?_
      refine kl_skip 8 (some 29) (by kernel_rfl) (by kernel_rfl) (by kernel_rfl) ?_
      refine kl_skip 9 (some 30) (by kernel_rfl) (by kernel_rfl) (by kernel_rfl) ?_
      refine kl_take 10 (some 31) (.bool true) (by kernel_rfl) (by kernel_rfl) (by kernel_rfl) (by kernel_rfl) ?_
      refine kl_done (by kernel_rfl) (fun e5 => #[.agg (nv n0.L vc0 vk0 vi0), .int .i64 a1, .int .i64 a2, .pointer (some ⟨w.heap.size, 0, none⟩), undef, undef, (Value.bool false), .bool true, undef, undef, undef, undef, undef, undef, undef, undef, .bool true, .bool true, .bool false, y4 19, y4 20, e5 21, .bool true, .bool false, .bool false, .int .i64 a1, .bool true, .bool true, .bool true, e5 29, e5 30, .bool true, undef, undef, undef, undef, undef, undef, undef, undef, undef, undef, undef, undef, undef, undef, undef, undef, undef, undef, undef, undef, undef, undef, undef, undef, undef, undef, undef, undef, undef, undef, undef, undef, undef, undef, undef, undef, undef, undef, undef, undef, undef, undef, undef, undef, undef, undef, undef, undef, undef, undef, undef, undef, undef, undef, undef, undef, undef, undef, undef, undef, undef, undef, undef, undef, undef, undef, undef, undef, undef, undef, undef, undef, undef, undef, undef, undef, undef, undef, undef, undef, undef, undef, undef, undef, undef, undef, undef, undef, undef, undef, undef, undef, undef, undef]) (by kernel_rfl) ?_
      intro e5
      go_wp2_with fail
      go_ret
      exact ⟨rfl, hB⟩
    cases h2 : decide (a2 < 0)
    case true =>
      go_upto_region 5 with fail
      refine kl_start 126 (by kernel_rfl) ?_
      refine kl_get 0 (some 21) 26 _ (.tmp 3) _ (nv L vc vk vi) (by kernel_rfl) (by kernel_rfl) (by kernel_rfl) (by kernel_rfl) (by kernel_rfl) hX tyM rfl ?_
      refine kl_callx 1 (some 22) (by kernel_rfl) (by kernel_rfl) (by kernel_rfl) (by kernel_rfl) (refMay_at hP hm) ?_
      rintro e x ⟨rfl, hb⟩
      refine ⟨_, rfl, ?_⟩
      replace hX := hX.later hb
      replace hP := hP.later hb
      replace hB := hB.trans (hb.mono hB.size)
      clear hb
      refine kl_take 2 (some 23) (.bool false) (by kernel_rfl) (by kernel_rfl) (by kernel_rfl) (by kernel_rfl) ?_
      refine kl_take 3 (some 24) (.bool false) (by kernel_rfl) (by kernel_rfl) (by kernel_rfl) (by kernel_rfl) ?_
      refine kl_take 4 (some 25) (.int .i64 a1) (by kernel_rfl) (by kernel_rfl) (by kernel_rfl) (by kernel_rfl) ?_
      refine kl_test 5 (some 26) false (by kernel_rfl) (by kernel_rfl) (by kernel_rfl) (h1) (by kernel_rfl) ?_
      refine kl_take 6 (some 27) (.bool false) (by kernel_rfl) (by kernel_rfl) (by kernel_rfl) (by kernel_rfl) ?_
      refine kl_take 7 (some 28) (.bool false) (by kernel_rfl) (by kernel_rfl) (by kernel_rfl) (by kernel_rfl) ?_
      refine kl_take 8 (some 29) (.int .i64 a2) (by kernel_rfl) (by kernel_rfl) (by kernel_rfl) (by kernel_rfl) ?_
      refine kl_test 9 (some 30) true (by kernel_rfl) (by kernel_rfl) (by kernel_rfl) (h2) (by kernel_rfl) ?_
      refine kl_take 10 (some 31) (.bool true) (by kernel_rfl) (by kernel_rfl) (by kernel_rfl) (by kernel_rfl) ?_
      refine kl_done (by kernel_rfl) (fun e5 => #[.agg (nv n0.L vc0 vk0 vi0), .int .i64 a1, .int .i64 a2, .pointer (some ⟨w.heap.size, 0, none⟩), undef, undef, (Value.bool false), .bool true, undef, undef, undef, undef, undef, undef, undef, undef, .bool true, .bool true, .bool false, y4 19, y4 20, e5 21, .bool true, .bool false, .bool false, .int .i64 a1, .bool false, .bool false, .bool false, .int .i64 a2, .bool true, .bool true, undef, undef, undef, undef, undef, undef, undef, undef, undef, undef, undef, undef, undef, undef, undef, undef, undef, undef, undef, undef, undef, undef, undef, undef, undef, undef, undef, undef, undef, undef, undef, undef, undef, undef, undef, undef, undef, undef, undef, undef, undef, undef, undef, undef, undef, undef, undef, undef, undef, undef, undef, undef, undef, undef, undef, undef, undef, undef, undef, undef, undef, undef, undef, undef, undef, undef, undef, undef, undef, undef, undef, undef, undef, undef, undef, undef, undef, undef, undef, undef, undef, undef, undef, undef, undef, undef, undef, undef, undef, undef, undef, undef, undef, undef]) (by kernel_rfl) ?_
      intro e5
      go_wp2_with fail
      go_ret
      exact ⟨rfl, hB⟩
    go_upto_region 5 with fail
    refine kl_start 126 (by kernel_rfl) ?_
    refine kl_get 0 (some 21) 26 _ (.tmp 3) _ (nv L vc vk vi) (by kernel_rfl) (by kernel_rfl) (by kernel_rfl) (by kernel_rfl) (by kernel_rfl) hX tyM rfl ?_
    refine kl_callx 1 (some 22) (by kernel_rfl) (by kernel_rfl) (by kernel_rfl) (by kernel_rfl) (refMay_at hP hm) ?_
    rintro e x ⟨rfl, hb⟩
    refine ⟨_, rfl, ?_⟩
    replace hX := hX.later hb
    replace hP := hP.later hb
    replace hB := hB.trans (hb.mono hB.size)
    clear hb
    refine kl_take 2 (some 23) (.bool false) (by kernel_rfl) (by kernel_rfl) (by kernel_rfl) (by kernel_rfl) ?_
    refine kl_take 3 (some 24) (.bool false) (by kernel_rfl) (by kernel_rfl) (by kernel_rfl) (by kernel_rfl) ?_
    refine kl_take 4 (some 25) (.int .i64 a1) (by kernel_rfl) (by kernel_rfl) (by kernel_rfl) (by kernel_rfl) ?_
    refine kl_test 5 (some 26) false (by kernel_rfl) (by kernel_rfl) (by kernel_rfl) (h1) (by kernel_rfl) ?_
    refine kl_take 6 (some 27) (.bool false) (by kernel_rfl) (by kernel_rfl) (by kernel_rfl) (by kernel_rfl) ?_
    refine kl_take 7 (some 28) (.bool false) (by kernel_rfl) (by kernel_rfl) (by kernel_rfl) (by kernel_rfl) ?_
    refine kl_take 8 (some 29) (.int .i64 a2) (by kernel_rfl) (by kernel_rfl) (by kernel_rfl) (by kernel_rfl) ?_
    refine kl_test 9 (some 30) false (by kernel_rfl) (by kernel_rfl) (by kernel_rfl) (h2) (by kernel_rfl) ?_
    refine kl_take 10 (some 31) (.bool false) (by kernel_rfl) (by kernel_rfl) (by kernel_rfl) (by kernel_rfl) ?_
    refine kl_done (by kernel_rfl) (fun e5 => #[.agg (nv n0.L vc0 vk0 vi0), .int .i64 a1, .int .i64 a2, .pointer (some ⟨w.heap.size, 0, none⟩), undef, undef, (Value.bool false), .bool true, undef, undef, undef, undef, undef, undef, undef, undef, .bool true, .bool true, .bool false, y4 19, y4 20, e5 21, .bool true, .bool false, .bool false, .int .i64 a1, .bool false, .bool false, .bool false, .int .i64 a2, .bool false, .bool false, undef, undef, undef, undef, undef, undef, undef, undef, undef, undef, undef, undef, undef, undef, undef, undef, undef, undef, undef, undef, undef, undef, undef, undef, undef, undef, undef, undef, undef, undef, undef, undef, undef, undef, undef, undef, undef, undef, undef, undef, undef, undef, undef, undef, undef, undef, undef, undef, undef, undef, undef, undef, undef, undef, undef, undef, undef, undef, undef, undef, undef, undef, undef, undef, undef, undef, undef, undef, undef, undef, undef, undef, undef, undef, undef, undef, undef, undef, undef, undef, undef, undef, undef, undef, undef, undef, undef, undef, undef, undef, undef, undef, undef, undef]) (by kernel_rfl) ?_
    intro e5
    have H1 : 0 ≤ a1 := by have := of_decide_eq_false h1; omega
    have H2 : 0 ≤ a2 := by have := of_decide_eq_false h2; omega
    have HM := hide hm
    clear h1 h2 hm
    go_upto_region 7 with fail
    refine kl_start 126 (by kernel_rfl) ?_
    refine kl_get 0 (some 32) 26 _ (.tmp 3) _ (nv L vc vk vi) (by kernel_rfl) (by kernel_rfl) (by kernel_rfl) (by kernel_rfl) (by kernel_rfl) hX tyM rfl ?_
    have hlt0 := hB.size
    refine kl_callx 1 (some 33) (by kernel_rfl) (by kernel_rfl) (by kernel_rfl) (by kernel_rfl) (ncut_any vc vk vi ⟨L, C, K, I⟩ _ hP) ?_
    rintro e xm ⟨vcm, vkm, vim, rfl, hcu, hb⟩
    refine ⟨_, rfl, ?_⟩
    replace hX := hX.later hb
    replace hP := hP.later hb
    replace hB := hB.trans (hb.mono hB.size)
    clear hb
    rw [No.cut_same HSm.out] at hcu
    generalize x.heap.size = B at hcu hlt0
    refine kl_new 2 (some 8) 26 _ (by kernel_rfl) (by kernel_rfl) (by kernel_rfl) (by kernel_rfl) tyM ?_
    intro Wn hb hY0
    have hBn := hb
    generalize hbn2 : xm.heap.size = b8 at hY0 ⊢
    refine kl_put 3 26 _ (.tmp 8) (.tmp 33) _ (nv L vcm vkm vim) _ (by kernel_rfl) (by kernel_rfl) (by kernel_rfl) (by kernel_rfl) (by kernel_rfl) (by kernel_rfl) hY0 tyM rfl rfl (nv_one ((hcu.nb hP.ok).later hBn)) ?_
    intro Z hbp hsp hY
    rw [← hbn2] at hbp
    have hbz := newput hBn hbp
    have hT : Mst w Z B b8 vcm vkm vim ⟨L, C, K, I⟩ := ⟨hY, hcu.below hbz, hB.trans (hbz.mono hB.size), hlt0⟩
    replace hX := hX.later hbz
    replace hP := hP.later hbz
    clear hb hY0 hBn hbp hsp hbz hbn2 hcu hY hB hlt0
    refine kl_done (by kernel_rfl) (fun e6 => #[.agg (nv n0.L vc0 vk0 vi0), .int .i64 a1, .int .i64 a2, .pointer (some ⟨w.heap.size, 0, none⟩), undef, undef, (Value.bool false), .bool true, .pointer (some ⟨b8, 0, none⟩), undef, undef, undef, undef, undef, undef, undef, .bool true, .bool true, .bool false, y4 19, y4 20, e5 21, .bool true, .bool false, .bool false, .int .i64 a1, .bool false, .bool false, .bool false, .int .i64 a2, .bool false, .bool false, e6 32, e6 33, undef, undef, undef, undef, undef, undef, undef, undef, undef, undef, undef, undef, undef, undef, undef, undef, undef, undef, undef, undef, undef, undef, undef, undef, undef, undef, undef, undef, undef, undef, undef, undef, undef, undef, undef, undef, undef, undef, undef, undef, undef, undef, undef, undef, undef, undef, undef, undef, undef, undef, undef, undef, undef, undef, undef, undef, undef, undef, undef, undef, undef, undef, undef, undef, undef, undef, undef, undef, undef, undef, undef, undef, undef, undef, undef, undef, undef, undef, undef, undef, undef, undef, undef, undef, undef, undef, undef, undef, undef, undef, undef, undef]) (by kernel_rfl) ?_
    intro e6
    go_upto_region 8 with fail
    refine kl_start 126 (by kernel_rfl) ?_
    refine kl_take 0 (some 9) ((Value.bool true)) (by kernel_rfl) (by kernel_rfl) (by kernel_rfl) (by kernel_rfl) ?_
    refine kl_done (by kernel_rfl) (fun e7 => #[.agg (nv n0.L vc0 vk0 vi0), .int .i64 a1, .int .i64 a2, .pointer (some ⟨w.heap.size, 0, none⟩), undef, undef, (Value.bool false), .bool true, .pointer (some ⟨b8, 0, none⟩), (Value.bool true), undef, undef, undef, undef, undef, undef, .bool true, .bool true, .bool false, y4 19, y4 20, e5 21, .bool true, .bool false, .bool false, .int .i64 a1, .bool false, .bool false, .bool false, .int .i64 a2, .bool false, .bool false, e6 32, e6 33, undef, undef, undef, undef, undef, undef, undef, undef, undef, undef, undef, undef, undef, undef, undef, undef, undef, undef, undef, undef, undef, undef, undef, undef, undef, undef, undef, undef, undef, undef, undef, undef, undef, undef, undef, undef, undef, undef, undef, undef, undef, undef, undef, undef, undef, undef, undef, undef, undef, undef, undef, undef, undef, undef, undef, undef, undef, undef, undef, undef, undef, undef, undef, undef, undef, undef, undef, undef, undef, undef, undef, undef, undef, undef, undef, undef, undef, undef, undef, undef, undef, undef, undef, undef, undef, undef, undef, undef, undef, undef, undef, undef]) (by kernel_rfl) ?_
    intro e7
    obtain ⟨pc, nc, cc0, rfl, -, -, hnc, -⟩ := hP.c.opens
    obtain ⟨pk, nk, ck, rfl, -, -, hnk, -⟩ := hP.k.opens
    have hnc := hnc.out
    have hnk := hnk.out
    simp only at hnc hnk
    have HOkP : Hid (No.Ok ⟨L, C, K, I⟩) := hide hP.ok
    have HFwP : Hid (No.few ⟨L, C, K, I⟩) := hide (show C.length ≤ 100000 from Nat.le_trans HSm.out.c (by omega))
    cases hL : L
    · skip
      go_upto_region 9 with fail
      refine kl_start 126 (by kernel_rfl) ?_
      refine kl_take 0 (some 34) (.pointer (some ⟨w.heap.size, 0, none⟩)) (by kernel_rfl) (by kernel_rfl) (by kernel_rfl) (by kernel_rfl) ?_
      refine kl_load 1 (some 35) (.bool false) 4 (.tmp 34) (by kernel_rfl) (by kernel_rfl) (by kernel_rfl) (by kernel_rfl) (by kernel_rfl) (ld_bo (by have := hX.nodes.1; rw [hL] at this; exact this)) ?_
      refine kl_take 2 (some 36) (.bool false) (by kernel_rfl) (by kernel_rfl) (by kernel_rfl) (by kernel_rfl) ?_
      refine kl_skip 3 (some 37) (by kernel_rfl) (by kernel_rfl) (by kernel_rfl) ?_
      refine kl_skip 4 (some 38) (by kernel_rfl) (by kernel_rfl) (by kernel_rfl) ?_
      refine kl_skip 5 (some 39) (by kernel_rfl) (by kernel_rfl) (by kernel_rfl) ?_
      refine kl_skip 6 (some 40) (by kernel_rfl) (by kernel_rfl) (by kernel_rfl) ?_
      refine kl_take 7 (some 41) (.bool false) (by kernel_rfl) (by kernel_rfl) (by kernel_rfl) (by kernel_rfl) ?_
      refine kl_done (by kernel_rfl) (fun f8 => #[.agg (nv n0.L vc0 vk0 vi0), .int .i64 a1, .int .i64 a2, .pointer (some ⟨w.heap.size, 0, none⟩), undef, undef, (Value.bool false), .bool true, .pointer (some ⟨b8, 0, none⟩), (Value.bool true), undef, undef, undef, undef, undef, undef, .bool true, .bool true, .bool false, y4 19, y4 20, e5 21, .bool true, .bool false, .bool false, .int .i64 a1, .bool false, .bool false, .bool false, .int .i64 a2, .bool false, .bool false, e6 32, e6 33, .pointer (some ⟨w.heap.size, 0, none⟩), .bool false, .bool false, f8 37, f8 38, f8 39, f8 40, .bool false, undef, undef, undef, undef, undef, undef, undef, undef, undef, undef, undef, undef, undef, undef, undef, undef, undef, undef, undef, undef, undef, undef, undef, undef, undef, undef, undef, undef, undef, undef, undef, undef, undef, undef, undef, undef, undef, undef, undef, undef, undef, undef, undef, undef, undef, undef, undef, undef, undef, undef, undef, undef, undef, undef, undef, undef, undef, undef, undef, undef, undef, undef, undef, undef, undef, undef, undef, undef, undef, undef, undef, undef, undef, undef, undef, undef, undef, undef, undef, undef, undef, undef, undef, undef]) (by kernel_rfl) ?_
      intro f8
      cases hkt : decide ((1 : Int) < (nk : Int))
      · skip
        go_upto_region 13 with fail
        refine kl_start 126 (by kernel_rfl) ?_
        refine kl_take 0 (some 73) (.pointer (some ⟨w.heap.size, 2, none⟩)) (by kernel_rfl) (by kernel_rfl) (by kernel_rfl) (by kernel_rfl) ?_
        refine kl_load 1 (some 74) (.slice pk nk ck) 23 (.tmp 73) (by kernel_rfl) (by kernel_rfl) (by kernel_rfl) (by kernel_rfl) (by kernel_rfl) (ld_ts hX.nodes.2.2.1) ?_
        refine kl_take 2 (some 75) (.int .i64 (nk : Int)) (by kernel_rfl) (by kernel_rfl) (by kernel_rfl) (by kernel_rfl) ?_
        refine kl_test 3 (some 76) false (by kernel_rfl) (by kernel_rfl) (by kernel_rfl) (hkt) (by kernel_rfl) ?_
        refine kl_done (by kernel_rfl) (fun fa9 => #[.agg (nv n0.L vc0 vk0 vi0), .int .i64 a1, .int .i64 a2, .pointer (some ⟨w.heap.size, 0, none⟩), undef, undef, (Value.bool false), .bool true, .pointer (some ⟨b8, 0, none⟩), (Value.bool true), undef, undef, undef, undef, undef, undef, .bool true, .bool true, .bool false, y4 19, y4 20, e5 21, .bool true, .bool false, .bool false, .int .i64 a1, .bool false, .bool false, .bool false, .int .i64 a2, .bool false, .bool false, e6 32, e6 33, .pointer (some ⟨w.heap.size, 0, none⟩), .bool false, .bool false, f8 37, f8 38, f8 39, f8 40, .bool false, undef, undef, undef, undef, undef, undef, undef, undef, undef, undef, undef, undef, undef, undef, undef, undef, undef, undef, undef, undef, undef, undef, undef, undef, undef, undef, undef, undef, undef, undef, undef, .pointer (some ⟨w.heap.size, 2, none⟩), .slice pk nk ck, .int .i64 (nk : Int), .bool false, undef, undef, undef, undef, undef, undef, undef, undef, undef, undef, undef, undef, undef, undef, undef, undef, undef, undef, undef, undef, undef, undef, undef, undef, undef, undef, undef, undef, undef, undef, undef, undef, undef, undef, undef, undef, undef, undef, undef, undef, undef, undef, undef, undef, undef, undef, undef, undef, undef]) (by kernel_rfl) ?_
        intro fa9
        clear hX hP
        have HMm := HM
        have HOk := HOkP
        have HFw := HFwP
        have hNM : Nb _ (vcm) (vkm) vim ⟨L, C, K, I⟩ := hT.m.nb HOk.out
        have hY := hT.y
        have hB := hT.b
        clear hT
        go_upto_region 17 with fail
        refine kl_start 126 (by kernel_rfl) ?_
        refine kl_get 0 (some 109) 26 _ (.tmp 8) _ (nv L (vcm) (vkm) vim) (by kernel_rfl) (by kernel_rfl) (by kernel_rfl) (by kernel_rfl) (by kernel_rfl) hY tyM rfl ?_
        refine kl_callx 1 (some 110) (by kernel_rfl) (by kernel_rfl) (by kernel_rfl) (by kernel_rfl) (nof_any (vcm) (vkm) vim ⟨L, C, K, I⟩ _ hNM HFw.out) ?_
        rintro e x ⟨ve, rfl, hve, hb⟩
        refine ⟨_, rfl, ?_⟩
        replace hY := hY.later hb
        replace hNM := hNM.later hb
        replace hB := hB.trans (hb.mono hB.size)
        clear hb
        refine kl_callx 2 (some 111) (by kernel_rfl) (by kernel_rfl) (by kernel_rfl) (by kernel_rfl) (enc_at0 hve HFw.out) ?_
        rintro e x ⟨v8, rfl, hb⟩
        refine ⟨_, rfl, ?_⟩
        replace hY := hY.later hb
        replace hNM := hNM.later hb
        replace hve := hve.later hb
        replace hB := hB.trans (hb.mono hB.size)
        clear hb
        refine kl_take 3 (some 108) (.tuple #[v8, .int .i64 (No.enc ⟨L, C, K, I⟩).2]) (by kernel_rfl) (by kernel_rfl) (by kernel_rfl) (by kernel_rfl) ?_
        refine kl_take 4 (some 112) (v8) (by kernel_rfl) (by kernel_rfl) (by kernel_rfl) (by kernel_rfl) ?_
        refine kl_take 5 (some 113) (.int .i64 (No.enc ⟨L, C, K, I⟩).2) (by kernel_rfl) (by kernel_rfl) (by kernel_rfl) (by kernel_rfl) ?_
        refine kl_take 6 (some 14) (v8) (by kernel_rfl) (by kernel_rfl) (by kernel_rfl) (by kernel_rfl) ?_
        refine kl_take 7 (some 15) (.int .i64 (No.enc ⟨L, C, K, I⟩).2) (by kernel_rfl) (by kernel_rfl) (by kernel_rfl) (by kernel_rfl) ?_
        refine kl_done (by kernel_rfl) (fun fa10 => #[.agg (nv n0.L vc0 vk0 vi0), .int .i64 a1, .int .i64 a2, .pointer (some ⟨w.heap.size, 0, none⟩), undef, undef, (Value.bool false), .bool true, .pointer (some ⟨b8, 0, none⟩), (Value.bool true), undef, undef, undef, undef, v8, .int .i64 (No.enc ⟨L, C, K, I⟩).2, .bool true, .bool true, .bool false, y4 19, y4 20, e5 21, .bool true, .bool false, .bool false, .int .i64 a1, .bool false, .bool false, .bool false, .int .i64 a2, .bool false, .bool false, e6 32, e6 33, .pointer (some ⟨w.heap.size, 0, none⟩), .bool false, .bool false, f8 37, f8 38, f8 39, f8 40, .bool false, undef, undef, undef, undef, undef, undef, undef, undef, undef, undef, undef, undef, undef, undef, undef, undef, undef, undef, undef, undef, undef, undef, undef, undef, undef, undef, undef, undef, undef, undef, undef, .pointer (some ⟨w.heap.size, 2, none⟩), .slice pk nk ck, .int .i64 (nk : Int), .bool false, undef, undef, undef, undef, undef, undef, undef, undef, undef, undef, undef, undef, undef, undef, undef, undef, undef, undef, undef, undef, undef, undef, undef, undef, undef, undef, undef, undef, undef, undef, undef, fa10 108, fa10 109, fa10 110, fa10 111, fa10 112, .int .i64 (No.enc ⟨L, C, K, I⟩).2, undef, undef, undef, undef, undef, undef, undef, undef, undef, undef, undef, undef]) (by kernel_rfl) ?_
        intro fa10
        go_upto_region 18 with fail
        refine kl_start 126 (by kernel_rfl) ?_
        refine kl_get 0 (some 114) 26 _ (.tmp 8) _ (nv L (vcm) (vkm) vim) (by kernel_rfl) (by kernel_rfl) (by kernel_rfl) (by kernel_rfl) (by kernel_rfl) hY tyM rfl ?_
        refine kl_callx 1 (some 115) (by kernel_rfl) (by kernel_rfl) (by kernel_rfl) (by kernel_rfl) (nof_any (vcm) (vkm) vim ⟨L, C, K, I⟩ _ hNM HFw.out) ?_
        rintro e x ⟨vf, rfl, hvf, hb⟩
        refine ⟨_, rfl, ?_⟩
        replace hY := hY.later hb
        replace hNM := hNM.later hb
        replace hve := hve.later hb
        replace hB := hB.trans (hb.mono hB.size)
        clear hb
        refine kl_callx 2 (some 116) (by kernel_rfl) (by kernel_rfl) (by kernel_rfl) (by kernel_rfl) (may_at hvf HMm.out) ?_
        rintro e x ⟨rfl, hb⟩
        refine ⟨_, rfl, ?_⟩
        replace hY := hY.later hb
        replace hNM := hNM.later hb
        replace hve := hve.later hb
        replace hvf := hvf.later hb
        replace hB := hB.trans (hb.mono hB.size)
        clear hb
        refine kl_take 3 (some 117) ((Value.bool true)) (by kernel_rfl) (by kernel_rfl) (by kernel_rfl) (by kernel_rfl) ?_
        refine kl_take 4 (some 118) (.bool true) (by kernel_rfl) (by kernel_rfl) (by kernel_rfl) (by kernel_rfl) ?_
        refine kl_take 5 (some 119) (.bool true) (by kernel_rfl) (by kernel_rfl) (by kernel_rfl) (by kernel_rfl) ?_
        refine kl_take 6 (some 120) ((Value.bool true)) (by kernel_rfl) (by kernel_rfl) (by kernel_rfl) (by kernel_rfl) ?_
        refine kl_take 7 (some 121) ((Value.bool true)) (by kernel_rfl) (by kernel_rfl) (by kernel_rfl) (by kernel_rfl) ?_
        refine kl_skip 8 (some 122) (by kernel_rfl) (by kernel_rfl) (by kernel_rfl) ?_
        refine kl_skip 9 (some 123) (by kernel_rfl) (by kernel_rfl) (by kernel_rfl) ?_
        refine kl_take 10 (some 124) (.bool true) (by kernel_rfl) (by kernel_rfl) (by kernel_rfl) (by kernel_rfl) ?_
        refine kl_take 11 (some 125) (.bool true) (by kernel_rfl) (by kernel_rfl) (by kernel_rfl) (by kernel_rfl) ?_
        refine kl_take 12 (some 6) (.bool true) (by kernel_rfl) (by kernel_rfl) (by kernel_rfl) (by kernel_rfl) ?_
        refine kl_done (by kernel_rfl) (fun fa11 => #[.agg (nv n0.L vc0 vk0 vi0), .int .i64 a1, .int .i64 a2, .pointer (some ⟨w.heap.size, 0, none⟩), undef, undef, .bool true, .bool true, .pointer (some ⟨b8, 0, none⟩), (Value.bool true), undef, undef, undef, undef, v8, .int .i64 (No.enc ⟨L, C, K, I⟩).2, .bool true, .bool true, .bool false, y4 19, y4 20, e5 21, .bool true, .bool false, .bool false, .int .i64 a1, .bool false, .bool false, .bool false, .int .i64 a2, .bool false, .bool false, e6 32, e6 33, .pointer (some ⟨w.heap.size, 0, none⟩), .bool false, .bool false, f8 37, f8 38, f8 39, f8 40, .bool false, undef, undef, undef, undef, undef, undef, undef, undef, undef, undef, undef, undef, undef, undef, undef, undef, undef, undef, undef, undef, undef, undef, undef, undef, undef, undef, undef, undef, undef, undef, undef, .pointer (some ⟨w.heap.size, 2, none⟩), .slice pk nk ck, .int .i64 (nk : Int), .bool false, undef, undef, undef, undef, undef, undef, undef, undef, undef, undef, undef, undef, undef, undef, undef, undef, undef, undef, undef, undef, undef, undef, undef, undef, undef, undef, undef, undef, undef, undef, undef, fa10 108, fa10 109, fa10 110, fa10 111, fa10 112, .int .i64 (No.enc ⟨L, C, K, I⟩).2, .agg (nv L (vcm) (vkm) vim), .agg (nv L vf (vkm) vim), .bool true, (Value.bool true), .bool true, .bool true, (Value.bool true), (Value.bool true), fa11 122, fa11 123, .bool true, .bool true]) (by kernel_rfl) ?_
        intro fa11
        go_wp2_with fail
        go_ret
        exact ⟨rfl, hB⟩
      · skip
        go_upto_region 13 with fail
        refine kl_start 126 (by kernel_rfl) ?_
        refine kl_take 0 (some 73) (.pointer (some ⟨w.heap.size, 2, none⟩)) (by kernel_rfl) (by kernel_rfl) (by kernel_rfl) (by kernel_rfl) ?_
        refine kl_load 1 (some 74) (.slice pk nk ck) 23 (.tmp 73) (by kernel_rfl) (by kernel_rfl) (by kernel_rfl) (by kernel_rfl) (by kernel_rfl) (ld_ts hX.nodes.2.2.1) ?_
        refine kl_take 2 (some 75) (.int .i64 (nk : Int)) (by kernel_rfl) (by kernel_rfl) (by kernel_rfl) (by kernel_rfl) ?_
        refine kl_test 3 (some 76) true (by kernel_rfl) (by kernel_rfl) (by kernel_rfl) (hkt) (by kernel_rfl) ?_
        refine kl_done (by kernel_rfl) (fun fb9 => #[.agg (nv n0.L vc0 vk0 vi0), .int .i64 a1, .int .i64 a2, .pointer (some ⟨w.heap.size, 0, none⟩), undef, undef, (Value.bool false), .bool true, .pointer (some ⟨b8, 0, none⟩), (Value.bool true), undef, undef, undef, undef, undef, undef, .bool true, .bool true, .bool false, y4 19, y4 20, e5 21, .bool true, .bool false, .bool false, .int .i64 a1, .bool false, .bool false, .bool false, .int .i64 a2, .bool false, .bool false, e6 32, e6 33, .pointer (some ⟨w.heap.size, 0, none⟩), .bool false, .bool false, f8 37, f8 38, f8 39, f8 40, .bool false, undef, undef, undef, undef, undef, undef, undef, undef, undef, undef, undef, undef, undef, undef, undef, undef, undef, undef, undef, undef, undef, undef, undef, undef, undef, undef, undef, undef, undef, undef, undef, .pointer (some ⟨w.heap.size, 2, none⟩), .slice pk nk ck, .int .i64 (nk : Int), .bool true, undef, undef, undef, undef, undef, undef, undef, undef, undef, undef, undef, undef, undef, undef, undef, undef, undef, undef, undef, undef, undef, undef, undef, undef, undef, undef, undef, undef, undef, undef, undef, undef, undef, undef, undef, undef, undef, undef, undef, undef, undef, undef, undef, undef, undef, undef, undef, undef, undef]) (by kernel_rfl) ?_
        intro fb9
        have hkt := of_decide_eq_true hkt
        obtain ⟨lm, hlm⟩ : ∃ lm, nk = lm + 1 := ⟨nk - 1, by omega⟩
        subst hlm
        obtain ⟨ka, hka, hka2⟩ := rem_nat (n := lm + 1) H1 (by omega)
        obtain ⟨kb, hkb, hkb2⟩ := rem_nat (n := lm + 1) H2 (by omega)
        go_upto_region 14 with fail
        refine ka_start 126 12 (by kernel_rfl) (by kernel_rfl) (by kernel_rfl) ?_
        intro ZA hb
        replace hX := hX.later hb
        replace hP := hP.later hb
        replace hT := hT.later hb
        clear hb
        refine ka_pure 0 (some 77) (.int .i64 a1) (by kernel_rfl) (by kernel_rfl) (by kernel_rfl) (by kernel_rfl) (by kernel_rfl) (by kernel_rfl) (fun _ => by kernel_rfl) ?_
        refine ka_pure 1 (some 78) (.pointer (some ⟨w.heap.size, 2, none⟩)) (by kernel_rfl) (by kernel_rfl) (by kernel_rfl) (by kernel_rfl) (by kernel_rfl) (by kernel_rfl) (fun _ => by kernel_rfl) ?_
        refine ka_load 2 (some 79) (.slice pk (lm + 1) ck) 23 (.tmp 78) (by kernel_rfl) (by kernel_rfl) (by kernel_rfl) (by kernel_rfl) (by kernel_rfl) (by kernel_rfl) (by kernel_rfl) (by kernel_rfl) (fun W hW => ld_ts (hX.later hW).nodes.2.2.1) ?_
        refine ka_pure 3 (some 80) (.int .i64 ((lm + 1 : Nat) : Int)) (by kernel_rfl) (by kernel_rfl) (by kernel_rfl) (by kernel_rfl) (by kernel_rfl) (by kernel_rfl) (fun _ => by kernel_rfl) ?_
        refine ka_pure 4 (some 81) (.int .i64 (a1.tmod ((lm + 1 : Nat) : Int))) (by kernel_rfl) (by kernel_rfl) (by kernel_rfl) (by kernel_rfl) (by kernel_rfl) (by kernel_rfl) (fun _ => by kernel_rfl) ?_
        rw [hka]
        refine ka_pure 5 (some 82) (.int .i64 a2) (by kernel_rfl) (by kernel_rfl) (by kernel_rfl) (by kernel_rfl) (by kernel_rfl) (by kernel_rfl) (fun _ => by kernel_rfl) ?_
        refine ka_pure 6 (some 83) (.pointer (some ⟨w.heap.size, 2, none⟩)) (by kernel_rfl) (by kernel_rfl) (by kernel_rfl) (by kernel_rfl) (by kernel_rfl) (by kernel_rfl) (fun _ => by kernel_rfl) ?_
        refine ka_load 7 (some 84) (.slice pk (lm + 1) ck) 23 (.tmp 83) (by kernel_rfl) (by kernel_rfl) (by kernel_rfl) (by kernel_rfl) (by kernel_rfl) (by kernel_rfl) (by kernel_rfl) (by kernel_rfl) (fun W hW => ld_ts (hX.later hW).nodes.2.2.1) ?_
        refine ka_pure 8 (some 85) (.int .i64 ((lm + 1 : Nat) : Int)) (by kernel_rfl) (by kernel_rfl) (by kernel_rfl) (by kernel_rfl) (by kernel_rfl) (by kernel_rfl) (fun _ => by kernel_rfl) ?_
        refine ka_pure 9 (some 86) (.int .i64 (a2.tmod ((lm + 1 : Nat) : Int))) (by kernel_rfl) (by kernel_rfl) (by kernel_rfl) (by kernel_rfl) (by kernel_rfl) (by kernel_rfl) (fun _ => by kernel_rfl) ?_
        rw [hkb]
        refine ka_pure 10 (some 12) (.int .i64 (ka : Int)) (by kernel_rfl) (by kernel_rfl) (by kernel_rfl) (by kernel_rfl) (by kernel_rfl) (by kernel_rfl) (fun _ => by kernel_rfl) ?_
        refine ka_pure 11 (some 13) (.int .i64 (kb : Int)) (by kernel_rfl) (by kernel_rfl) (by kernel_rfl) (by kernel_rfl) (by kernel_rfl) (by kernel_rfl) (fun _ => by kernel_rfl) ?_
        refine ka_done (by kernel_rfl) (fun fb10 => #[.agg (nv n0.L vc0 vk0 vi0), .int .i64 a1, .int .i64 a2, .pointer (some ⟨w.heap.size, 0, none⟩), undef, undef, (Value.bool false), .bool true, .pointer (some ⟨b8, 0, none⟩), (Value.bool true), undef, undef, .int .i64 (ka : Int), .int .i64 (kb : Int), undef, undef, .bool true, .bool true, .bool false, y4 19, y4 20, e5 21, .bool true, .bool false, .bool false, .int .i64 a1, .bool false, .bool false, .bool false, .int .i64 a2, .bool false, .bool false, e6 32, e6 33, .pointer (some ⟨w.heap.size, 0, none⟩), .bool false, .bool false, f8 37, f8 38, f8 39, f8 40, .bool false, undef, undef, undef, undef, undef, undef, undef, undef, undef, undef, undef, undef, undef, undef, undef, undef, undef, undef, undef, undef, undef, undef, undef, undef, undef, undef, undef, undef, undef, undef, undef, .pointer (some ⟨w.heap.size, 2, none⟩), .slice pk (lm + 1) ck, .int .i64 ((lm + 1 : Nat) : Int), .bool true, .int .i64 a1, .pointer (some ⟨w.heap.size, 2, none⟩), .slice pk (lm + 1) ck, .int .i64 ((lm + 1 : Nat) : Int), .int .i64 (ka : Int), .int .i64 a2, .pointer (some ⟨w.heap.size, 2, none⟩), .slice pk (lm + 1) ck, .int .i64 ((lm + 1 : Nat) : Int), .int .i64 (kb : Int), undef, undef, undef, undef, undef, undef, undef, undef, undef, undef, undef, undef, undef, undef, undef, undef, undef, undef, undef, undef, undef, undef, undef, undef, undef, undef, undef, undef, undef, undef, undef, undef, undef, undef, undef, undef, undef, undef, undef]) (by kernel_rfl) (Below.refl _ _) ?_
        intro fb10
        obtain ⟨g, cm, hvm, hBg⟩ := own_block hT.m.k (by simp only; omega)
        simp only at hvm
        subst hvm
        have hka3 : ka < K.length := by omega
        have hkb3 : kb < K.length := by omega
        clear hX hP
        go_upto_region 15 with fail
        refine kp_start 17 126 20 (by kernel_rfl) (by kernel_rfl) (by kernel_rfl) ?_
        intro ZB hb
        replace hT := hT.later hb
        clear hb
        refine kp_pure 0 (some 87) (.pointer (some ⟨b8, 2, none⟩)) (by kernel_rfl) (by kernel_rfl) (by kernel_rfl) (by kernel_rfl) (by kernel_rfl) (by kernel_rfl) (by kernel_rfl) (Below.refl _ _) (fun _ => by kernel_rfl) ?_
        refine kp_take [17] 1 (some 88) (.slice (some ⟨g, 0, none⟩) K.length cm) (by kernel_rfl) (by kernel_rfl) (by kernel_rfl) (by kernel_rfl) (by kernel_rfl) (by kernel_rfl) (by kernel_rfl) (by kernel_rfl) (by kernel_rfl) (Below.refl _ _) (fun W hW => ld_run 23 (.tmp 87) (by kernel_rfl) (by kernel_rfl) (ld_ts (hT.y.later hW).nodes.2.2.1)) ?_
        refine kp_pure 2 (some 89) (.int .i64 (ka : Int)) (by kernel_rfl) (by kernel_rfl) (by kernel_rfl) (by kernel_rfl) (by kernel_rfl) (by kernel_rfl) (by kernel_rfl) (Below.refl _ _) (fun _ => by kernel_rfl) ?_
        refine kp_pure 3 (some 90) (.pointer (some ⟨b8, 2, none⟩)) (by kernel_rfl) (by kernel_rfl) (by kernel_rfl) (by kernel_rfl) (by kernel_rfl) (by kernel_rfl) (by kernel_rfl) (Below.refl _ _) (fun _ => by kernel_rfl) ?_
        refine kp_pure 5 (some 92) (.int .i64 (kb : Int)) (by kernel_rfl) (by kernel_rfl) (by kernel_rfl) (by kernel_rfl) (by kernel_rfl) (by kernel_rfl) (by kernel_rfl) (Below.refl _ _) (fun _ => by kernel_rfl) ?_
        refine kp_pure 6 (some 93) (.pointer (some ⟨b8, 2, none⟩)) (by kernel_rfl) (by kernel_rfl) (by kernel_rfl) (by kernel_rfl) (by kernel_rfl) (by kernel_rfl) (by kernel_rfl) (Below.refl _ _) (fun _ => by kernel_rfl) ?_
        refine kp_take [17] 7 (some 94) (.slice (some ⟨g, 0, none⟩) K.length cm) (by kernel_rfl) (by kernel_rfl) (by kernel_rfl) (by kernel_rfl) (by kernel_rfl) (by kernel_rfl) (by kernel_rfl) (by kernel_rfl) (by kernel_rfl) (Below.refl _ _) (fun W hW => ld_run 23 (.tmp 93) (by kernel_rfl) (by kernel_rfl) (ld_ts (hT.y.later hW).nodes.2.2.1)) ?_
        refine kp_pure 8 (some 95) (.int .i64 (kb : Int)) (by kernel_rfl) (by kernel_rfl) (by kernel_rfl) (by kernel_rfl) (by kernel_rfl) (by kernel_rfl) (by kernel_rfl) (Below.refl _ _) (fun _ => by kernel_rfl) ?_
        refine kp_pure 9 (some 96) (.pointer (some ⟨g, 0 + kb * 1, none⟩)) (by kernel_rfl) (by kernel_rfl) (by kernel_rfl) (by kernel_rfl) (by kernel_rfl) (by kernel_rfl) (by kernel_rfl) (Below.refl _ _) (ix_run 23 (.tmp 94) (.tmp 95) 1 g 0 K.length cm kb (by kernel_rfl) (by kernel_rfl) (by kernel_rfl) Try.underlying23 (by kernel_rfl) (by omega)) ?_
        refine kp_take [17] 10 (some 97) (.string (K.getD kb No.bz)) (by kernel_rfl) (by kernel_rfl) (by kernel_rfl) (by kernel_rfl) (by kernel_rfl) (by kernel_rfl) (by kernel_rfl) (by kernel_rfl) (by kernel_rfl) (Below.refl _ _) (fun W hW => ld_run 9 (.tmp 96) (by kernel_rfl) (by kernel_rfl) (ld_st (own_text (own_below hT.m.k hW) hkb3))) ?_
        refine kp_pure 11 (some 98) (.pointer (some ⟨b8, 2, none⟩)) (by kernel_rfl) (by kernel_rfl) (by kernel_rfl) (by kernel_rfl) (by kernel_rfl) (by kernel_rfl) (by kernel_rfl) (Below.refl _ _) (fun _ => by kernel_rfl) ?_
        refine kp_take [14, 15, 17] 12 (some 99) (.slice (some ⟨g, 0, none⟩) K.length cm) (by kernel_rfl) (by kernel_rfl) (by kernel_rfl) (by kernel_rfl) (by kernel_rfl) (by kernel_rfl) (by kernel_rfl) (by kernel_rfl) (by kernel_rfl) (Below.refl _ _) (fun W hW => ld_run 23 (.tmp 98) (by kernel_rfl) (by kernel_rfl) (ld_ts (hT.y.later hW).nodes.2.2.1)) ?_
        refine kp_pure 13 (some 100) (.int .i64 (ka : Int)) (by kernel_rfl) (by kernel_rfl) (by kernel_rfl) (by kernel_rfl) (by kernel_rfl) (by kernel_rfl) (by kernel_rfl) (Below.refl _ _) (fun _ => by kernel_rfl) ?_
        refine kp_pure 14 (some 101) (.pointer (some ⟨g, 0 + ka * 1, none⟩)) (by kernel_rfl) (by kernel_rfl) (by kernel_rfl) (by kernel_rfl) (by kernel_rfl) (by kernel_rfl) (by kernel_rfl) (Below.refl _ _) (ix_run 23 (.tmp 99) (.tmp 100) 1 g 0 K.length cm ka (by kernel_rfl) (by kernel_rfl) (by kernel_rfl) Try.underlying23 (by kernel_rfl) (by omega)) ?_
        refine kp_take [17] 15 (some 102) (.string (K.getD ka No.bz)) (by kernel_rfl) (by kernel_rfl) (by kernel_rfl) (by kernel_rfl) (by kernel_rfl) (by kernel_rfl) (by kernel_rfl) (by kernel_rfl) (by kernel_rfl) (Below.refl _ _) (fun W hW => ld_run 9 (.tmp 101) (by kernel_rfl) (by kernel_rfl) (ld_st (own_text (own_below hT.m.k hW) hka3))) ?_
        refine kp_pure 16 (some 103) (.pointer (some ⟨g, 0 + ka * 1, none⟩)) (by kernel_rfl) (by kernel_rfl) (by kernel_rfl) (by kernel_rfl) (by kernel_rfl) (by kernel_rfl) (by kernel_rfl) (Below.refl _ _) (ix_run 23 (.tmp 88) (.tmp 89) 1 g 0 K.length cm ka (by kernel_rfl) (by kernel_rfl) (by kernel_rfl) Try.underlying23 (by kernel_rfl) (by omega)) ?_
        refine kp_split 4 (some 91) (.slice (some ⟨g, 0, none⟩) K.length cm) (by kernel_rfl) (by kernel_rfl) (by kernel_rfl) (by kernel_rfl) (by kernel_rfl) (by kernel_rfl) (by kernel_rfl) (Below.refl _ _) (ld_run 23 (.tmp 90) (by kernel_rfl) (by kernel_rfl) (ld_ts hT.y.nodes.2.2.1)) ?_ (fun K' hK' => wp_putK (B := B) (g := g) (n := K.length) (c := cm) (L := K) (k := ka) (.tmp 103) (.tmp 97) (K.getD kb No.bz) (by kernel_rfl) (fr_evals (.tmp 103) (v := .pointer (some ⟨g, 0 + ka * 1, none⟩)) (by kernel_rfl)) (fr_evals (.tmp 97) (v := .string (K.getD kb No.bz)) (by kernel_rfl)) hT.m.k hka3 (hK' _ _ ?_))
        · skip
          refine kp_late 17 (by kernel_rfl) (by kernel_rfl) (by kernel_rfl) (by kernel_rfl) (fun K' hK' => wp_putK (B := B) (g := g) (n := K.length) (c := cm) (L := K) (k := ka) (.tmp 103) (.tmp 97) (K.getD kb No.bz) (by kernel_rfl) (fr_evals (.tmp 103) (v := .pointer (some ⟨g, 0 + ka * 1, none⟩)) (by kernel_rfl)) (fr_evals (.tmp 97) (v := .string (K.getD kb No.bz)) (by kernel_rfl)) hT.m.k hka3 (hK' _ _ ?_))
          have hT1 := Mst.setK hT rfl hka3 (K.getD kb No.bz)
          have hO1 : World.ownsRow (ZB.setCell ⟨g, ka, none⟩ (.string (K.getD kb No.bz))) B 9 1 (.slice (some ⟨g, 0, none⟩) K.length cm) K.length ((K.set ka (K.getD kb No.bz)).map Value.string) := by
            have := hT1.m.k
            simp only [List.length_set] at this
            exact this
          generalize (ZB.setCell ⟨g, ka, none⟩ (.string (K.getD kb No.bz))) = W1 at hT1 hO1 ⊢
          refine kp_lateV 18 (some 104) (.pointer (some ⟨g, 0 + kb * 1, none⟩)) (by kernel_rfl) (by kernel_rfl) (by kernel_rfl) (by kernel_rfl) (by kernel_rfl) (ix_run 23 (.tmp 91) (.tmp 92) 1 g 0 K.length cm kb (by kernel_rfl) (by kernel_rfl) (by kernel_rfl) Try.underlying23 (by kernel_rfl) (by omega) _) ?_
          refine kp_late 19 (by kernel_rfl) (by kernel_rfl) (by kernel_rfl) (by kernel_rfl) (fun K' hK' => wp_putK (B := B) (g := g) (n := K.length) (c := cm) (L := (K.set ka (K.getD kb No.bz))) (k := kb) (.tmp 104) (.tmp 102) (K.getD ka No.bz) (by kernel_rfl) (fr_evals (.tmp 104) (v := .pointer (some ⟨g, 0 + kb * 1, none⟩)) (by kernel_rfl)) (fr_evals (.tmp 102) (v := .string (K.getD ka No.bz)) (by kernel_rfl)) hO1 (by rw [List.length_set]; exact hkb3) (hK' _ _ ?_))
          have hT2 := Mst.setK hT1 (by rw [List.length_set]) (by rw [List.length_set]; exact hkb3) (K.getD ka No.bz)
          refine kp_done (by kernel_rfl) (fun yy => #[.agg (nv n0.L vc0 vk0 vi0), .int .i64 a1, .int .i64 a2, .pointer (some ⟨w.heap.size, 0, none⟩), undef, undef, (Value.bool false), .bool true, .pointer (some ⟨b8, 0, none⟩), (Value.bool true), undef, undef, .int .i64 (ka : Int), .int .i64 (kb : Int), undef, undef, .bool true, .bool true, .bool false, y4 19, y4 20, e5 21, .bool true, .bool false, .bool false, .int .i64 a1, .bool false, .bool false, .bool false, .int .i64 a2, .bool false, .bool false, e6 32, e6 33, .pointer (some ⟨w.heap.size, 0, none⟩), .bool false, .bool false, f8 37, f8 38, f8 39, f8 40, .bool false, undef, undef, undef, undef, undef, undef, undef, undef, undef, undef, undef, undef, undef, undef, undef, undef, undef, undef, undef, undef, undef, undef, undef, undef, undef, undef, undef, undef, undef, undef, undef, .pointer (some ⟨w.heap.size, 2, none⟩), .slice pk (lm + 1) ck, .int .i64 ((lm + 1 : Nat) : Int), .bool true, .int .i64 a1, .pointer (some ⟨w.heap.size, 2, none⟩), .slice pk (lm + 1) ck, .int .i64 ((lm + 1 : Nat) : Int), .int .i64 (ka : Int), .int .i64 a2, .pointer (some ⟨w.heap.size, 2, none⟩), .slice pk (lm + 1) ck, .int .i64 ((lm + 1 : Nat) : Int), .int .i64 (kb : Int), yy 87, yy 88, yy 89, yy 90, yy 91, yy 92, yy 93, yy 94, yy 95, yy 96, yy 97, yy 98, yy 99, yy 100, yy 101, yy 102, yy 103, yy 104, undef, undef, undef, undef, undef, undef, undef, undef, undef, undef, undef, undef, undef, undef, undef, undef, undef, undef, undef, undef, undef]) (by kernel_rfl) ?_
          intro yy
          have hT3 : Mst w (W1.setCell ⟨g, kb, none⟩ (.string (K.getD ka No.bz))) B b8 vcm (.slice (some ⟨g, 0, none⟩) K.length cm) vim ⟨L, C, swp K ka kb No.bz, I⟩ := hT2
          clear hT hT1 hT2 hO1
          have hT := hT3
          clear hT3
          generalize (W1.setCell ⟨g, kb, none⟩ (.string (K.getD ka No.bz))) = W2 at *
          by_cases hab : ka = kb
          · skip
            go_upto_region 16 with fail
            refine kl_start 126 (by kernel_rfl) ?_
            refine kl_take 0 (some 105) (.int .i64 (ka : Int)) (by kernel_rfl) (by kernel_rfl) (by kernel_rfl) (by kernel_rfl) ?_
            refine kl_take 1 (some 106) (.int .i64 (kb : Int)) (by kernel_rfl) (by kernel_rfl) (by kernel_rfl) (by kernel_rfl) ?_
            refine kl_test 2 (some 107) true (by kernel_rfl) (by kernel_rfl) (by kernel_rfl) (show ((ka : Int) == (kb : Int)) = true by subst hab; simp) (by kernel_rfl) ?_
            refine kl_take 3 (some 9) (.bool true) (by kernel_rfl) (by kernel_rfl) (by kernel_rfl) (by kernel_rfl) ?_
            refine kl_done (by kernel_rfl) (fun rs11 => #[.agg (nv n0.L vc0 vk0 vi0), .int .i64 a1, .int .i64 a2, .pointer (some ⟨w.heap.size, 0, none⟩), undef, undef, (Value.bool false), .bool true, .pointer (some ⟨b8, 0, none⟩), .bool true, undef, undef, .int .i64 (ka : Int), .int .i64 (kb : Int), undef, undef, .bool true, .bool true, .bool false, y4 19, y4 20, e5 21, .bool true, .bool false, .bool false, .int .i64 a1, .bool false, .bool false, .bool false, .int .i64 a2, .bool false, .bool false, e6 32, e6 33, .pointer (some ⟨w.heap.size, 0, none⟩), .bool false, .bool false, f8 37, f8 38, f8 39, f8 40, .bool false, undef, undef, undef, undef, undef, undef, undef, undef, undef, undef, undef, undef, undef, undef, undef, undef, undef, undef, undef, undef, undef, undef, undef, undef, undef, undef, undef, undef, undef, undef, undef, .pointer (some ⟨w.heap.size, 2, none⟩), .slice pk (lm + 1) ck, .int .i64 ((lm + 1 : Nat) : Int), .bool true, .int .i64 a1, .pointer (some ⟨w.heap.size, 2, none⟩), .slice pk (lm + 1) ck, .int .i64 ((lm + 1 : Nat) : Int), .int .i64 (ka : Int), .int .i64 a2, .pointer (some ⟨w.heap.size, 2, none⟩), .slice pk (lm + 1) ck, .int .i64 ((lm + 1 : Nat) : Int), .int .i64 (kb : Int), yy 87, yy 88, yy 89, yy 90, yy 91, yy 92, yy 93, yy 94, yy 95, yy 96, yy 97, yy 98, yy 99, yy 100, yy 101, yy 102, yy 103, yy 104, .int .i64 (ka : Int), .int .i64 (kb : Int), .bool true, undef, undef, undef, undef, undef, undef, undef, undef, undef, undef, undef, undef, undef, undef, undef, undef, undef, undef]) (by kernel_rfl) ?_
            intro rs11
            subst hab
            rw [swp_same (l := K) No.bz hka3] at hT
            have HMm := HM
            have HOk := HOkP
            have HFw := HFwP
            have hNM : Nb _ (vcm) (.slice (some ⟨g, 0, none⟩) K.length cm) vim ⟨L, C, K, I⟩ := hT.m.nb HOk.out
            have hY := hT.y
            have hB := hT.b
            clear hT
            go_upto_region 17 with fail
            refine kl_start 126 (by kernel_rfl) ?_
            refine kl_get 0 (some 109) 26 _ (.tmp 8) _ (nv L (vcm) (.slice (some ⟨g, 0, none⟩) K.length cm) vim) (by kernel_rfl) (by kernel_rfl) (by kernel_rfl) (by kernel_rfl) (by kernel_rfl) hY tyM rfl ?_
            refine kl_callx 1 (some 110) (by kernel_rfl) (by kernel_rfl) (by kernel_rfl) (by kernel_rfl) (nof_any (vcm) (.slice (some ⟨g, 0, none⟩) K.length cm) vim ⟨L, C, K, I⟩ _ hNM HFw.out) ?_
            rintro e x ⟨ve, rfl, hve, hb⟩
            refine ⟨_, rfl, ?_⟩
            replace hY := hY.later hb
            replace hNM := hNM.later hb
            replace hB := hB.trans (hb.mono hB.size)
            clear hb
            refine kl_callx 2 (some 111) (by kernel_rfl) (by kernel_rfl) (by kernel_rfl) (by kernel_rfl) (enc_at0 hve HFw.out) ?_
            rintro e x ⟨v8, rfl, hb⟩
            refine ⟨_, rfl, ?_⟩
            replace hY := hY.later hb
            replace hNM := hNM.later hb
            replace hve := hve.later hb
            replace hB := hB.trans (hb.mono hB.size)
            clear hb
            refine kl_take 3 (some 108) (.tuple #[v8, .int .i64 (No.enc ⟨L, C, K, I⟩).2]) (by kernel_rfl) (by kernel_rfl) (by kernel_rfl) (by kernel_rfl) ?_
            refine kl_take 4 (some 112) (v8) (by kernel_rfl) (by kernel_rfl) (by kernel_rfl) (by kernel_rfl) ?_
            refine kl_take 5 (some 113) (.int .i64 (No.enc ⟨L, C, K, I⟩).2) (by kernel_rfl) (by kernel_rfl) (by kernel_rfl) (by kernel_rfl) ?_
            refine kl_take 6 (some 14) (v8) (by kernel_rfl) (by kernel_rfl) (by kernel_rfl) (by kernel_rfl) ?_
            refine kl_take 7 (some 15) (.int .i64 (No.enc ⟨L, C, K, I⟩).2) (by kernel_rfl) (by kernel_rfl) (by kernel_rfl) (by kernel_rfl) ?_
            refine kl_done (by kernel_rfl) (fun rs12 => #[.agg (nv n0.L vc0 vk0 vi0), .int .i64 a1, .int .i64 a2, .pointer (some ⟨w.heap.size, 0, none⟩), undef, undef, (Value.bool false), .bool true, .pointer (some ⟨b8, 0, none⟩), .bool true, undef, undef, .int .i64 (ka : Int), .int .i64 (ka : Int), v8, .int .i64 (No.enc ⟨L, C, K, I⟩).2, .bool true, .bool true, .bool false, y4 19, y4 20, e5 21, .bool true, .bool false, .bool false, .int .i64 a1, .bool false, .bool false, .bool false, .int .i64 a2, .bool false, .bool false, e6 32, e6 33, .pointer (some ⟨w.heap.size, 0, none⟩), .bool false, .bool false, f8 37, f8 38, f8 39, f8 40, .bool false, undef, undef, undef, undef, undef, undef, undef, undef, undef, undef, undef, undef, undef, undef, undef, undef, undef, undef, undef, undef, undef, undef, undef, undef, undef, undef, undef, undef, undef, undef, undef, .pointer (some ⟨w.heap.size, 2, none⟩), .slice pk (lm + 1) ck, .int .i64 ((lm + 1 : Nat) : Int), .bool true, .int .i64 a1, .pointer (some ⟨w.heap.size, 2, none⟩), .slice pk (lm + 1) ck, .int .i64 ((lm + 1 : Nat) : Int), .int .i64 (ka : Int), .int .i64 a2, .pointer (some ⟨w.heap.size, 2, none⟩), .slice pk (lm + 1) ck, .int .i64 ((lm + 1 : Nat) : Int), .int .i64 (ka : Int), yy 87, yy 88, yy 89, yy 90, yy 91, yy 92, yy 93, yy 94, yy 95, yy 96, yy 97, yy 98, yy 99, yy 100, yy 101, yy 102, yy 103, yy 104, .int .i64 (ka : Int), .int .i64 (ka : Int), .bool true, rs12 108, rs12 109, rs12 110, rs12 111, rs12 112, .int .i64 (No.enc ⟨L, C, K, I⟩).2, undef, undef, undef, undef, undef, undef, undef, undef, undef, undef, undef, undef]) (by kernel_rfl) ?_
            intro rs12
            go_upto_region 18 with fail
            refine kl_start 126 (by kernel_rfl) ?_
            refine kl_get 0 (some 114) 26 _ (.tmp 8) _ (nv L (vcm) (.slice (some ⟨g, 0, none⟩) K.length cm) vim) (by kernel_rfl) (by kernel_rfl) (by kernel_rfl) (by kernel_rfl) (by kernel_rfl) hY tyM rfl ?_
            refine kl_callx 1 (some 115) (by kernel_rfl) (by kernel_rfl) (by kernel_rfl) (by kernel_rfl) (nof_any (vcm) (.slice (some ⟨g, 0, none⟩) K.length cm) vim ⟨L, C, K, I⟩ _ hNM HFw.out) ?_
            rintro e x ⟨vf, rfl, hvf, hb⟩
            refine ⟨_, rfl, ?_⟩
            replace hY := hY.later hb
            replace hNM := hNM.later hb
            replace hve := hve.later hb
            replace hB := hB.trans (hb.mono hB.size)
            clear hb
            refine kl_callx 2 (some 116) (by kernel_rfl) (by kernel_rfl) (by kernel_rfl) (by kernel_rfl) (may_at hvf HMm.out) ?_
            rintro e x ⟨rfl, hb⟩
            refine ⟨_, rfl, ?_⟩
            replace hY := hY.later hb
            replace hNM := hNM.later hb
            replace hve := hve.later hb
            replace hvf := hvf.later hb
            replace hB := hB.trans (hb.mono hB.size)
            clear hb
            refine kl_take 3 (some 117) (.bool true) (by kernel_rfl) (by kernel_rfl) (by kernel_rfl) (by kernel_rfl) ?_
            refine kl_take 4 (some 118) (.bool true) (by kernel_rfl) (by kernel_rfl) (by kernel_rfl) (by kernel_rfl) ?_
            refine kl_take 5 (some 119) (.bool true) (by kernel_rfl) (by kernel_rfl) (by kernel_rfl) (by kernel_rfl) ?_
            refine kl_take 6 (some 120) (.bool true) (by kernel_rfl) (by kernel_rfl) (by kernel_rfl) (by kernel_rfl) ?_
            refine kl_take 7 (some 121) (.bool true) (by kernel_rfl) (by kernel_rfl) (by kernel_rfl) (by kernel_rfl) ?_
            refine kl_skip 8 (some 122) (by kernel_rfl) (by kernel_rfl) (by kernel_rfl) ?_
            refine kl_skip 9 (some 123) (by kernel_rfl) (by kernel_rfl) (by kernel_rfl) ?_
            refine kl_take 10 (some 124) (.bool true) (by kernel_rfl) (by kernel_rfl) (by kernel_rfl) (by kernel_rfl) ?_
            refine kl_take 11 (some 125) (.bool true) (by kernel_rfl) (by kernel_rfl) (by kernel_rfl) (by kernel_rfl) ?_
            refine kl_take 12 (some 6) (.bool true) (by kernel_rfl) (by kernel_rfl) (by kernel_rfl) (by kernel_rfl) ?_
            refine kl_done (by kernel_rfl) (fun rs13 => #[.agg (nv n0.L vc0 vk0 vi0), .int .i64 a1, .int .i64 a2, .pointer (some ⟨w.heap.size, 0, none⟩), undef, undef, .bool true, .bool true, .pointer (some ⟨b8, 0, none⟩), .bool true, undef, undef, .int .i64 (ka : Int), .int .i64 (ka : Int), v8, .int .i64 (No.enc ⟨L, C, K, I⟩).2, .bool true, .bool true, .bool false, y4 19, y4 20, e5 21, .bool true, .bool false, .bool false, .int .i64 a1, .bool false, .bool false, .bool false, .int .i64 a2, .bool false, .bool false, e6 32, e6 33, .pointer (some ⟨w.heap.size, 0, none⟩), .bool false, .bool false, f8 37, f8 38, f8 39, f8 40, .bool false, undef, undef, undef, undef, undef, undef, undef, undef, undef, undef, undef, undef, undef, undef, undef, undef, undef, undef, undef, undef, undef, undef, undef, undef, undef, undef, undef, undef, undef, undef, undef, .pointer (some ⟨w.heap.size, 2, none⟩), .slice pk (lm + 1) ck, .int .i64 ((lm + 1 : Nat) : Int), .bool true, .int .i64 a1, .pointer (some ⟨w.heap.size, 2, none⟩), .slice pk (lm + 1) ck, .int .i64 ((lm + 1 : Nat) : Int), .int .i64 (ka : Int), .int .i64 a2, .pointer (some ⟨w.heap.size, 2, none⟩), .slice pk (lm + 1) ck, .int .i64 ((lm + 1 : Nat) : Int), .int .i64 (ka : Int), yy 87, yy 88, yy 89, yy 90, yy 91, yy 92, yy 93, yy 94, yy 95, yy 96, yy 97, yy 98, yy 99, yy 100, yy 101, yy 102, yy 103, yy 104, .int .i64 (ka : Int), .int .i64 (ka : Int), .bool true, rs12 108, rs12 109, rs12 110, rs12 111, rs12 112, .int .i64 (No.enc ⟨L, C, K, I⟩).2, .agg (nv L (vcm) (.slice (some ⟨g, 0, none⟩) K.length cm) vim), .agg (nv L vf (.slice (some ⟨g, 0, none⟩) K.length cm) vim), .bool true, .bool true, .bool true, .bool true, .bool true, .bool true, rs13 122, rs13 123, .bool true, .bool true]) (by kernel_rfl) ?_
            intro rs13
            go_wp2_with fail
            go_ret
            exact ⟨rfl, hB⟩
          · skip
            go_upto_region 16 with fail
            refine kl_start 126 (by kernel_rfl) ?_
            refine kl_take 0 (some 105) (.int .i64 (ka : Int)) (by kernel_rfl) (by kernel_rfl) (by kernel_rfl) (by kernel_rfl) ?_
            refine kl_take 1 (some 106) (.int .i64 (kb : Int)) (by kernel_rfl) (by kernel_rfl) (by kernel_rfl) (by kernel_rfl) ?_
            refine kl_test 2 (some 107) false (by kernel_rfl) (by kernel_rfl) (by kernel_rfl) (show ((ka : Int) == (kb : Int)) = false by simp; omega) (by kernel_rfl) ?_
            refine kl_take 3 (some 9) (.bool false) (by kernel_rfl) (by kernel_rfl) (by kernel_rfl) (by kernel_rfl) ?_
            refine kl_done (by kernel_rfl) (fun rn11 => #[.agg (nv n0.L vc0 vk0 vi0), .int .i64 a1, .int .i64 a2, .pointer (some ⟨w.heap.size, 0, none⟩), undef, undef, (Value.bool false), .bool true, .pointer (some ⟨b8, 0, none⟩), .bool false, undef, undef, .int .i64 (ka : Int), .int .i64 (kb : Int), undef, undef, .bool true, .bool true, .bool false, y4 19, y4 20, e5 21, .bool true, .bool false, .bool false, .int .i64 a1, .bool false, .bool false, .bool false, .int .i64 a2, .bool false, .bool false, e6 32, e6 33, .pointer (some ⟨w.heap.size, 0, none⟩), .bool false, .bool false, f8 37, f8 38, f8 39, f8 40, .bool false, undef, undef, undef, undef, undef, undef, undef, undef, undef, undef, undef, undef, undef, undef, undef, undef, undef, undef, undef, undef, undef, undef, undef, undef, undef, undef, undef, undef, undef, undef, undef, .pointer (some ⟨w.heap.size, 2, none⟩), .slice pk (lm + 1) ck, .int .i64 ((lm + 1 : Nat) : Int), .bool true, .int .i64 a1, .pointer (some ⟨w.heap.size, 2, none⟩), .slice pk (lm + 1) ck, .int .i64 ((lm + 1 : Nat) : Int), .int .i64 (ka : Int), .int .i64 a2, .pointer (some ⟨w.heap.size, 2, none⟩), .slice pk (lm + 1) ck, .int .i64 ((lm + 1 : Nat) : Int), .int .i64 (kb : Int), yy 87, yy 88, yy 89, yy 90, yy 91, yy 92, yy 93, yy 94, yy 95, yy 96, yy 97, yy 98, yy 99, yy 100, yy 101, yy 102, yy 103, yy 104, .int .i64 (ka : Int), .int .i64 (kb : Int), .bool false, undef, undef, undef, undef, undef, undef, undef, undef, undef, undef, undef, undef, undef, undef, undef, undef, undef, undef]) (by kernel_rfl) ?_
            intro rn11
            have HMm : Hid (No.may ⟨L, C, swp K ka kb No.bz, I⟩ = false) := hide (by subst hL; exact fork_no (swp_noK (No.may_fork rfl HM.out).2.2.2 hka3 hkb3 hab))
            have HOk : Hid (No.Ok ⟨L, C, swp K ka kb No.bz, I⟩) := hide ⟨HOkP.out.c, fun c hc => HOkP.out.k c (swp_mem hka3 hkb3 hc), HOkP.out.i⟩
            have HFw : Hid (No.few ⟨L, C, swp K ka kb No.bz, I⟩) := HFwP
            have hNM : Nb _ (vcm) (.slice (some ⟨g, 0, none⟩) K.length cm) vim ⟨L, C, swp K ka kb No.bz, I⟩ := hT.m.nb HOk.out
            have hY := hT.y
            have hB := hT.b
            clear hT
            go_upto_region 17 with fail
            refine kl_start 126 (by kernel_rfl) ?_
            refine kl_get 0 (some 109) 26 _ (.tmp 8) _ (nv L (vcm) (.slice (some ⟨g, 0, none⟩) K.length cm) vim) (by kernel_rfl) (by kernel_rfl) (by kernel_rfl) (by kernel_rfl) (by kernel_rfl) hY tyM rfl ?_
            refine kl_callx 1 (some 110) (by kernel_rfl) (by kernel_rfl) (by kernel_rfl) (by kernel_rfl) (nof_any (vcm) (.slice (some ⟨g, 0, none⟩) K.length cm) vim ⟨L, C, swp K ka kb No.bz, I⟩ _ hNM HFw.out) ?_
            rintro e x ⟨ve, rfl, hve, hb⟩
            refine ⟨_, rfl, ?_⟩
            replace hY := hY.later hb
            replace hNM := hNM.later hb
            replace hB := hB.trans (hb.mono hB.size)
            clear hb
            refine kl_callx 2 (some 111) (by kernel_rfl) (by kernel_rfl) (by kernel_rfl) (by kernel_rfl) (encode_at hve HFw.out (No.enc_bad HMm.out)) ?_
            rintro e x ⟨v8, rfl, -, hb⟩
            refine ⟨_, rfl, ?_⟩
            replace hY := hY.later hb
            replace hNM := hNM.later hb
            replace hve := hve.later hb
            replace hB := hB.trans (hb.mono hB.size)
            clear hb
            refine kl_take 3 (some 108) (.tuple #[v8, .int .i64 1]) (by kernel_rfl) (by kernel_rfl) (by kernel_rfl) (by kernel_rfl) ?_
            refine kl_take 4 (some 112) (v8) (by kernel_rfl) (by kernel_rfl) (by kernel_rfl) (by kernel_rfl) ?_
            refine kl_take 5 (some 113) (.int .i64 1) (by kernel_rfl) (by kernel_rfl) (by kernel_rfl) (by kernel_rfl) ?_
            refine kl_take 6 (some 14) (v8) (by kernel_rfl) (by kernel_rfl) (by kernel_rfl) (by kernel_rfl) ?_
            refine kl_take 7 (some 15) (.int .i64 1) (by kernel_rfl) (by kernel_rfl) (by kernel_rfl) (by kernel_rfl) ?_
            refine kl_done (by kernel_rfl) (fun rn12 => #[.agg (nv n0.L vc0 vk0 vi0), .int .i64 a1, .int .i64 a2, .pointer (some ⟨w.heap.size, 0, none⟩), undef, undef, (Value.bool false), .bool true, .pointer (some ⟨b8, 0, none⟩), .bool false, undef, undef, .int .i64 (ka : Int), .int .i64 (kb : Int), v8, .int .i64 1, .bool true, .bool true, .bool false, y4 19, y4 20, e5 21, .bool true, .bool false, .bool false, .int .i64 a1, .bool false, .bool false, .bool false, .int .i64 a2, .bool false, .bool false, e6 32, e6 33, .pointer (some ⟨w.heap.size, 0, none⟩), .bool false, .bool false, f8 37, f8 38, f8 39, f8 40, .bool false, undef, undef, undef, undef, undef, undef, undef, undef, undef, undef, undef, undef, undef, undef, undef, undef, undef, undef, undef, undef, undef, undef, undef, undef, undef, undef, undef, undef, undef, undef, undef, .pointer (some ⟨w.heap.size, 2, none⟩), .slice pk (lm + 1) ck, .int .i64 ((lm + 1 : Nat) : Int), .bool true, .int .i64 a1, .pointer (some ⟨w.heap.size, 2, none⟩), .slice pk (lm + 1) ck, .int .i64 ((lm + 1 : Nat) : Int), .int .i64 (ka : Int), .int .i64 a2, .pointer (some ⟨w.heap.size, 2, none⟩), .slice pk (lm + 1) ck, .int .i64 ((lm + 1 : Nat) : Int), .int .i64 (kb : Int), yy 87, yy 88, yy 89, yy 90, yy 91, yy 92, yy 93, yy 94, yy 95, yy 96, yy 97, yy 98, yy 99, yy 100, yy 101, yy 102, yy 103, yy 104, .int .i64 (ka : Int), .int .i64 (kb : Int), .bool false, rn12 108, rn12 109, rn12 110, rn12 111, rn12 112, .int .i64 1, undef, undef, undef, undef, undef, undef, undef, undef, undef, undef, undef, undef]) (by kernel_rfl) ?_
            intro rn12
            go_upto_region 18 with fail
            refine kl_start 126 (by kernel_rfl) ?_
            refine kl_get 0 (some 114) 26 _ (.tmp 8) _ (nv L (vcm) (.slice (some ⟨g, 0, none⟩) K.length cm) vim) (by kernel_rfl) (by kernel_rfl) (by kernel_rfl) (by kernel_rfl) (by kernel_rfl) hY tyM rfl ?_
            refine kl_callx 1 (some 115) (by kernel_rfl) (by kernel_rfl) (by kernel_rfl) (by kernel_rfl) (nof_any (vcm) (.slice (some ⟨g, 0, none⟩) K.length cm) vim ⟨L, C, swp K ka kb No.bz, I⟩ _ hNM HFw.out) ?_
            rintro e x ⟨vf, rfl, hvf, hb⟩
            refine ⟨_, rfl, ?_⟩
            replace hY := hY.later hb
            replace hNM := hNM.later hb
            replace hve := hve.later hb
            replace hB := hB.trans (hb.mono hB.size)
            clear hb
            refine kl_callx 2 (some 116) (by kernel_rfl) (by kernel_rfl) (by kernel_rfl) (by kernel_rfl) (may_at hvf HMm.out) ?_
            rintro e x ⟨rfl, hb⟩
            refine ⟨_, rfl, ?_⟩
            replace hY := hY.later hb
            replace hNM := hNM.later hb
            replace hve := hve.later hb
            replace hvf := hvf.later hb
            replace hB := hB.trans (hb.mono hB.size)
            clear hb
            refine kl_take 3 (some 117) (.bool false) (by kernel_rfl) (by kernel_rfl) (by kernel_rfl) (by kernel_rfl) ?_
            refine kl_take 4 (some 118) (.bool true) (by kernel_rfl) (by kernel_rfl) (by kernel_rfl) (by kernel_rfl) ?_
            refine kl_take 5 (some 119) (.bool true) (by kernel_rfl) (by kernel_rfl) (by kernel_rfl) (by kernel_rfl) ?_
            refine kl_take 6 (some 120) (.bool false) (by kernel_rfl) (by kernel_rfl) (by kernel_rfl) (by kernel_rfl) ?_
            refine kl_take 7 (some 121) (.bool false) (by kernel_rfl) (by kernel_rfl) (by kernel_rfl) (by kernel_rfl) ?_
            refine kl_take 8 (some 122) (.int .i64 1) (by kernel_rfl) (by kernel_rfl) (by kernel_rfl) (by kernel_rfl) ?_
            refine kl_take 9 (some 123) (.bool true) (by kernel_rfl) (by kernel_rfl) (by kernel_rfl) (by kernel_rfl) ?_
            refine kl_take 10 (some 124) (.bool true) (by kernel_rfl) (by kernel_rfl) (by kernel_rfl) (by kernel_rfl) ?_
            refine kl_take 11 (some 125) (.bool true) (by kernel_rfl) (by kernel_rfl) (by kernel_rfl) (by kernel_rfl) ?_
            refine kl_take 12 (some 6) (.bool true) (by kernel_rfl) (by kernel_rfl) (by kernel_rfl) (by kernel_rfl) ?_
            refine kl_done (by kernel_rfl) (fun rn13 => #[.agg (nv n0.L vc0 vk0 vi0), .int .i64 a1, .int .i64 a2, .pointer (some ⟨w.heap.size, 0, none⟩), undef, undef, .bool true, .bool true, .pointer (some ⟨b8, 0, none⟩), .bool false, undef, undef, .int .i64 (ka : Int), .int .i64 (kb : Int), v8, .int .i64 1, .bool true, .bool true, .bool false, y4 19, y4 20, e5 21, .bool true, .bool false, .bool false, .int .i64 a1, .bool false, .bool false, .bool false, .int .i64 a2, .bool false, .bool false, e6 32, e6 33, .pointer (some ⟨w.heap.size, 0, none⟩), .bool false, .bool false, f8 37, f8 38, f8 39, f8 40, .bool false, undef, undef, undef, undef, undef, undef, undef, undef, undef, undef, undef, undef, undef, undef, undef, undef, undef, undef, undef, undef, undef, undef, undef, undef, undef, undef, undef, undef, undef, undef, undef, .pointer (some ⟨w.heap.size, 2, none⟩), .slice pk (lm + 1) ck, .int .i64 ((lm + 1 : Nat) : Int), .bool true, .int .i64 a1, .pointer (some ⟨w.heap.size, 2, none⟩), .slice pk (lm + 1) ck, .int .i64 ((lm + 1 : Nat) : Int), .int .i64 (ka : Int), .int .i64 a2, .pointer (some ⟨w.heap.size, 2, none⟩), .slice pk (lm + 1) ck, .int .i64 ((lm + 1 : Nat) : Int), .int .i64 (kb : Int), yy 87, yy 88, yy 89, yy 90, yy 91, yy 92, yy 93, yy 94, yy 95, yy 96, yy 97, yy 98, yy 99, yy 100, yy 101, yy 102, yy 103, yy 104, .int .i64 (ka : Int), .int .i64 (kb : Int), .bool false, rn12 108, rn12 109, rn12 110, rn12 111, rn12 112, .int .i64 1, .agg (nv L (vcm) (.slice (some ⟨g, 0, none⟩) K.length cm) vim), .agg (nv L vf (.slice (some ⟨g, 0, none⟩) K.length cm) vim), .bool false, .bool false, .bool true, .bool true, .bool false, .bool false, .int .i64 1, .bool true, .bool true, .bool true]) (by kernel_rfl) ?_
            intro rn13
            go_wp2_with fail
            go_ret
            exact ⟨rfl, hB⟩
        · skip
          have hT1 := Mst.setK hT rfl hka3 (K.getD kb No.bz)
          have hO1 : World.ownsRow (ZB.setCell ⟨g, ka, none⟩ (.string (K.getD kb No.bz))) B 9 1 (.slice (some ⟨g, 0, none⟩) K.length cm) K.length ((K.set ka (K.getD kb No.bz)).map Value.string) := by
            have := hT1.m.k
            simp only [List.length_set] at this
            exact this
          generalize (ZB.setCell ⟨g, ka, none⟩ (.string (K.getD kb No.bz))) = W1 at hT1 hO1 ⊢
          refine kp_lateV 4 (some 91) (.slice (some ⟨g, 0, none⟩) K.length cm) (by kernel_rfl) (by kernel_rfl) (by kernel_rfl) (by kernel_rfl) (by kernel_rfl) (ld_run 23 (.tmp 90) (by kernel_rfl) (by kernel_rfl) (ld_ts hT1.y.nodes.2.2.1)) ?_
          refine kp_lateV 18 (some 104) (.pointer (some ⟨g, 0 + kb * 1, none⟩)) (by kernel_rfl) (by kernel_rfl) (by kernel_rfl) (by kernel_rfl) (by kernel_rfl) (ix_run 23 (.tmp 91) (.tmp 92) 1 g 0 K.length cm kb (by kernel_rfl) (by kernel_rfl) (by kernel_rfl) Try.underlying23 (by kernel_rfl) (by omega) _) ?_
          refine kp_late 19 (by kernel_rfl) (by kernel_rfl) (by kernel_rfl) (by kernel_rfl) (fun K' hK' => wp_putK (B := B) (g := g) (n := K.length) (c := cm) (L := (K.set ka (K.getD kb No.bz))) (k := kb) (.tmp 104) (.tmp 102) (K.getD ka No.bz) (by kernel_rfl) (fr_evals (.tmp 104) (v := .pointer (some ⟨g, 0 + kb * 1, none⟩)) (by kernel_rfl)) (fr_evals (.tmp 102) (v := .string (K.getD ka No.bz)) (by kernel_rfl)) hO1 (by rw [List.length_set]; exact hkb3) (hK' _ _ ?_))
          have hT2 := Mst.setK hT1 (by rw [List.length_set]) (by rw [List.length_set]; exact hkb3) (K.getD ka No.bz)
          refine kp_done (by kernel_rfl) (fun yy => #[.agg (nv n0.L vc0 vk0 vi0), .int .i64 a1, .int .i64 a2, .pointer (some ⟨w.heap.size, 0, none⟩), undef, undef, (Value.bool false), .bool true, .pointer (some ⟨b8, 0, none⟩), (Value.bool true), undef, undef, .int .i64 (ka : Int), .int .i64 (kb : Int), undef, undef, .bool true, .bool true, .bool false, y4 19, y4 20, e5 21, .bool true, .bool false, .bool false, .int .i64 a1, .bool false, .bool false, .bool false, .int .i64 a2, .bool false, .bool false, e6 32, e6 33, .pointer (some ⟨w.heap.size, 0, none⟩), .bool false, .bool false, f8 37, f8 38, f8 39, f8 40, .bool false, undef, undef, undef, undef, undef, undef, undef, undef, undef, undef, undef, undef, undef, undef, undef, undef, undef, undef, undef, undef, undef, undef, undef, undef, undef, undef, undef, undef, undef, undef, undef, .pointer (some ⟨w.heap.size, 2, none⟩), .slice pk (lm + 1) ck, .int .i64 ((lm + 1 : Nat) : Int), .bool true, .int .i64 a1, .pointer (some ⟨w.heap.size, 2, none⟩), .slice pk (lm + 1) ck, .int .i64 ((lm + 1 : Nat) : Int), .int .i64 (ka : Int), .int .i64 a2, .pointer (some ⟨w.heap.size, 2, none⟩), .slice pk (lm + 1) ck, .int .i64 ((lm + 1 : Nat) : Int), .int .i64 (kb : Int), yy 87, yy 88, yy 89, yy 90, yy 91, yy 92, yy 93, yy 94, yy 95, yy 96, yy 97, yy 98, yy 99, yy 100, yy 101, yy 102, yy 103, yy 104, undef, undef, undef, undef, undef, undef, undef, undef, undef, undef, undef, undef, undef, undef, undef, undef, undef, undef, undef, undef, undef]) (by kernel_rfl) ?_
          intro yy
          have hT3 : Mst w (W1.setCell ⟨g, kb, none⟩ (.string (K.getD ka No.bz))) B b8 vcm (.slice (some ⟨g, 0, none⟩) K.length cm) vim ⟨L, C, swp K ka kb No.bz, I⟩ := hT2
          clear hT hT1 hT2 hO1
          have hT := hT3
          clear hT3
          generalize (W1.setCell ⟨g, kb, none⟩ (.string (K.getD ka No.bz))) = W2 at *
          by_cases hab : ka = kb
          · skip
            go_upto_region 16 with fail
            refine kl_start 126 (by kernel_rfl) ?_
            refine kl_take 0 (some 105) (.int .i64 (ka : Int)) (by kernel_rfl) (by kernel_rfl) (by kernel_rfl) (by kernel_rfl) ?_
            refine kl_take 1 (some 106) (.int .i64 (kb : Int)) (by kernel_rfl) (by kernel_rfl) (by kernel_rfl) (by kernel_rfl) ?_
            refine kl_test 2 (some 107) true (by kernel_rfl) (by kernel_rfl) (by kernel_rfl) (show ((ka : Int) == (kb : Int)) = true by subst hab; simp) (by kernel_rfl) ?_
            refine kl_take 3 (some 9) (.bool true) (by kernel_rfl) (by kernel_rfl) (by kernel_rfl) (by kernel_rfl) ?_
            refine kl_done (by kernel_rfl) (fun vs11 => #[.agg (nv n0.L vc0 vk0 vi0), .int .i64 a1, .int .i64 a2, .pointer (some ⟨w.heap.size, 0, none⟩), undef, undef, (Value.bool false), .bool true, .pointer (some ⟨b8, 0, none⟩), .bool true, undef, undef, .int .i64 (ka : Int), .int .i64 (kb : Int), undef, undef, .bool true, .bool true, .bool false, y4 19, y4 20, e5 21, .bool true, .bool false, .bool false, .int .i64 a1, .bool false, .bool false, .bool false, .int .i64 a2, .bool false, .bool false, e6 32, e6 33, .pointer (some ⟨w.heap.size, 0, none⟩), .bool false, .bool false, f8 37, f8 38, f8 39, f8 40, .bool false, undef, undef, undef, undef, undef, undef, undef, undef, undef, undef, undef, undef, undef, undef, undef, undef, undef, undef, undef, undef, undef, undef, undef, undef, undef, undef, undef, undef, undef, undef, undef, .pointer (some ⟨w.heap.size, 2, none⟩), .slice pk (lm + 1) ck, .int .i64 ((lm + 1 : Nat) : Int), .bool true, .int .i64 a1, .pointer (some ⟨w.heap.size, 2, none⟩), .slice pk (lm + 1) ck, .int .i64 ((lm + 1 : Nat) : Int), .int .i64 (ka : Int), .int .i64 a2, .pointer (some ⟨w.heap.size, 2, none⟩), .slice pk (lm + 1) ck, .int .i64 ((lm + 1 : Nat) : Int), .int .i64 (kb : Int), yy 87, yy 88, yy 89, yy 90, yy 91, yy 92, yy 93, yy 94, yy 95, yy 96, yy 97, yy 98, yy 99, yy 100, yy 101, yy 102, yy 103, yy 104, .int .i64 (ka : Int), .int .i64 (kb : Int), .bool true, undef, undef, undef, undef, undef, undef, undef, undef, undef, undef, undef, undef, undef, undef, undef, undef, undef, undef]) (by kernel_rfl) ?_
            intro vs11
            subst hab
            rw [swp_same (l := K) No.bz hka3] at hT
            have HMm := HM
            have HOk := HOkP
            have HFw := HFwP
            have hNM : Nb _ (vcm) (.slice (some ⟨g, 0, none⟩) K.length cm) vim ⟨L, C, K, I⟩ := hT.m.nb HOk.out
            have hY := hT.y
            have hB := hT.b
            clear hT
            go_upto_region 17 with fail
            refine kl_start 126 (by kernel_rfl) ?_
            refine kl_get 0 (some 109) 26 _ (.tmp 8) _ (nv L (vcm) (.slice (some ⟨g, 0, none⟩) K.length cm) vim) (by kernel_rfl) (by kernel_rfl) (by kernel_rfl) (by kernel_rfl) (by kernel_rfl) hY tyM rfl ?_
            refine kl_callx 1 (some 110) (by kernel_rfl) (by kernel_rfl) (by kernel_rfl) (by kernel_rfl) (nof_any (vcm) (.slice (some ⟨g, 0, none⟩) K.length cm) vim ⟨L, C, K, I⟩ _ hNM HFw.out) ?_
            rintro e x ⟨ve, rfl, hve, hb⟩
            refine ⟨_, rfl, ?_⟩
            replace hY := hY.later hb
            replace hNM := hNM.later hb
            replace hB := hB.trans (hb.mono hB.size)
            clear hb
            refine kl_callx 2 (some 111) (by kernel_rfl) (by kernel_rfl) (by kernel_rfl) (by kernel_rfl) (enc_at0 hve HFw.out) ?_
            rintro e x ⟨v8, rfl, hb⟩
            refine ⟨_, rfl, ?_⟩
            replace hY := hY.later hb
            replace hNM := hNM.later hb
            replace hve := hve.later hb
            replace hB := hB.trans (hb.mono hB.size)
            clear hb
            refine kl_take 3 (some 108) (.tuple #[v8, .int .i64 (No.enc ⟨L, C, K, I⟩).2]) (by kernel_rfl) (by kernel_rfl) (by kernel_rfl) (by kernel_rfl) ?_
            refine kl_take 4 (some 112) (v8) (by kernel_rfl) (by kernel_rfl) (by kernel_rfl) (by kernel_rfl) ?_
            refine kl_take 5 (some 113) (.int .i64 (No.enc ⟨L, C, K, I⟩).2) (by kernel_rfl) (by kernel_rfl) (by kernel_rfl) (by kernel_rfl) ?_
            refine kl_take 6 (some 14) (v8) (by kernel_rfl) (by kernel_rfl) (by kernel_rfl) (by kernel_rfl) ?_
            refine kl_take 7 (some 15) (.int .i64 (No.enc ⟨L, C, K, I⟩).2) (by kernel_rfl) (by kernel_rfl) (by kernel_rfl) (by kernel_rfl) ?_
            refine kl_done (by kernel_rfl) (fun vs12 => #[.agg (nv n0.L vc0 vk0 vi0), .int .i64 a1, .int .i64 a2, .pointer (some ⟨w.heap.size, 0, none⟩), undef, undef, (Value.bool false), .bool true, .pointer (some ⟨b8, 0, none⟩), .bool true, undef, undef, .int .i64 (ka : Int), .int .i64 (ka : Int), v8, .int .i64 (No.enc ⟨L, C, K, I⟩).2, .bool true, .bool true, .bool false, y4 19, y4 20, e5 21, .bool true, .bool false, .bool false, .int .i64 a1, .bool false, .bool false, .bool false, .int .i64 a2, .bool false, .bool false, e6 32, e6 33, .pointer (some ⟨w.heap.size, 0, none⟩), .bool false, .bool false, f8 37, f8 38, f8 39, f8 40, .bool false, undef, undef, undef, undef, undef, undef, undef, undef, undef, undef, undef, undef, undef, undef, undef, undef, undef, undef, undef, undef, undef, undef, undef, undef, undef, undef, undef, undef, undef, undef, undef, .pointer (some ⟨w.heap.size, 2, none⟩), .slice pk (lm + 1) ck, .int .i64 ((lm + 1 : Nat) : Int), .bool true, .int .i64 a1, .pointer (some ⟨w.heap.size, 2, none⟩), .slice pk (lm + 1) ck, .int .i64 ((lm + 1 : Nat) : Int), .int .i64 (ka : Int), .int .i64 a2, .pointer (some ⟨w.heap.size, 2, none⟩), .slice pk (lm + 1) ck, .int .i64 ((lm + 1 : Nat) : Int), .int .i64 (ka : Int), yy 87, yy 88, yy 89, yy 90, yy 91, yy 92, yy 93, yy 94, yy 95, yy 96, yy 97, yy 98, yy 99, yy 100, yy 101, yy 102, yy 103, yy 104, .int .i64 (ka : Int), .int .i64 (ka : Int), .bool true, vs12 108, vs12 109, vs12 110, vs12 111, vs12 112, .int .i64 (No.enc ⟨L, C, K, I⟩).2, undef, undef, undef, undef, undef, undef, undef, undef, undef, undef, undef, undef]) (by kernel_rfl) ?_
            intro vs12
            go_upto_region 18 with fail
            refine kl_start 126 (by kernel_rfl) ?_
            refine kl_get 0 (some 114) 26 _ (.tmp 8) _ (nv L (vcm) (.slice (some ⟨g, 0, none⟩) K.length cm) vim) (by kernel_rfl) (by kernel_rfl) (by kernel_rfl) (by kernel_rfl) (by kernel_rfl) hY tyM rfl ?_
            refine kl_callx 1 (some 115) (by kernel_rfl) (by kernel_rfl) (by kernel_rfl) (by kernel_rfl) (nof_any (vcm) (.slice (some ⟨g, 0, none⟩) K.length cm) vim ⟨L, C, K, I⟩ _ hNM HFw.out) ?_
            rintro e x ⟨vf, rfl, hvf, hb⟩
            refine ⟨_, rfl, ?_⟩
            replace hY := hY.later hb
            replace hNM := hNM.later hb
            replace hve := hve.later hb
            replace hB := hB.trans (hb.mono hB.size)
            clear hb
            refine kl_callx 2 (some 116) (by kernel_rfl) (by kernel_rfl) (by kernel_rfl) (by kernel_rfl) (may_at hvf HMm.out) ?_
            rintro e x ⟨rfl, hb⟩
            refine ⟨_, rfl, ?_⟩
            replace hY := hY.later hb
            replace hNM := hNM.later hb
            replace hve := hve.later hb
            replace hvf := hvf.later hb
            replace hB := hB.trans (hb.mono hB.size)
            clear hb
            refine kl_take 3 (some 117) (.bool true) (by kernel_rfl) (by kernel_rfl) (by kernel_rfl) (by kernel_rfl) ?_
            refine kl_take 4 (some 118) (.bool true) (by kernel_rfl) (by kernel_rfl) (by kernel_rfl) (by kernel_rfl) ?_
            refine kl_take 5 (some 119) (.bool true) (by kernel_rfl) (by kernel_rfl) (by kernel_rfl) (by kernel_rfl) ?_
            refine kl_take 6 (some 120) (.bool true) (by kernel_rfl) (by kernel_rfl) (by kernel_rfl) (by kernel_rfl) ?_
            refine kl_take 7 (some 121) (.bool true) (by kernel_rfl) (by kernel_rfl) (by kernel_rfl) (by kernel_rfl) ?_
            refine kl_skip 8 (some 122) (by kernel_rfl) (by kernel_rfl) (by kernel_rfl) ?_
            refine kl_skip 9 (some 123) (by kernel_rfl) (by kernel_rfl) (by kernel_rfl) ?_
            refine kl_take 10 (some 124) (.bool true) (by kernel_rfl) (by kernel_rfl) (by kernel_rfl) (by kernel_rfl) ?_
            refine kl_take 11 (some 125) (.bool true) (by kernel_rfl) (by kernel_rfl) (by kernel_rfl) (by kernel_rfl) ?_
            refine kl_take 12 (some 6) (.bool true) (by kernel_rfl) (by kernel_rfl) (by kernel_rfl) (by kernel_rfl) ?_
            refine kl_done (by kernel_rfl) (fun vs13 => #[.agg (nv n0.L vc0 vk0 vi0), .int .i64 a1, .int .i64 a2, .pointer (some ⟨w.heap.size, 0, none⟩), undef, undef, .bool true, .bool true, .pointer (some ⟨b8, 0, none⟩), .bool true, undef, undef, .int .i64 (ka : Int), .int .i64 (ka : Int), v8, .int .i64 (No.enc ⟨L, C, K, I⟩).2, .bool true, .bool true, .bool false, y4 19, y4 20, e5 21, .bool true, .bool false, .bool false, .int .i64 a1, .bool false, .bool false, .bool false, .int .i64 a2, .bool false, .bool false, e6 32, e6 33, .pointer (some ⟨w.heap.size, 0, none⟩), .bool false, .bool false, f8 37, f8 38, f8 39, f8 40, .bool false, undef, undef, undef, undef, undef, undef, undef, undef, undef, undef, undef, undef, undef, undef, undef, undef, undef, undef, undef, undef, undef, undef, undef, undef, undef, undef, undef, undef, undef, undef, undef, .pointer (some ⟨w.heap.size, 2, none⟩), .slice pk (lm + 1) ck, .int .i64 ((lm + 1 : Nat) : Int), .bool true, .int .i64 a1, .pointer (some ⟨w.heap.size, 2, none⟩), .slice pk (lm + 1) ck, .int .i64 ((lm + 1 : Nat) : Int), .int .i64 (ka : Int), .int .i64 a2, .pointer (some ⟨w.heap.size, 2, none⟩), .slice pk (lm + 1) ck, .int .i64 ((lm + 1 : Nat) : Int), .int .i64 (ka : Int), yy 87, yy 88, yy 89, yy 90, yy 91, yy 92, yy 93, yy 94, yy 95, yy 96, yy 97, yy 98, yy 99, yy 100, yy 101, yy 102, yy 103, yy 104, .int .i64 (ka : Int), .int .i64 (ka : Int), .bool true, vs12 108, vs12 109, vs12 110, vs12 111, vs12 112, .int .i64 (No.enc ⟨L, C, K, I⟩).2, .agg (nv L (vcm) (.slice (some ⟨g, 0, none⟩) K.length cm) vim), .agg (nv L vf (.slice (some ⟨g, 0, none⟩) K.length cm) vim), .bool true, .bool true, .bool true, .bool true, .bool true, .bool true, vs13 122, vs13 123, .bool true, .bool true]) (by kernel_rfl) ?_
            intro vs13
            go_wp2_with fail
            go_ret
            exact ⟨rfl, hB⟩
          · skip
            go_upto_region 16 with fail
            refine kl_start 126 (by kernel_rfl) ?_
            refine kl_take 0 (some 105) (.int .i64 (ka : Int)) (by kernel_rfl) (by kernel_rfl) (by kernel_rfl) (by kernel_rfl) ?_
            refine kl_take 1 (some 106) (.int .i64 (kb : Int)) (by kernel_rfl) (by kernel_rfl) (by kernel_rfl) (by kernel_rfl) ?_
            refine kl_test 2 (some 107) false (by kernel_rfl) (by kernel_rfl) (by kernel_rfl) (show ((ka : Int) == (kb : Int)) = false by simp; omega) (by kernel_rfl) ?_
            refine kl_take 3 (some 9) (.bool false) (by kernel_rfl) (by kernel_rfl) (by kernel_rfl) (by kernel_rfl) ?_
            refine kl_done (by kernel_rfl) (fun vn11 => #[.agg (nv n0.L vc0 vk0 vi0), .int .i64 a1, .int .i64 a2, .pointer (some ⟨w.heap.size, 0, none⟩), undef, undef, (Value.bool false), .bool true, .pointer (some ⟨b8, 0, none⟩), .bool false, undef, undef, .int .i64 (ka : Int), .int .i64 (kb : Int), undef, undef, .bool true, .bool true, .bool false, y4 19, y4 20, e5 21, .bool true, .bool false, .bool false, .int .i64 a1, .bool false, .bool false, .bool false, .int .i64 a2, .bool false, .bool false, e6 32, e6 33, .pointer (some ⟨w.heap.size, 0, none⟩), .bool false, .bool false, f8 37, f8 38, f8 39, f8 40, .bool false, undef, undef, undef, undef, undef, undef, undef, undef, undef, undef, undef, undef, undef, undef, undef, undef, undef, undef, undef, undef, undef, undef, undef, undef, undef, undef, undef, undef, undef, undef, undef, .pointer (some ⟨w.heap.size, 2, none⟩), .slice pk (lm + 1) ck, .int .i64 ((lm + 1 : Nat) : Int), .bool true, .int .i64 a1, .pointer (some ⟨w.heap.size, 2, none⟩), .slice pk (lm + 1) ck, .int .i64 ((lm + 1 : Nat) : Int), .int .i64 (ka : Int), .int .i64 a2, .pointer (some ⟨w.heap.size, 2, none⟩), .slice pk (lm + 1) ck, .int .i64 ((lm + 1 : Nat) : Int), .int .i64 (kb : Int), yy 87, yy 88, yy 89, yy 90, yy 91, yy 92, yy 93, yy 94, yy 95, yy 96, yy 97, yy 98, yy 99, yy 100, yy 101, yy 102, yy 103, yy 104, .int .i64 (ka : Int), .int .i64 (kb : Int), .bool false, undef, undef, undef, undef, undef, undef, undef, undef, undef, undef, undef, undef, undef, undef, undef, undef, undef, undef]) (by kernel_rfl) ?_
            intro vn11
            have HMm : Hid (No.may ⟨L, C, swp K ka kb No.bz, I⟩ = false) := hide (by subst hL; exact fork_no (swp_noK (No.may_fork rfl HM.out).2.2.2 hka3 hkb3 hab))
            have HOk : Hid (No.Ok ⟨L, C, swp K ka kb No.bz, I⟩) := hide ⟨HOkP.out.c, fun c hc => HOkP.out.k c (swp_mem hka3 hkb3 hc), HOkP.out.i⟩
            have HFw : Hid (No.few ⟨L, C, swp K ka kb No.bz, I⟩) := HFwP
            have hNM : Nb _ (vcm) (.slice (some ⟨g, 0, none⟩) K.length cm) vim ⟨L, C, swp K ka kb No.bz, I⟩ := hT.m.nb HOk.out
            have hY := hT.y
            have hB := hT.b
            clear hT
            go_upto_region 17 with fail
            refine kl_start 126 (by kernel_rfl) ?_
            refine kl_get 0 (some 109) 26 _ (.tmp 8) _ (nv L (vcm) (.slice (some ⟨g, 0, none⟩) K.length cm) vim) (by kernel_rfl) (by kernel_rfl) (by kernel_rfl) (by kernel_rfl) (by kernel_rfl) hY tyM rfl ?_
            refine kl_callx 1 (some 110) (by kernel_rfl) (by kernel_rfl) (by kernel_rfl) (by kernel_rfl) (nof_any (vcm) (.slice (some ⟨g, 0, none⟩) K.length cm) vim ⟨L, C, swp K ka kb No.bz, I⟩ _ hNM HFw.out) ?_
            rintro e x ⟨ve, rfl, hve, hb⟩
            refine ⟨_, rfl, ?_⟩
            replace hY := hY.later hb
            replace hNM := hNM.later hb
            replace hB := hB.trans (hb.mono hB.size)
            clear hb
            refine kl_callx 2 (some 111) (by kernel_rfl) (by kernel_rfl) (by kernel_rfl) (by kernel_rfl) (encode_at hve HFw.out (No.enc_bad HMm.out)) ?_
            rintro e x ⟨v8, rfl, -, hb⟩
            refine ⟨_, rfl, ?_⟩
            replace hY := hY.later hb
            replace hNM := hNM.later hb
            replace hve := hve.later hb
            replace hB := hB.trans (hb.mono hB.size)
            clear hb
            refine kl_take 3 (some 108) (.tuple #[v8, .int .i64 1]) (by kernel_rfl) (by kernel_rfl) (by kernel_rfl) (by kernel_rfl) ?_
            refine kl_take 4 (some 112) (v8) (by kernel_rfl) (by kernel_rfl) (by kernel_rfl) (by kernel_rfl) ?_
            refine kl_take 5 (some 113) (.int .i64 1) (by kernel_rfl) (by kernel_rfl) (by kernel_rfl) (by kernel_rfl) ?_
            refine kl_take 6 (some 14) (v8) (by kernel_rfl) (by kernel_rfl) (by kernel_rfl) (by kernel_rfl) ?_
            refine kl_take 7 (some 15) (.int .i64 1) (by kernel_rfl) (by kernel_rfl) (by kernel_rfl) (by kernel_rfl) ?_
            refine kl_done (by kernel_rfl) (fun vn12 => #[.agg (nv n0.L vc0 vk0 vi0), .int .i64 a1, .int .i64 a2, .pointer (some ⟨w.heap.size, 0, none⟩), undef, undef, (Value.bool false), .bool true, .pointer (some ⟨b8, 0, none⟩), .bool false, undef, undef, .int .i64 (ka : Int), .int .i64 (kb : Int), v8, .int .i64 1, .bool true, .bool true, .bool false, y4 19, y4 20, e5 21, .bool true, .bool false, .bool false, .int .i64 a1, .bool false, .bool false, .bool false, .int .i64 a2, .bool false, .bool false, e6 32, e6 33, .pointer (some ⟨w.heap.size, 0, none⟩), .bool false, .bool false, f8 37, f8 38, f8 39, f8 40, .bool false, undef, undef, undef, undef, undef, undef, undef, undef, undef, undef, undef, undef, undef, undef, undef, undef, undef, undef, undef, undef, undef, undef, undef, undef, undef, undef, undef, undef, undef, undef, undef, .pointer (some ⟨w.heap.size, 2, none⟩), .slice pk (lm + 1) ck, .int .i64 ((lm + 1 : Nat) : Int), .bool true, .int .i64 a1, .pointer (some ⟨w.heap.size, 2, none⟩), .slice pk (lm + 1) ck, .int .i64 ((lm + 1 : Nat) : Int), .int .i64 (ka : Int), .int .i64 a2, .pointer (some ⟨w.heap.size, 2, none⟩), .slice pk (lm + 1) ck, .int .i64 ((lm + 1 : Nat) : Int), .int .i64 (kb : Int), yy 87, yy 88, yy 89, yy 90, yy 91, yy 92, yy 93, yy 94, yy 95, yy 96, yy 97, yy 98, yy 99, yy 100, yy 101, yy 102, yy 103, yy 104, .int .i64 (ka : Int), .int .i64 (kb : Int), .bool false, vn12 108, vn12 109, vn12 110, vn12 111, vn12 112, .int .i64 1, undef, undef, undef, undef, undef, undef, undef, undef, undef, undef, undef, undef]) (by kernel_rfl) ?_
            intro vn12
            go_upto_region 18 with fail
            refine kl_start 126 (by kernel_rfl) ?_
            refine kl_get 0 (some 114) 26 _ (.tmp 8) _ (nv L (vcm) (.slice (some ⟨g, 0, none⟩) K.length cm) vim) (by kernel_rfl) (by kernel_rfl) (by kernel_rfl) (by kernel_rfl) (by kernel_rfl) hY tyM rfl ?_
            refine kl_callx 1 (some 115) (by kernel_rfl) (by kernel_rfl) (by kernel_rfl) (by kernel_rfl) (nof_any (vcm) (.slice (some ⟨g, 0, none⟩) K.length cm) vim ⟨L, C, swp K ka kb No.bz, I⟩ _ hNM HFw.out) ?_
            rintro e x ⟨vf, rfl, hvf, hb⟩
            refine ⟨_, rfl, ?_⟩
            replace hY := hY.later hb
            replace hNM := hNM.later hb
            replace hve := hve.later hb
            replace hB := hB.trans (hb.mono hB.size)
            clear hb
            refine kl_callx 2 (some 116) (by kernel_rfl) (by kernel_rfl) (by kernel_rfl) (by kernel_rfl) (may_at hvf HMm.out) ?_
            rintro e x ⟨rfl, hb⟩
            refine ⟨_, rfl, ?_⟩
            replace hY := hY.later hb
            replace hNM := hNM.later hb
            replace hve := hve.later hb
            replace hvf := hvf.later hb
            replace hB := hB.trans (hb.mono hB.size)
            clear hb
            refine kl_take 3 (some 117) (.bool false) (by kernel_rfl) (by kernel_rfl) (by kernel_rfl) (by kernel_rfl) ?_
            refine kl_take 4 (some 118) (.bool true) (by kernel_rfl) (by kernel_rfl) (by kernel_rfl) (by kernel_rfl) ?_
            refine kl_take 5 (some 119) (.bool true) (by kernel_rfl) (by kernel_rfl) (by kernel_rfl) (by kernel_rfl) ?_
            refine kl_take 6 (some 120) (.bool false) (by kernel_rfl) (by kernel_rfl) (by kernel_rfl) (by kernel_rfl) ?_
            refine kl_take 7 (some 121) (.bool false) (by kernel_rfl) (by kernel_rfl) (by kernel_rfl) (by kernel_rfl) ?_
            refine kl_take 8 (some 122) (.int .i64 1) (by kernel_rfl) (by kernel_rfl) (by kernel_rfl) (by kernel_rfl) ?_
            refine kl_take 9 (some 123) (.bool true) (by kernel_rfl) (by kernel_rfl) (by kernel_rfl) (by kernel_rfl) ?_
            refine kl_take 10 (some 124) (.bool true) (by kernel_rfl) (by kernel_rfl) (by kernel_rfl) (by kernel_rfl) ?_
            refine kl_take 11 (some 125) (.bool true) (by kernel_rfl) (by kernel_rfl) (by kernel_rfl) (by kernel_rfl) ?_
            refine kl_take 12 (some 6) (.bool true) (by kernel_rfl) (by kernel_rfl) (by kernel_rfl) (by kernel_rfl) ?_
            refine kl_done (by kernel_rfl) (fun vn13 => #[.agg (nv n0.L vc0 vk0 vi0), .int .i64 a1, .int .i64 a2, .pointer (some ⟨w.heap.size, 0, none⟩), undef, undef, .bool true, .bool true, .pointer (some ⟨b8, 0, none⟩), .bool false, undef, undef, .int .i64 (ka : Int), .int .i64 (kb : Int), v8, .int .i64 1, .bool true, .bool true, .bool false, y4 19, y4 20, e5 21, .bool true, .bool false, .bool false, .int .i64 a1, .bool false, .bool false, .bool false, .int .i64 a2, .bool false, .bool false, e6 32, e6 33, .pointer (some ⟨w.heap.size, 0, none⟩), .bool false, .bool false, f8 37, f8 38, f8 39, f8 40, .bool false, undef, undef, undef, undef, undef, undef, undef, undef, undef, undef, undef, undef, undef, undef, undef, undef, undef, undef, undef, undef, undef, undef, undef, undef, undef, undef, undef, undef, undef, undef, undef, .pointer (some ⟨w.heap.size, 2, none⟩), .slice pk (lm + 1) ck, .int .i64 ((lm + 1 : Nat) : Int), .bool true, .int .i64 a1, .pointer (some ⟨w.heap.size, 2, none⟩), .slice pk (lm + 1) ck, .int .i64 ((lm + 1 : Nat) : Int), .int .i64 (ka : Int), .int .i64 a2, .pointer (some ⟨w.heap.size, 2, none⟩), .slice pk (lm + 1) ck, .int .i64 ((lm + 1 : Nat) : Int), .int .i64 (kb : Int), yy 87, yy 88, yy 89, yy 90, yy 91, yy 92, yy 93, yy 94, yy 95, yy 96, yy 97, yy 98, yy 99, yy 100, yy 101, yy 102, yy 103, yy 104, .int .i64 (ka : Int), .int .i64 (kb : Int), .bool false, vn12 108, vn12 109, vn12 110, vn12 111, vn12 112, .int .i64 1, .agg (nv L (vcm) (.slice (some ⟨g, 0, none⟩) K.length cm) vim), .agg (nv L vf (.slice (some ⟨g, 0, none⟩) K.length cm) vim), .bool false, .bool false, .bool true, .bool true, .bool false, .bool false, .int .i64 1, .bool true, .bool true, .bool true]) (by kernel_rfl) ?_
            intro vn13
            go_wp2_with fail
            go_ret
            exact ⟨rfl, hB⟩
    · skip
      cases hct : decide ((1 : Int) < (nc : Int))
      · skip
        go_upto_region 9 with fail
        refine kl_start 126 (by kernel_rfl) ?_
        refine kl_take 0 (some 34) (.pointer (some ⟨w.heap.size, 0, none⟩)) (by kernel_rfl) (by kernel_rfl) (by kernel_rfl) (by kernel_rfl) ?_
        refine kl_load 1 (some 35) (.bool true) 4 (.tmp 34) (by kernel_rfl) (by kernel_rfl) (by kernel_rfl) (by kernel_rfl) (by kernel_rfl) (ld_bo (by have := hX.nodes.1; rw [hL] at this; exact this)) ?_
        refine kl_take 2 (some 36) (.bool true) (by kernel_rfl) (by kernel_rfl) (by kernel_rfl) (by kernel_rfl) ?_
        refine kl_take 3 (some 37) (.pointer (some ⟨w.heap.size, 1, none⟩)) (by kernel_rfl) (by kernel_rfl) (by kernel_rfl) (by kernel_rfl) ?_
        refine kl_load 4 (some 38) (.slice pc nc cc0) 22 (.tmp 37) (by kernel_rfl) (by kernel_rfl) (by kernel_rfl) (by kernel_rfl) (by kernel_rfl) (ld_csM hX.nodes.2.1) ?_
        refine kl_take 5 (some 39) (.int .i64 (nc : Int)) (by kernel_rfl) (by kernel_rfl) (by kernel_rfl) (by kernel_rfl) ?_
        refine kl_test 6 (some 40) false (by kernel_rfl) (by kernel_rfl) (by kernel_rfl) (hct) (by kernel_rfl) ?_
        refine kl_take 7 (some 41) (.bool false) (by kernel_rfl) (by kernel_rfl) (by kernel_rfl) (by kernel_rfl) ?_
        refine kl_done (by kernel_rfl) (fun la8 => #[.agg (nv n0.L vc0 vk0 vi0), .int .i64 a1, .int .i64 a2, .pointer (some ⟨w.heap.size, 0, none⟩), undef, undef, (Value.bool false), .bool true, .pointer (some ⟨b8, 0, none⟩), (Value.bool true), undef, undef, undef, undef, undef, undef, .bool true, .bool true, .bool false, y4 19, y4 20, e5 21, .bool true, .bool false, .bool false, .int .i64 a1, .bool false, .bool false, .bool false, .int .i64 a2, .bool false, .bool false, e6 32, e6 33, .pointer (some ⟨w.heap.size, 0, none⟩), .bool true, .bool true, .pointer (some ⟨w.heap.size, 1, none⟩), .slice pc nc cc0, .int .i64 (nc : Int), .bool false, .bool false, undef, undef, undef, undef, undef, undef, undef, undef, undef, undef, undef, undef, undef, undef, undef, undef, undef, undef, undef, undef, undef, undef, undef, undef, undef, undef, undef, undef, undef, undef, undef, undef, undef, undef, undef, undef, undef, undef, undef, undef, undef, undef, undef, undef, undef, undef, undef, undef, undef, undef, undef, undef, undef, undef, undef, undef, undef, undef, undef, undef, undef, undef, undef, undef, undef, undef, undef, undef, undef, undef, undef, undef, undef, undef, undef, undef, undef, undef, undef, undef, undef, undef, undef, undef]) (by kernel_rfl) ?_
        intro la8
        have hkt : decide ((1 : Int) < (nk : Int)) = false := by have := (No.may_leaf hL HM.out).1; simp only at this; rw [this] at hnk; simp at hnk; subst hnk; simp
        go_upto_region 13 with fail
        refine kl_start 126 (by kernel_rfl) ?_
        refine kl_take 0 (some 73) (.pointer (some ⟨w.heap.size, 2, none⟩)) (by kernel_rfl) (by kernel_rfl) (by kernel_rfl) (by kernel_rfl) ?_
        refine kl_load 1 (some 74) (.slice pk nk ck) 23 (.tmp 73) (by kernel_rfl) (by kernel_rfl) (by kernel_rfl) (by kernel_rfl) (by kernel_rfl) (ld_ts hX.nodes.2.2.1) ?_
        refine kl_take 2 (some 75) (.int .i64 (nk : Int)) (by kernel_rfl) (by kernel_rfl) (by kernel_rfl) (by kernel_rfl) ?_
        refine kl_test 3 (some 76) false (by kernel_rfl) (by kernel_rfl) (by kernel_rfl) (hkt) (by kernel_rfl) ?_
        refine kl_done (by kernel_rfl) (fun la9 => #[.agg (nv n0.L vc0 vk0 vi0), .int .i64 a1, .int .i64 a2, .pointer (some ⟨w.heap.size, 0, none⟩), undef, undef, (Value.bool false), .bool true, .pointer (some ⟨b8, 0, none⟩), (Value.bool true), undef, undef, undef, undef, undef, undef, .bool true, .bool true, .bool false, y4 19, y4 20, e5 21, .bool true, .bool false, .bool false, .int .i64 a1, .bool false, .bool false, .bool false, .int .i64 a2, .bool false, .bool false, e6 32, e6 33, .pointer (some ⟨w.heap.size, 0, none⟩), .bool true, .bool true, .pointer (some ⟨w.heap.size, 1, none⟩), .slice pc nc cc0, .int .i64 (nc : Int), .bool false, .bool false, undef, undef, undef, undef, undef, undef, undef, undef, undef, undef, undef, undef, undef, undef, undef, undef, undef, undef, undef, undef, undef, undef, undef, undef, undef, undef, undef, undef, undef, undef, undef, .pointer (some ⟨w.heap.size, 2, none⟩), .slice pk nk ck, .int .i64 (nk : Int), .bool false, undef, undef, undef, undef, undef, undef, undef, undef, undef, undef, undef, undef, undef, undef, undef, undef, undef, undef, undef, undef, undef, undef, undef, undef, undef, undef, undef, undef, undef, undef, undef, undef, undef, undef, undef, undef, undef, undef, undef, undef, undef, undef, undef, undef, undef, undef, undef, undef, undef]) (by kernel_rfl) ?_
        intro la9
        clear hX hP
        have HMm := HM
        have HOk := HOkP
        have HFw := HFwP
        have hNM : Nb _ (vcm) (vkm) vim ⟨L, C, K, I⟩ := hT.m.nb HOk.out
        have hY := hT.y
        have hB := hT.b
        clear hT
        go_upto_region 17 with fail
        refine kl_start 126 (by kernel_rfl) ?_
        refine kl_get 0 (some 109) 26 _ (.tmp 8) _ (nv L (vcm) (vkm) vim) (by kernel_rfl) (by kernel_rfl) (by kernel_rfl) (by kernel_rfl) (by kernel_rfl) hY tyM rfl ?_
        refine kl_callx 1 (some 110) (by kernel_rfl) (by kernel_rfl) (by kernel_rfl) (by kernel_rfl) (nof_any (vcm) (vkm) vim ⟨L, C, K, I⟩ _ hNM HFw.out) ?_
        rintro e x ⟨ve, rfl, hve, hb⟩
        refine ⟨_, rfl, ?_⟩
        replace hY := hY.later hb
        replace hNM := hNM.later hb
        replace hB := hB.trans (hb.mono hB.size)
        clear hb
        refine kl_callx 2 (some 111) (by kernel_rfl) (by kernel_rfl) (by kernel_rfl) (by kernel_rfl) (enc_at0 hve HFw.out) ?_
        rintro e x ⟨v8, rfl, hb⟩
        refine ⟨_, rfl, ?_⟩
        replace hY := hY.later hb
        replace hNM := hNM.later hb
        replace hve := hve.later hb
        replace hB := hB.trans (hb.mono hB.size)
        clear hb
        refine kl_take 3 (some 108) (.tuple #[v8, .int .i64 (No.enc ⟨L, C, K, I⟩).2]) (by kernel_rfl) (by kernel_rfl) (by kernel_rfl) (by kernel_rfl) ?_
        refine kl_take 4 (some 112) (v8) (by kernel_rfl) (by kernel_rfl) (by kernel_rfl) (by kernel_rfl) ?_
        refine kl_take 5 (some 113) (.int .i64 (No.enc ⟨L, C, K, I⟩).2) (by kernel_rfl) (by kernel_rfl) (by kernel_rfl) (by kernel_rfl) ?_
        refine kl_take 6 (some 14) (v8) (by kernel_rfl) (by kernel_rfl) (by kernel_rfl) (by kernel_rfl) ?_
        refine kl_take 7 (some 15) (.int .i64 (No.enc ⟨L, C, K, I⟩).2) (by kernel_rfl) (by kernel_rfl) (by kernel_rfl) (by kernel_rfl) ?_
        refine kl_done (by kernel_rfl) (fun la10 => #[.agg (nv n0.L vc0 vk0 vi0), .int .i64 a1, .int .i64 a2, .pointer (some ⟨w.heap.size, 0, none⟩), undef, undef, (Value.bool false), .bool true, .pointer (some ⟨b8, 0, none⟩), (Value.bool true), undef, undef, undef, undef, v8, .int .i64 (No.enc ⟨L, C, K, I⟩).2, .bool true, .bool true, .bool false, y4 19, y4 20, e5 21, .bool true, .bool false, .bool false, .int .i64 a1, .bool false, .bool false, .bool false, .int .i64 a2, .bool false, .bool false, e6 32, e6 33, .pointer (some ⟨w.heap.size, 0, none⟩), .bool true, .bool true, .pointer (some ⟨w.heap.size, 1, none⟩), .slice pc nc cc0, .int .i64 (nc : Int), .bool false, .bool false, undef, undef, undef, undef, undef, undef, undef, undef, undef, undef, undef, undef, undef, undef, undef, undef, undef, undef, undef, undef, undef, undef, undef, undef, undef, undef, undef, undef, undef, undef, undef, .pointer (some ⟨w.heap.size, 2, none⟩), .slice pk nk ck, .int .i64 (nk : Int), .bool false, undef, undef, undef, undef, undef, undef, undef, undef, undef, undef, undef, undef, undef, undef, undef, undef, undef, undef, undef, undef, undef, undef, undef, undef, undef, undef, undef, undef, undef, undef, undef, la10 108, la10 109, la10 110, la10 111, la10 112, .int .i64 (No.enc ⟨L, C, K, I⟩).2, undef, undef, undef, undef, undef, undef, undef, undef, undef, undef, undef, undef]) (by kernel_rfl) ?_
        intro la10
        go_upto_region 18 with fail
        refine kl_start 126 (by kernel_rfl) ?_
        refine kl_get 0 (some 114) 26 _ (.tmp 8) _ (nv L (vcm) (vkm) vim) (by kernel_rfl) (by kernel_rfl) (by kernel_rfl) (by kernel_rfl) (by kernel_rfl) hY tyM rfl ?_
        refine kl_callx 1 (some 115) (by kernel_rfl) (by kernel_rfl) (by kernel_rfl) (by kernel_rfl) (nof_any (vcm) (vkm) vim ⟨L, C, K, I⟩ _ hNM HFw.out) ?_
        rintro e x ⟨vf, rfl, hvf, hb⟩
        refine ⟨_, rfl, ?_⟩
        replace hY := hY.later hb
        replace hNM := hNM.later hb
        replace hve := hve.later hb
        replace hB := hB.trans (hb.mono hB.size)
        clear hb
        refine kl_callx 2 (some 116) (by kernel_rfl) (by kernel_rfl) (by kernel_rfl) (by kernel_rfl) (may_at hvf HMm.out) ?_
        rintro e x ⟨rfl, hb⟩
        refine ⟨_, rfl, ?_⟩
        replace hY := hY.later hb
        replace hNM := hNM.later hb
        replace hve := hve.later hb
        replace hvf := hvf.later hb
        replace hB := hB.trans (hb.mono hB.size)
        clear hb
        refine kl_take 3 (some 117) ((Value.bool true)) (by kernel_rfl) (by kernel_rfl) (by kernel_rfl) (by kernel_rfl) ?_
        refine kl_take 4 (some 118) (.bool true) (by kernel_rfl) (by kernel_rfl) (by kernel_rfl) (by kernel_rfl) ?_
        refine kl_take 5 (some 119) (.bool true) (by kernel_rfl) (by kernel_rfl) (by kernel_rfl) (by kernel_rfl) ?_
        refine kl_take 6 (some 120) ((Value.bool true)) (by kernel_rfl) (by kernel_rfl) (by kernel_rfl) (by kernel_rfl) ?_
        refine kl_take 7 (some 121) ((Value.bool true)) (by kernel_rfl) (by kernel_rfl) (by kernel_rfl) (by kernel_rfl) ?_
        refine kl_skip 8 (some 122) (by kernel_rfl) (by kernel_rfl) (by kernel_rfl) ?_
        refine kl_skip 9 (some 123) (by kernel_rfl) (by kernel_rfl) (by kernel_rfl) ?_
        refine kl_take 10 (some 124) (.bool true) (by kernel_rfl) (by kernel_rfl) (by kernel_rfl) (by kernel_rfl) ?_
        refine kl_take 11 (some 125) (.bool true) (by kernel_rfl) (by kernel_rfl) (by kernel_rfl) (by kernel_rfl) ?_
        refine kl_take 12 (some 6) (.bool true) (by kernel_rfl) (by kernel_rfl) (by kernel_rfl) (by kernel_rfl) ?_
        refine kl_done (by kernel_rfl) (fun la11 => #[.agg (nv n0.L vc0 vk0 vi0), .int .i64 a1, .int .i64 a2, .pointer (some ⟨w.heap.size, 0, none⟩), undef, undef, .bool true, .bool true, .pointer (some ⟨b8, 0, none⟩), (Value.bool true), undef, undef, undef, undef, v8, .int .i64 (No.enc ⟨L, C, K, I⟩).2, .bool true, .bool true, .bool false, y4 19, y4 20, e5 21, .bool true, .bool false, .bool false, .int .i64 a1, .bool false, .bool false, .bool false, .int .i64 a2, .bool false, .bool false, e6 32, e6 33, .pointer (some ⟨w.heap.size, 0, none⟩), .bool true, .bool true, .pointer (some ⟨w.heap.size, 1, none⟩), .slice pc nc cc0, .int .i64 (nc : Int), .bool false, .bool false, undef, undef, undef, undef, undef, undef, undef, undef, undef, undef, undef, undef, undef, undef, undef, undef, undef, undef, undef, undef, undef, undef, undef, undef, undef, undef, undef, undef, undef, undef, undef, .pointer (some ⟨w.heap.size, 2, none⟩), .slice pk nk ck, .int .i64 (nk : Int), .bool false, undef, undef, undef, undef, undef, undef, undef, undef, undef, undef, undef, undef, undef, undef, undef, undef, undef, undef, undef, undef, undef, undef, undef, undef, undef, undef, undef, undef, undef, undef, undef, la10 108, la10 109, la10 110, la10 111, la10 112, .int .i64 (No.enc ⟨L, C, K, I⟩).2, .agg (nv L (vcm) (vkm) vim), .agg (nv L vf (vkm) vim), .bool true, (Value.bool true), .bool true, .bool true, (Value.bool true), (Value.bool true), la11 122, la11 123, .bool true, .bool true]) (by kernel_rfl) ?_
        intro la11
        go_wp2_with fail
        go_ret
        exact ⟨rfl, hB⟩
      · skip
        go_upto_region 9 with fail
        refine kl_start 126 (by kernel_rfl) ?_
        refine kl_take 0 (some 34) (.pointer (some ⟨w.heap.size, 0, none⟩)) (by kernel_rfl) (by kernel_rfl) (by kernel_rfl) (by kernel_rfl) ?_
        refine kl_load 1 (some 35) (.bool true) 4 (.tmp 34) (by kernel_rfl) (by kernel_rfl) (by kernel_rfl) (by kernel_rfl) (by kernel_rfl) (ld_bo (by have := hX.nodes.1; rw [hL] at this; exact this)) ?_
        refine kl_take 2 (some 36) (.bool true) (by kernel_rfl) (by kernel_rfl) (by kernel_rfl) (by kernel_rfl) ?_
        refine kl_take 3 (some 37) (.pointer (some ⟨w.heap.size, 1, none⟩)) (by kernel_rfl) (by kernel_rfl) (by kernel_rfl) (by kernel_rfl) ?_
        refine kl_load 4 (some 38) (.slice pc nc cc0) 22 (.tmp 37) (by kernel_rfl) (by kernel_rfl) (by kernel_rfl) (by kernel_rfl) (by kernel_rfl) (ld_csM hX.nodes.2.1) ?_
        refine kl_take 5 (some 39) (.int .i64 (nc : Int)) (by kernel_rfl) (by kernel_rfl) (by kernel_rfl) (by kernel_rfl) ?_
        refine kl_test 6 (some 40) true (by kernel_rfl) (by kernel_rfl) (by kernel_rfl) (hct) (by kernel_rfl) ?_
        refine kl_take 7 (some 41) (.bool true) (by kernel_rfl) (by kernel_rfl) (by kernel_rfl) (by kernel_rfl) ?_
        refine kl_done (by kernel_rfl) (fun lb8 => #[.agg (nv n0.L vc0 vk0 vi0), .int .i64 a1, .int .i64 a2, .pointer (some ⟨w.heap.size, 0, none⟩), undef, undef, (Value.bool false), .bool true, .pointer (some ⟨b8, 0, none⟩), (Value.bool true), undef, undef, undef, undef, undef, undef, .bool true, .bool true, .bool false, y4 19, y4 20, e5 21, .bool true, .bool false, .bool false, .int .i64 a1, .bool false, .bool false, .bool false, .int .i64 a2, .bool false, .bool false, e6 32, e6 33, .pointer (some ⟨w.heap.size, 0, none⟩), .bool true, .bool true, .pointer (some ⟨w.heap.size, 1, none⟩), .slice pc nc cc0, .int .i64 (nc : Int), .bool true, .bool true, undef, undef, undef, undef, undef, undef, undef, undef, undef, undef, undef, undef, undef, undef, undef, undef, undef, undef, undef, undef, undef, undef, undef, undef, undef, undef, undef, undef, undef, undef, undef, undef, undef, undef, undef, undef, undef, undef, undef, undef, undef, undef, undef, undef, undef, undef, undef, undef, undef, undef, undef, undef, undef, undef, undef, undef, undef, undef, undef, undef, undef, undef, undef, undef, undef, undef, undef, undef, undef, undef, undef, undef, undef, undef, undef, undef, undef, undef, undef, undef, undef, undef, undef, undef]) (by kernel_rfl) ?_
        intro lb8
        have hct := of_decide_eq_true hct
        obtain ⟨lm, hlm⟩ : ∃ lm, nc = lm + 1 := ⟨nc - 1, by omega⟩
        subst hlm
        obtain ⟨ka, hka, hka2⟩ := rem_nat (n := lm + 1) H1 (by omega)
        obtain ⟨kb, hkb, hkb2⟩ := rem_nat (n := lm + 1) H2 (by omega)
        go_upto_region 10 with fail
        refine ka_start 126 12 (by kernel_rfl) (by kernel_rfl) (by kernel_rfl) ?_
        intro ZA hb
        replace hX := hX.later hb
        replace hP := hP.later hb
        replace hT := hT.later hb
        clear hb
        refine ka_pure 0 (some 42) (.int .i64 a1) (by kernel_rfl) (by kernel_rfl) (by kernel_rfl) (by kernel_rfl) (by kernel_rfl) (by kernel_rfl) (fun _ => by kernel_rfl) ?_
        refine ka_pure 1 (some 43) (.pointer (some ⟨w.heap.size, 1, none⟩)) (by kernel_rfl) (by kernel_rfl) (by kernel_rfl) (by kernel_rfl) (by kernel_rfl) (by kernel_rfl) (fun _ => by kernel_rfl) ?_
        refine ka_load 2 (some 44) (.slice pc (lm + 1) cc0) 22 (.tmp 43) (by kernel_rfl) (by kernel_rfl) (by kernel_rfl) (by kernel_rfl) (by kernel_rfl) (by kernel_rfl) (by kernel_rfl) (by kernel_rfl) (fun W hW => ld_csM (hX.later hW).nodes.2.1) ?_
        refine ka_pure 3 (some 45) (.int .i64 ((lm + 1 : Nat) : Int)) (by kernel_rfl) (by kernel_rfl) (by kernel_rfl) (by kernel_rfl) (by kernel_rfl) (by kernel_rfl) (fun _ => by kernel_rfl) ?_
        refine ka_pure 4 (some 46) (.int .i64 (a1.tmod ((lm + 1 : Nat) : Int))) (by kernel_rfl) (by kernel_rfl) (by kernel_rfl) (by kernel_rfl) (by kernel_rfl) (by kernel_rfl) (fun _ => by kernel_rfl) ?_
        rw [hka]
        refine ka_pure 5 (some 47) (.int .i64 a2) (by kernel_rfl) (by kernel_rfl) (by kernel_rfl) (by kernel_rfl) (by kernel_rfl) (by kernel_rfl) (fun _ => by kernel_rfl) ?_
        refine ka_pure 6 (some 48) (.pointer (some ⟨w.heap.size, 1, none⟩)) (by kernel_rfl) (by kernel_rfl) (by kernel_rfl) (by kernel_rfl) (by kernel_rfl) (by kernel_rfl) (fun _ => by kernel_rfl) ?_
        refine ka_load 7 (some 49) (.slice pc (lm + 1) cc0) 22 (.tmp 48) (by kernel_rfl) (by kernel_rfl) (by kernel_rfl) (by kernel_rfl) (by kernel_rfl) (by kernel_rfl) (by kernel_rfl) (by kernel_rfl) (fun W hW => ld_csM (hX.later hW).nodes.2.1) ?_
        refine ka_pure 8 (some 50) (.int .i64 ((lm + 1 : Nat) : Int)) (by kernel_rfl) (by kernel_rfl) (by kernel_rfl) (by kernel_rfl) (by kernel_rfl) (by kernel_rfl) (fun _ => by kernel_rfl) ?_
        refine ka_pure 9 (some 51) (.int .i64 (a2.tmod ((lm + 1 : Nat) : Int))) (by kernel_rfl) (by kernel_rfl) (by kernel_rfl) (by kernel_rfl) (by kernel_rfl) (by kernel_rfl) (fun _ => by kernel_rfl) ?_
        rw [hkb]
        refine ka_pure 10 (some 10) (.int .i64 (ka : Int)) (by kernel_rfl) (by kernel_rfl) (by kernel_rfl) (by kernel_rfl) (by kernel_rfl) (by kernel_rfl) (fun _ => by kernel_rfl) ?_
        refine ka_pure 11 (some 11) (.int .i64 (kb : Int)) (by kernel_rfl) (by kernel_rfl) (by kernel_rfl) (by kernel_rfl) (by kernel_rfl) (by kernel_rfl) (fun _ => by kernel_rfl) ?_
        refine ka_done (by kernel_rfl) (fun lb9 => #[.agg (nv n0.L vc0 vk0 vi0), .int .i64 a1, .int .i64 a2, .pointer (some ⟨w.heap.size, 0, none⟩), undef, undef, (Value.bool false), .bool true, .pointer (some ⟨b8, 0, none⟩), (Value.bool true), .int .i64 (ka : Int), .int .i64 (kb : Int), undef, undef, undef, undef, .bool true, .bool true, .bool false, y4 19, y4 20, e5 21, .bool true, .bool false, .bool false, .int .i64 a1, .bool false, .bool false, .bool false, .int .i64 a2, .bool false, .bool false, e6 32, e6 33, .pointer (some ⟨w.heap.size, 0, none⟩), .bool true, .bool true, .pointer (some ⟨w.heap.size, 1, none⟩), .slice pc (lm + 1) cc0, .int .i64 ((lm + 1 : Nat) : Int), .bool true, .bool true, .int .i64 a1, .pointer (some ⟨w.heap.size, 1, none⟩), .slice pc (lm + 1) cc0, .int .i64 ((lm + 1 : Nat) : Int), .int .i64 (ka : Int), .int .i64 a2, .pointer (some ⟨w.heap.size, 1, none⟩), .slice pc (lm + 1) cc0, .int .i64 ((lm + 1 : Nat) : Int), .int .i64 (kb : Int), undef, undef, undef, undef, undef, undef, undef, undef, undef, undef, undef, undef, undef, undef, undef, undef, undef, undef, undef, undef, undef, undef, undef, undef, undef, undef, undef, undef, undef, undef, undef, undef, undef, undef, undef, undef, undef, undef, undef, undef, undef, undef, undef, undef, undef, undef, undef, undef, undef, undef, undef, undef, undef, undef, undef, undef, undef, undef, undef, undef, undef, undef, undef, undef, undef, undef, undef, undef, undef, undef, undef, undef, undef, undef]) (by kernel_rfl) (Below.refl _ _) ?_
        intro lb9
        obtain ⟨g, cm, hvm, hBg⟩ := own_block hT.m.c (by simp only; omega)
        simp only at hvm
        subst hvm
        have hka3 : ka < C.length := by omega
        have hkb3 : kb < C.length := by omega
        clear hX hP
        go_upto_region 11 with fail
        refine kp_start 17 126 20 (by kernel_rfl) (by kernel_rfl) (by kernel_rfl) ?_
        intro ZB hb
        replace hT := hT.later hb
        clear hb
        refine kp_pure 0 (some 52) (.pointer (some ⟨b8, 1, none⟩)) (by kernel_rfl) (by kernel_rfl) (by kernel_rfl) (by kernel_rfl) (by kernel_rfl) (by kernel_rfl) (by kernel_rfl) (Below.refl _ _) (fun _ => by kernel_rfl) ?_
        refine kp_take [17] 1 (some 53) (.slice (some ⟨g, 0, none⟩) C.length cm) (by kernel_rfl) (by kernel_rfl) (by kernel_rfl) (by kernel_rfl) (by kernel_rfl) (by kernel_rfl) (by kernel_rfl) (by kernel_rfl) (by kernel_rfl) (Below.refl _ _) (fun W hW => ld_run 22 (.tmp 52) (by kernel_rfl) (by kernel_rfl) (ld_csM (hT.y.later hW).nodes.2.1)) ?_
        refine kp_pure 2 (some 54) (.int .i64 (ka : Int)) (by kernel_rfl) (by kernel_rfl) (by kernel_rfl) (by kernel_rfl) (by kernel_rfl) (by kernel_rfl) (by kernel_rfl) (Below.refl _ _) (fun _ => by kernel_rfl) ?_
        refine kp_pure 3 (some 55) (.pointer (some ⟨b8, 1, none⟩)) (by kernel_rfl) (by kernel_rfl) (by kernel_rfl) (by kernel_rfl) (by kernel_rfl) (by kernel_rfl) (by kernel_rfl) (Below.refl _ _) (fun _ => by kernel_rfl) ?_
        refine kp_pure 5 (some 57) (.int .i64 (kb : Int)) (by kernel_rfl) (by kernel_rfl) (by kernel_rfl) (by kernel_rfl) (by kernel_rfl) (by kernel_rfl) (by kernel_rfl) (Below.refl _ _) (fun _ => by kernel_rfl) ?_
        refine kp_pure 6 (some 58) (.pointer (some ⟨b8, 1, none⟩)) (by kernel_rfl) (by kernel_rfl) (by kernel_rfl) (by kernel_rfl) (by kernel_rfl) (by kernel_rfl) (by kernel_rfl) (Below.refl _ _) (fun _ => by kernel_rfl) ?_
        refine kp_take [17] 7 (some 59) (.slice (some ⟨g, 0, none⟩) C.length cm) (by kernel_rfl) (by kernel_rfl) (by kernel_rfl) (by kernel_rfl) (by kernel_rfl) (by kernel_rfl) (by kernel_rfl) (by kernel_rfl) (by kernel_rfl) (Below.refl _ _) (fun W hW => ld_run 22 (.tmp 58) (by kernel_rfl) (by kernel_rfl) (ld_csM (hT.y.later hW).nodes.2.1)) ?_
        refine kp_pure 8 (some 60) (.int .i64 (kb : Int)) (by kernel_rfl) (by kernel_rfl) (by kernel_rfl) (by kernel_rfl) (by kernel_rfl) (by kernel_rfl) (by kernel_rfl) (Below.refl _ _) (fun _ => by kernel_rfl) ?_
        refine kp_pure 9 (some 61) (.pointer (some ⟨g, 0 + kb * 8, none⟩)) (by kernel_rfl) (by kernel_rfl) (by kernel_rfl) (by kernel_rfl) (by kernel_rfl) (by kernel_rfl) (by kernel_rfl) (Below.refl _ _) (ix_run 22 (.tmp 59) (.tmp 60) 8 g 0 C.length cm kb (by kernel_rfl) (by kernel_rfl) (by kernel_rfl) Try.underlying22 (by kernel_rfl) (by omega)) ?_
        refine kp_take [17] 10 (some 62) (.agg (cv (C.getD kb Ce.zero))) (by kernel_rfl) (by kernel_rfl) (by kernel_rfl) (by kernel_rfl) (by kernel_rfl) (by kernel_rfl) (by kernel_rfl) (by kernel_rfl) (by kernel_rfl) (Below.refl _ _) (fun W hW => ld_run 34 (.tmp 61) (by kernel_rfl) (by kernel_rfl) (ld_cell (own_range (own_below hT.m.c hW) hkb3))) ?_
        refine kp_pure 11 (some 63) (.pointer (some ⟨b8, 1, none⟩)) (by kernel_rfl) (by kernel_rfl) (by kernel_rfl) (by kernel_rfl) (by kernel_rfl) (by kernel_rfl) (by kernel_rfl) (Below.refl _ _) (fun _ => by kernel_rfl) ?_
        refine kp_take [14, 15, 17] 12 (some 64) (.slice (some ⟨g, 0, none⟩) C.length cm) (by kernel_rfl) (by kernel_rfl) (by kernel_rfl) (by kernel_rfl) (by kernel_rfl) (by kernel_rfl) (by kernel_rfl) (by kernel_rfl) (by kernel_rfl) (Below.refl _ _) (fun W hW => ld_run 22 (.tmp 63) (by kernel_rfl) (by kernel_rfl) (ld_csM (hT.y.later hW).nodes.2.1)) ?_
        refine kp_pure 13 (some 65) (.int .i64 (ka : Int)) (by kernel_rfl) (by kernel_rfl) (by kernel_rfl) (by kernel_rfl) (by kernel_rfl) (by kernel_rfl) (by kernel_rfl) (Below.refl _ _) (fun _ => by kernel_rfl) ?_
        refine kp_pure 14 (some 66) (.pointer (some ⟨g, 0 + ka * 8, none⟩)) (by kernel_rfl) (by kernel_rfl) (by kernel_rfl) (by kernel_rfl) (by kernel_rfl) (by kernel_rfl) (by kernel_rfl) (Below.refl _ _) (ix_run 22 (.tmp 64) (.tmp 65) 8 g 0 C.length cm ka (by kernel_rfl) (by kernel_rfl) (by kernel_rfl) Try.underlying22 (by kernel_rfl) (by omega)) ?_
        refine kp_take [17] 15 (some 67) (.agg (cv (C.getD ka Ce.zero))) (by kernel_rfl) (by kernel_rfl) (by kernel_rfl) (by kernel_rfl) (by kernel_rfl) (by kernel_rfl) (by kernel_rfl) (by kernel_rfl) (by kernel_rfl) (Below.refl _ _) (fun W hW => ld_run 34 (.tmp 66) (by kernel_rfl) (by kernel_rfl) (ld_cell (own_range (own_below hT.m.c hW) hka3))) ?_
        refine kp_pure 16 (some 68) (.pointer (some ⟨g, 0 + ka * 8, none⟩)) (by kernel_rfl) (by kernel_rfl) (by kernel_rfl) (by kernel_rfl) (by kernel_rfl) (by kernel_rfl) (by kernel_rfl) (Below.refl _ _) (ix_run 22 (.tmp 53) (.tmp 54) 8 g 0 C.length cm ka (by kernel_rfl) (by kernel_rfl) (by kernel_rfl) Try.underlying22 (by kernel_rfl) (by omega)) ?_
        refine kp_split 4 (some 56) (.slice (some ⟨g, 0, none⟩) C.length cm) (by kernel_rfl) (by kernel_rfl) (by kernel_rfl) (by kernel_rfl) (by kernel_rfl) (by kernel_rfl) (by kernel_rfl) (Below.refl _ _) (ld_run 22 (.tmp 55) (by kernel_rfl) (by kernel_rfl) (ld_csM hT.y.nodes.2.1)) ?_ (fun K' hK' => wp_putC (B := B) (g := g) (n := C.length) (c := cm) (C := C) (k := ka) (.tmp 68) (.tmp 62) (C.getD kb Ce.zero) (by kernel_rfl) (fr_evals (.tmp 68) (v := .pointer (some ⟨g, 0 + ka * 8, none⟩)) (by kernel_rfl)) (fr_evals (.tmp 62) (v := .agg (cv (C.getD kb Ce.zero))) (by kernel_rfl)) hT.m.c hka3 (hK' _ _ ?_))
        · skip
          refine kp_late 17 (by kernel_rfl) (by kernel_rfl) (by kernel_rfl) (by kernel_rfl) (fun K' hK' => wp_putC (B := B) (g := g) (n := C.length) (c := cm) (C := C) (k := ka) (.tmp 68) (.tmp 62) (C.getD kb Ce.zero) (by kernel_rfl) (fr_evals (.tmp 68) (v := .pointer (some ⟨g, 0 + ka * 8, none⟩)) (by kernel_rfl)) (fr_evals (.tmp 62) (v := .agg (cv (C.getD kb Ce.zero))) (by kernel_rfl)) hT.m.c hka3 (hK' _ _ ?_))
          have hT1 := Mst.setC hT rfl hka3 (C.getD kb Ce.zero)
          have hO1 : World.ownsRow (ZB.setCells g (ka * 8) (cv (C.getD kb Ce.zero)).toList) B 34 8 (.slice (some ⟨g, 0, none⟩) C.length cm) C.length (cc (C.set ka (C.getD kb Ce.zero))) := by
            have := hT1.m.c
            simp only [List.length_set] at this
            exact this
          generalize (ZB.setCells g (ka * 8) (cv (C.getD kb Ce.zero)).toList) = W1 at hT1 hO1 ⊢
          refine kp_lateV 18 (some 69) (.pointer (some ⟨g, 0 + kb * 8, none⟩)) (by kernel_rfl) (by kernel_rfl) (by kernel_rfl) (by kernel_rfl) (by kernel_rfl) (ix_run 22 (.tmp 56) (.tmp 57) 8 g 0 C.length cm kb (by kernel_rfl) (by kernel_rfl) (by kernel_rfl) Try.underlying22 (by kernel_rfl) (by omega) _) ?_
          refine kp_late 19 (by kernel_rfl) (by kernel_rfl) (by kernel_rfl) (by kernel_rfl) (fun K' hK' => wp_putC (B := B) (g := g) (n := C.length) (c := cm) (C := (C.set ka (C.getD kb Ce.zero))) (k := kb) (.tmp 69) (.tmp 67) (C.getD ka Ce.zero) (by kernel_rfl) (fr_evals (.tmp 69) (v := .pointer (some ⟨g, 0 + kb * 8, none⟩)) (by kernel_rfl)) (fr_evals (.tmp 67) (v := .agg (cv (C.getD ka Ce.zero))) (by kernel_rfl)) hO1 (by rw [List.length_set]; exact hkb3) (hK' _ _ ?_))
          have hT2 := Mst.setC hT1 (by rw [List.length_set]) (by rw [List.length_set]; exact hkb3) (C.getD ka Ce.zero)
          refine kp_done (by kernel_rfl) (fun yy => #[.agg (nv n0.L vc0 vk0 vi0), .int .i64 a1, .int .i64 a2, .pointer (some ⟨w.heap.size, 0, none⟩), undef, undef, (Value.bool false), .bool true, .pointer (some ⟨b8, 0, none⟩), (Value.bool true), .int .i64 (ka : Int), .int .i64 (kb : Int), undef, undef, undef, undef, .bool true, .bool true, .bool false, y4 19, y4 20, e5 21, .bool true, .bool false, .bool false, .int .i64 a1, .bool false, .bool false, .bool false, .int .i64 a2, .bool false, .bool false, e6 32, e6 33, .pointer (some ⟨w.heap.size, 0, none⟩), .bool true, .bool true, .pointer (some ⟨w.heap.size, 1, none⟩), .slice pc (lm + 1) cc0, .int .i64 ((lm + 1 : Nat) : Int), .bool true, .bool true, .int .i64 a1, .pointer (some ⟨w.heap.size, 1, none⟩), .slice pc (lm + 1) cc0, .int .i64 ((lm + 1 : Nat) : Int), .int .i64 (ka : Int), .int .i64 a2, .pointer (some ⟨w.heap.size, 1, none⟩), .slice pc (lm + 1) cc0, .int .i64 ((lm + 1 : Nat) : Int), .int .i64 (kb : Int), yy 52, yy 53, yy 54, yy 55, yy 56, yy 57, yy 58, yy 59, yy 60, yy 61, yy 62, yy 63, yy 64, yy 65, yy 66, yy 67, yy 68, yy 69, undef, undef, undef, undef, undef, undef, undef, undef, undef, undef, undef, undef, undef, undef, undef, undef, undef, undef, undef, undef, undef, undef, undef, undef, undef, undef, undef, undef, undef, undef, undef, undef, undef, undef, undef, undef, undef, undef, undef, undef, undef, undef, undef, undef, undef, undef, undef, undef, undef, undef, undef, undef, undef, undef, undef, undef]) (by kernel_rfl) ?_
          intro yy
          have hT3 : Mst w (W1.setCells g (kb * 8) (cv (C.getD ka Ce.zero)).toList) B b8 (.slice (some ⟨g, 0, none⟩) C.length cm) vkm vim ⟨L, swp C ka kb Ce.zero, K, I⟩ := hT2
          clear hT hT1 hT2 hO1
          have hT := hT3
          clear hT3
          generalize (W1.setCells g (kb * 8) (cv (C.getD ka Ce.zero)).toList) = W2 at *
          by_cases hab : ka = kb
          · skip
            go_upto_region 12 with fail
            refine kl_start 126 (by kernel_rfl) ?_
            refine kl_take 0 (some 70) (.int .i64 (ka : Int)) (by kernel_rfl) (by kernel_rfl) (by kernel_rfl) (by kernel_rfl) ?_
            refine kl_take 1 (some 71) (.int .i64 (kb : Int)) (by kernel_rfl) (by kernel_rfl) (by kernel_rfl) (by kernel_rfl) ?_
            refine kl_test 2 (some 72) true (by kernel_rfl) (by kernel_rfl) (by kernel_rfl) (show ((ka : Int) == (kb : Int)) = true by subst hab; simp) (by kernel_rfl) ?_
            refine kl_take 3 (some 9) (.bool true) (by kernel_rfl) (by kernel_rfl) (by kernel_rfl) (by kernel_rfl) ?_
            refine kl_done (by kernel_rfl) (fun rs10 => #[.agg (nv n0.L vc0 vk0 vi0), .int .i64 a1, .int .i64 a2, .pointer (some ⟨w.heap.size, 0, none⟩), undef, undef, (Value.bool false), .bool true, .pointer (some ⟨b8, 0, none⟩), .bool true, .int .i64 (ka : Int), .int .i64 (kb : Int), undef, undef, undef, undef, .bool true, .bool true, .bool false, y4 19, y4 20, e5 21, .bool true, .bool false, .bool false, .int .i64 a1, .bool false, .bool false, .bool false, .int .i64 a2, .bool false, .bool false, e6 32, e6 33, .pointer (some ⟨w.heap.size, 0, none⟩), .bool true, .bool true, .pointer (some ⟨w.heap.size, 1, none⟩), .slice pc (lm + 1) cc0, .int .i64 ((lm + 1 : Nat) : Int), .bool true, .bool true, .int .i64 a1, .pointer (some ⟨w.heap.size, 1, none⟩), .slice pc (lm + 1) cc0, .int .i64 ((lm + 1 : Nat) : Int), .int .i64 (ka : Int), .int .i64 a2, .pointer (some ⟨w.heap.size, 1, none⟩), .slice pc (lm + 1) cc0, .int .i64 ((lm + 1 : Nat) : Int), .int .i64 (kb : Int), yy 52, yy 53, yy 54, yy 55, yy 56, yy 57, yy 58, yy 59, yy 60, yy 61, yy 62, yy 63, yy 64, yy 65, yy 66, yy 67, yy 68, yy 69, .int .i64 (ka : Int), .int .i64 (kb : Int), .bool true, undef, undef, undef, undef, undef, undef, undef, undef, undef, undef, undef, undef, undef, undef, undef, undef, undef, undef, undef, undef, undef, undef, undef, undef, undef, undef, undef, undef, undef, undef, undef, undef, undef, undef, undef, undef, undef, undef, undef, undef, undef, undef, undef, undef, undef, undef, undef, undef, undef, undef, undef, undef, undef]) (by kernel_rfl) ?_
            intro rs10
            subst hab
            rw [swp_same (l := C) Ce.zero hka3] at hT
            have HMm := HM
            have HOk := HOkP
            have HFw := HFwP
            have hNM : Nb _ (.slice (some ⟨g, 0, none⟩) C.length cm) (vkm) vim ⟨L, C, K, I⟩ := hT.m.nb HOk.out
            have hY := hT.y
            have hB := hT.b
            clear hT
            go_upto_region 17 with fail
            refine kl_start 126 (by kernel_rfl) ?_
            refine kl_get 0 (some 109) 26 _ (.tmp 8) _ (nv L (.slice (some ⟨g, 0, none⟩) C.length cm) (vkm) vim) (by kernel_rfl) (by kernel_rfl) (by kernel_rfl) (by kernel_rfl) (by kernel_rfl) hY tyM rfl ?_
            refine kl_callx 1 (some 110) (by kernel_rfl) (by kernel_rfl) (by kernel_rfl) (by kernel_rfl) (nof_any (.slice (some ⟨g, 0, none⟩) C.length cm) (vkm) vim ⟨L, C, K, I⟩ _ hNM HFw.out) ?_
            rintro e x ⟨ve, rfl, hve, hb⟩
            refine ⟨_, rfl, ?_⟩
            replace hY := hY.later hb
            replace hNM := hNM.later hb
            replace hB := hB.trans (hb.mono hB.size)
            clear hb
            refine kl_callx 2 (some 111) (by kernel_rfl) (by kernel_rfl) (by kernel_rfl) (by kernel_rfl) (enc_at0 hve HFw.out) ?_
            rintro e x ⟨v8, rfl, hb⟩
            refine ⟨_, rfl, ?_⟩
            replace hY := hY.later hb
            replace hNM := hNM.later hb
            replace hve := hve.later hb
            replace hB := hB.trans (hb.mono hB.size)
            clear hb
            refine kl_take 3 (some 108) (.tuple #[v8, .int .i64 (No.enc ⟨L, C, K, I⟩).2]) (by kernel_rfl) (by kernel_rfl) (by kernel_rfl) (by kernel_rfl) ?_
            refine kl_take 4 (some 112) (v8) (by kernel_rfl) (by kernel_rfl) (by kernel_rfl) (by kernel_rfl) ?_
            refine kl_take 5 (some 113) (.int .i64 (No.enc ⟨L, C, K, I⟩).2) (by kernel_rfl) (by kernel_rfl) (by kernel_rfl) (by kernel_rfl) ?_
            refine kl_take 6 (some 14) (v8) (by kernel_rfl) (by kernel_rfl) (by kernel_rfl) (by kernel_rfl) ?_
            refine kl_take 7 (some 15) (.int .i64 (No.enc ⟨L, C, K, I⟩).2) (by kernel_rfl) (by kernel_rfl) (by kernel_rfl) (by kernel_rfl) ?_
            refine kl_done (by kernel_rfl) (fun rs11 => #[.agg (nv n0.L vc0 vk0 vi0), .int .i64 a1, .int .i64 a2, .pointer (some ⟨w.heap.size, 0, none⟩), undef, undef, (Value.bool false), .bool true, .pointer (some ⟨b8, 0, none⟩), .bool true, .int .i64 (ka : Int), .int .i64 (ka : Int), undef, undef, v8, .int .i64 (No.enc ⟨L, C, K, I⟩).2, .bool true, .bool true, .bool false, y4 19, y4 20, e5 21, .bool true, .bool false, .bool false, .int .i64 a1, .bool false, .bool false, .bool false, .int .i64 a2, .bool false, .bool false, e6 32, e6 33, .pointer (some ⟨w.heap.size, 0, none⟩), .bool true, .bool true, .pointer (some ⟨w.heap.size, 1, none⟩), .slice pc (lm + 1) cc0, .int .i64 ((lm + 1 : Nat) : Int), .bool true, .bool true, .int .i64 a1, .pointer (some ⟨w.heap.size, 1, none⟩), .slice pc (lm + 1) cc0, .int .i64 ((lm + 1 : Nat) : Int), .int .i64 (ka : Int), .int .i64 a2, .pointer (some ⟨w.heap.size, 1, none⟩), .slice pc (lm + 1) cc0, .int .i64 ((lm + 1 : Nat) : Int), .int .i64 (ka : Int), yy 52, yy 53, yy 54, yy 55, yy 56, yy 57, yy 58, yy 59, yy 60, yy 61, yy 62, yy 63, yy 64, yy 65, yy 66, yy 67, yy 68, yy 69, .int .i64 (ka : Int), .int .i64 (ka : Int), .bool true, undef, undef, undef, undef, undef, undef, undef, undef, undef, undef, undef, undef, undef, undef, undef, undef, undef, undef, undef, undef, undef, undef, undef, undef, undef, undef, undef, undef, undef, undef, undef, undef, undef, undef, undef, rs11 108, rs11 109, rs11 110, rs11 111, rs11 112, .int .i64 (No.enc ⟨L, C, K, I⟩).2, undef, undef, undef, undef, undef, undef, undef, undef, undef, undef, undef, undef]) (by kernel_rfl) ?_
            intro rs11
            go_upto_region 18 with fail
            refine kl_start 126 (by kernel_rfl) ?_
            refine kl_get 0 (some 114) 26 _ (.tmp 8) _ (nv L (.slice (some ⟨g, 0, none⟩) C.length cm) (vkm) vim) (by kernel_rfl) (by kernel_rfl) (by kernel_rfl) (by kernel_rfl) (by kernel_rfl) hY tyM rfl ?_
            refine kl_callx 1 (some 115) (by kernel_rfl) (by kernel_rfl) (by kernel_rfl) (by kernel_rfl) (nof_any (.slice (some ⟨g, 0, none⟩) C.length cm) (vkm) vim ⟨L, C, K, I⟩ _ hNM HFw.out) ?_
            rintro e x ⟨vf, rfl, hvf, hb⟩
            refine ⟨_, rfl, ?_⟩
            replace hY := hY.later hb
            replace hNM := hNM.later hb
            replace hve := hve.later hb
            replace hB := hB.trans (hb.mono hB.size)
            clear hb
            refine kl_callx 2 (some 116) (by kernel_rfl) (by kernel_rfl) (by kernel_rfl) (by kernel_rfl) (may_at hvf HMm.out) ?_
            rintro e x ⟨rfl, hb⟩
            refine ⟨_, rfl, ?_⟩
            replace hY := hY.later hb
            replace hNM := hNM.later hb
            replace hve := hve.later hb
            replace hvf := hvf.later hb
            replace hB := hB.trans (hb.mono hB.size)
            clear hb
            refine kl_take 3 (some 117) (.bool true) (by kernel_rfl) (by kernel_rfl) (by kernel_rfl) (by kernel_rfl) ?_
            refine kl_take 4 (some 118) (.bool true) (by kernel_rfl) (by kernel_rfl) (by kernel_rfl) (by kernel_rfl) ?_
            refine kl_take 5 (some 119) (.bool true) (by kernel_rfl) (by kernel_rfl) (by kernel_rfl) (by kernel_rfl) ?_
            refine kl_take 6 (some 120) (.bool true) (by kernel_rfl) (by kernel_rfl) (by kernel_rfl) (by kernel_rfl) ?_
            refine kl_take 7 (some 121) (.bool true) (by kernel_rfl) (by kernel_rfl) (by kernel_rfl) (by kernel_rfl) ?_
            refine kl_skip 8 (some 122) (by kernel_rfl) (by kernel_rfl) (by kernel_rfl) ?_
            refine kl_skip 9 (some 123) (by kernel_rfl) (by kernel_rfl) (by kernel_rfl) ?_
            refine kl_take 10 (some 124) (.bool true) (by kernel_rfl) (by kernel_rfl) (by kernel_rfl) (by kernel_rfl) ?_
            refine kl_take 11 (some 125) (.bool true) (by kernel_rfl) (by kernel_rfl) (by kernel_rfl) (by kernel_rfl) ?_
            refine kl_take 12 (some 6) (.bool true) (by kernel_rfl) (by kernel_rfl) (by kernel_rfl) (by kernel_rfl) ?_
            refine kl_done (by kernel_rfl) (fun rs12 => #[.agg (nv n0.L vc0 vk0 vi0), .int .i64 a1, .int .i64 a2, .pointer (some ⟨w.heap.size, 0, none⟩), undef, undef, .bool true, .bool true, .pointer (some ⟨b8, 0, none⟩), .bool true, .int .i64 (ka : Int), .int .i64 (ka : Int), undef, undef, v8, .int .i64 (No.enc ⟨L, C, K, I⟩).2, .bool true, .bool true, .bool false, y4 19, y4 20, e5 21, .bool true, .bool false, .bool false, .int .i64 a1, .bool false, .bool false, .bool false, .int .i64 a2, .bool false, .bool false, e6 32, e6 33, .pointer (some ⟨w.heap.size, 0, none⟩), .bool true, .bool true, .pointer (some ⟨w.heap.size, 1, none⟩), .slice pc (lm + 1) cc0, .int .i64 ((lm + 1 : Nat) : Int), .bool true, .bool true, .int .i64 a1, .pointer (some ⟨w.heap.size, 1, none⟩), .slice pc (lm + 1) cc0, .int .i64 ((lm + 1 : Nat) : Int), .int .i64 (ka : Int), .int .i64 a2, .pointer (some ⟨w.heap.size, 1, none⟩), .slice pc (lm + 1) cc0, .int .i64 ((lm + 1 : Nat) : Int), .int .i64 (ka : Int), yy 52, yy 53, yy 54, yy 55, yy 56, yy 57, yy 58, yy 59, yy 60, yy 61, yy 62, yy 63, yy 64, yy 65, yy 66, yy 67, yy 68, yy 69, .int .i64 (ka : Int), .int .i64 (ka : Int), .bool true, undef, undef, undef, undef, undef, undef, undef, undef, undef, undef, undef, undef, undef, undef, undef, undef, undef, undef, undef, undef, undef, undef, undef, undef, undef, undef, undef, undef, undef, undef, undef, undef, undef, undef, undef, rs11 108, rs11 109, rs11 110, rs11 111, rs11 112, .int .i64 (No.enc ⟨L, C, K, I⟩).2, .agg (nv L (.slice (some ⟨g, 0, none⟩) C.length cm) (vkm) vim), .agg (nv L vf (vkm) vim), .bool true, .bool true, .bool true, .bool true, .bool true, .bool true, rs12 122, rs12 123, .bool true, .bool true]) (by kernel_rfl) ?_
            intro rs12
            go_wp2_with fail
            go_ret
            exact ⟨rfl, hB⟩
          · skip
            go_upto_region 12 with fail
            refine kl_start 126 (by kernel_rfl) ?_
            refine kl_take 0 (some 70) (.int .i64 (ka : Int)) (by kernel_rfl) (by kernel_rfl) (by kernel_rfl) (by kernel_rfl) ?_
            refine kl_take 1 (some 71) (.int .i64 (kb : Int)) (by kernel_rfl) (by kernel_rfl) (by kernel_rfl) (by kernel_rfl) ?_
            refine kl_test 2 (some 72) false (by kernel_rfl) (by kernel_rfl) (by kernel_rfl) (show ((ka : Int) == (kb : Int)) = false by simp; omega) (by kernel_rfl) ?_
            refine kl_take 3 (some 9) (.bool false) (by kernel_rfl) (by kernel_rfl) (by kernel_rfl) (by kernel_rfl) ?_
            refine kl_done (by kernel_rfl) (fun rn10 => #[.agg (nv n0.L vc0 vk0 vi0), .int .i64 a1, .int .i64 a2, .pointer (some ⟨w.heap.size, 0, none⟩), undef, undef, (Value.bool false), .bool true, .pointer (some ⟨b8, 0, none⟩), .bool false, .int .i64 (ka : Int), .int .i64 (kb : Int), undef, undef, undef, undef, .bool true, .bool true, .bool false, y4 19, y4 20, e5 21, .bool true, .bool false, .bool false, .int .i64 a1, .bool false, .bool false, .bool false, .int .i64 a2, .bool false, .bool false, e6 32, e6 33, .pointer (some ⟨w.heap.size, 0, none⟩), .bool true, .bool true, .pointer (some ⟨w.heap.size, 1, none⟩), .slice pc (lm + 1) cc0, .int .i64 ((lm + 1 : Nat) : Int), .bool true, .bool true, .int .i64 a1, .pointer (some ⟨w.heap.size, 1, none⟩), .slice pc (lm + 1) cc0, .int .i64 ((lm + 1 : Nat) : Int), .int .i64 (ka : Int), .int .i64 a2, .pointer (some ⟨w.heap.size, 1, none⟩), .slice pc (lm + 1) cc0, .int .i64 ((lm + 1 : Nat) : Int), .int .i64 (kb : Int), yy 52, yy 53, yy 54, yy 55, yy 56, yy 57, yy 58, yy 59, yy 60, yy 61, yy 62, yy 63, yy 64, yy 65, yy 66, yy 67, yy 68, yy 69, .int .i64 (ka : Int), .int .i64 (kb : Int), .bool false, undef, undef, undef, undef, undef, undef, undef, undef, undef, undef, undef, undef, undef, undef, undef, undef, undef, undef, undef, undef, undef, undef, undef, undef, undef, undef, undef, undef, undef, undef, undef, undef, undef, undef, undef, undef, undef, undef, undef, undef, undef, undef, undef, undef, undef, undef, undef, undef, undef, undef, undef, undef, undef]) (by kernel_rfl) ?_
            intro rn10
            have HMm : Hid (No.may ⟨L, swp C ka kb Ce.zero, K, I⟩ = false) := hide (by subst hL; exact leaf_no (swp_noC (No.may_leaf rfl HM.out).2.2 hka3 hkb3 hab))
            have HOk : Hid (No.Ok ⟨L, swp C ka kb Ce.zero, K, I⟩) := hide ⟨fun c hc => HOkP.out.c c (swp_mem hka3 hkb3 hc), HOkP.out.k, HOkP.out.i⟩
            have HFw : Hid (No.few ⟨L, swp C ka kb Ce.zero, K, I⟩) := hide (by show (swp C ka kb Ce.zero).length ≤ 100000; rw [swp_len]; exact HFwP.out)
            have hNM : Nb _ (.slice (some ⟨g, 0, none⟩) C.length cm) (vkm) vim ⟨L, swp C ka kb Ce.zero, K, I⟩ := hT.m.nb HOk.out
            have hY := hT.y
            have hB := hT.b
            clear hT
            go_upto_region 17 with fail
            refine kl_start 126 (by kernel_rfl) ?_
            refine kl_get 0 (some 109) 26 _ (.tmp 8) _ (nv L (.slice (some ⟨g, 0, none⟩) C.length cm) (vkm) vim) (by kernel_rfl) (by kernel_rfl) (by kernel_rfl) (by kernel_rfl) (by kernel_rfl) hY tyM rfl ?_
            refine kl_callx 1 (some 110) (by kernel_rfl) (by kernel_rfl) (by kernel_rfl) (by kernel_rfl) (nof_any (.slice (some ⟨g, 0, none⟩) C.length cm) (vkm) vim ⟨L, swp C ka kb Ce.zero, K, I⟩ _ hNM HFw.out) ?_
            rintro e x ⟨ve, rfl, hve, hb⟩
            refine ⟨_, rfl, ?_⟩
            replace hY := hY.later hb
            replace hNM := hNM.later hb
            replace hB := hB.trans (hb.mono hB.size)
            clear hb
            refine kl_callx 2 (some 111) (by kernel_rfl) (by kernel_rfl) (by kernel_rfl) (by kernel_rfl) (encode_at hve HFw.out (No.enc_bad HMm.out)) ?_
            rintro e x ⟨v8, rfl, -, hb⟩
            refine ⟨_, rfl, ?_⟩
            replace hY := hY.later hb
            replace hNM := hNM.later hb
            replace hve := hve.later hb
            replace hB := hB.trans (hb.mono hB.size)
            clear hb
            refine kl_take 3 (some 108) (.tuple #[v8, .int .i64 1]) (by kernel_rfl) (by kernel_rfl) (by kernel_rfl) (by kernel_rfl) ?_
            refine kl_take 4 (some 112) (v8) (by kernel_rfl) (by kernel_rfl) (by kernel_rfl) (by kernel_rfl) ?_
            refine kl_take 5 (some 113) (.int .i64 1) (by kernel_rfl) (by kernel_rfl) (by kernel_rfl) (by kernel_rfl) ?_
            refine kl_take 6 (some 14) (v8) (by kernel_rfl) (by kernel_rfl) (by kernel_rfl) (by kernel_rfl) ?_
            refine kl_take 7 (some 15) (.int .i64 1) (by kernel_rfl) (by kernel_rfl) (by kernel_rfl) (by kernel_rfl) ?_
            refine kl_done (by kernel_rfl) (fun rn11 => #[.agg (nv n0.L vc0 vk0 vi0), .int .i64 a1, .int .i64 a2, .pointer (some ⟨w.heap.size, 0, none⟩), undef, undef, (Value.bool false), .bool true, .pointer (some ⟨b8, 0, none⟩), .bool false, .int .i64 (ka : Int), .int .i64 (kb : Int), undef, undef, v8, .int .i64 1, .bool true, .bool true, .bool false, y4 19, y4 20, e5 21, .bool true, .bool false, .bool false, .int .i64 a1, .bool false, .bool false, .bool false, .int .i64 a2, .bool false, .bool false, e6 32, e6 33, .pointer (some ⟨w.heap.size, 0, none⟩), .bool true, .bool true, .pointer (some ⟨w.heap.size, 1, none⟩), .slice pc (lm + 1) cc0, .int .i64 ((lm + 1 : Nat) : Int), .bool true, .bool true, .int .i64 a1, .pointer (some ⟨w.heap.size, 1, none⟩), .slice pc (lm + 1) cc0, .int .i64 ((lm + 1 : Nat) : Int), .int .i64 (ka : Int), .int .i64 a2, .pointer (some ⟨w.heap.size, 1, none⟩), .slice pc (lm + 1) cc0, .int .i64 ((lm + 1 : Nat) : Int), .int .i64 (kb : Int), yy 52, yy 53, yy 54, yy 55, yy 56, yy 57, yy 58, yy 59, yy 60, yy 61, yy 62, yy 63, yy 64, yy 65, yy 66, yy 67, yy 68, yy 69, .int .i64 (ka : Int), .int .i64 (kb : Int), .bool false, undef, undef, undef, undef, undef, undef, undef, undef, undef, undef, undef, undef, undef, undef, undef, undef, undef, undef, undef, undef, undef, undef, undef, undef, undef, undef, undef, undef, undef, undef, undef, undef, undef, undef, undef, rn11 108, rn11 109, rn11 110, rn11 111, rn11 112, .int .i64 1, undef, undef, undef, undef, undef, undef, undef, undef, undef, undef, undef, undef]) (by kernel_rfl) ?_
            intro rn11
            go_upto_region 18 with fail
            refine kl_start 126 (by kernel_rfl) ?_
            refine kl_get 0 (some 114) 26 _ (.tmp 8) _ (nv L (.slice (some ⟨g, 0, none⟩) C.length cm) (vkm) vim) (by kernel_rfl) (by kernel_rfl) (by kernel_rfl) (by kernel_rfl) (by kernel_rfl) hY tyM rfl ?_
            refine kl_callx 1 (some 115) (by kernel_rfl) (by kernel_rfl) (by kernel_rfl) (by kernel_rfl) (nof_any (.slice (some ⟨g, 0, none⟩) C.length cm) (vkm) vim ⟨L, swp C ka kb Ce.zero, K, I⟩ _ hNM HFw.out) ?_
            rintro e x ⟨vf, rfl, hvf, hb⟩
            refine ⟨_, rfl, ?_⟩
            replace hY := hY.later hb
            replace hNM := hNM.later hb
            replace hve := hve.later hb
            replace hB := hB.trans (hb.mono hB.size)
            clear hb
            refine kl_callx 2 (some 116) (by kernel_rfl) (by kernel_rfl) (by kernel_rfl) (by kernel_rfl) (may_at hvf HMm.out) ?_
            rintro e x ⟨rfl, hb⟩
            refine ⟨_, rfl, ?_⟩
            replace hY := hY.later hb
            replace hNM := hNM.later hb
            replace hve := hve.later hb
            replace hvf := hvf.later hb
            replace hB := hB.trans (hb.mono hB.size)
            clear hb
            refine kl_take 3 (some 117) (.bool false) (by kernel_rfl) (by kernel_rfl) (by kernel_rfl) (by kernel_rfl) ?_
            refine kl_take 4 (some 118) (.bool true) (by kernel_rfl) (by kernel_rfl) (by kernel_rfl) (by kernel_rfl) ?_
            refine kl_take 5 (some 119) (.bool true) (by kernel_rfl) (by kernel_rfl) (by kernel_rfl) (by kernel_rfl) ?_
            refine kl_take 6 (some 120) (.bool false) (by kernel_rfl) (by kernel_rfl) (by kernel_rfl) (by kernel_rfl) ?_
            refine kl_take 7 (some 121) (.bool false) (by kernel_rfl) (by kernel_rfl) (by kernel_rfl) (by kernel_rfl) ?_
            refine kl_take 8 (some 122) (.int .i64 1) (by kernel_rfl) (by kernel_rfl) (by kernel_rfl) (by kernel_rfl) ?_
            refine kl_take 9 (some 123) (.bool true) (by kernel_rfl) (by kernel_rfl) (by kernel_rfl) (by kernel_rfl) ?_
            refine kl_take 10 (some 124) (.bool true) (by kernel_rfl) (by kernel_rfl) (by kernel_rfl) (by kernel_rfl) ?_
            refine kl_take 11 (some 125) (.bool true) (by kernel_rfl) (by kernel_rfl) (by kernel_rfl) (by kernel_rfl) ?_
            refine kl_take 12 (some 6) (.bool true) (by kernel_rfl) (by kernel_rfl) (by kernel_rfl) (by kernel_rfl) ?_
            refine kl_done (by kernel_rfl) (fun rn12 => #[.agg (nv n0.L vc0 vk0 vi0), .int .i64 a1, .int .i64 a2, .pointer (some ⟨w.heap.size, 0, none⟩), undef, undef, .bool true, .bool true, .pointer (some ⟨b8, 0, none⟩), .bool false, .int .i64 (ka : Int), .int .i64 (kb : Int), undef, undef, v8, .int .i64 1, .bool true, .bool true, .bool false, y4 19, y4 20, e5 21, .bool true, .bool false, .bool false, .int .i64 a1, .bool false, .bool false, .bool false, .int .i64 a2, .bool false, .bool false, e6 32, e6 33, .pointer (some ⟨w.heap.size, 0, none⟩), .bool true, .bool true, .pointer (some ⟨w.heap.size, 1, none⟩), .slice pc (lm + 1) cc0, .int .i64 ((lm + 1 : Nat) : Int), .bool true, .bool true, .int .i64 a1, .pointer (some ⟨w.heap.size, 1, none⟩), .slice pc (lm + 1) cc0, .int .i64 ((lm + 1 : Nat) : Int), .int .i64 (ka : Int), .int .i64 a2, .pointer (some ⟨w.heap.size, 1, none⟩), .slice pc (lm + 1) cc0, .int .i64 ((lm + 1 : Nat) : Int), .int .i64 (kb : Int), yy 52, yy 53, yy 54, yy 55, yy 56, yy 57, yy 58, yy 59, yy 60, yy 61, yy 62, yy 63, yy 64, yy 65, yy 66, yy 67, yy 68, yy 69, .int .i64 (ka : Int), .int .i64 (kb : Int), .bool false, undef, undef, undef, undef, undef, undef, undef, undef, undef, undef, undef, undef, undef, undef, undef, undef, undef, undef, undef, undef, undef, undef, undef, undef, undef, undef, undef, undef, undef, undef, undef, undef, undef, undef, undef, rn11 108, rn11 109, rn11 110, rn11 111, rn11 112, .int .i64 1, .agg (nv L (.slice (some ⟨g, 0, none⟩) C.length cm) (vkm) vim), .agg (nv L vf (vkm) vim), .bool false, .bool false, .bool true, .bool true, .bool false, .bool false, .int .i64 1, .bool true, .bool true, .bool true]) (by kernel_rfl) ?_
            intro rn12
            go_wp2_with fail
            go_ret
            exact ⟨rfl, hB⟩
        · skip
          have hT1 := Mst.setC hT rfl hka3 (C.getD kb Ce.zero)
          have hO1 : World.ownsRow (ZB.setCells g (ka * 8) (cv (C.getD kb Ce.zero)).toList) B 34 8 (.slice (some ⟨g, 0, none⟩) C.length cm) C.length (cc (C.set ka (C.getD kb Ce.zero))) := by
            have := hT1.m.c
            simp only [List.length_set] at this
            exact this
          generalize (ZB.setCells g (ka * 8) (cv (C.getD kb Ce.zero)).toList) = W1 at hT1 hO1 ⊢
          refine kp_lateV 4 (some 56) (.slice (some ⟨g, 0, none⟩) C.length cm) (by kernel_rfl) (by kernel_rfl) (by kernel_rfl) (by kernel_rfl) (by kernel_rfl) (ld_run 22 (.tmp 55) (by kernel_rfl) (by kernel_rfl) (ld_csM hT1.y.nodes.2.1)) ?_
          refine kp_lateV 18 (some 69) (.pointer (some ⟨g, 0 + kb * 8, none⟩)) (by kernel_rfl) (by kernel_rfl) (by kernel_rfl) (by kernel_rfl) (by kernel_rfl) (ix_run 22 (.tmp 56) (.tmp 57) 8 g 0 C.length cm kb (by kernel_rfl) (by kernel_rfl) (by kernel_rfl) Try.underlying22 (by kernel_rfl) (by omega) _) ?_
          refine kp_late 19 (by kernel_rfl) (by kernel_rfl) (by kernel_rfl) (by kernel_rfl) (fun K' hK' => wp_putC (B := B) (g := g) (n := C.length) (c := cm) (C := (C.set ka (C.getD kb Ce.zero))) (k := kb) (.tmp 69) (.tmp 67) (C.getD ka Ce.zero) (by kernel_rfl) (fr_evals (.tmp 69) (v := .pointer (some ⟨g, 0 + kb * 8, none⟩)) (by kernel_rfl)) (fr_evals (.tmp 67) (v := .agg (cv (C.getD ka Ce.zero))) (by kernel_rfl)) hO1 (by rw [List.length_set]; exact hkb3) (hK' _ _ ?_))
          have hT2 := Mst.setC hT1 (by rw [List.length_set]) (by rw [List.length_set]; exact hkb3) (C.getD ka Ce.zero)
          refine kp_done (by kernel_rfl) (fun yy => #[.agg (nv n0.L vc0 vk0 vi0), .int .i64 a1, .int .i64 a2, .pointer (some ⟨w.heap.size, 0, none⟩), undef, undef, (Value.bool false), .bool true, .pointer (some ⟨b8, 0, none⟩), (Value.bool true), .int .i64 (ka : Int), .int .i64 (kb : Int), undef, undef, undef, undef, .bool true, .bool true, .bool false, y4 19, y4 20, e5 21, .bool true, .bool false, .bool false, .int .i64 a1, .bool false, .bool false, .bool false, .int .i64 a2, .bool false, .bool false, e6 32, e6 33, .pointer (some ⟨w.heap.size, 0, none⟩), .bool true, .bool true, .pointer (some ⟨w.heap.size, 1, none⟩), .slice pc (lm + 1) cc0, .int .i64 ((lm + 1 : Nat) : Int), .bool true, .bool true, .int .i64 a1, .pointer (some ⟨w.heap.size, 1, none⟩), .slice pc (lm + 1) cc0, .int .i64 ((lm + 1 : Nat) : Int), .int .i64 (ka : Int), .int .i64 a2, .pointer (some ⟨w.heap.size, 1, none⟩), .slice pc (lm + 1) cc0, .int .i64 ((lm + 1 : Nat) : Int), .int .i64 (kb : Int), yy 52, yy 53, yy 54, yy 55, yy 56, yy 57, yy 58, yy 59, yy 60, yy 61, yy 62, yy 63, yy 64, yy 65, yy 66, yy 67, yy 68, yy 69, undef, undef, undef, undef, undef, undef, undef, undef, undef, undef, undef, undef, undef, undef, undef, undef, undef, undef, undef, undef, undef, undef, undef, undef, undef, undef, undef, undef, undef, undef, undef, undef, undef, undef, undef, undef, undef, undef, undef, undef, undef, undef, undef, undef, undef, undef, undef, undef, undef, undef, undef, undef, undef, undef, undef, undef]) (by kernel_rfl) ?_
          intro yy
          have hT3 : Mst w (W1.setCells g (kb * 8) (cv (C.getD ka Ce.zero)).toList) B b8 (.slice (some ⟨g, 0, none⟩) C.length cm) vkm vim ⟨L, swp C ka kb Ce.zero, K, I⟩ := hT2
          clear hT hT1 hT2 hO1
          have hT := hT3
          clear hT3
          generalize (W1.setCells g (kb * 8) (cv (C.getD ka Ce.zero)).toList) = W2 at *
          by_cases hab : ka = kb
          · skip
            go_upto_region 12 with fail
            refine kl_start 126 (by kernel_rfl) ?_
            refine kl_take 0 (some 70) (.int .i64 (ka : Int)) (by kernel_rfl) (by kernel_rfl) (by kernel_rfl) (by kernel_rfl) ?_
            refine kl_take 1 (some 71) (.int .i64 (kb : Int)) (by kernel_rfl) (by kernel_rfl) (by kernel_rfl) (by kernel_rfl) ?_
            refine kl_test 2 (some 72) true (by kernel_rfl) (by kernel_rfl) (by kernel_rfl) (show ((ka : Int) == (kb : Int)) = true by subst hab; simp) (by kernel_rfl) ?_
            refine kl_take 3 (some 9) (.bool true) (by kernel_rfl) (by kernel_rfl) (by kernel_rfl) (by kernel_rfl) ?_
            refine kl_done (by kernel_rfl) (fun vs10 => #[.agg (nv n0.L vc0 vk0 vi0), .int .i64 a1, .int .i64 a2, .pointer (some ⟨w.heap.size, 0, none⟩), undef, undef, (Value.bool false), .bool true, .pointer (some ⟨b8, 0, none⟩), .bool true, .int .i64 (ka : Int), .int .i64 (kb : Int), undef, undef, undef, undef, .bool true, .bool true, .bool false, y4 19, y4 20, e5 21, .bool true, .bool false, .bool false, .int .i64 a1, .bool false, .bool false, .bool false, .int .i64 a2, .bool false, .bool false, e6 32, e6 33, .pointer (some ⟨w.heap.size, 0, none⟩), .bool true, .bool true, .pointer (some ⟨w.heap.size, 1, none⟩), .slice pc (lm + 1) cc0, .int .i64 ((lm + 1 : Nat) : Int), .bool true, .bool true, .int .i64 a1, .pointer (some ⟨w.heap.size, 1, none⟩), .slice pc (lm + 1) cc0, .int .i64 ((lm + 1 : Nat) : Int), .int .i64 (ka : Int), .int .i64 a2, .pointer (some ⟨w.heap.size, 1, none⟩), .slice pc (lm + 1) cc0, .int .i64 ((lm + 1 : Nat) : Int), .int .i64 (kb : Int), yy 52, yy 53, yy 54, yy 55, yy 56, yy 57, yy 58, yy 59, yy 60, yy 61, yy 62, yy 63, yy 64, yy 65, yy 66, yy 67, yy 68, yy 69, .int .i64 (ka : Int), .int .i64 (kb : Int), .bool true, undef, undef, undef, undef, undef, undef, undef, undef, undef, undef, undef, undef, undef, undef, undef, undef, undef, undef, undef, undef, undef, undef, undef, undef, undef, undef, undef, undef, undef, undef, undef, undef, undef, undef, undef, undef, undef, undef, undef, undef, undef, undef, undef, undef, undef, undef, undef, undef, undef, undef, undef, undef, undef]) (by kernel_rfl) ?_
            intro vs10
            subst hab
            rw [swp_same (l := C) Ce.zero hka3] at hT
            have HMm := HM
            have HOk := HOkP
            have HFw := HFwP
            have hNM : Nb _ (.slice (some ⟨g, 0, none⟩) C.length cm) (vkm) vim ⟨L, C, K, I⟩ := hT.m.nb HOk.out
            have hY := hT.y
            have hB := hT.b
            clear hT
            go_upto_region 17 with fail
            refine kl_start 126 (by kernel_rfl) ?_
            refine kl_get 0 (some 109) 26 _ (.tmp 8) _ (nv L (.slice (some ⟨g, 0, none⟩) C.length cm) (vkm) vim) (by kernel_rfl) (by kernel_rfl) (by kernel_rfl) (by kernel_rfl) (by kernel_rfl) hY tyM rfl ?_
            refine kl_callx 1 (some 110) (by kernel_rfl) (by kernel_rfl) (by kernel_rfl) (by kernel_rfl) (nof_any (.slice (some ⟨g, 0, none⟩) C.length cm) (vkm) vim ⟨L, C, K, I⟩ _ hNM HFw.out) ?_
            rintro e x ⟨ve, rfl, hve, hb⟩
            refine ⟨_, rfl, ?_⟩
            replace hY := hY.later hb
            replace hNM := hNM.later hb
            replace hB := hB.trans (hb.mono hB.size)
            clear hb
            refine kl_callx 2 (some 111) (by kernel_rfl) (by kernel_rfl) (by kernel_rfl) (by kernel_rfl) (enc_at0 hve HFw.out) ?_
            rintro e x ⟨v8, rfl, hb⟩
            refine ⟨_, rfl, ?_⟩
            replace hY := hY.later hb
            replace hNM := hNM.later hb
            replace hve := hve.later hb
            replace hB := hB.trans (hb.mono hB.size)
            clear hb
            refine kl_take 3 (some 108) (.tuple #[v8, .int .i64 (No.enc ⟨L, C, K, I⟩).2]) (by kernel_rfl) (by kernel_rfl) (by kernel_rfl) (by kernel_rfl) ?_
            refine kl_take 4 (some 112) (v8) (by kernel_rfl) (by kernel_rfl) (by kernel_rfl) (by kernel_rfl) ?_
            refine kl_take 5 (some 113) (.int .i64 (No.enc ⟨L, C, K, I⟩).2) (by kernel_rfl) (by kernel_rfl) (by kernel_rfl) (by kernel_rfl) ?_
            refine kl_take 6 (some 14) (v8) (by kernel_rfl) (by kernel_rfl) (by kernel_rfl) (by kernel_rfl) ?_
            refine kl_take 7 (some 15) (.int .i64 (No.enc ⟨L, C, K, I⟩).2) (by kernel_rfl) (by kernel_rfl) (by kernel_rfl) (by kernel_rfl) ?_
            refine kl_done (by kernel_rfl) (fun vs11 => #[.agg (nv n0.L vc0 vk0 vi0), .int .i64 a1, .int .i64 a2, .pointer (some ⟨w.heap.size, 0, none⟩), undef, undef, (Value.bool false), .bool true, .pointer (some ⟨b8, 0, none⟩), .bool true, .int .i64 (ka : Int), .int .i64 (ka : Int), undef, undef, v8, .int .i64 (No.enc ⟨L, C, K, I⟩).2, .bool true, .bool true, .bool false, y4 19, y4 20, e5 21, .bool true, .bool false, .bool false, .int .i64 a1, .bool false, .bool false, .bool false, .int .i64 a2, .bool false, .bool false, e6 32, e6 33, .pointer (some ⟨w.heap.size, 0, none⟩), .bool true, .bool true, .pointer (some ⟨w.heap.size, 1, none⟩), .slice pc (lm + 1) cc0, .int .i64 ((lm + 1 : Nat) : Int), .bool true, .bool true, .int .i64 a1, .pointer (some ⟨w.heap.size, 1, none⟩), .slice pc (lm + 1) cc0, .int .i64 ((lm + 1 : Nat) : Int), .int .i64 (ka : Int), .int .i64 a2, .pointer (some ⟨w.heap.size, 1, none⟩), .slice pc (lm + 1) cc0, .int .i64 ((lm + 1 : Nat) : Int), .int .i64 (ka : Int), yy 52, yy 53, yy 54, yy 55, yy 56, yy 57, yy 58, yy 59, yy 60, yy 61, yy 62, yy 63, yy 64, yy 65, yy 66, yy 67, yy 68, yy 69, .int .i64 (ka : Int), .int .i64 (ka : Int), .bool true, undef, undef, undef, undef, undef, undef, undef, undef, undef, undef, undef, undef, undef, undef, undef, undef, undef, undef, undef, undef, undef, undef, undef, undef, undef, undef, undef, undef, undef, undef, undef, undef, undef, undef, undef, vs11 108, vs11 109, vs11 110, vs11 111, vs11 112, .int .i64 (No.enc ⟨L, C, K, I⟩).2, undef, undef, undef, undef, undef, undef, undef, undef, undef, undef, undef, undef]) (by kernel_rfl) ?_
            intro vs11
            go_upto_region 18 with fail
            refine kl_start 126 (by kernel_rfl) ?_
            refine kl_get 0 (some 114) 26 _ (.tmp 8) _ (nv L (.slice (some ⟨g, 0, none⟩) C.length cm) (vkm) vim) (by kernel_rfl) (by kernel_rfl) (by kernel_rfl) (by kernel_rfl) (by kernel_rfl) hY tyM rfl ?_
            refine kl_callx 1 (some 115) (by kernel_rfl) (by kernel_rfl) (by kernel_rfl) (by kernel_rfl) (nof_any (.slice (some ⟨g, 0, none⟩) C.length cm) (vkm) vim ⟨L, C, K, I⟩ _ hNM HFw.out) ?_
            rintro e x ⟨vf, rfl, hvf, hb⟩
            refine ⟨_, rfl, ?_⟩
            replace hY := hY.later hb
            replace hNM := hNM.later hb
            replace hve := hve.later hb
            replace hB := hB.trans (hb.mono hB.size)
            clear hb
            refine kl_callx 2 (some 116) (by kernel_rfl) (by kernel_rfl) (by kernel_rfl) (by kernel_rfl) (may_at hvf HMm.out) ?_
            rintro e x ⟨rfl, hb⟩
            refine ⟨_, rfl, ?_⟩
            replace hY := hY.later hb
            replace hNM := hNM.later hb
            replace hve := hve.later hb
            replace hvf := hvf.later hb
            replace hB := hB.trans (hb.mono hB.size)
            clear hb
            refine kl_take 3 (some 117) (.bool true) (by kernel_rfl) (by kernel_rfl) (by kernel_rfl) (by kernel_rfl) ?_
            refine kl_take 4 (some 118) (.bool true) (by kernel_rfl) (by kernel_rfl) (by kernel_rfl) (by kernel_rfl) ?_
            refine kl_take 5 (some 119) (.bool true) (by kernel_rfl) (by kernel_rfl) (by kernel_rfl) (by kernel_rfl) ?_
            refine kl_take 6 (some 120) (.bool true) (by kernel_rfl) (by kernel_rfl) (by kernel_rfl) (by kernel_rfl) ?_
            refine kl_take 7 (some 121) (.bool true) (by kernel_rfl) (by kernel_rfl) (by kernel_rfl) (by kernel_rfl) ?_
            refine kl_skip 8 (some 122) (by kernel_rfl) (by kernel_rfl) (by kernel_rfl) ?_
            refine kl_skip 9 (some 123) (by kernel_rfl) (by kernel_rfl) (by kernel_rfl) ?_
            refine kl_take 10 (some 124) (.bool true) (by kernel_rfl) (by kernel_rfl) (by kernel_rfl) (by kernel_rfl) ?_
            refine kl_take 11 (some 125) (.bool true) (by kernel_rfl) (by kernel_rfl) (by kernel_rfl) (by kernel_rfl) ?_
            refine kl_take 12 (some 6) (.bool true) (by kernel_rfl) (by kernel_rfl) (by kernel_rfl) (by kernel_rfl) ?_
            refine kl_done (by kernel_rfl) (fun vs12 => #[.agg (nv n0.L vc0 vk0 vi0), .int .i64 a1, .int .i64 a2, .pointer (some ⟨w.heap.size, 0, none⟩), undef, undef, .bool true, .bool true, .pointer (some ⟨b8, 0, none⟩), .bool true, .int .i64 (ka : Int), .int .i64 (ka : Int), undef, undef, v8, .int .i64 (No.enc ⟨L, C, K, I⟩).2, .bool true, .bool true, .bool false, y4 19, y4 20, e5 21, .bool true, .bool false, .bool false, .int .i64 a1, .bool false, .bool false, .bool false, .int .i64 a2, .bool false, .bool false, e6 32, e6 33, .pointer (some ⟨w.heap.size, 0, none⟩), .bool true, .bool true, .pointer (some ⟨w.heap.size, 1, none⟩), .slice pc (lm + 1) cc0, .int .i64 ((lm + 1 : Nat) : Int), .bool true, .bool true, .int .i64 a1, .pointer (some ⟨w.heap.size, 1, none⟩), .slice pc (lm + 1) cc0, .int .i64 ((lm + 1 : Nat) : Int), .int .i64 (ka : Int), .int .i64 a2, .pointer (some ⟨w.heap.size, 1, none⟩), .slice pc (lm + 1) cc0, .int .i64 ((lm + 1 : Nat) : Int), .int .i64 (ka : Int), yy 52, yy 53, yy 54, yy 55, yy 56, yy 57, yy 58, yy 59, yy 60, yy 61, yy 62, yy 63, yy 64, yy 65, yy 66, yy 67, yy 68, yy 69, .int .i64 (ka : Int), .int .i64 (ka : Int), .bool true, undef, undef, undef, undef, undef, undef, undef, undef, undef, undef, undef, undef, undef, undef, undef, undef, undef, undef, undef, undef, undef, undef, undef, undef, undef, undef, undef, undef, undef, undef, undef, undef, undef, undef, undef, vs11 108, vs11 109, vs11 110, vs11 111, vs11 112, .int .i64 (No.enc ⟨L, C, K, I⟩).2, .agg (nv L (.slice (some ⟨g, 0, none⟩) C.length cm) (vkm) vim), .agg (nv L vf (vkm) vim), .bool true, .bool true, .bool true, .bool true, .bool true, .bool true, vs12 122, vs12 123, .bool true, .bool true]) (by kernel_rfl) ?_
            intro vs12
            go_wp2_with fail
            go_ret
            exact ⟨rfl, hB⟩
          · skip
            go_upto_region 12 with fail
            refine kl_start 126 (by kernel_rfl) ?_
            refine kl_take 0 (some 70) (.int .i64 (ka : Int)) (by kernel_rfl) (by kernel_rfl) (by kernel_rfl) (by kernel_rfl) ?_
            refine kl_take 1 (some 71) (.int .i64 (kb : Int)) (by kernel_rfl) (by kernel_rfl) (by kernel_rfl) (by kernel_rfl) ?_
            refine kl_test 2 (some 72) false (by kernel_rfl) (by kernel_rfl) (by kernel_rfl) (show ((ka : Int) == (kb : Int)) = false by simp; omega) (by kernel_rfl) ?_
            refine kl_take 3 (some 9) (.bool false) (by kernel_rfl) (by kernel_rfl) (by kernel_rfl) (by kernel_rfl) ?_
            refine kl_done (by kernel_rfl) (fun vn10 => #[.agg (nv n0.L vc0 vk0 vi0), .int .i64 a1, .int .i64 a2, .pointer (some ⟨w.heap.size, 0, none⟩), undef, undef, (Value.bool false), .bool true, .pointer (some ⟨b8, 0, none⟩), .bool false, .int .i64 (ka : Int), .int .i64 (kb : Int), undef, undef, undef, undef, .bool true, .bool true, .bool false, y4 19, y4 20, e5 21, .bool true, .bool false, .bool false, .int .i64 a1, .bool false, .bool false, .bool false, .int .i64 a2, .bool false, .bool false, e6 32, e6 33, .pointer (some ⟨w.heap.size, 0, none⟩), .bool true, .bool true, .pointer (some ⟨w.heap.size, 1, none⟩), .slice pc (lm + 1) cc0, .int .i64 ((lm + 1 : Nat) : Int), .bool true, .bool true, .int .i64 a1, .pointer (some ⟨w.heap.size, 1, none⟩), .slice pc (lm + 1) cc0, .int .i64 ((lm + 1 : Nat) : Int), .int .i64 (ka : Int), .int .i64 a2, .pointer (some ⟨w.heap.size, 1, none⟩), .slice pc (lm + 1) cc0, .int .i64 ((lm + 1 : Nat) : Int), .int .i64 (kb : Int), yy 52, yy 53, yy 54, yy 55, yy 56, yy 57, yy 58, yy 59, yy 60, yy 61, yy 62, yy 63, yy 64, yy 65, yy 66, yy 67, yy 68, yy 69, .int .i64 (ka : Int), .int .i64 (kb : Int), .bool false, undef, undef, undef, undef, undef, undef, undef, undef, undef, undef, undef, undef, undef, undef, undef, undef, undef, undef, undef, undef, undef, undef, undef, undef, undef, undef, undef, undef, undef, undef, undef, undef, undef, undef, undef, undef, undef, undef, undef, undef, undef, undef, undef, undef, undef, undef, undef, undef, undef, undef, undef, undef, undef]) (by kernel_rfl) ?_
            intro vn10
            have HMm : Hid (No.may ⟨L, swp C ka kb Ce.zero, K, I⟩ = false) := hide (by subst hL; exact leaf_no (swp_noC (No.may_leaf rfl HM.out).2.2 hka3 hkb3 hab))
            have HOk : Hid (No.Ok ⟨L, swp C ka kb Ce.zero, K, I⟩) := hide ⟨fun c hc => HOkP.out.c c (swp_mem hka3 hkb3 hc), HOkP.out.k, HOkP.out.i⟩
            have HFw : Hid (No.few ⟨L, swp C ka kb Ce.zero, K, I⟩) := hide (by show (swp C ka kb Ce.zero).length ≤ 100000; rw [swp_len]; exact HFwP.out)
            have hNM : Nb _ (.slice (some ⟨g, 0, none⟩) C.length cm) (vkm) vim ⟨L, swp C ka kb Ce.zero, K, I⟩ := hT.m.nb HOk.out
            have hY := hT.y
            have hB := hT.b
            clear hT
            go_upto_region 17 with fail
            refine kl_start 126 (by kernel_rfl) ?_
            refine kl_get 0 (some 109) 26 _ (.tmp 8) _ (nv L (.slice (some ⟨g, 0, none⟩) C.length cm) (vkm) vim) (by kernel_rfl) (by kernel_rfl) (by kernel_rfl) (by kernel_rfl) (by kernel_rfl) hY tyM rfl ?_
            refine kl_callx 1 (some 110) (by kernel_rfl) (by kernel_rfl) (by kernel_rfl) (by kernel_rfl) (nof_any (.slice (some ⟨g, 0, none⟩) C.length cm) (vkm) vim ⟨L, swp C ka kb Ce.zero, K, I⟩ _ hNM HFw.out) ?_
            rintro e x ⟨ve, rfl, hve, hb⟩
            refine ⟨_, rfl, ?_⟩
            replace hY := hY.later hb
            replace hNM := hNM.later hb
            replace hB := hB.trans (hb.mono hB.size)
            clear hb
            refine kl_callx 2 (some 111) (by kernel_rfl) (by kernel_rfl) (by kernel_rfl) (by kernel_rfl) (encode_at hve HFw.out (No.enc_bad HMm.out)) ?_
            rintro e x ⟨v8, rfl, -, hb⟩
            refine ⟨_, rfl, ?_⟩
            replace hY := hY.later hb
            replace hNM := hNM.later hb
            replace hve := hve.later hb
            replace hB := hB.trans (hb.mono hB.size)
            clear hb
            refine kl_take 3 (some 108) (.tuple #[v8, .int .i64 1]) (by kernel_rfl) (by kernel_rfl) (by kernel_rfl) (by kernel_rfl) ?_
            refine kl_take 4 (some 112) (v8) (by kernel_rfl) (by kernel_rfl) (by kernel_rfl) (by kernel_rfl) ?_
            refine kl_take 5 (some 113) (.int .i64 1) (by kernel_rfl) (by kernel_rfl) (by kernel_rfl) (by kernel_rfl) ?_
            refine kl_take 6 (some 14) (v8) (by kernel_rfl) (by kernel_rfl) (by kernel_rfl) (by kernel_rfl) ?_
            refine kl_take 7 (some 15) (.int .i64 1) (by kernel_rfl) (by kernel_rfl) (by kernel_rfl) (by kernel_rfl) ?_
            refine kl_done (by kernel_rfl) (fun vn11 => #[.agg (nv n0.L vc0 vk0 vi0), .int .i64 a1, .int .i64 a2, .pointer (some ⟨w.heap.size, 0, none⟩), undef, undef, (Value.bool false), .bool true, .pointer (some ⟨b8, 0, none⟩), .bool false, .int .i64 (ka : Int), .int .i64 (kb : Int), undef, undef, v8, .int .i64 1, .bool true, .bool true, .bool false, y4 19, y4 20, e5 21, .bool true, .bool false, .bool false, .int .i64 a1, .bool false, .bool false, .bool false, .int .i64 a2, .bool false, .bool false, e6 32, e6 33, .pointer (some ⟨w.heap.size, 0, none⟩), .bool true, .bool true, .pointer (some ⟨w.heap.size, 1, none⟩), .slice pc (lm + 1) cc0, .int .i64 ((lm + 1 : Nat) : Int), .bool true, .bool true, .int .i64 a1, .pointer (some ⟨w.heap.size, 1, none⟩), .slice pc (lm + 1) cc0, .int .i64 ((lm + 1 : Nat) : Int), .int .i64 (ka : Int), .int .i64 a2, .pointer (some ⟨w.heap.size, 1, none⟩), .slice pc (lm + 1) cc0, .int .i64 ((lm + 1 : Nat) : Int), .int .i64 (kb : Int), yy 52, yy 53, yy 54, yy 55, yy 56, yy 57, yy 58, yy 59, yy 60, yy 61, yy 62, yy 63, yy 64, yy 65, yy 66, yy 67, yy 68, yy 69, .int .i64 (ka : Int), .int .i64 (kb : Int), .bool false, undef, undef, undef, undef, undef, undef, undef, undef, undef, undef, undef, undef, undef, undef, undef, undef, undef, undef, undef, undef, undef, undef, undef, undef, undef, undef, undef, undef, undef, undef, undef, undef, undef, undef, undef, vn11 108, vn11 109, vn11 110, vn11 111, vn11 112, .int .i64 1, undef, undef, undef, undef, undef, undef, undef, undef, undef, undef, undef, undef]) (by kernel_rfl) ?_
            intro vn11
            go_upto_region 18 with fail
            refine kl_start 126 (by kernel_rfl) ?_
            refine kl_get 0 (some 114) 26 _ (.tmp 8) _ (nv L (.slice (some ⟨g, 0, none⟩) C.length cm) (vkm) vim) (by kernel_rfl) (by kernel_rfl) (by kernel_rfl) (by kernel_rfl) (by kernel_rfl) hY tyM rfl ?_
            refine kl_callx 1 (some 115) (by kernel_rfl) (by kernel_rfl) (by kernel_rfl) (by kernel_rfl) (nof_any (.slice (some ⟨g, 0, none⟩) C.length cm) (vkm) vim ⟨L, swp C ka kb Ce.zero, K, I⟩ _ hNM HFw.out) ?_
            rintro e x ⟨vf, rfl, hvf, hb⟩
            refine ⟨_, rfl, ?_⟩
            replace hY := hY.later hb
            replace hNM := hNM.later hb
            replace hve := hve.later hb
            replace hB := hB.trans (hb.mono hB.size)
            clear hb
            refine kl_callx 2 (some 116) (by kernel_rfl) (by kernel_rfl) (by kernel_rfl) (by kernel_rfl) (may_at hvf HMm.out) ?_
            rintro e x ⟨rfl, hb⟩
            refine ⟨_, rfl, ?_⟩
            replace hY := hY.later hb
            replace hNM := hNM.later hb
            replace hve := hve.later hb
            replace hvf := hvf.later hb
            replace hB := hB.trans (hb.mono hB.size)
            clear hb
            refine kl_take 3 (some 117) (.bool false) (by kernel_rfl) (by kernel_rfl) (by kernel_rfl) (by kernel_rfl) ?_
            refine kl_take 4 (some 118) (.bool true) (by kernel_rfl) (by kernel_rfl) (by kernel_rfl) (by kernel_rfl) ?_
            refine kl_take 5 (some 119) (.bool true) (by kernel_rfl) (by kernel_rfl) (by kernel_rfl) (by kernel_rfl) ?_
            refine kl_take 6 (some 120) (.bool false) (by kernel_rfl) (by kernel_rfl) (by kernel_rfl) (by kernel_rfl) ?_
            refine kl_take 7 (some 121) (.bool false) (by kernel_rfl) (by kernel_rfl) (by kernel_rfl) (by kernel_rfl) ?_
            refine kl_take 8 (some 122) (.int .i64 1) (by kernel_rfl) (by kernel_rfl) (by kernel_rfl) (by kernel_rfl) ?_
            refine kl_take 9 (some 123) (.bool true) (by kernel_rfl) (by kernel_rfl) (by kernel_rfl) (by kernel_rfl) ?_
            refine kl_take 10 (some 124) (.bool true) (by kernel_rfl) (by kernel_rfl) (by kernel_rfl) (by kernel_rfl) ?_
            refine kl_take 11 (some 125) (.bool true) (by kernel_rfl) (by kernel_rfl) (by kernel_rfl) (by kernel_rfl) ?_
            refine kl_take 12 (some 6) (.bool true) (by kernel_rfl) (by kernel_rfl) (by kernel_rfl) (by kernel_rfl) ?_
            refine kl_done (by kernel_rfl) (fun vn12 => #[.agg (nv n0.L vc0 vk0 vi0), .int .i64 a1, .int .i64 a2, .pointer (some ⟨w.heap.size, 0, none⟩), undef, undef, .bool true, .bool true, .pointer (some ⟨b8, 0, none⟩), .bool false, .int .i64 (ka : Int), .int .i64 (kb : Int), undef, undef, v8, .int .i64 1, .bool true, .bool true, .bool false, y4 19, y4 20, e5 21, .bool true, .bool false, .bool false, .int .i64 a1, .bool false, .bool false, .bool false, .int .i64 a2, .bool false, .bool false, e6 32, e6 33, .pointer (some ⟨w.heap.size, 0, none⟩), .bool true, .bool true, .pointer (some ⟨w.heap.size, 1, none⟩), .slice pc (lm + 1) cc0, .int .i64 ((lm + 1 : Nat) : Int), .bool true, .bool true, .int .i64 a1, .pointer (some ⟨w.heap.size, 1, none⟩), .slice pc (lm + 1) cc0, .int .i64 ((lm + 1 : Nat) : Int), .int .i64 (ka : Int), .int .i64 a2, .pointer (some ⟨w.heap.size, 1, none⟩), .slice pc (lm + 1) cc0, .int .i64 ((lm + 1 : Nat) : Int), .int .i64 (kb : Int), yy 52, yy 53, yy 54, yy 55, yy 56, yy 57, yy 58, yy 59, yy 60, yy 61, yy 62, yy 63, yy 64, yy 65, yy 66, yy 67, yy 68, yy 69, .int .i64 (ka : Int), .int .i64 (kb : Int), .bool false, undef, undef, undef, undef, undef, undef, undef, undef, undef, undef, undef, undef, undef, undef, undef, undef, undef, undef, undef, undef, undef, undef, undef, undef, undef, undef, undef, undef, undef, undef, undef, undef, undef, undef, undef, vn11 108, vn11 109, vn11 110, vn11 111, vn11 112, .int .i64 1, .agg (nv L (.slice (some ⟨g, 0, none⟩) C.length cm) (vkm) vim), .agg (nv L vf (vkm) vim), .bool false, .bool false, .bool true, .bool true, .bool false, .bool false, .int .i64 1, .bool true, .bool true, .bool true]) (by kernel_rfl) ?_
            intro vn12
            go_wp2_with fail
            go_ret
            exact ⟨rfl, hB⟩


set_option maxRecDepth 100000 in
theorem lifted (os : Os) (started : os.Started) (H : Type) (enc : TypeId × Value → H) :
    ReturnsInHanded {} Try.checked os 3 .any (Rows.nodeOrderSpec.pre6 enc Try.prog Try.f3 Rows.nodeOrderRow.domain false) (Rows.nodeOrderSpec.post enc Try.prog Try.f3 false true false false) := by
  refine returnsInHanded_of_change (C := Try.checked) own started (by kernel_rfl) Try.func3
    (ChangeSpec.witness6 (enc := enc) (C := Try.checked) false ⟨#[], #[.agg nn0, .int .i64 0, .int .i64 0], []⟩ 8 (by kernel_rfl) (by kernel_rfl) (by kernel_rfl) (by kernel_rfl)) ?_
  intro W base args ds gs before hval0 hW hcnd _
  have hval : ∀ (j : Nat) t v, Try.f3.params[j]? = some t → args[j]? = some v → Value.okWide Try.prog W .any base t v := hval0
  have hW' := hW
  obtain ⟨p, q, hA0, hV, rfl, hfz, hnd⟩ := hW
  have hA : DataW.TrodAll enc Try.prog W 0 (fun _ => true) true Try.f3.params.toList args.toList ds p := hA0
  rw [Try.params3] at hA hval
  obtain ⟨v0, vs0, d0, ds0, p0, q0, hargs, rfl, rfl, h0, r0⟩ := trodAll_cons hA
  obtain ⟨v1, vs1, d1, ds1, p1, q1, rfl, rfl, rfl, h1, r1⟩ := trodAll_cons r0
  obtain ⟨v2, vs2, d2, ds2, p2, q2, rfl, rfl, rfl, h2, r2⟩ := trodAll_cons r1
  obtain ⟨rfl, rfl, rfl⟩ := trodAll_nil r2
  obtain rfl : args = #[v0, v1, v2] := by cases args; simp_all
  obtain ⟨rfl, rfl⟩ := trodVars_none hV
  have k0 := h0
  have lt0 : ∀ x ∈ p0, x.block < W.heap.size := by obtain ⟨m, hm⟩ := k0; exact DataW.trod_lt m _ _ _ hm
  obtain ⟨n0, vc0, vk0, vi0, rfl, w0⟩ := open_node (hval 0 26 v0 rfl rfl) h0
  obtain ⟨a1, rfl, rfl, rfl, w1⟩ := open_int Try.underlying3 (hval 1 3 v1 rfl rfl) h1
  obtain ⟨a2, rfl, rfl, rfl, w2⟩ := open_int Try.underlying3 (hval 2 3 v2 rfl rfl) h2
  clear hA0 hval0
  refine (walk n0 vc0 vk0 vi0 a1 a2 W w0 w1 w2).mono fun e W' ⟨he, bel⟩ => ?_
  subst he
  exact ⟨_, rfl, _, _, _, [], _, [], hW', trodAll_mk1 (shut_bool Try.underlying4 _), (trodAll_cons_mk (Below.trod laidOut (by kernel_rfl) (of_decide_eq_true (by kernel_rfl)) k0 bel lt0) (trodAll_cons_mk (shut_int Try.underlying3 w1) (trodAll_cons_mk (shut_int Try.underlying3 w2) trodAll_mk0))), rfl, bel.frame _, fun h => by cases h⟩

theorem over : Rows.nodeOrderRow.holds Try.pinned (OpenSpec.ofChange Rows.nodeOrderSpec) :=
  OpenClaim.holds_of_wide 3 Try.f3 rfl rfl rfl rfl rfl rfl rfl ⟨rfl, rfl, rfl, rfl, rfl⟩ rfl rfl rfl rfl rfl (by kernel_rfl) Try.func3 (by kernel_rfl)
    (of_decide_eq_true (by kernel_rfl)) (by unfold Func.isWrapper; first | (rw [if_pos (by decide +kernel)]; kernel_rfl) | (rw [if_neg (by decide +kernel)]; exact ⟨rfl, rfl⟩))
    (fun os started H enc _ => lifted os started H enc)

theorem proved : Rows.NodeOrderSaid := over
#print axioms proved
end Go.Proofs.Ytbddghdkmakjlab.nodeOrder
