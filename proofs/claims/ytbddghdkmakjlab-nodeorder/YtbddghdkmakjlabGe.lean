/-
  Laws of the walk at 'b[l:]' and 'b[:h]' of bytes: one way, whatever the slice.
  Contracts of cell.getParts and cell.Get over the translated program.
  Contracts of cell.Put and of the document's Bytes over the translated program.
  A region that leaves its order open and stores at its end: what holds till the first of the stores comes up; no program is named here.
  The helpers of the laws of package cell: Val, Cut; 'begun' returns true and writes nothing that was there.
  Cells that were committed, undone, written stay within their bounds; no program is named here.
  Cells and values as they came in.
-/
import Derived.Test.YtbddghdkmakjlabGa
import Derived.Test.YtbddghdkmakjlabRows
import Derived.Test.YtbddghdkmakjlabCelY
import Derived.Test.YtbddghdkmakjlabGd
import Derived.Deep.RegionHeld3
import Derived.Test.YtbddghdkmakjlabGc
namespace Go.Proofs.Ytbddghdkmakjlab
set_option maxRecDepth 100000
set_option linter.unusedVariables false
open Go.RowKit

theorem elem_u8 : Try.prog.underlying 35 = some (.slice (Try.prog.elem 35)) := by kernel_rfl
theorem size_u8 (W : World) : (sizeOf (Try.prog.elem 35)).run Try.prog W = .ok 1 W := by
  have : (Try.prog.info? (Try.prog.elem 35)).map (·.size) = some 1 := by kernel_rfl
  cases hq : Try.prog.info? (Try.prog.elem 35) with
  | none => simp [hq] at this
  | some i =>
    simp [hq] at this
    simp [sizeOf, typeInfo, hq, this]

theorem Sl.cut_l {w : World} {v : Value} {zs : List Int} (h : Sl w v zs) {l : Int} (h0 : 0 ≤ l) (h1 : l ≤ zs.length) :
    ∃ V, (∀ W, (Instr.sliceAt 35 v (some (.int .i64 l)) none none).run Try.prog W = .ok V W) ∧ Sl w V (zs.drop l.toNat) := by
  obtain ⟨a, n, cap, rfl, hn, hc, Hn, HS⟩ := h.opens
  have hl := Hn.out
  refine ⟨_, fun W => ?_, HS.out.rest (l := l.toNat) (by omega) (if cap = l.toNat then a else a.map (·.add l.toNat)) rfl⟩
  rw [run_sliceAt_slice (h := elem_u8), run_slice_l (ht := elem_u8) (h0 := h0) (h1 := by omega), size_u8]
  simp [Result.andThen, sliced]

theorem Sl.cut_h {w : World} {v : Value} {zs : List Int} (h : Sl w v zs) {l : Int} (h0 : 0 ≤ l) (h1 : l ≤ zs.length) :
    ∃ V, (∀ W, (Instr.sliceAt 35 v none (some (.int .i64 l)) none).run Try.prog W = .ok V W) ∧ Sl w V (zs.take l.toNat) := by
  obtain ⟨a, n, cap, rfl, hn, hc, Hn, HS⟩ := h.opens
  have hl := Hn.out
  have hp := HS.out.part (l := 0) (m := l.toNat) (by omega) (by omega) (if cap = 0 then a else a.map (·.add (0 * 1))) rfl
  simp only [List.drop_zero, Nat.sub_zero] at hp
  refine ⟨_, fun W => ?_, hp⟩
  rw [run_sliceAt_slice (h := elem_u8), run_slice_h (ht := elem_u8) (h0 := h0) (h2 := by omega), size_u8]
  simp [Result.andThen, sliced]

/-- 'b[l:]'. -/
theorem wpList_cut {w : World} {ops : Array Oper} {rest : List Oper} {o : Oper} {a : Act} {Q : Exit → Act → World → Prop} (hg : o.guard = none) (x y : Operand) (hop : o.op = Op.slice 35 x (some y) none none)
    (v : Value) (zs : List Int) (l : Int) (hx : a.eval x = v) (hy : a.eval y = .int .i64 l) (h : Sl w v zs) (h0 : 0 ≤ l) (h1 : l ≤ zs.length)
    (hK : ∀ V, Sl w V (zs.drop l.toNat) → wpList Try.prog ops Q rest (a.put o.dst V) w) : wpList Try.prog ops Q (o :: rest) a w := by
  obtain ⟨V, hr, hV⟩ := h.cut_l h0 h1
  refine wpList_plain hg fun K' hK' => ?_
  unfold Oper.wp
  simp [execOp, hop, hx, hy, hr, Result.andThen]
  exact hK' _ _ (hK V hV)
end Go.Proofs.Ytbddghdkmakjlab

namespace Go.Proofs.Ytbddghdkmakjlab
set_option maxRecDepth 100000
set_option linter.unusedVariables false
open Go.RowKit

theorem dget_va {v : Value} {zs : List Int} {w : World} {u : Va} {n e : Int} (h : Sl w v zs) (he : Va.get zs = (u, n, e)) :
    Calls Try.prog 62 #[v] w fun r w' => r = .returned (.tuple #[.agg (va u), .int .i64 n, .int .i64 e]) ∧ Below w.heap.size w w' := by
  have := dget_any v zs w h
  simp only [Va.get, Prod.mk.injEq] at he
  obtain ⟨rfl, rfl, rfl⟩ := he
  exact this

theorem drop_bd {zs : List Int} (hb : ∀ z ∈ zs, 0 ≤ z ∧ z ≤ 255) (n : Nat) : ∀ z ∈ zs.drop n, 0 ≤ z ∧ z ≤ 255 := fun z hz => hb z (List.mem_of_mem_drop hz)

set_option maxRecDepth 100000 in
set_option maxHeartbeats 4000000 in
theorem getParts_any (v : Value) (zs : List Int) (w : World) (h : Sl w v zs) :
    Calls Try.prog 59 #[v] w fun e w' => e = .returned (.tuple #[.agg (cv (Ce.parts zs).1), .int .i64 (Ce.parts zs).2.1, .int .i64 (Ce.parts zs).2.2]) ∧ Below w.heap.size w w' := by
  have hbd := hide h.bd
  have hmx : (zs.length : Int) ≤ 9223372036854775807 := by
    obtain ⟨a, n, cap, rfl, h1, h2, Hn, -⟩ := h.opens
    have := Hn.out
    omega
  have htb := Dt.getText_bd zs h.bd
  obtain ⟨s, k, e, hE⟩ : ∃ s k e, Nm.getText zs = (s, k, e) := ⟨_, _, _, rfl⟩
  rw [hE] at htb
  simp only at htb
  obtain ⟨hk0, hk1, -, -⟩ := htb
  have HE := hide hE
  clear hE
  by_cases he : e = 0
  · subst he
    obtain ⟨u, l, e2, hE2⟩ : ∃ u l e2, Va.get (zs.drop k.toNat) = (u, l, e2) := ⟨_, _, _, rfl⟩
    have hvb := Va.get_bd (zs.drop k.toNat) (drop_bd h.bd _)
    rw [hE2, List.length_drop] at hvb
    simp only at hvb
    obtain ⟨hl0, hl1, -⟩ := hvb
    have HE2 := hide hE2
    clear hE2
    have hkl : k + l ≤ zs.length := by omega
    clear hl1
    by_cases he2 : e2 = 0
    · subst he2
      obtain ⟨t, m, e3, hE3⟩ : ∃ t m e3, Nm.get 0 0 (zs.drop (k + l).toNat) = (t, m, e3) := ⟨_, _, _, rfl⟩
      have hnb := Nm.get_bd (zs.drop (k + l).toNat) 0 0 (by omega) (by decide) (by omega) (drop_bd h.bd _)
      rw [hE3, List.length_drop] at hnb
      simp only at hnb
      have HE3 := hide hE3
      clear hE3
      by_cases he3 : e3 = 0
      · subst he3
        obtain ⟨hm0, hm1⟩ : 0 ≤ m ∧ k + l + m ≤ zs.length := by
          rcases hnb with hnb | hnb
          · obtain ⟨-, g1, -, g3, -⟩ := hnb
            simp at g1 g3
            omega
          · omega
        clear hnb
        obtain ⟨u2, j, e4, hE4⟩ : ∃ u2 j e4, Va.get (zs.drop (k + l + m).toNat) = (u2, j, e4) := ⟨_, _, _, rfl⟩
        have hvb := Va.get_bd (zs.drop (k + l + m).toNat) (drop_bd h.bd _)
        rw [hE4, List.length_drop] at hvb
        simp only at hvb
        obtain ⟨hj0, hj1, -⟩ := hvb
        have HE4 := hide hE4
        have hj2 : k + l + m + j ≤ zs.length := by omega
        clear hE4 hj1
        have HL := hide hkl
        have HL2 := hide hm1
        have hA1 : k + l ≤ 9223372036854775807 := by omega
        have hA2 : k + l + m ≤ 9223372036854775807 := by omega
        have hA3 : k + l + m + j ≤ 9223372036854775807 := by omega
        have hA4 : 0 ≤ k + l := by omega
        have hA5 : 0 ≤ k + l + m := by omega
        have HK1 := hide hk1
        clear hkl hm1 hj2 hk1 hmx
        by_cases ht : 0 < t
        · have HA := hide (show decide (0 < t) = true by simpa using ht)
          have HP := hide (Ce.parts_5 HE.out HE2.out HE3.out ht HE4.out)
          clear ht
          go_enter Try.func59, Try.ntmps59
          go_wp2_with (refine wpList_new 46 _ rfl rfl tyC ?_; intro W1 hB hX; replace h := h.later hB)
          refine (getText_at h HE.out).mono ?_
          rintro e W2 ⟨rfl, rfl⟩
          go_wp2_with (refine wpList_cut rfl (.tmp 23) (.tmp 24) rfl v zs k rfl rfl h hk0 HK1.out ?_; intro V1 hV1)
          refine (dget_va hV1 HE2.out).mono ?_
          rintro e W3 ⟨rfl, hB3⟩
          replace h := h.later hB3
          replace hX := hX.later hB3
          replace hB := hB.trans (hB3.mono hB.size)
          clear hB3 hV1
          go_wp2_with (first
              | (refine wpList_new 32 _ rfl rfl tyV ?_; intro W4 hB4 hY)
              | (refine wpList_put 32 _ (.tmp 8) (.tmp 27) _ (va u) _ rfl rfl rfl rfl hY tyV rfl rfl (va_one _) ?_; intro W5 hb5 hs5 hY5; have hB5 := newput hB4 hb5; replace h := h.later hB5; replace hX := hX.later hB5; replace hB := hB.trans (hB5.mono hB.size); clear hB4 hY hb5 hs5 hB5)
              | (refine wpList_cut rfl (.tmp 38) (.tmp 39) rfl v zs (k + l) rfl rfl h hA4 HL.out ?_; intro V2 hV2))
          refine (get_at hV2 HE3.out).mono ?_
          rintro e W6 ⟨rfl, rfl⟩
          clear hV2
          obtain ⟨v0, v1, v2⟩ := hY5.vals
          go_wp2_with (first
              | (refine wpList_new 46 _ rfl rfl tyC ?_; intro W7 hB7 hZ; have hne := Nat.ne_of_lt hX.lt; have hle := hB.size)
              | (refine wpList_put 46 _ (.tmp 11) (.tmp 55) _ (cv ⟨strOfNums s, u, t, Va.zero⟩) _ rfl rfl rfl rfl hZ tyC rfl rfl (cv_one _) ?_; intro W8 hb8 hs8 hZ8; have hB8 := newput hB7 hb8; replace h := h.later hB8; replace hX := hX.later hB8; replace hB := hB.trans (hB8.mono hB.size); clear hB7 hZ hb8 hs8 hB8)
              | (refine wpList_get 46 _ (.tmp 11) _ (cv ⟨strOfNums s, u, t, Va.zero⟩) rfl rfl rfl hZ8 tyC rfl ?_))
          refine (hasTxn_any ⟨strOfNums s, u, t, Va.zero⟩ _).mono ?_
          rintro e W9 ⟨rfl, hB9⟩
          rw [show decide (0 < (⟨strOfNums s, u, t, Va.zero⟩ : Ce).T) = _ from HA.out]
          replace h := h.later hB9
          replace hX := hX.later hB9
          replace hZ8 := hZ8.later hB9
          replace hB := hB.trans (hB9.mono hB.size)
          clear hB9 v0 v1 v2 hY5
          go_wp2_with (refine wpList_cut rfl (.tmp 62) (.tmp 63) rfl v zs (k + l + m) rfl rfl h hA5 HL2.out ?_; intro V3 hV3)
          refine (dget_va hV3 HE4.out).mono ?_
          rintro e W10 ⟨rfl, hB10⟩
          replace hX := hX.later hB10
          replace hZ8 := hZ8.later hB10
          replace hB := hB.trans (hB10.mono hB.size)
          clear hB10 hV3 h
          go_wp2_with (first
              | (refine wpList_putV (.tmp 69) (.tmp 66) _ 5 u2 _ rfl rfl rfl rfl hZ8 (show 5 + 3 ≤ 8 by omega) ?_; intro W11 hb11 hs11 hZ11; replace hX := hX.but hb11 hne; have hB11 := Below.but hB hB.size hb11 (fun k e => by omega); clear hB hZ8 hb11; have hZ12 : Bx W11 _ (cv ⟨strOfNums s, u, t, u2⟩) := hZ11; clear hZ11)
              | (refine wpList_get 46 _ (.tmp 11) _ (cv ⟨strOfNums s, u, t, u2⟩) rfl rfl rfl hZ12 tyC rfl ?_)
              | (refine wpList_put 46 _ (.tmp 2) (.tmp 70) _ (cv ⟨strOfNums s, u, t, u2⟩) _ rfl rfl rfl rfl hX tyC rfl rfl (cv_one _) ?_; intro W13 hb13 hs13 hX13))
          refine bodyPost_ret (v := .tuple #[.agg (cv ⟨strOfNums s, u, t, u2⟩), .int .i64 (k + l + m + j), .int .i64 e4]) (results3_bx Try.results59 _ _ _ _ _ _ rfl rfl rfl hX13 tyC rfl) rfl ⟨by rw [HP.out], ?_⟩
          exact Below.but hB11 hB11.size hb13 (fun k e => by omega)
        · have HA := hide (show decide (0 < t) = false by simpa using ht)
          have HP := hide (Ce.parts_4 HE.out HE2.out HE3.out ht)
          clear ht
          go_enter Try.func59, Try.ntmps59
          go_wp2_with (refine wpList_new 46 _ rfl rfl tyC ?_; intro W1 hB hX; replace h := h.later hB)
          refine (getText_at h HE.out).mono ?_
          rintro e W2 ⟨rfl, rfl⟩
          go_wp2_with (refine wpList_cut rfl (.tmp 23) (.tmp 24) rfl v zs k rfl rfl h hk0 HK1.out ?_; intro V1 hV1)
          refine (dget_va hV1 HE2.out).mono ?_
          rintro e W3 ⟨rfl, hB3⟩
          replace h := h.later hB3
          replace hX := hX.later hB3
          replace hB := hB.trans (hB3.mono hB.size)
          clear hB3 hV1
          go_wp2_with (first
              | (refine wpList_new 32 _ rfl rfl tyV ?_; intro W4 hB4 hY)
              | (refine wpList_put 32 _ (.tmp 8) (.tmp 27) _ (va u) _ rfl rfl rfl rfl hY tyV rfl rfl (va_one _) ?_; intro W5 hb5 hs5 hY5; have hB5 := newput hB4 hb5; replace h := h.later hB5; replace hX := hX.later hB5; replace hB := hB.trans (hB5.mono hB.size); clear hB4 hY hb5 hs5 hB5)
              | (refine wpList_cut rfl (.tmp 38) (.tmp 39) rfl v zs (k + l) rfl rfl h hA4 HL.out ?_; intro V2 hV2))
          refine (get_at hV2 HE3.out).mono ?_
          rintro e W6 ⟨rfl, rfl⟩
          clear hV2
          obtain ⟨v0, v1, v2⟩ := hY5.vals
          go_wp2_with (first
              | (refine wpList_new 46 _ rfl rfl tyC ?_; intro W7 hB7 hZ; have hne := Nat.ne_of_lt hX.lt; have hle := hB.size)
              | (refine wpList_put 46 _ (.tmp 11) (.tmp 55) _ (cv ⟨strOfNums s, u, t, Va.zero⟩) _ rfl rfl rfl rfl hZ tyC rfl rfl (cv_one _) ?_; intro W8 hb8 hs8 hZ8; have hB8 := newput hB7 hb8; replace h := h.later hB8; replace hX := hX.later hB8; replace hB := hB.trans (hB8.mono hB.size); clear hB7 hZ hb8 hs8 hB8)
              | (refine wpList_get 46 _ (.tmp 11) _ (cv ⟨strOfNums s, u, t, Va.zero⟩) rfl rfl rfl hZ8 tyC rfl ?_))
          refine (hasTxn_any ⟨strOfNums s, u, t, Va.zero⟩ _).mono ?_
          rintro e W9 ⟨rfl, hB9⟩
          rw [show decide (0 < (⟨strOfNums s, u, t, Va.zero⟩ : Ce).T) = _ from HA.out]
          replace h := h.later hB9
          replace hX := hX.later hB9
          replace hZ8 := hZ8.later hB9
          replace hB := hB.trans (hB9.mono hB.size)
          clear hB9 v0 v1 v2 hY5
          go_wp2_with (first
              | (refine wpList_get 46 _ (.tmp 11) _ (cv ⟨strOfNums s, u, t, Va.zero⟩) rfl rfl rfl hZ8 tyC rfl ?_)
              | (refine wpList_put 46 _ (.tmp 2) (.tmp 59) _ (cv ⟨strOfNums s, u, t, Va.zero⟩) _ rfl rfl rfl rfl hX tyC rfl rfl (cv_one _) ?_; intro W13 hb13 hs13 hX13))
          refine bodyPost_ret (v := .tuple #[.agg (cv ⟨strOfNums s, u, t, Va.zero⟩), .int .i64 (k + l + m), .int .i64 0]) (results3_bx Try.results59 _ _ _ _ _ _ rfl rfl rfl hX13 tyC rfl) rfl ⟨by rw [HP.out], ?_⟩
          exact Below.but hB hB.size hb13 (fun k e => by omega)
      · have HP := hide (Ce.parts_3 HE.out HE2.out HE3.out he3)
        have he3' : (e3 != 0) = true := by simp; exact he3
        have HL := hide hkl
        have HK1 := hide hk1
        have hA1 : k + l ≤ 9223372036854775807 := by omega
        have hA4 : 0 ≤ k + l := by omega
        clear he3 hnb hkl hk1
        go_enter Try.func59, Try.ntmps59
        go_wp2_with (refine wpList_new 46 _ rfl rfl tyC ?_; intro W1 hB hX; replace h := h.later hB)
        refine (getText_at h HE.out).mono ?_
        rintro e W2 ⟨rfl, rfl⟩
        go_wp2_with (refine wpList_cut rfl (.tmp 23) (.tmp 24) rfl v zs k rfl rfl h hk0 HK1.out ?_; intro V1 hV1)
        refine (dget_va hV1 HE2.out).mono ?_
        rintro e W3 ⟨rfl, hB3⟩
        replace h := h.later hB3
        replace hX := hX.later hB3
        replace hB := hB.trans (hB3.mono hB.size)
        clear hB3 hV1
        go_wp2_with (first
            | (refine wpList_new 32 _ rfl rfl tyV ?_; intro W4 hB4 hY)
            | (refine wpList_put 32 _ (.tmp 8) (.tmp 27) _ (va u) _ rfl rfl rfl rfl hY tyV rfl rfl (va_one _) ?_; intro W5 hb5 hs5 hY5; have hB5 := newput hB4 hb5; replace h := h.later hB5; replace hX := hX.later hB5; replace hB := hB.trans (hB5.mono hB.size); clear hB4 hY hb5 hs5 hB5)
            | (refine wpList_cut rfl (.tmp 38) (.tmp 39) rfl v zs (k + l) rfl rfl h hA4 HL.out ?_; intro V2 hV2))
        refine (get_at hV2 HE3.out).mono ?_
        rintro e W6 ⟨rfl, rfl⟩
        clear hV2
        go_wp2_with (refine wpList_put 46 _ (.tmp 2) (.tmp 47) _ (cv Ce.zero) _ rfl rfl rfl rfl hX tyC rfl rfl (cv_one _) ?_; intro W9 hb9 hs9 hX9)
        refine bodyPost_ret (v := .tuple #[.agg (cv Ce.zero), .int .i64 0, .int .i64 e3]) (results3_bx Try.results59 _ _ _ _ _ _ rfl rfl rfl hX9 tyC rfl) rfl ⟨by rw [HP.out], ?_⟩
        exact Below.but hB hB.size hb9 (fun k e => by omega)
    · have HP := hide (Ce.parts_2 HE.out HE2.out he2)
      have he2' : (e2 != 0) = true := by simp; exact he2
      have HK1 := hide hk1
      clear he2 hkl hk1
      go_enter Try.func59, Try.ntmps59
      go_wp2_with (refine wpList_new 46 _ rfl rfl tyC ?_; intro W1 hB hX; replace h := h.later hB)
      refine (getText_at h HE.out).mono ?_
      rintro e W2 ⟨rfl, rfl⟩
      go_wp2_with (refine wpList_cut rfl (.tmp 23) (.tmp 24) rfl v zs k rfl rfl h hk0 HK1.out ?_; intro V1 hV1)
      refine (dget_va hV1 HE2.out).mono ?_
      rintro e W3 ⟨rfl, hB3⟩
      replace h := h.later hB3
      replace hX := hX.later hB3
      replace hB := hB.trans (hB3.mono hB.size)
      clear hB3 hV1
      go_wp2_with (first
          | (refine wpList_new 32 _ rfl rfl tyV ?_; intro W4 hB4 hY)
          | (refine wpList_put 32 _ (.tmp 8) (.tmp 27) _ (va u) _ rfl rfl rfl rfl hY tyV rfl rfl (va_one _) ?_; intro W5 hb5 hs5 hY5; have hB5 := newput hB4 hb5; replace h := h.later hB5; replace hX := hX.later hB5; replace hB := hB.trans (hB5.mono hB.size); clear hB4 hY hb5 hs5 hB5)
          | (refine wpList_put 46 _ (.tmp 2) (.tmp 32) _ (cv Ce.zero) _ rfl rfl rfl rfl hX tyC rfl rfl (cv_one _) ?_; intro W9 hb9 hs9 hX9))
      refine bodyPost_ret (v := .tuple #[.agg (cv Ce.zero), .int .i64 0, .int .i64 e2]) (results3_bx Try.results59 _ _ _ _ _ _ rfl rfl rfl hX9 tyC rfl) rfl ⟨by rw [HP.out], ?_⟩
      exact Below.but hB hB.size hb9 (fun k e => by omega)
  · have HP := hide (Ce.parts_1 HE.out he)
    have he' : (e != 0) = true := by simp; exact he
    clear he hk1
    go_enter Try.func59, Try.ntmps59
    go_wp2_with (refine wpList_new 46 _ rfl rfl tyC ?_; intro W1 hB hX; replace h := h.later hB)
    refine (getText_at h HE.out).mono ?_
    rintro e0 W2 ⟨rfl, rfl⟩
    go_wp2_with (refine wpList_put 46 _ (.tmp 2) (.tmp 20) _ (cv Ce.zero) _ rfl rfl rfl rfl hX tyC rfl rfl (cv_one _) ?_; intro W9 hb9 hs9 hX9)
    refine bodyPost_ret (v := .tuple #[.agg (cv Ce.zero), .int .i64 0, .int .i64 e]) (results3_bx Try.results59 _ _ _ _ _ _ rfl rfl rfl hX9 tyC rfl) rfl ⟨by rw [HP.out], ?_⟩
    exact Below.but hB hB.size hb9 (fun k e => by omega)

set_option maxHeartbeats 1000000 in
theorem get_cell (v : Value) (zs : List Int) (w : World) (h : Sl w v zs) :
    Calls Try.prog 47 #[v] w fun e w' => e = .returned (.tuple #[.agg (cv (Ce.get zs).1), .int .i64 (Ce.get zs).2.1, .int .i64 (Ce.get zs).2.2]) ∧ Below w.heap.size w w' := by
  have hp := Ce.parts_bd zs h.bd
  have HC := hide fun W (hW : Below w.heap.size w W) => getParts_any v zs W (h.later hW)
  obtain ⟨c, n, e, hE⟩ : ∃ c n e, Ce.parts zs = (c, n, e) := ⟨_, _, _, rfl⟩
  rw [hE] at hp HC
  simp only at hp HC
  by_cases he : e = 0
  · subst he
    cases hm : c.may
    · have HM := hide hm
      have HG := hide (Ce.get_2 hE hm)
      clear hm hE
      go_enter Try.func47, Try.ntmps47
      go_wp2_with (refine wpList_new 46 _ rfl rfl tyC ?_; intro W1 hB hX)
      refine (HC.out _ hB).mono ?_
      rintro e W2 ⟨rfl, hB2⟩
      replace hX := hX.later hB2
      replace hB := hB.trans (hB2.mono hB.size)
      clear hB2
      go_wp2_with (first
        | (refine wpList_new 46 _ rfl rfl tyC ?_; intro W4 hB4 hY)
        | (refine wpList_put 46 _ (.tmp 5) (.tmp 11) _ (cv c) _ rfl rfl rfl rfl hY tyC rfl rfl (cv_one _) ?_; intro W5 hb5 hs5 hY5; have hB5 := newput hB4 hb5; replace hX := hX.later hB5; replace hB := hB.trans (hB5.mono hB.size); clear hB4 hY hb5 hs5 hB5)
        | (refine wpList_get 46 _ (.tmp 5) _ (cv c) rfl rfl rfl hY5 tyC rfl ?_))
      refine (may_cell c _ hp).mono ?_
      rintro e W6 ⟨rfl, hB6⟩
      rw [HM.out]
      replace hX := hX.later hB6
      replace hB := hB.trans (hB6.mono hB.size)
      clear hB6
      go_wp2_with (refine wpList_put 46 _ (.tmp 2) (.tmp 21) _ (cv Ce.zero) _ rfl rfl rfl rfl hX tyC rfl rfl (cv_one _) ?_; intro W13 hb13 hs13 hX13)
      refine bodyPost_ret (v := .tuple #[.agg (cv Ce.zero), .int .i64 0, .int .i64 1]) (results3_bx Try.results47 _ _ _ _ _ _ rfl rfl rfl hX13 tyC rfl) rfl ⟨by rw [HG.out], ?_⟩
      exact Below.but hB hB.size hb13 (fun k e => by omega)
    · have HM := hide hm
      have HG := hide (Ce.get_3 hE hm)
      clear hm hE
      go_enter Try.func47, Try.ntmps47
      go_wp2_with (refine wpList_new 46 _ rfl rfl tyC ?_; intro W1 hB hX)
      refine (HC.out _ hB).mono ?_
      rintro e W2 ⟨rfl, hB2⟩
      replace hX := hX.later hB2
      replace hB := hB.trans (hB2.mono hB.size)
      clear hB2
      go_wp2_with (first
        | (refine wpList_new 46 _ rfl rfl tyC ?_; intro W4 hB4 hY)
        | (refine wpList_put 46 _ (.tmp 5) (.tmp 11) _ (cv c) _ rfl rfl rfl rfl hY tyC rfl rfl (cv_one _) ?_; intro W5 hb5 hs5 hY5; have hB5 := newput hB4 hb5; replace hX := hX.later hB5; replace hB := hB.trans (hB5.mono hB.size); clear hB4 hY hb5 hs5 hB5)
        | (refine wpList_get 46 _ (.tmp 5) _ (cv c) rfl rfl rfl hY5 tyC rfl ?_))
      refine (may_cell c _ hp).mono ?_
      rintro e W6 ⟨rfl, hB6⟩
      rw [HM.out]
      replace hX := hX.later hB6
      replace hY5 := hY5.later hB6
      replace hB := hB.trans (hB6.mono hB.size)
      clear hB6
      go_wp2_with (first
        | (refine wpList_get 46 _ (.tmp 5) _ (cv c) rfl rfl rfl hY5 tyC rfl ?_)
        | (refine wpList_put 46 _ (.tmp 2) (.tmp 22) _ (cv c) _ rfl rfl rfl rfl hX tyC rfl rfl (cv_one _) ?_; intro W13 hb13 hs13 hX13))
      refine bodyPost_ret (v := .tuple #[.agg (cv c), .int .i64 n, .int .i64 0]) (results3_bx Try.results47 _ _ _ _ _ _ rfl rfl rfl hX13 tyC rfl) rfl ⟨by rw [HG.out], ?_⟩
      exact Below.but hB hB.size hb13 (fun k e => by omega)
  · have he' : (e != 0) = true := by simp; exact he
    have HG := hide (Ce.get_1 hE he)
    clear he hE
    go_enter Try.func47, Try.ntmps47
    go_wp2_with (refine wpList_new 46 _ rfl rfl tyC ?_; intro W1 hB hX)
    refine (HC.out _ hB).mono ?_
    rintro e0 W2 ⟨rfl, hB2⟩
    replace hX := hX.later hB2
    replace hB := hB.trans (hB2.mono hB.size)
    clear hB2
    go_wp2_with (first
      | (refine wpList_new 46 _ rfl rfl tyC ?_; intro W4 hB4 hY)
      | (refine wpList_put 46 _ (.tmp 5) (.tmp 11) _ (cv c) _ rfl rfl rfl rfl hY tyC rfl rfl (cv_one _) ?_; intro W5 hb5 hs5 hY5; have hB5 := newput hB4 hb5; replace hX := hX.later hB5; replace hB := hB.trans (hB5.mono hB.size); clear hB4 hY hb5 hs5 hB5)
      | (refine wpList_put 46 _ (.tmp 2) (.tmp 16) _ (cv Ce.zero) _ rfl rfl rfl rfl hX tyC rfl rfl (cv_one _) ?_; intro W13 hb13 hs13 hX13))
    refine bodyPost_ret (v := .tuple #[.agg (cv Ce.zero), .int .i64 0, .int .i64 e]) (results3_bx Try.results47 _ _ _ _ _ _ rfl rfl rfl hX13 tyC rfl) rfl ⟨by rw [HG.out], ?_⟩
    exact Below.but hB hB.size hb13 (fun k e => by omega)

theorem get_cell_at {v : Value} {zs : List Int} {w : World} {c : Ce} {n e : Int} (h : Sl w v zs) (he : Ce.get zs = (c, n, e)) :
    Calls Try.prog 47 #[v] w fun r w' => r = .returned (.tuple #[.agg (cv c), .int .i64 n, .int .i64 e]) ∧ Below w.heap.size w w' := by
  have := get_cell v zs w h
  rw [he] at this
  exact this
end Go.Proofs.Ytbddghdkmakjlab

namespace Go.Proofs.Ytbddghdkmakjlab
set_option maxRecDepth 100000
set_option linter.unusedVariables false
open Go.RowKit

theorem cput_pos {c : Ce} (h : 0 < c.T) : Ce.put c = Nm.text (sb c.N) ++ (c.V.put ++ (Nm.num c.T ++ c.W.put)) := by simp [Ce.put, h]
theorem cput_none {c : Ce} (h : ¬ 0 < c.T) : Ce.put c = Nm.text (sb c.N) ++ (c.V.put ++ Nm.num c.T) := by simp [Ce.put, h]

set_option maxHeartbeats 4000000 in
theorem put_cell (v : Value) (zs : List Int) (c : Ce) (w : World) (h : Sl w v zs) (hl : zs.length + c.N.size + c.V.S.size + c.W.S.size ≤ 140737488330000) (hc : c.Ok) :
    Calls Try.prog 41 #[v, .agg (cv c)] w fun e w' => ∃ v', e = .returned v' ∧
      w'.ownsRow w.heap.size 5 1 v' (zs.length + (Ce.put c).length) (bv (zs ++ Ce.put c)) ∧ Below w.heap.size w w' := by
  have hbd := h.bd
  have hb1 := text_bd c.N (by omega)
  have hb2 : ∀ z ∈ Dt.put c.V.K c.V.X c.V.S, 0 ≤ z ∧ z ≤ 255 := Dt.put_bd hc.v.k0 hc.v.k1 (by omega)
  have hb3 := Nm.num_bd c.T hc.t0 hc.t1
  have l1 := Nm.text_len (sb c.N)
  have l2 := Nm.num_len ((sb c.N).length : Int)
  have l3 := sb_len c.N
  have l4 : 1 ≤ (Dt.put c.V.K c.V.X c.V.S).length ∧ (Dt.put c.V.K c.V.X c.V.S).length ≤ 20 + c.V.S.size := Dt.put_len
  have l5 := Nm.num_len c.T
  replace hl := hide hl
  replace l1 := hide (show (Nm.text (sb c.N)).length ≤ 10 + c.N.size by omega)
  clear l2 l3
  replace l4 := hide l4
  replace l5 := hide l5
  replace hbd := hide hbd
  replace hb1 := hide hb1
  replace hb2 := hide hb2
  replace hb3 := hide hb3
  by_cases ht : 0 < c.T
  · have HA := hide (show decide (0 < c.T) = true by simpa using ht)
    have HE := hide (cput_pos ht)
    clear ht
    go_enter Try.func41, Try.ntmps41
    go_wp2_with (refine wpList_box 46 (.tmp 1) (cv c) rfl rfl rfl ?_; intro W1 hB hX; replace h := h.later hB; obtain ⟨c0, c1, c2, c3, c4, c5, c6, c7⟩ := hX.cells)
    refine (putText_any v zs c.N _ h (by have := hl.out; omega)).mono ?_
    rintro e W2 ⟨v2, rfl, ho2, hB2⟩
    have S2 := Sl.own ho2 (bd_app hbd.out hb1.out)
    clear ho2 h
    replace hX := hX.later hB2
    replace hB := hB.trans (hB2.mono hB.size)
    clear c0 c1 c2 c3 c4 c5 c6 c7 hB2
    obtain ⟨c0, c1, c2, c3, c4, c5, c6, c7⟩ := hX.cells
    go_wp2_with fail
    refine (dput_any v2 _ c.V.K c.V.X c.V.S _ S2 (by have := hl.out; have := l1.out; rw [List.length_append]; omega) hc.v.k0 hc.v.k1 hc.v.x).mono ?_
    rintro e W3 ⟨v3, rfl, ho3, hB3⟩
    have S3 := Sl.own ho3 (bd_app (bd_app hbd.out hb1.out) hb2.out)
    clear ho3 S2
    replace hX := hX.later hB3
    replace hB := hB.trans (hB3.mono hB.size)
    clear c0 c1 c2 c3 c4 c5 c6 c7 hB3
    obtain ⟨c0, c1, c2, c3, c4, c5, c6, c7⟩ := hX.cells
    go_wp2_with fail
    refine (put_any v3 _ c.T _ S3 (by have := hl.out; have := l1.out; have := l4.out; rw [List.length_append, List.length_append]; omega) hc.t0 hc.t1).mono ?_
    rintro e W4 ⟨v4, rfl, ho4, hB4⟩
    have S4 := Sl.own ho4 (bd_app (bd_app (bd_app hbd.out hb1.out) hb2.out) hb3.out)
    replace hX := hX.later hB4
    have hsz := hB.size
    replace hB := hB.trans (hB4.mono hB.size)
    clear c0 c1 c2 c3 c4 c5 c6 c7 S3
    go_wp2_with (refine wpList_get 46 _ (.tmp 3) _ (cv c) rfl rfl rfl hX tyC rfl ?_)
    refine (hasTxn_any c _).mono ?_
    rintro e W5 ⟨rfl, hB5⟩
    rw [HA.out]
    replace hX := hX.later hB5
    have hsz5 := hB.size
    replace hB := hB.trans (hB5.mono hB.size)
    replace S4 := S4.later hB5
    clear ho4 hB4 hB5
    obtain ⟨c0, c1, c2, c3, c4, c5, c6, c7⟩ := hX.cells
    go_wp2_with fail
    refine (dput_any v4 _ c.W.K c.W.X c.W.S _ S4 (by have := hl.out; have := l1.out; have := l4.out; have := l5.out; rw [List.length_append, List.length_append, List.length_append]; omega) hc.w.k0 hc.w.k1 hc.w.x).mono ?_
    rintro e W6 ⟨v6, rfl, ho6, hB6⟩
    have hsz6 := hB.size
    replace hB := hB.trans (hB6.mono hB.size)
    clear c0 c1 c2 c3 c4 c5 c6 c7 S4
    go_wp2_with fail
    go_ret
    refine ⟨_, rfl, ?_, hB⟩
    have e1 : zs ++ Ce.put c = (((zs ++ Nm.text (sb c.N)) ++ Dt.put c.V.K c.V.X c.V.S) ++ Nm.num c.T) ++ Dt.put c.W.K c.W.X c.W.S := by rw [HE.out]; simp [Va.put]
    have e2 : zs.length + (Ce.put c).length = ((((zs ++ Nm.text (sb c.N)) ++ Dt.put c.V.K c.V.X c.V.S) ++ Nm.num c.T)).length + (Dt.put c.W.K c.W.X c.W.S).length := by rw [← List.length_append, ← List.length_append, e1]
    rw [e2, e1]
    exact own_mono ho6 hsz6
  · have HA := hide (show decide (0 < c.T) = false by simpa using ht)
    have HE := hide (cput_none ht)
    clear ht
    go_enter Try.func41, Try.ntmps41
    go_wp2_with (refine wpList_box 46 (.tmp 1) (cv c) rfl rfl rfl ?_; intro W1 hB hX; replace h := h.later hB; obtain ⟨c0, c1, c2, c3, c4, c5, c6, c7⟩ := hX.cells)
    refine (putText_any v zs c.N _ h (by have := hl.out; omega)).mono ?_
    rintro e W2 ⟨v2, rfl, ho2, hB2⟩
    have S2 := Sl.own ho2 (bd_app hbd.out hb1.out)
    clear ho2 h
    replace hX := hX.later hB2
    replace hB := hB.trans (hB2.mono hB.size)
    clear c0 c1 c2 c3 c4 c5 c6 c7 hB2
    obtain ⟨c0, c1, c2, c3, c4, c5, c6, c7⟩ := hX.cells
    go_wp2_with fail
    refine (dput_any v2 _ c.V.K c.V.X c.V.S _ S2 (by have := hl.out; have := l1.out; rw [List.length_append]; omega) hc.v.k0 hc.v.k1 hc.v.x).mono ?_
    rintro e W3 ⟨v3, rfl, ho3, hB3⟩
    have S3 := Sl.own ho3 (bd_app (bd_app hbd.out hb1.out) hb2.out)
    clear ho3 S2
    replace hX := hX.later hB3
    replace hB := hB.trans (hB3.mono hB.size)
    clear c0 c1 c2 c3 c4 c5 c6 c7 hB3
    obtain ⟨c0, c1, c2, c3, c4, c5, c6, c7⟩ := hX.cells
    go_wp2_with fail
    refine (put_any v3 _ c.T _ S3 (by have := hl.out; have := l1.out; have := l4.out; rw [List.length_append, List.length_append]; omega) hc.t0 hc.t1).mono ?_
    rintro e W4 ⟨v4, rfl, ho4, hB4⟩
    have S4 := Sl.own ho4 (bd_app (bd_app (bd_app hbd.out hb1.out) hb2.out) hb3.out)
    replace hX := hX.later hB4
    have hsz := hB.size
    replace hB := hB.trans (hB4.mono hB.size)
    clear c0 c1 c2 c3 c4 c5 c6 c7 S3
    go_wp2_with (refine wpList_get 46 _ (.tmp 3) _ (cv c) rfl rfl rfl hX tyC rfl ?_)
    refine (hasTxn_any c _).mono ?_
    rintro e W5 ⟨rfl, hB5⟩
    rw [HA.out]
    replace hX := hX.later hB5
    have hsz5 := hB.size
    replace hB := hB.trans (hB5.mono hB.size)
    replace ho4 := own_below ho4 hB5
    clear hB4 hB5 S4
    go_wp2_with fail
    go_ret
    refine ⟨_, rfl, ?_, hB⟩
    have e1 : zs ++ Ce.put c = ((zs ++ Nm.text (sb c.N)) ++ Dt.put c.V.K c.V.X c.V.S) ++ Nm.num c.T := by rw [HE.out]; simp [Va.put]
    have e2 : zs.length + (Ce.put c).length = ((zs ++ Nm.text (sb c.N)) ++ Dt.put c.V.K c.V.X c.V.S).length + (Nm.num c.T).length := by rw [← List.length_append, ← List.length_append, e1]
    rw [e2, e1]
    exact own_mono ho4 hsz
end Go.Proofs.Ytbddghdkmakjlab

namespace Go.Proofs.Ytbddghdkmakjlab
set_option maxRecDepth 100000
set_option linter.unusedVariables false

section
variable {P : Program} {ops : Array Oper} {Q : Exit → Act → World → Prop} {md : Region.Mode} {p : Nat} {S : World → Prop}

/-- Whatever order is picked from here on; S holds behind every operation that is carried out as long as number p has not come up. -/
def wpAnyP (P : Program) (md : Region.Mode) (ops : Array Oper) (Q : Exit → Act → World → Prop) (p : Nat) (S : World → Prop) : Nat → Array Bool → Act → World → Prop
  | 0, listed, a, w => Region.ready md ops listed = [] ∧ Q .normal a w
  | fuel + 1, listed, a, w =>
    (Region.ready md ops listed = [] → Q .normal a w) ∧
    ∀ i ∈ Region.ready md ops listed, wpOp P ops Q i (fun a' w' => ((listed.setIfInBounds i true).getD p true = false → S w') ∧ wpAnyP P md ops Q p S fuel (listed.setIfInBounds i true) a' w') a w

theorem wpAny_of_P : ∀ (fuel : Nat) (listed : Array Bool) (a : Act) (w : World), wpAnyP P md ops Q p S fuel listed a w → wpAny P md ops Q fuel listed a w
  | 0, _, _, _, h => h
  | fuel + 1, _, _, _, h => ⟨h.1, fun i hi => wpOp_mono (fun a' w' h' => wpAny_of_P fuel _ a' w' h'.2) (h.2 i hi)⟩

/-- Number p waits for number i. -/
def waits (md : Region.Mode) (ops : Array Oper) (p i : Nat) : Bool :=
  match ops[p]? with
  | some o => o.after.any (fun e => Region.binds md e && e.on == i)
  | none => false

theorem waits_spec {p i : Nat} (h : waits md ops p i = true) {o : Oper} (ho : ops[p]? = some o) : ∃ e ∈ o.after, Region.binds md e = true ∧ e.on = i := by
  simp only [waits, ho, Array.any_eq_true'] at h
  obtain ⟨e, he, hh⟩ := h
  simp at hh
  exact ⟨e, he, hh.1, hh.2⟩

/-- An operation that p waits for, and that yields its value in every world that meets S, may be taken first. -/
theorem wpAnyP_first {i : Nat} {oi : Oper} {v : Value} (hi : ops[i]? = some oi) (hsel : ∀ (j : Nat) (o : Oper) cs b, ops[j]? = some o → o.op ≠ .select cs b)
    (hQ : ∀ c a w, Q (.panic c) (a.put oi.dst v) w → Q (.panic c) a w) (hwt : waits md ops p i = true) (hpi : p ≠ i) :
    ∀ (fuel : Nat) (listed : Array Bool) (a : Act) (w : World),
      (∀ j oj, ops[j]? = some oj → j ≠ i → listed.getD j true = false → (∀ e ∈ oj.after, Region.binds md e = true → e.on ≠ i) → oi.apart ops oj = true) →
      i ∈ Region.ready md ops listed → listed.getD p true = false → YieldsIf P ops S oi v a → S w →
      wpAnyP P md ops Q p S fuel (listed.setIfInBounds i true) (a.put oi.dst v) w → wpAnyP P md ops Q p S (fuel + 1) listed a w := by
  intro fuel
  induction fuel with
  | zero =>
    intro listed a w _ hr hp hy hS H
    refine ⟨fun h => (by rw [h] at hr; cases hr), fun j hj => ?_⟩
    by_cases hji : j = i
    · subst hji; exact hy.wpOp hi hS ⟨fun _ => hS, H⟩
    · have := ready_mono hj hji
      rw [H.1] at this
      cases this
  | succ fuel ih =>
    intro listed a w hfree hr hp hy hS H
    refine ⟨fun h => (by rw [h] at hr; cases hr), fun j hj => ?_⟩
    by_cases hji : j = i
    · subst hji; exact hy.wpOp hi hS ⟨fun _ => hS, H⟩
    · have h1 := H.2 j (ready_mono hj hji)
      obtain ⟨hjun, oj, hoj, hall⟩ := mem_ready.1 hj
      have hnot : ∀ e ∈ oj.after, Region.binds md e = true → e.on ≠ i := fun e he hb heq => by
        have h1 := hall e he hb
        have h0 := (mem_ready.1 hr).1
        rw [heq] at h1
        rcases Nat.lt_or_ge i listed.size with h' | h'
        · simp [h'] at h0 h1; rw [h0] at h1; cases h1
        · simp [Array.getElem?_eq_none h'] at h1
      have hjp : j ≠ p := by
        rintro rfl
        obtain ⟨e, he, hb, hon⟩ := waits_spec hwt hoj
        exact hnot e he hb hon
      have h2 := wpOp_putIf hoj (hfree j oj hoj hji hjun hnot) (fun cs b => hsel i oi cs b hi) (fun cs b => hsel j oj cs b hoj) hQ hy h1
      have hfree' : ∀ k ok, ops[k]? = some ok → k ≠ i → (listed.setIfInBounds j true).getD k true = false →
          (∀ e ∈ ok.after, Region.binds md e = true → e.on ≠ i) → oi.apart ops ok = true := fun k ok hk hki hun hno => by
        refine hfree k ok hk hki ?_ hno
        by_cases hjk : j = k
        · subst hjk; exact hjun
        · rw [getD_set_ne true hjk] at hun; exact hun
      have hp' : (listed.setIfInBounds j true).getD p true = false := by rw [getD_set_ne true hjp]; exact hp
      have hpH : ((listed.setIfInBounds i true).setIfInBounds j true).getD p true = false := by rw [getD_set_ne true hjp, getD_set_ne true (Ne.symm hpi)]; exact hp
      refine wpOp_mono (fun a' w' h3 => ?_) h2
      have hS' := h3.2.1 hpH
      refine ⟨fun _ => hS', ih (listed.setIfInBounds j true) a' w' hfree' (ready_mono hr (Ne.symm hji)) hp' h3.1 hS' ?_⟩
      rw [Array.setIfInBounds_comm _ _ hji]
      exact h3.2.2

theorem wpAnyP_take {i : Nat} {oi : Oper} {v : Value} {fuel : Nat} {listed : Array Bool} {a : Act} {w : World} (hi : ops[i]? = some oi)
    (hs : Region.noSelect ops = true) (hf : Region.free md ops listed i = true) (hr : (Region.ready md ops listed).contains i = true) (hwt : waits md ops p i = true) (hp : listed.getD p true = false) (hpi : p ≠ i)
    (hQ : ∀ c a w, Q (.panic c) (a.put oi.dst v) w → Q (.panic c) a w) (hy : YieldsIf P ops S oi v a) (hS : S w)
    (h : wpAnyP P md ops Q p S fuel (listed.setIfInBounds i true) (a.put oi.dst v) w) : wpAnyP P md ops Q p S (fuel + 1) listed a w :=
  wpAnyP_first hi (Region.noSelect_spec hs) hQ hwt hpi fuel listed a w (Region.free_spec hi hf) (by simpa using hr) hp hy hS h

/-- One that yields its value in whatever world may be taken first, whoever waits for it. -/
theorem wpAnyP_firstU {i : Nat} {oi : Oper} {v : Value} (hi : ops[i]? = some oi) (hsel : ∀ (j : Nat) (o : Oper) cs b, ops[j]? = some o → o.op ≠ .select cs b)
    (hQ : ∀ c a w, Q (.panic c) (a.put oi.dst v) w → Q (.panic c) a w) (hpi : p ≠ i) :
    ∀ (fuel : Nat) (listed : Array Bool) (a : Act) (w : World),
      (∀ j oj, ops[j]? = some oj → j ≠ i → listed.getD j true = false → (∀ e ∈ oj.after, Region.binds md e = true → e.on ≠ i) → oi.apart ops oj = true) →
      i ∈ Region.ready md ops listed → YieldsIf P ops (fun _ => True) oi v a → (listed.getD p true = false → S w) →
      wpAnyP P md ops Q p S fuel (listed.setIfInBounds i true) (a.put oi.dst v) w → wpAnyP P md ops Q p S (fuel + 1) listed a w := by
  intro fuel
  induction fuel with
  | zero =>
    intro listed a w _ hr hy hS H
    refine ⟨fun h => (by rw [h] at hr; cases hr), fun j hj => ?_⟩
    by_cases hji : j = i
    · subst hji; exact hy.wpOp hi trivial ⟨fun h => hS (by rw [getD_set_ne true (Ne.symm hpi)] at h; exact h), H⟩
    · have := ready_mono hj hji
      rw [H.1] at this
      cases this
  | succ fuel ih =>
    intro listed a w hfree hr hy hS H
    refine ⟨fun h => (by rw [h] at hr; cases hr), fun j hj => ?_⟩
    by_cases hji : j = i
    · subst hji; exact hy.wpOp hi trivial ⟨fun h => hS (by rw [getD_set_ne true (Ne.symm hpi)] at h; exact h), H⟩
    · have h1 := H.2 j (ready_mono hj hji)
      obtain ⟨hjun, oj, hoj, hall⟩ := mem_ready.1 hj
      have hnot : ∀ e ∈ oj.after, Region.binds md e = true → e.on ≠ i := fun e he hb heq => by
        have h1 := hall e he hb
        have h0 := (mem_ready.1 hr).1
        rw [heq] at h1
        rcases Nat.lt_or_ge i listed.size with h' | h'
        · simp [h'] at h0 h1; rw [h0] at h1; cases h1
        · simp [Array.getElem?_eq_none h'] at h1
      have h2 := wpOp_putIf hoj (hfree j oj hoj hji hjun hnot) (fun cs b => hsel i oi cs b hi) (fun cs b => hsel j oj cs b hoj) hQ hy h1
      have hfree' : ∀ k ok, ops[k]? = some ok → k ≠ i → (listed.setIfInBounds j true).getD k true = false →
          (∀ e ∈ ok.after, Region.binds md e = true → e.on ≠ i) → oi.apart ops ok = true := fun k ok hk hki hun hno => by
        refine hfree k ok hk hki ?_ hno
        by_cases hjk : j = k
        · subst hjk; exact hjun
        · rw [getD_set_ne true hjk] at hun; exact hun
      refine wpOp_mono (fun a' w' h3 => ?_) h2
      have hS' : (listed.setIfInBounds j true).getD p true = false → S w' := fun h => h3.2.1 (by rw [Array.setIfInBounds_comm _ _ (Ne.symm hji), getD_set_ne true (Ne.symm hpi)]; exact h)
      refine ⟨hS', ih (listed.setIfInBounds j true) a' w' hfree' (ready_mono hr (Ne.symm hji)) h3.1 hS' ?_⟩
      rw [Array.setIfInBounds_comm _ _ hji]
      exact h3.2.2

theorem wpAnyP_takeU {i : Nat} {oi : Oper} {v : Value} {fuel : Nat} {listed : Array Bool} {a : Act} {w : World} (hi : ops[i]? = some oi)
    (hs : Region.noSelect ops = true) (hf : Region.free md ops listed i = true) (hr : (Region.ready md ops listed).contains i = true) (hpi : p ≠ i)
    (hQ : ∀ c a w, Q (.panic c) (a.put oi.dst v) w → Q (.panic c) a w) (hy : YieldsIf P ops (fun _ => True) oi v a) (hS : S w)
    (h : wpAnyP P md ops Q p S fuel (listed.setIfInBounds i true) (a.put oi.dst v) w) : wpAnyP P md ops Q p S (fuel + 1) listed a w :=
  wpAnyP_firstU hi (Region.noSelect_spec hs) hQ hpi fuel listed a w (Region.free_spec hi hf) (by simpa using hr) hy (fun _ => hS) h

theorem wpAnyP_done {listed : Array Bool} {a : Act} {w : World} (hr : Region.ready md ops listed = []) (h : Q .normal a w) :
    ∀ fuel, wpAnyP P md ops Q p S fuel listed a w
  | 0 => ⟨hr, h⟩
  | _ + 1 => ⟨fun _ => h, by rw [hr]; simp⟩

/-- Each of the operations rs comes up next. -/
def AllReadyP (P : Program) (md : Region.Mode) (ops : Array Oper) (Q : Exit → Act → World → Prop) (p : Nat) (S : World → Prop) (fuel : Nat) (listed : Array Bool) (a : Act) (w : World) (rs : List Nat) : Prop :=
  ∀ i ∈ rs, wpOp P ops Q i (fun a' w' => ((listed.setIfInBounds i true).getD p true = false → S w') ∧ wpAnyP P md ops Q p S fuel (listed.setIfInBounds i true) a' w') a w

theorem AllReadyP.nil {fuel : Nat} {listed : Array Bool} {a : Act} {w : World} : AllReadyP P md ops Q p S fuel listed a w [] := fun _ h => by cases h

/-- p has not come up. -/
theorem AllReadyP.cons {fuel : Nat} {listed : Array Bool} {a : Act} {w : World} {i : Nat} {o : Oper} {rs : List Nat} (ho : ops[i]? = some o)
    (h : ∀ K' : Act → World → Prop, Shut (∀ a w, S w → wpAnyP P md ops Q p S fuel (listed.setIfInBounds i true) a w → K' a w) → if Region.wanted o (yielded ops a.tmps) = true then Oper.wp P o a w K' Q else K' (a.put o.dst undef) w)
    (hs : AllReadyP P md ops Q p S fuel listed a w rs) : AllReadyP P md ops Q p S fuel listed a w (i :: rs) := fun j hj => by
  rcases List.mem_cons.1 hj with rfl | hj
  · exact wpOp_step ho (fun K' hK => h K' (fun a w hS hW => hK a w ⟨fun _ => hS, hW⟩))
  · exact hs j hj

/-- p is among those that have come up. -/
theorem AllReadyP.late {fuel : Nat} {listed : Array Bool} {a : Act} {w : World} {i : Nat} {o : Oper} (ho : ops[i]? = some o) (hl : (listed.setIfInBounds i true).getD p true = true)
    (h : ∀ K' : Act → World → Prop, Shut (∀ a w, wpAnyP P md ops Q p S fuel (listed.setIfInBounds i true) a w → K' a w) → if Region.wanted o (yielded ops a.tmps) = true then Oper.wp P o a w K' Q else K' (a.put o.dst undef) w) : AllReadyP P md ops Q p S fuel listed a w [i] := fun j hj => by
  rcases List.mem_cons.1 hj with rfl | hj
  · exact wpOp_step ho (fun K' hK => h K' (fun a w hW => hK a w ⟨fun hn => (by rw [hl] at hn; cases hn), hW⟩))
  · cases hj

theorem wpAnyP_ready {rs : List Nat} {fuel : Nat} {listed : Array Bool} {a : Act} {w : World} (hr : Region.ready md ops listed = rs) (hne : rs ≠ [])
    (h : AllReadyP P md ops Q p S fuel listed a w rs) : wpAnyP P md ops Q p S (fuel + 1) listed a w := ⟨fun h0 => absurd (hr ▸ h0) hne, hr ▸ h⟩

/-- Each state of three chains: only the next one of a chain may come up, and one may. -/
def chk (md : Region.Mode) (ops : Array Oper) (nA nB nC : Nat) (cA cB cC : Nat → Nat) (L : Nat → Nat → Nat → Array Bool) : Bool :=
  (List.range (nA + 1)).all fun i => (List.range (nB + 1)).all fun j => (List.range (nC + 1)).all fun k =>
    (i == nA && j == nB && k == nC) || (!(Region.ready md ops (L i j k)).isEmpty && (Region.ready md ops (L i j k)).all fun x => (decide (i < nA) && x == cA i) || (decide (j < nB) && x == cB j) || (decide (k < nC) && x == cC k))

theorem chk_spec {nA nB nC : Nat} {cA cB cC : Nat → Nat} {L : Nat → Nat → Nat → Array Bool} (h : chk md ops nA nB nC cA cB cC L = true) (i : Nat) (hi : i ≤ nA) (j : Nat) (hj : j ≤ nB) (k : Nat) (hk : k ≤ nC) :
    (i = nA ∧ j = nB ∧ k = nC) ∨ (Region.ready md ops (L i j k) ≠ [] ∧ ∀ x ∈ Region.ready md ops (L i j k), (i < nA ∧ x = cA i) ∨ (j < nB ∧ x = cB j) ∨ (k < nC ∧ x = cC k)) := by
  have h1 := List.all_eq_true.1 h i (List.mem_range.2 (by omega))
  have h2 := List.all_eq_true.1 h1 j (List.mem_range.2 (by omega))
  have h3 := List.all_eq_true.1 h2 k (List.mem_range.2 (by omega))
  simp only [Bool.or_eq_true, Bool.and_eq_true, beq_iff_eq, List.all_eq_true, decide_eq_true_eq, Bool.not_eq_true'] at h3
  rcases h3 with ⟨⟨h3, h4⟩, h5⟩ | ⟨h3, h4⟩
  · exact .inl ⟨h3, h4, h5⟩
  · refine .inr ⟨fun e => by rw [e] at h3; simp at h3, fun x hx => ?_⟩
    rcases h4 x hx with (h5 | h5) | h5
    · exact .inl h5
    · exact .inr (.inl h5)
    · exact .inr (.inr h5)

/-- Three chains of operations, whoever comes first: what holds is told by how far each of them is. -/
theorem wpAnyP_chains {a0 : Act} {w0 : World} {listed0 : Array Bool} {fuel : Nat} (nA nB nC : Nat) (cA cB cC : Nat → Nat) (L : Nat → Nat → Nat → Array Bool) (fuel0 : Nat) (Inv : Act → Nat → Nat → Nat → Act → World → Prop)
    (hf : fuel = fuel0 + (nA + nB + nC)) (h0 : listed0 = L 0 0 0)
    (hr0 : chk md ops nA nB nC cA cB cC L = true)
    (hA : ∀ i, i < nA → ∀ j, j ≤ nB → ∀ k, k ≤ nC → (L i j k).setIfInBounds (cA i) true = L (i + 1) j k)
    (hB : ∀ i, i ≤ nA → ∀ j, j < nB → ∀ k, k ≤ nC → (L i j k).setIfInBounds (cB j) true = L i (j + 1) k)
    (hC : ∀ i, i ≤ nA → ∀ j, j ≤ nB → ∀ k, k < nC → (L i j k).setIfInBounds (cC k) true = L i j (k + 1))
    (stepA : ∀ i, i < nA → ∀ j k a w, Inv a0 i j k a w → wpOp P ops Q (cA i) (fun a' w' => S w' ∧ Inv a0 (i + 1) j k a' w') a w)
    (stepB : ∀ j, j < nB → ∀ i k a w, Inv a0 i j k a w → wpOp P ops Q (cB j) (fun a' w' => S w' ∧ Inv a0 i (j + 1) k a' w') a w)
    (stepC : ∀ k, k < nC → ∀ i j a w, Inv a0 i j k a w → wpOp P ops Q (cC k) (fun a' w' => S w' ∧ Inv a0 i j (k + 1) a' w') a w)
    (fin : ∀ a w, Inv a0 nA nB nC a w → wpAnyP P md ops Q p S fuel0 (L nA nB nC) a w)
    (start : Inv a0 0 0 0 a0 w0) : wpAnyP P md ops Q p S fuel listed0 a0 w0 := by
  have hr := chk_spec hr0
  have main : ∀ r i j k a w, i ≤ nA → j ≤ nB → k ≤ nC → (nA - i) + (nB - j) + (nC - k) = r → Inv a0 i j k a w → wpAnyP P md ops Q p S (fuel0 + r) (L i j k) a w := by
    intro r
    induction r with
    | zero =>
      intro i j k a w hi hj hk hs hI
      obtain rfl : i = nA := by omega
      obtain rfl : j = nB := by omega
      obtain rfl : k = nC := by omega
      exact fin a w hI
    | succ r ih =>
      intro i j k a w hi hj hk hs hI
      rcases hr i hi j hj k hk with ⟨rfl, rfl, rfl⟩ | ⟨hne, hR⟩
      · omega
      refine ⟨fun h => absurd h hne, fun x hx => ?_⟩
      rcases hR x hx with ⟨c, rfl⟩ | ⟨c, rfl⟩ | ⟨c, rfl⟩
      · refine wpOp_mono (fun a' w' h => ⟨fun _ => h.1, ?_⟩) (stepA i c j k a w hI)
        rw [hA i c j hj k hk]
        exact ih (i + 1) j k a' w' c hj hk (by omega) h.2
      · refine wpOp_mono (fun a' w' h => ⟨fun _ => h.1, ?_⟩) (stepB j c i k a w hI)
        rw [hB i hi j c k hk]
        exact ih i (j + 1) k a' w' hi c hk (by omega) h.2
      · refine wpOp_mono (fun a' w' h => ⟨fun _ => h.1, ?_⟩) (stepC k c i j a w hI)
        rw [hC i hi j hj k c]
        exact ih i j (k + 1) a' w' hi hj c (by omega) h.2
  rw [hf, h0]
  exact main _ 0 0 0 a0 w0 (Nat.zero_le _) (Nat.zero_le _) (Nat.zero_le _) (by omega) start

/-- The beginning. -/
theorem wp_region_P {id : Nat} {a : Act} {w : World} (p : Nat) (S : World → Prop) (hm : P.follows .mixedOrders = true) (hS : S w.drew)
    (h : S w.drew → wpAnyP P .any ops Q p S ops.size (Array.replicate ops.size false) a w.drew) : (Code.region id ops true).wp P Q a w :=
  wp_region_any hm (wpAny_of_P _ _ _ _ (h hS))

end
end Go.Proofs.Ytbddghdkmakjlab

namespace Go.Proofs.Ytbddghdkmakjlab
set_option maxRecDepth 100000
set_option linter.unusedVariables false
open Go.RowKit

theorem cut25_any (s : ByteArray) (w : World) (h : s.size ≤ maxLen) :
    Calls Try.prog 16 #[.string s, .int .i64 25] w fun e w' => ∃ s', e = .returned (.string s') ∧ s'.size ≤ 25 ∧ s'.size ≤ s.size ∧ w' = w := cut_any s 25 w h
theorem cut20_any (s : ByteArray) (w : World) (h : s.size ≤ maxLen) :
    Calls Try.prog 16 #[.string s, .int .i64 20] w fun e w' => ∃ s', e = .returned (.string s') ∧ s'.size ≤ 20 ∧ s'.size ≤ s.size ∧ w' = w := cut_any s 20 w h

set_option maxHeartbeats 1000000 in
theorem val_cell (v : Va) (w : World) (h : v.S.size ≤ maxLen) :
    Calls Try.prog 27 #[.agg (va v)] w fun e w' => ∃ s', e = .returned (.agg (va ⟨v.K, v.X, s'⟩)) ∧ s'.size ≤ 25 ∧ Below w.heap.size w w' := by
  go_enter Try.func27, Try.ntmps27
  go_wp2_with (first
    | (refine wpList_box 32 (.tmp 0) (va v) rfl rfl rfl ?_; intro W1 hB hX)
    | (refine wpList_new 32 _ rfl rfl tyV ?_; intro W2 hB2 hY; have l01 := hB.size; have n01 := Nat.ne_of_lt hX.lt; replace hX := hX.later hB2; replace hB := hB.trans (hB2.mono hB.size); clear hB2; obtain ⟨v0, v1, v2⟩ := hX.vals))
  refine (cut25_any v.S _ h).mono ?_
  rintro e W3 ⟨s', rfl, hs1, -, rfl⟩
  go_wp2_with (first
    | (refine wpList_put1 9 (.tmp 6) (.tmp 5) _ 2 (.string s') _ rfl rfl rfl rfl hX (show 2 < 3 by omega) (by kernel_rfl) rfl (fun a W => run_store Try.prog W a _ _ rfl) ?_; intro W4 hb4 hs4 hX4; replace hY := hY.but hb4 (fun e => n01 e.symm); have hB4 := Below.but hB hB.size hb4 (fun k e => by omega); clear hB hX hb4 hs4 v0 v1 v2; have hB := hB4; have hX : Bx W4 _ (va ⟨v.K, v.X, s'⟩) := hX4; clear hX4 hB4)
    | (refine wpList_get 32 _ (.tmp 1) _ (va ⟨v.K, v.X, s'⟩) rfl rfl rfl hX tyV rfl ?_)
    | (refine wpList_put 32 _ (.tmp 2) (.tmp 7) _ (va ⟨v.K, v.X, s'⟩) _ rfl rfl rfl rfl hY tyV rfl rfl (va_one _) ?_; intro W5 hb5 hs5 hY5))
  refine bodyPost_ret (v := .agg (va ⟨v.K, v.X, s'⟩)) (results_bx Try.results27 _ _ _ _ rfl hY5 tyV rfl) rfl ⟨s', rfl, hs1, ?_⟩
  exact Below.but hB hB.size hb5 (fun k e => by omega)

set_option maxRecDepth 100000 in
set_option maxHeartbeats 4000000 in
theorem cut_cell (c : Ce) (w : World) (hc : c.Ok) :
    Calls Try.prog 15 #[.agg (cv c)] w fun e w' => ∃ d : Ce, e = .returned (.agg (cv d)) ∧ d.Ok ∧ d.N.size ≤ 20 ∧ d.V.S.size ≤ 25 ∧ d.W.S.size ≤ 25 ∧ Below w.heap.size w w' := by
  have HC := hide hc
  clear hc
  go_enter Try.func15, Try.ntmps15
  go_wp2_with (first
    | (refine wpList_box 34 (.tmp 0) (cv c) rfl rfl rfl ?_; intro W1 hB hX)
    | (refine wpList_new 34 _ rfl rfl tyR ?_; intro W2 hB2 hY; have l01 := hB.size; have n01 := Nat.ne_of_lt hX.lt; replace hX := hX.later hB2; replace hB := hB.trans (hB2.mono hB.size); clear hB2))
  have HA : Hid (∀ w', Below W2.heap.size W2 w' → _) := fun w' hb => (hX.later hb).cells
  refine wp_region_noPanic ?_
  refine wp_region_P 10 (fun W => Below W2.heap.size W2 W) (by kernel_rfl) (Below.refl _ _).drew (fun hHeld => ?_)
  refine wpAnyP_takeU (i := 0) (v := ?_) rfl (by kernel_rfl) (by kernel_rfl) (by kernel_rfl) (by decide) (fun _ _ _ h => h) (Or.inl ⟨by kernel_rfl, ?_⟩) hHeld ?_
  rotate_left
  · intro W hW; clear hW; go_simp; first | done | with_reducible rfl | rfl
  try simp only [Act.put]
  refine wpAnyP_take (i := 1) (v := .string c.N) rfl (by kernel_rfl) (by kernel_rfl) (by kernel_rfl) (by kernel_rfl) (by kernel_rfl) (by decide) (fun _ _ _ h => h) (Or.inl ⟨by kernel_rfl, ?_⟩) hHeld ?_
  · intro W hW; obtain ⟨c0, c1, c2, c3, c4, c5, c6, c7⟩ := HA.out W hW; go_simp; first | done | with_reducible rfl | rfl
  try simp only [Act.put]
  refine wpAnyP_takeU (i := 3) (v := ?_) rfl (by kernel_rfl) (by kernel_rfl) (by kernel_rfl) (by decide) (fun _ _ _ h => h) (Or.inl ⟨by kernel_rfl, ?_⟩) hHeld ?_
  rotate_left
  · intro W hW; clear hW; go_simp; first | done | with_reducible rfl | rfl
  try simp only [Act.put]
  refine wpAnyP_take (i := 4) (v := .agg (va c.V)) rfl (by kernel_rfl) (by kernel_rfl) (by kernel_rfl) (by kernel_rfl) (by kernel_rfl) (by decide) (fun _ _ _ h => h) (Or.inl ⟨by kernel_rfl, ?_⟩) hHeld ?_
  · intro W hW; obtain ⟨c0, c1, c2, c3, c4, c5, c6, c7⟩ := HA.out W hW; go_simp; first | done | with_reducible rfl | rfl
  try simp only [Act.put]
  refine wpAnyP_takeU (i := 6) (v := ?_) rfl (by kernel_rfl) (by kernel_rfl) (by kernel_rfl) (by decide) (fun _ _ _ h => h) (Or.inl ⟨by kernel_rfl, ?_⟩) hHeld ?_
  rotate_left
  · intro W hW; clear hW; go_simp; first | done | with_reducible rfl | rfl
  try simp only [Act.put]
  refine wpAnyP_take (i := 7) (v := .agg (va c.W)) rfl (by kernel_rfl) (by kernel_rfl) (by kernel_rfl) (by kernel_rfl) (by kernel_rfl) (by decide) (fun _ _ _ h => h) (Or.inl ⟨by kernel_rfl, ?_⟩) hHeld ?_
  · intro W hW; obtain ⟨c0, c1, c2, c3, c4, c5, c6, c7⟩ := HA.out W hW; go_simp; first | done | with_reducible rfl | rfl
  try simp only [Act.put]
  refine wpAnyP_ready (rs := [2]) (by kernel_rfl) (by simp) ?_
  refine AllReadyP.cons (o := _) rfl (fun K hK => ?_) AllReadyP.nil
  rw [if_pos (by kernel_rfl)]
  go_simp
  refine (cut20_any c.N _ HC.out.n).mono ?_
  rintro e x2 ⟨s0, rfl, hs0, -, rfl⟩
  dsimp only
  refine hK.out _ _ hHeld ?_
  clear hK K
  try simp only [Act.put]
  refine wpAnyP_takeU (i := 9) (v := ?_) rfl (by kernel_rfl) (by kernel_rfl) (by kernel_rfl) (by decide) (fun _ _ _ h => h) (Or.inl ⟨by kernel_rfl, ?_⟩) hHeld ?_
  rotate_left
  · intro W hW; clear hW; go_simp; first | done | with_reducible rfl | rfl
  try simp only [Act.put]
  refine wpAnyP_ready (rs := [5]) (by kernel_rfl) (by simp) ?_
  refine AllReadyP.cons (o := _) rfl (fun K hK => ?_) AllReadyP.nil
  rw [if_pos (by kernel_rfl)]
  go_simp
  refine (val_cell c.V _ HC.out.v.s).mono ?_
  rintro e x3 ⟨s1, rfl, hs1, hb3⟩
  dsimp only
  have hHeld3 := hHeld.trans (hb3.mono hHeld.size)
  refine hK.out _ _ hHeld3 ?_
  clear hK K hb3
  try simp only [Act.put]
  refine wpAnyP_ready (rs := [8]) (by kernel_rfl) (by simp) ?_
  refine AllReadyP.cons (o := _) rfl (fun K hK => ?_) AllReadyP.nil
  rw [if_pos (by kernel_rfl)]
  go_simp
  refine (val_cell c.W _ HC.out.w.s).mono ?_
  rintro e x4 ⟨s2, rfl, hs2, hb4⟩
  dsimp only
  have hHeld4 := hHeld3.trans (hb4.mono hHeld3.size)
  refine hK.out _ _ hHeld4 ?_
  clear hK K hb4
  try simp only [Act.put]
  replace hX := hX.later hHeld4
  replace hY := hY.later hHeld4
  replace hB := hB.trans (hHeld4.mono hB.size)
  clear hHeld3 hHeld4 hHeld HA
  refine wpAnyP_ready (rs := [10]) (by kernel_rfl) (by simp) ?_
  refine AllReadyP.late (o := _) rfl (by kernel_rfl) (fun K hK => ?_)
  rw [if_pos (by kernel_rfl)]
  refine wp_put1 9 (.tmp 12) (.tmp 5) _ 0 (.string s0) _ rfl rfl rfl hX (show 0 < 8 by omega) (by kernel_rfl) rfl (fun a W => run_store Try.prog W a _ _ rfl) ?_
  intro W5 hb5 hz5 hX5
  refine hK.out _ _ ?_
  clear hK K
  try simp only [Act.put, List.getElem_toArray, List.getElem_cons_zero, List.getElem_cons_succ]
  replace hY := hY.but hb5 (fun e => n01 e.symm)
  replace hB := Below.but hB hB.size hb5 (fun k e => by omega)
  clear hX hb5 hz5
  have hX : Bx W5 _ (cv ⟨s0, c.V, c.T, c.W⟩) := hX5
  clear hX5
  refine wpAnyP_ready (rs := [11]) (by kernel_rfl) (by simp) ?_
  refine AllReadyP.late (o := _) rfl (by kernel_rfl) (fun K hK => ?_)
  rw [if_pos (by kernel_rfl)]
  go_simp
  refine hK.out _ _ ?_
  clear hK K
  try simp only [Act.put]
  refine wpAnyP_ready (rs := [12]) (by kernel_rfl) (by simp) ?_
  refine AllReadyP.late (o := _) rfl (by kernel_rfl) (fun K hK => ?_)
  rw [if_pos (by kernel_rfl)]
  refine wp_putV (.tmp 13) (.tmp 8) _ 1 ⟨c.V.K, c.V.X, s1⟩ _ rfl rfl rfl hX (show 1 + 3 ≤ 8 by omega) ?_
  intro W6 hb6 hz6 hX6
  refine hK.out _ _ ?_
  clear hK K
  try simp only [Act.put, List.getElem_toArray, List.getElem_cons_zero, List.getElem_cons_succ]
  replace hY := hY.but hb6 (fun e => n01 e.symm)
  replace hB := Below.but hB hB.size hb6 (fun k e => by omega)
  clear hX hb6 hz6
  have hX : Bx W6 _ (cv ⟨s0, ⟨c.V.K, c.V.X, s1⟩, c.T, c.W⟩) := hX6
  clear hX6
  refine wpAnyP_ready (rs := [13]) (by kernel_rfl) (by simp) ?_
  refine AllReadyP.late (o := _) rfl (by kernel_rfl) (fun K hK => ?_)
  rw [if_pos (by kernel_rfl)]
  go_simp
  refine hK.out _ _ ?_
  clear hK K
  try simp only [Act.put]
  refine wpAnyP_ready (rs := [14]) (by kernel_rfl) (by simp) ?_
  refine AllReadyP.late (o := _) rfl (by kernel_rfl) (fun K hK => ?_)
  rw [if_pos (by kernel_rfl)]
  refine wp_putV (.tmp 14) (.tmp 11) _ 5 ⟨c.W.K, c.W.X, s2⟩ _ rfl rfl rfl hX (show 5 + 3 ≤ 8 by omega) ?_
  intro W7 hb7 hz7 hX7
  refine hK.out _ _ ?_
  clear hK K
  try simp only [Act.put, List.getElem_toArray, List.getElem_cons_zero, List.getElem_cons_succ]
  replace hY := hY.but hb7 (fun e => n01 e.symm)
  replace hB := Below.but hB hB.size hb7 (fun k e => by omega)
  clear hX hb7 hz7
  have hX : Bx W7 _ (cv ⟨s0, ⟨c.V.K, c.V.X, s1⟩, c.T, ⟨c.W.K, c.W.X, s2⟩⟩) := hX7
  clear hX7
  refine wpAnyP_done (by kernel_rfl) ?_ _
  refine NoPanic.normal ?_
  go_simp
  go_wp2_with (first
    | (refine wpList_get 34 _ (.tmp 1) _ (cv ⟨s0, ⟨c.V.K, c.V.X, s1⟩, c.T, ⟨c.W.K, c.W.X, s2⟩⟩) rfl rfl rfl hX tyR rfl ?_)
    | (refine wpList_put 34 _ (.tmp 2) (.tmp 15) _ (cv ⟨s0, ⟨c.V.K, c.V.X, s1⟩, c.T, ⟨c.W.K, c.W.X, s2⟩⟩) _ rfl rfl rfl rfl hY tyR rfl rfl (cv_one _) ?_; intro W8 hb8 hz8 hY8))
  refine bodyPost_ret (v := .agg (cv ⟨s0, ⟨c.V.K, c.V.X, s1⟩, c.T, ⟨c.W.K, c.W.X, s2⟩⟩)) (results_bx Try.results15 _ _ _ _ rfl hY8 tyR rfl) rfl ⟨_, rfl, ?_, hs0, hs1, hs2, ?_⟩
  · have hc := HC.out
    have m0 : ∀ n, n ≤ 25 → n ≤ maxLen := fun n h => by unfold maxLen; omega
    exact ⟨m0 _ (by simp only; omega), ⟨hc.v.k0, hc.v.k1, hc.v.x, m0 _ hs1⟩, hc.t0, hc.t1, ⟨hc.w.k0, hc.w.k1, hc.w.x, m0 _ hs2⟩⟩
  · exact Below.but hB hB.size hb8 (fun k e => by omega)
end Go.Proofs.Ytbddghdkmakjlab

namespace Go.Proofs.Ytbddghdkmakjlab
set_option maxRecDepth 100000
set_option linter.unusedVariables false
open Go.RowKit

theorem Ce.settle_ok {n : ByteArray} {v : Va} (hn : n.size ≤ maxLen) (hv : v.Ok) : (Ce.settle n v).Ok := by
  unfold Ce.settle
  split
  · exact Ce.ok_zero
  · exact ⟨hn, hv, by show (-9223372036854775808 : Int) ≤ 0; omega, by show (0 : Int) ≤ 9223372036854775807; omega, Va.ok_zero⟩
theorem Ce.commit_ok {c : Ce} (h : c.Ok) : c.commit.Ok := by
  unfold Ce.commit
  split
  · exact Ce.settle_ok h.n h.w
  · exact h
theorem Ce.undo_ok {c : Ce} (h : c.Ok) : c.undo.Ok := Ce.settle_ok h.n h.v
theorem Ce.settle_fit (n : ByteArray) (v : Va) : (Ce.settle n v).N.size + (Ce.settle n v).V.S.size + (Ce.settle n v).W.S.size ≤ n.size + v.S.size := by
  unfold Ce.settle
  split
  · show 0 + 0 + 0 ≤ _
    omega
  · show n.size + v.S.size + 0 ≤ _
    omega
theorem Ce.commit_fit (c : Ce) : c.commit.N.size + c.commit.V.S.size + c.commit.W.S.size ≤ c.N.size + c.V.S.size + c.W.S.size := by
  unfold Ce.commit
  split
  · have := Ce.settle_fit c.N c.W
    omega
  · exact Nat.le_refl _
theorem Ce.undo_fit (c : Ce) : c.undo.N.size + c.undo.V.S.size + c.undo.W.S.size ≤ c.N.size + c.V.S.size + c.W.S.size := by
  have := Ce.settle_fit c.N c.V
  unfold Ce.undo
  omega
theorem Ce.wr_ok {c : Ce} (h : c.Ok) {t : Int} (h0 : -9223372036854775808 ≤ t) (h1 : t ≤ 9223372036854775807) {v : Va} (hv : v.Ok) : (Ce.wr c t v).Ok := ⟨h.n, h.v, h0, h1, hv⟩
theorem Ce.see_ok {c : Ce} (h : c.Ok) (t : Int) : (Ce.see c t).Ok := by
  unfold Ce.see
  split
  · exact h.w
  · exact h.v
theorem Ce.wr_may {c : Ce} (h : c.may = true) {t : Int} (h0 : 1 ≤ t) (h1 : t ≤ 1099511627776) {v : Va} (hv : v.may = true) : (Ce.wr c t v).may = true := by
  obtain ⟨h1', h2, h3, h4⟩ := Ce.may_parts h
  have ht : ¬ t = 0 := by omega
  have ht' : 0 < t := by omega
  simp [Ce.may, Ce.wr, Ce.tm, h1', h2, hv, ht, ht', h1]
end Go.Proofs.Ytbddghdkmakjlab

namespace Go.Proofs.Ytbddghdkmakjlab
set_option maxRecDepth 100000
set_option linter.unusedVariables false
open Go.RowKit

section
variable {H : Type} {enc : TypeId × Value → H} {w : World} {base : Nat} {spare : Nat → Bool} {held : Bool}

theorem open_va {fuel : Nat} {cs : List Value} {x : DataW H × List MemPlace} (h : DataW.trod enc Try.prog w base spare held fuel 32 cs = some x) : ∃ v : Va, cs = (va v).toList ∧ v.Ok := by
  obtain ⟨xs, k, hk, hxy, hlen, hxl, hf⟩ := DataW.trod_struct Try.underlying32 h
  rw [show Try.prog.cellsOf 32 = 3 by kernel_rfl] at hlen
  match xs, hxl, cs, hlen with
  | [y0, y1, y2], _, [v0, v1, v2], _ =>
    have g0 := hf 0 _ rfl
    have g1 := hf 1 _ rfl
    have g2 := hf 2 _ rfl
    simp [show Try.prog.cellsOf 3 = 1 by kernel_rfl, show Try.prog.cellsOf 30 = 1 by kernel_rfl, show Try.prog.cellsOf 9 = 1 by kernel_rfl] at g0 g1 g2
    obtain ⟨z, hz, -, hw⟩ := DataW.trod_int Try.underlying3 g0
    obtain ⟨y, hy, hyb⟩ := trod_float Try.underlying30 g1
    obtain ⟨s, hs, -, hsb⟩ := DataW.trod_string Try.underlying9 g2
    simp at hz hy hs
    subst hz hy hs
    have hzb := bounds_i64 hw
    exact ⟨⟨z, y, s⟩, rfl, ⟨hzb.1, hzb.2, hyb, hsb⟩⟩

theorem open_ce {fuel : Nat} {cs : List Value} {x : DataW H × List MemPlace} (h : DataW.trod enc Try.prog w base spare held fuel 34 cs = some x) : ∃ c : Ce, cs = (cv c).toList ∧ c.Ok := by
  obtain ⟨xs, k, hk, hxy, hlen, hxl, hf⟩ := DataW.trod_struct Try.underlying34 h
  rw [show Try.prog.cellsOf 34 = 8 by kernel_rfl] at hlen
  match xs, hxl, cs, hlen with
  | [y0, y1, y2, y3], _, [v0, v1, v2, v3, v4, v5, v6, v7], _ =>
    have g0 := hf 0 _ rfl
    have g1 := hf 1 _ rfl
    have g2 := hf 2 _ rfl
    have g3 := hf 3 _ rfl
    simp [show Try.prog.cellsOf 2 = 1 by kernel_rfl, show Try.prog.cellsOf 32 = 3 by kernel_rfl, show Try.prog.cellsOf 9 = 1 by kernel_rfl] at g0 g1 g2 g3
    obtain ⟨s, hs, -, hsb⟩ := DataW.trod_string Try.underlying9 g0
    obtain ⟨V, hV, okV⟩ := open_va g1
    obtain ⟨t, ht, -, hw⟩ := DataW.trod_int Try.underlying2 g2
    obtain ⟨U, hU, okU⟩ := open_va g3
    simp [va] at hs hV ht hU
    obtain ⟨rfl, rfl, rfl⟩ := hV
    obtain ⟨rfl, rfl, rfl⟩ := hU
    subst hs ht
    have hb := bounds_i64 hw
    exact ⟨⟨s, V, t, U⟩, rfl, ⟨hsb, okV, hb.1, hb.2, okU⟩⟩

theorem open_agg {r : Reach} {b0 : Nat} {t : TypeId} {v : Value} {fs : Array Field} (ht : Try.prog.underlying t = some (.struct fs)) (h : Value.okWide Try.prog w r b0 t v) : ∃ cs, v = .agg cs := by
  simp only [Value.okWide, ht] at h
  obtain ⟨cs, rfl, -⟩ := h
  exact ⟨cs, rfl⟩

theorem open_cell {r : Reach} {b0 : Nat} {v : Value} {d : DataW H} {ps : List MemPlace} (hv : Value.okWide Try.prog w r b0 34 v) (h : DataW.Trod enc Try.prog w base spare held 34 v d ps) : ∃ c : Ce, v = .agg (cv c) ∧ c.Ok := by
  obtain ⟨cs, rfl⟩ := open_agg Try.underlying34 hv
  obtain ⟨fuel, hf⟩ := h
  obtain ⟨c, hc, ok⟩ := open_ce hf
  refine ⟨c, ?_, ok⟩
  congr 1
  apply Array.toList_inj.1
  simpa [Value.cells] using hc

theorem open_val {r : Reach} {b0 : Nat} {v : Value} {d : DataW H} {ps : List MemPlace} (hv : Value.okWide Try.prog w r b0 32 v) (h : DataW.Trod enc Try.prog w base spare held 32 v d ps) : ∃ u : Va, v = .agg (va u) ∧ u.Ok := by
  obtain ⟨cs, rfl⟩ := open_agg Try.underlying32 hv
  obtain ⟨fuel, hf⟩ := h
  obtain ⟨c, hc, ok⟩ := open_va hf
  refine ⟨c, ?_, ok⟩
  congr 1
  apply Array.toList_inj.1
  simpa [Value.cells] using hc
end
end Go.Proofs.Ytbddghdkmakjlab
