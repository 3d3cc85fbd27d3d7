/-
  Contracts of cell.getParts and cell.Get over the translated program.
-/
import Derived.Test.YtlefhhmggaaiiabCelY
import Derived.Test.YtlefhhmggaaiiabCsl
namespace Go.Proofs.Ytlefhhmggaaiiab
open Go.RowKit

theorem dget_va {v : Value} {zs : List Int} {w : World} {u : Va} {n e : Int} (h : Sl w v zs) (he : Va.get zs = (u, n, e)) :
    Calls Try.prog 41 #[v] w fun r w' => r = .returned (.tuple #[.agg (va u), .int .i64 n, .int .i64 e]) ∧ Below w.heap.size w w' := by
  have := dget_any v zs w h
  simp only [Va.get, Prod.mk.injEq] at he
  obtain ⟨rfl, rfl, rfl⟩ := he
  exact this

theorem drop_bd {zs : List Int} (hb : ∀ z ∈ zs, 0 ≤ z ∧ z ≤ 255) (n : Nat) : ∀ z ∈ zs.drop n, 0 ≤ z ∧ z ≤ 255 := fun z hz => hb z (List.mem_of_mem_drop hz)

set_option maxRecDepth 100000 in
set_option maxHeartbeats 4000000 in
theorem getParts_any (v : Value) (zs : List Int) (w : World) (h : Sl w v zs) :
    Calls Try.prog 26 #[v] w fun e w' => e = .returned (.tuple #[.agg (cv (Ce.parts zs).1), .int .i64 (Ce.parts zs).2.1, .int .i64 (Ce.parts zs).2.2]) ∧ Below w.heap.size w w' := by
  have hbd := hide h.bd
  have hmx : (zs.length : Int) ≤ 9223372036854775807 := by
    obtain ⟨a, n, cap, rfl, h1, h2, Hn, -⟩ := h.opens
    have := Hn.out
    omega
  have htb := Dt.getText_bd zs h.bd
  obtain ⟨s, k, e, hE⟩ : ∃ s k e, Nm.getText zs = (s, k, e) := ⟨_, _, _, rfl⟩
  rw [hE] at htb
  simp only at htb
  obtain ⟨hk0, hk1, -, -⟩ := htb
  have HE := hide hE
  clear hE
  by_cases he : e = 0
  · subst he
    obtain ⟨u, l, e2, hE2⟩ : ∃ u l e2, Va.get (zs.drop k.toNat) = (u, l, e2) := ⟨_, _, _, rfl⟩
    have hvb := Va.get_bd (zs.drop k.toNat) (drop_bd h.bd _)
    rw [hE2, List.length_drop] at hvb
    simp only at hvb
    obtain ⟨hl0, hl1, -⟩ := hvb
    have HE2 := hide hE2
    clear hE2
    have hkl : k + l ≤ zs.length := by omega
    clear hl1
    by_cases he2 : e2 = 0
    · subst he2
      obtain ⟨t, m, e3, hE3⟩ : ∃ t m e3, Nm.get 0 0 (zs.drop (k + l).toNat) = (t, m, e3) := ⟨_, _, _, rfl⟩
      have hnb := Nm.get_bd (zs.drop (k + l).toNat) 0 0 (by omega) (by decide) (by omega) (drop_bd h.bd _)
      rw [hE3, List.length_drop] at hnb
      simp only at hnb
      have HE3 := hide hE3
      clear hE3
      by_cases he3 : e3 = 0
      · subst he3
        obtain ⟨hm0, hm1⟩ : 0 ≤ m ∧ k + l + m ≤ zs.length := by
          rcases hnb with hnb | hnb
          · obtain ⟨-, g1, -, g3, -⟩ := hnb
            simp at g1 g3
            omega
          · omega
        clear hnb
        obtain ⟨u2, j, e4, hE4⟩ : ∃ u2 j e4, Va.get (zs.drop (k + l + m).toNat) = (u2, j, e4) := ⟨_, _, _, rfl⟩
        have hvb := Va.get_bd (zs.drop (k + l + m).toNat) (drop_bd h.bd _)
        rw [hE4, List.length_drop] at hvb
        simp only at hvb
        obtain ⟨hj0, hj1, -⟩ := hvb
        have HE4 := hide hE4
        have hj2 : k + l + m + j ≤ zs.length := by omega
        clear hE4 hj1
        have HL := hide hkl
        have HL2 := hide hm1
        have hA1 : k + l ≤ 9223372036854775807 := by omega
        have hA2 : k + l + m ≤ 9223372036854775807 := by omega
        have hA3 : k + l + m + j ≤ 9223372036854775807 := by omega
        have hA4 : 0 ≤ k + l := by omega
        have hA5 : 0 ≤ k + l + m := by omega
        have HK1 := hide hk1
        clear hkl hm1 hj2 hk1 hmx
        by_cases ht : 0 < t
        · have HA := hide (show decide (0 < t) = true by simpa using ht)
          have HP := hide (Ce.parts_5 HE.out HE2.out HE3.out ht HE4.out)
          clear ht
          go_enter Try.func26, Try.ntmps26
          go_wp2_with (refine wpList_new 33 _ rfl rfl tyC ?_; intro W1 hB hX; replace h := h.later hB)
          refine (getText_at h HE.out).mono ?_
          rintro e W2 ⟨rfl, rfl⟩
          go_wp2_with (refine wpList_cut rfl (.tmp 23) (.tmp 24) rfl v zs k rfl rfl h hk0 HK1.out ?_; intro V1 hV1)
          refine (dget_va hV1 HE2.out).mono ?_
          rintro e W3 ⟨rfl, hB3⟩
          replace h := h.later hB3
          replace hX := hX.later hB3
          replace hB := hB.trans (hB3.mono hB.size)
          clear hB3 hV1
          go_wp2_with (first
              | (refine wpList_new 27 _ rfl rfl tyV ?_; intro W4 hB4 hY)
              | (refine wpList_put 27 _ (.tmp 8) (.tmp 27) _ (va u) _ rfl rfl rfl rfl hY tyV rfl rfl (va_one _) ?_; intro W5 hb5 hs5 hY5; have hB5 := newput hB4 hb5; replace h := h.later hB5; replace hX := hX.later hB5; replace hB := hB.trans (hB5.mono hB.size); clear hB4 hY hb5 hs5 hB5)
              | (refine wpList_cut rfl (.tmp 38) (.tmp 39) rfl v zs (k + l) rfl rfl h hA4 HL.out ?_; intro V2 hV2))
          refine (get_at hV2 HE3.out).mono ?_
          rintro e W6 ⟨rfl, rfl⟩
          clear hV2
          obtain ⟨v0, v1, v2⟩ := hY5.vals
          go_wp2_with (first
              | (refine wpList_new 33 _ rfl rfl tyC ?_; intro W7 hB7 hZ; have hne := Nat.ne_of_lt hX.lt; have hle := hB.size)
              | (refine wpList_put 33 _ (.tmp 11) (.tmp 55) _ (cv ⟨strOfNums s, u, t, Va.zero⟩) _ rfl rfl rfl rfl hZ tyC rfl rfl (cv_one _) ?_; intro W8 hb8 hs8 hZ8; have hB8 := newput hB7 hb8; replace h := h.later hB8; replace hX := hX.later hB8; replace hB := hB.trans (hB8.mono hB.size); clear hB7 hZ hb8 hs8 hB8)
              | (refine wpList_get 33 _ (.tmp 11) _ (cv ⟨strOfNums s, u, t, Va.zero⟩) rfl rfl rfl hZ8 tyC rfl ?_))
          refine (hasTxn_any ⟨strOfNums s, u, t, Va.zero⟩ _).mono ?_
          rintro e W9 ⟨rfl, hB9⟩
          rw [show decide (0 < (⟨strOfNums s, u, t, Va.zero⟩ : Ce).T) = _ from HA.out]
          replace h := h.later hB9
          replace hX := hX.later hB9
          replace hZ8 := hZ8.later hB9
          replace hB := hB.trans (hB9.mono hB.size)
          clear hB9 v0 v1 v2 hY5
          go_wp2_with (refine wpList_cut rfl (.tmp 62) (.tmp 63) rfl v zs (k + l + m) rfl rfl h hA5 HL2.out ?_; intro V3 hV3)
          refine (dget_va hV3 HE4.out).mono ?_
          rintro e W10 ⟨rfl, hB10⟩
          replace hX := hX.later hB10
          replace hZ8 := hZ8.later hB10
          replace hB := hB.trans (hB10.mono hB.size)
          clear hB10 hV3 h
          go_wp2_with (first
              | (refine wpList_putV (.tmp 69) (.tmp 66) _ 5 u2 _ rfl rfl rfl rfl hZ8 (show 5 + 3 ≤ 8 by omega) ?_; intro W11 hb11 hs11 hZ11; replace hX := hX.but hb11 hne; have hB11 := Below.but hB hB.size hb11 (fun k e => by omega); clear hB hZ8 hb11; have hZ12 : Bx W11 _ (cv ⟨strOfNums s, u, t, u2⟩) := hZ11; clear hZ11)
              | (refine wpList_get 33 _ (.tmp 11) _ (cv ⟨strOfNums s, u, t, u2⟩) rfl rfl rfl hZ12 tyC rfl ?_)
              | (refine wpList_put 33 _ (.tmp 2) (.tmp 70) _ (cv ⟨strOfNums s, u, t, u2⟩) _ rfl rfl rfl rfl hX tyC rfl rfl (cv_one _) ?_; intro W13 hb13 hs13 hX13))
          refine bodyPost_ret (v := .tuple #[.agg (cv ⟨strOfNums s, u, t, u2⟩), .int .i64 (k + l + m + j), .int .i64 e4]) (results3_bx Try.results26 _ _ _ _ _ _ rfl rfl rfl hX13 tyC rfl) rfl ⟨by rw [HP.out], ?_⟩
          exact Below.but hB11 hB11.size hb13 (fun k e => by omega)
        · have HA := hide (show decide (0 < t) = false by simpa using ht)
          have HP := hide (Ce.parts_4 HE.out HE2.out HE3.out ht)
          clear ht
          go_enter Try.func26, Try.ntmps26
          go_wp2_with (refine wpList_new 33 _ rfl rfl tyC ?_; intro W1 hB hX; replace h := h.later hB)
          refine (getText_at h HE.out).mono ?_
          rintro e W2 ⟨rfl, rfl⟩
          go_wp2_with (refine wpList_cut rfl (.tmp 23) (.tmp 24) rfl v zs k rfl rfl h hk0 HK1.out ?_; intro V1 hV1)
          refine (dget_va hV1 HE2.out).mono ?_
          rintro e W3 ⟨rfl, hB3⟩
          replace h := h.later hB3
          replace hX := hX.later hB3
          replace hB := hB.trans (hB3.mono hB.size)
          clear hB3 hV1
          go_wp2_with (first
              | (refine wpList_new 27 _ rfl rfl tyV ?_; intro W4 hB4 hY)
              | (refine wpList_put 27 _ (.tmp 8) (.tmp 27) _ (va u) _ rfl rfl rfl rfl hY tyV rfl rfl (va_one _) ?_; intro W5 hb5 hs5 hY5; have hB5 := newput hB4 hb5; replace h := h.later hB5; replace hX := hX.later hB5; replace hB := hB.trans (hB5.mono hB.size); clear hB4 hY hb5 hs5 hB5)
              | (refine wpList_cut rfl (.tmp 38) (.tmp 39) rfl v zs (k + l) rfl rfl h hA4 HL.out ?_; intro V2 hV2))
          refine (get_at hV2 HE3.out).mono ?_
          rintro e W6 ⟨rfl, rfl⟩
          clear hV2
          obtain ⟨v0, v1, v2⟩ := hY5.vals
          go_wp2_with (first
              | (refine wpList_new 33 _ rfl rfl tyC ?_; intro W7 hB7 hZ; have hne := Nat.ne_of_lt hX.lt; have hle := hB.size)
              | (refine wpList_put 33 _ (.tmp 11) (.tmp 55) _ (cv ⟨strOfNums s, u, t, Va.zero⟩) _ rfl rfl rfl rfl hZ tyC rfl rfl (cv_one _) ?_; intro W8 hb8 hs8 hZ8; have hB8 := newput hB7 hb8; replace h := h.later hB8; replace hX := hX.later hB8; replace hB := hB.trans (hB8.mono hB.size); clear hB7 hZ hb8 hs8 hB8)
              | (refine wpList_get 33 _ (.tmp 11) _ (cv ⟨strOfNums s, u, t, Va.zero⟩) rfl rfl rfl hZ8 tyC rfl ?_))
          refine (hasTxn_any ⟨strOfNums s, u, t, Va.zero⟩ _).mono ?_
          rintro e W9 ⟨rfl, hB9⟩
          rw [show decide (0 < (⟨strOfNums s, u, t, Va.zero⟩ : Ce).T) = _ from HA.out]
          replace h := h.later hB9
          replace hX := hX.later hB9
          replace hZ8 := hZ8.later hB9
          replace hB := hB.trans (hB9.mono hB.size)
          clear hB9 v0 v1 v2 hY5
          go_wp2_with (first
              | (refine wpList_get 33 _ (.tmp 11) _ (cv ⟨strOfNums s, u, t, Va.zero⟩) rfl rfl rfl hZ8 tyC rfl ?_)
              | (refine wpList_put 33 _ (.tmp 2) (.tmp 59) _ (cv ⟨strOfNums s, u, t, Va.zero⟩) _ rfl rfl rfl rfl hX tyC rfl rfl (cv_one _) ?_; intro W13 hb13 hs13 hX13))
          refine bodyPost_ret (v := .tuple #[.agg (cv ⟨strOfNums s, u, t, Va.zero⟩), .int .i64 (k + l + m), .int .i64 0]) (results3_bx Try.results26 _ _ _ _ _ _ rfl rfl rfl hX13 tyC rfl) rfl ⟨by rw [HP.out], ?_⟩
          exact Below.but hB hB.size hb13 (fun k e => by omega)
      · have HP := hide (Ce.parts_3 HE.out HE2.out HE3.out he3)
        have he3' : (e3 != 0) = true := by simp; exact he3
        have HL := hide hkl
        have HK1 := hide hk1
        have hA1 : k + l ≤ 9223372036854775807 := by omega
        have hA4 : 0 ≤ k + l := by omega
        clear he3 hnb hkl hk1
        go_enter Try.func26, Try.ntmps26
        go_wp2_with (refine wpList_new 33 _ rfl rfl tyC ?_; intro W1 hB hX; replace h := h.later hB)
        refine (getText_at h HE.out).mono ?_
        rintro e W2 ⟨rfl, rfl⟩
        go_wp2_with (refine wpList_cut rfl (.tmp 23) (.tmp 24) rfl v zs k rfl rfl h hk0 HK1.out ?_; intro V1 hV1)
        refine (dget_va hV1 HE2.out).mono ?_
        rintro e W3 ⟨rfl, hB3⟩
        replace h := h.later hB3
        replace hX := hX.later hB3
        replace hB := hB.trans (hB3.mono hB.size)
        clear hB3 hV1
        go_wp2_with (first
            | (refine wpList_new 27 _ rfl rfl tyV ?_; intro W4 hB4 hY)
            | (refine wpList_put 27 _ (.tmp 8) (.tmp 27) _ (va u) _ rfl rfl rfl rfl hY tyV rfl rfl (va_one _) ?_; intro W5 hb5 hs5 hY5; have hB5 := newput hB4 hb5; replace h := h.later hB5; replace hX := hX.later hB5; replace hB := hB.trans (hB5.mono hB.size); clear hB4 hY hb5 hs5 hB5)
            | (refine wpList_cut rfl (.tmp 38) (.tmp 39) rfl v zs (k + l) rfl rfl h hA4 HL.out ?_; intro V2 hV2))
        refine (get_at hV2 HE3.out).mono ?_
        rintro e W6 ⟨rfl, rfl⟩
        clear hV2
        go_wp2_with (refine wpList_put 33 _ (.tmp 2) (.tmp 47) _ (cv Ce.zero) _ rfl rfl rfl rfl hX tyC rfl rfl (cv_one _) ?_; intro W9 hb9 hs9 hX9)
        refine bodyPost_ret (v := .tuple #[.agg (cv Ce.zero), .int .i64 0, .int .i64 e3]) (results3_bx Try.results26 _ _ _ _ _ _ rfl rfl rfl hX9 tyC rfl) rfl ⟨by rw [HP.out], ?_⟩
        exact Below.but hB hB.size hb9 (fun k e => by omega)
    · have HP := hide (Ce.parts_2 HE.out HE2.out he2)
      have he2' : (e2 != 0) = true := by simp; exact he2
      have HK1 := hide hk1
      clear he2 hkl hk1
      go_enter Try.func26, Try.ntmps26
      go_wp2_with (refine wpList_new 33 _ rfl rfl tyC ?_; intro W1 hB hX; replace h := h.later hB)
      refine (getText_at h HE.out).mono ?_
      rintro e W2 ⟨rfl, rfl⟩
      go_wp2_with (refine wpList_cut rfl (.tmp 23) (.tmp 24) rfl v zs k rfl rfl h hk0 HK1.out ?_; intro V1 hV1)
      refine (dget_va hV1 HE2.out).mono ?_
      rintro e W3 ⟨rfl, hB3⟩
      replace h := h.later hB3
      replace hX := hX.later hB3
      replace hB := hB.trans (hB3.mono hB.size)
      clear hB3 hV1
      go_wp2_with (first
          | (refine wpList_new 27 _ rfl rfl tyV ?_; intro W4 hB4 hY)
          | (refine wpList_put 27 _ (.tmp 8) (.tmp 27) _ (va u) _ rfl rfl rfl rfl hY tyV rfl rfl (va_one _) ?_; intro W5 hb5 hs5 hY5; have hB5 := newput hB4 hb5; replace h := h.later hB5; replace hX := hX.later hB5; replace hB := hB.trans (hB5.mono hB.size); clear hB4 hY hb5 hs5 hB5)
          | (refine wpList_put 33 _ (.tmp 2) (.tmp 32) _ (cv Ce.zero) _ rfl rfl rfl rfl hX tyC rfl rfl (cv_one _) ?_; intro W9 hb9 hs9 hX9))
      refine bodyPost_ret (v := .tuple #[.agg (cv Ce.zero), .int .i64 0, .int .i64 e2]) (results3_bx Try.results26 _ _ _ _ _ _ rfl rfl rfl hX9 tyC rfl) rfl ⟨by rw [HP.out], ?_⟩
      exact Below.but hB hB.size hb9 (fun k e => by omega)
  · have HP := hide (Ce.parts_1 HE.out he)
    have he' : (e != 0) = true := by simp; exact he
    clear he hk1
    go_enter Try.func26, Try.ntmps26
    go_wp2_with (refine wpList_new 33 _ rfl rfl tyC ?_; intro W1 hB hX; replace h := h.later hB)
    refine (getText_at h HE.out).mono ?_
    rintro e0 W2 ⟨rfl, rfl⟩
    go_wp2_with (refine wpList_put 33 _ (.tmp 2) (.tmp 20) _ (cv Ce.zero) _ rfl rfl rfl rfl hX tyC rfl rfl (cv_one _) ?_; intro W9 hb9 hs9 hX9)
    refine bodyPost_ret (v := .tuple #[.agg (cv Ce.zero), .int .i64 0, .int .i64 e]) (results3_bx Try.results26 _ _ _ _ _ _ rfl rfl rfl hX9 tyC rfl) rfl ⟨by rw [HP.out], ?_⟩
    exact Below.but hB hB.size hb9 (fun k e => by omega)

set_option maxHeartbeats 1000000 in
theorem get_cell (v : Value) (zs : List Int) (w : World) (h : Sl w v zs) :
    Calls Try.prog 9 #[v] w fun e w' => e = .returned (.tuple #[.agg (cv (Ce.get zs).1), .int .i64 (Ce.get zs).2.1, .int .i64 (Ce.get zs).2.2]) ∧ Below w.heap.size w w' := by
  have hp := Ce.parts_bd zs h.bd
  have HC := hide fun W (hW : Below w.heap.size w W) => getParts_any v zs W (h.later hW)
  obtain ⟨c, n, e, hE⟩ : ∃ c n e, Ce.parts zs = (c, n, e) := ⟨_, _, _, rfl⟩
  rw [hE] at hp HC
  simp only at hp HC
  by_cases he : e = 0
  · subst he
    cases hm : c.may
    · have HM := hide hm
      have HG := hide (Ce.get_2 hE hm)
      clear hm hE
      go_enter Try.func9, Try.ntmps9
      go_wp2_with (refine wpList_new 33 _ rfl rfl tyC ?_; intro W1 hB hX)
      refine (HC.out _ hB).mono ?_
      rintro e W2 ⟨rfl, hB2⟩
      replace hX := hX.later hB2
      replace hB := hB.trans (hB2.mono hB.size)
      clear hB2
      go_wp2_with (first
        | (refine wpList_new 33 _ rfl rfl tyC ?_; intro W4 hB4 hY)
        | (refine wpList_put 33 _ (.tmp 5) (.tmp 11) _ (cv c) _ rfl rfl rfl rfl hY tyC rfl rfl (cv_one _) ?_; intro W5 hb5 hs5 hY5; have hB5 := newput hB4 hb5; replace hX := hX.later hB5; replace hB := hB.trans (hB5.mono hB.size); clear hB4 hY hb5 hs5 hB5)
        | (refine wpList_get 33 _ (.tmp 5) _ (cv c) rfl rfl rfl hY5 tyC rfl ?_))
      refine (may_cell c _ hp).mono ?_
      rintro e W6 ⟨rfl, hB6⟩
      rw [HM.out]
      replace hX := hX.later hB6
      replace hB := hB.trans (hB6.mono hB.size)
      clear hB6
      go_wp2_with (refine wpList_put 33 _ (.tmp 2) (.tmp 21) _ (cv Ce.zero) _ rfl rfl rfl rfl hX tyC rfl rfl (cv_one _) ?_; intro W13 hb13 hs13 hX13)
      refine bodyPost_ret (v := .tuple #[.agg (cv Ce.zero), .int .i64 0, .int .i64 1]) (results3_bx Try.results9 _ _ _ _ _ _ rfl rfl rfl hX13 tyC rfl) rfl ⟨by rw [HG.out], ?_⟩
      exact Below.but hB hB.size hb13 (fun k e => by omega)
    · have HM := hide hm
      have HG := hide (Ce.get_3 hE hm)
      clear hm hE
      go_enter Try.func9, Try.ntmps9
      go_wp2_with (refine wpList_new 33 _ rfl rfl tyC ?_; intro W1 hB hX)
      refine (HC.out _ hB).mono ?_
      rintro e W2 ⟨rfl, hB2⟩
      replace hX := hX.later hB2
      replace hB := hB.trans (hB2.mono hB.size)
      clear hB2
      go_wp2_with (first
        | (refine wpList_new 33 _ rfl rfl tyC ?_; intro W4 hB4 hY)
        | (refine wpList_put 33 _ (.tmp 5) (.tmp 11) _ (cv c) _ rfl rfl rfl rfl hY tyC rfl rfl (cv_one _) ?_; intro W5 hb5 hs5 hY5; have hB5 := newput hB4 hb5; replace hX := hX.later hB5; replace hB := hB.trans (hB5.mono hB.size); clear hB4 hY hb5 hs5 hB5)
        | (refine wpList_get 33 _ (.tmp 5) _ (cv c) rfl rfl rfl hY5 tyC rfl ?_))
      refine (may_cell c _ hp).mono ?_
      rintro e W6 ⟨rfl, hB6⟩
      rw [HM.out]
      replace hX := hX.later hB6
      replace hY5 := hY5.later hB6
      replace hB := hB.trans (hB6.mono hB.size)
      clear hB6
      go_wp2_with (first
        | (refine wpList_get 33 _ (.tmp 5) _ (cv c) rfl rfl rfl hY5 tyC rfl ?_)
        | (refine wpList_put 33 _ (.tmp 2) (.tmp 22) _ (cv c) _ rfl rfl rfl rfl hX tyC rfl rfl (cv_one _) ?_; intro W13 hb13 hs13 hX13))
      refine bodyPost_ret (v := .tuple #[.agg (cv c), .int .i64 n, .int .i64 0]) (results3_bx Try.results9 _ _ _ _ _ _ rfl rfl rfl hX13 tyC rfl) rfl ⟨by rw [HG.out], ?_⟩
      exact Below.but hB hB.size hb13 (fun k e => by omega)
  · have he' : (e != 0) = true := by simp; exact he
    have HG := hide (Ce.get_1 hE he)
    clear he hE
    go_enter Try.func9, Try.ntmps9
    go_wp2_with (refine wpList_new 33 _ rfl rfl tyC ?_; intro W1 hB hX)
    refine (HC.out _ hB).mono ?_
    rintro e0 W2 ⟨rfl, hB2⟩
    replace hX := hX.later hB2
    replace hB := hB.trans (hB2.mono hB.size)
    clear hB2
    go_wp2_with (first
      | (refine wpList_new 33 _ rfl rfl tyC ?_; intro W4 hB4 hY)
      | (refine wpList_put 33 _ (.tmp 5) (.tmp 11) _ (cv c) _ rfl rfl rfl rfl hY tyC rfl rfl (cv_one _) ?_; intro W5 hb5 hs5 hY5; have hB5 := newput hB4 hb5; replace hX := hX.later hB5; replace hB := hB.trans (hB5.mono hB.size); clear hB4 hY hb5 hs5 hB5)
      | (refine wpList_put 33 _ (.tmp 2) (.tmp 16) _ (cv Ce.zero) _ rfl rfl rfl rfl hX tyC rfl rfl (cv_one _) ?_; intro W13 hb13 hs13 hX13))
    refine bodyPost_ret (v := .tuple #[.agg (cv Ce.zero), .int .i64 0, .int .i64 e]) (results3_bx Try.results9 _ _ _ _ _ _ rfl rfl rfl hX13 tyC rfl) rfl ⟨by rw [HG.out], ?_⟩
    exact Below.but hB hB.size hb13 (fun k e => by omega)

theorem get_cell_at {v : Value} {zs : List Int} {w : World} {c : Ce} {n e : Int} (h : Sl w v zs) (he : Ce.get zs = (c, n, e)) :
    Calls Try.prog 9 #[v] w fun r w' => r = .returned (.tuple #[.agg (cv c), .int .i64 n, .int .i64 e]) ∧ Below w.heap.size w w' := by
  have := get_cell v zs w h
  rw [he] at this
  exact this
end Go.Proofs.Ytlefhhmggaaiiab
