/-
  The contract of the document's Read of a cell over the translated program.
-/
import Derived.Test.YtlefhhmggaaiiaaCelG
import Derived.Test.YtlefhhmggaaiiaaDatS
namespace Go.Proofs.Ytlefhhmggaaiiaa
open Go.RowKit

theorem refGetVal_va {v : Value} {zs : List Int} {w : World} {u : Va} {n e : Int} (h : Sl w v zs) (he : Va.get zs = (u, n, e)) :
    Calls Try.prog 67 #[v] w fun r w' => r = .returned (.tuple #[.agg (va u), .int .i64 n, .int .i64 e]) ∧ Below w.heap.size w w' := by
  have := refGetVal_any v zs w h
  simp only [Va.get, Prod.mk.injEq] at he
  obtain ⟨rfl, rfl, rfl⟩ := he
  exact this
theorem refGetText_at {v : Value} {zs : List Int} {w : World} {s : List Int} {k x : Int} (h : Sl w v zs) (he : Nm.getText zs = (s, k, x)) :
    Calls Try.prog 66 #[v] w fun e w' => e = .returned (.tuple #[.string (strOfNums s), .int .i64 k, .int .i64 x]) ∧ w' = w := by
  have := refGetText_any v zs w h
  rw [he] at this
  exact this
theorem refGet_at {v : Value} {zs : List Int} {w : World} {n k x : Int} (h : Sl w v zs) (he : Nm.get 0 0 zs = (n, k, x)) :
    Calls Try.prog 68 #[v] w fun e w' => e = .returned (.tuple #[.int .i64 n, .int .i64 k, .int .i64 x]) ∧ w' = w := by
  have := refGet_any v zs w h
  rw [he] at this
  exact this

/-- The variable that lies in slot 5. -/
theorem wpList_at5 {w : World} {ops : Array Oper} {rest : List Oper} {o : Oper} {a : Act} {Q : Exit → Act → World → Prop} (ty : TypeId) (z : Array Value) (hg : o.guard = none) (hop : o.op = Op.alloc ty) (_hd : o.dst = some 5) (ht : Ty ty z)
    (hK : ∀ W, Below w.heap.size w W → Bx W w.heap.size z → wpList Try.prog ops Q rest (a.put o.dst (.pointer (some ⟨w.heap.size, 0, none⟩))) W) : wpList Try.prog ops Q (o :: rest) a w := wpList_new ty z hg hop ht hK

set_option maxRecDepth 100000 in
set_option maxHeartbeats 8000000 in
theorem read_cell (v : Value) (zs : List Int) (w : World) (h : Sl w v zs) :
    Calls Try.prog 51 #[v] w fun e w' => e = .returned (.tuple #[.agg (cv (Ce.get zs).1), .int .i64 (Ce.get zs).2.1, .int .i64 (Ce.get zs).2.2]) ∧ Below w.heap.size w w' := by
  have HS := hide fun W (hW : Below w.heap.size w W) => h.later hW
  have hpo := Ce.parts_bd zs h.bd
  have hmx : (zs.length : Int) ≤ 9223372036854775807 := by
    obtain ⟨a, n, cap, rfl, h1, h2, Hn, -⟩ := h.opens
    have := Hn.out
    omega
  have htb := Dt.getText_bd zs h.bd
  obtain ⟨s, k, e, hE⟩ : ∃ s k e, Nm.getText zs = (s, k, e) := ⟨_, _, _, rfl⟩
  rw [hE] at htb
  simp only at htb
  obtain ⟨hk0, hk1, -, -⟩ := htb
  have HE := hide hE
  clear hE
  by_cases he : e = 0
  · subst he
    obtain ⟨u, l, e2, hE2⟩ : ∃ u l e2, Va.get (zs.drop k.toNat) = (u, l, e2) := ⟨_, _, _, rfl⟩
    have hvb := Va.get_bd (zs.drop k.toNat) (drop_bd h.bd _)
    rw [hE2, List.length_drop] at hvb
    simp only at hvb
    obtain ⟨hl0, hl1, -⟩ := hvb
    have HE2 := hide hE2
    clear hE2
    have hkl : k + l ≤ zs.length := by omega
    clear hl1
    by_cases he2 : e2 = 0
    · subst he2
      obtain ⟨t, m, e3, hE3⟩ : ∃ t m e3, Nm.get 0 0 (zs.drop (k + l).toNat) = (t, m, e3) := ⟨_, _, _, rfl⟩
      have hnb := Nm.get_bd (zs.drop (k + l).toNat) 0 0 (by omega) (by decide) (by omega) (drop_bd h.bd _)
      rw [hE3, List.length_drop] at hnb
      simp only at hnb
      have HE3 := hide hE3
      clear hE3
      by_cases he3 : e3 = 0
      · subst he3
        obtain ⟨hm0, hm1⟩ : 0 ≤ m ∧ k + l + m ≤ zs.length := by
          rcases hnb with hnb | hnb
          · obtain ⟨-, g1, -, g3, -⟩ := hnb
            simp at g1 g3
            omega
          · omega
        clear hnb
        obtain ⟨u2, j, e4, hE4⟩ : ∃ u2 j e4, Va.get (zs.drop (k + l + m).toNat) = (u2, j, e4) := ⟨_, _, _, rfl⟩
        have hvb := Va.get_bd (zs.drop (k + l + m).toNat) (drop_bd h.bd _)
        rw [hE4, List.length_drop] at hvb
        simp only at hvb
        obtain ⟨hj0, hj1, -⟩ := hvb
        have HE4 := hide hE4
        have hj2 : k + l + m + j ≤ zs.length := by omega
        clear hE4 hj1
        have HL := hide hkl
        have HL2 := hide hm1
        have hA1 : k + l ≤ 9223372036854775807 := by omega
        have hA2 : k + l + m ≤ 9223372036854775807 := by omega
        have hA3 : k + l + m + j ≤ 9223372036854775807 := by omega
        have hA4 : 0 ≤ k + l := by omega
        have hA5 : 0 ≤ k + l + m := by omega
        have HK1 := hide hk1
        clear hkl hm1 hj2 hk1 hmx
        clear h
        by_cases ht : 0 < t
        · by_cases he4 : e4 = 0
          · subst he4
            have hP := Ce.parts_5 HE.out HE2.out HE3.out ht HE4.out
            rw [hP] at hpo
            have hp := hide hpo
            clear hpo
            cases hm : (⟨strOfNums s, u, t, u2⟩ : Ce).may
            · have HM := hide hm
              have HG := hide (Ce.get_2 hP hm)
              clear hm hP
              go_enter Try.func51, Try.ntmps51
              go_wp2_with (first
                  | (refine wpList_at5 26 _ rfl rfl rfl tyR ?_; intro W2 hB2 hC; have l01 := hB.size; have n01 := Nat.ne_of_lt hX.lt; replace hX := hX.later hB2; replace hB := hB.trans (hB2.mono hB.size); clear hB2)
                  | (refine wpList_new 26 _ rfl rfl tyR ?_; intro W1 hB hX))
              refine (refGetText_at (HS.out _ hB) HE.out).mono ?_
              rintro e0 W3 ⟨rfl, rfl⟩
              go_wp2_with (first
                  | (refine wpList_put1 9 (.tmp 24) (.tmp 22) _ 0 (.string (strOfNums s)) _ rfl rfl rfl rfl hC (show 0 < 8 by omega) (by kernel_rfl) rfl (fun a W => run_store Try.prog W a _ _ rfl) ?_; intro W4 hb4 hs4 hC4; replace hX := hX.but hb4 n01; have hB4 := Below.but hB hB.size hb4 (fun k e => by omega); clear hB hC hb4 hs4; have hB := hB4; have hC : Bx W4 _ (cv ⟨strOfNums s, Va.zero, 0, Va.zero⟩) := hC4; clear hC4 hB4)
                  | (refine wpList_cut rfl (.tmp 26) (.tmp 27) rfl v zs k rfl rfl (HS.out _ hB) hk0 HK1.out ?_; intro V1 hV1))
              refine (refGetVal_va hV1 HE2.out).mono ?_
              rintro e0 W5 ⟨rfl, hB5⟩
              replace hX := hX.later hB5
              replace hC := hC.later hB5
              replace hB := hB.trans (hB5.mono hB.size)
              clear hB5 hV1
              go_wp2_with (first
                  | (refine wpList_new 24 _ rfl rfl tyV ?_; intro W6 hB6 hV; have l12 := hC.lt; have n12 := Nat.ne_of_lt hC.lt; have n02 := Nat.ne_of_lt hX.lt)
                  | (refine wpList_put 24 _ (.tmp 10) (.tmp 30) _ (va u) _ rfl rfl rfl rfl hV tyV rfl rfl (va_one _) ?_; intro W7 hb7 hs7 hV7; have hB7 := newput hB6 hb7; replace hX := hX.later hB7; replace hC := hC.later hB7; replace hB := hB.trans (hB7.mono hB.size); clear hB6 hV hb7 hs7 hB7)
                  | (refine wpList_get 24 _ (.tmp 10) _ (va u) rfl rfl rfl hV7 tyV rfl ?_)
                  | (refine wpList_putV (.tmp 41) (.tmp 37) _ 1 u _ rfl rfl rfl rfl hC (show 1 + 3 ≤ 8 by omega) ?_; intro W8 hb8 hs8 hC8; replace hX := hX.but hb8 n01; replace hV7 := hV7.but hb8 (fun e => n12 e.symm); have hB8 := Below.but hB hB.size hb8 (fun k e => by omega); clear hB hC hb8 hs8; have hB := hB8; have hC : Bx W8 _ (cv ⟨strOfNums s, u, 0, Va.zero⟩) := hC8; clear hC8 hB8)
                  | (refine wpList_cut rfl (.tmp 43) (.tmp 44) rfl v zs (k + l) rfl rfl (HS.out _ hB) hA4 HL.out ?_; intro V2 hV2))
              refine (refGet_at hV2 HE3.out).mono ?_
              rintro e0 W10 ⟨rfl, rfl⟩
              clear hV2
              go_wp2_with (first
                  | (refine wpList_put1 2 (.tmp 58) (.tmp 54) _ 4 (.int .i64 t) _ rfl rfl rfl rfl hC (show 4 < 8 by omega) (by kernel_rfl) rfl (fun a W => run_store Try.prog W a _ _ rfl) ?_; intro W11 hb11 hs11 hC11; replace hX := hX.but hb11 n01; replace hV7 := hV7.but hb11 (fun e => n12 e.symm); have hB11 := Below.but hB hB.size hb11 (fun k e => by omega); clear hB hC hb11 hs11; have hB := hB11; have hC : Bx W11 _ (cv ⟨strOfNums s, u, t, Va.zero⟩) := hC11; clear hC11 hB11)
                  | (refine wpList_cut rfl (.tmp 62) (.tmp 63) rfl v zs (k + l + m) rfl rfl (HS.out _ hB) hA5 HL2.out ?_; intro V3 hV3))
              refine (refGetVal_va hV3 HE4.out).mono ?_
              rintro e0 W12 ⟨rfl, hB12⟩
              replace hX := hX.later hB12
              replace hC := hC.later hB12
              replace hV7 := hV7.later hB12
              replace hB := hB.trans (hB12.mono hB.size)
              clear hB12 hV3
              go_wp2_with (first
                  | (refine wpList_put 24 _ (.tmp 10) (.tmp 66) _ (va u2) _ rfl rfl rfl rfl hV7 tyV rfl rfl (va_one _) ?_; intro W13 hb13 hs13 hV13; replace hX := hX.but hb13 n02; replace hC := hC.but hb13 n12; have hB13 := Below.but hB hB.size hb13 (fun k e => by omega); clear hB hV7 hb13 hs13; have hB := hB13; clear hB13)
                  | (refine wpList_get 24 _ (.tmp 10) _ (va u2) rfl rfl rfl hV13 tyV rfl ?_)
                  | (refine wpList_putV (.tmp 77) (.tmp 73) _ 5 u2 _ rfl rfl rfl rfl hC (show 5 + 3 ≤ 8 by omega) ?_; intro W14 hb14 hs14 hC14; replace hX := hX.but hb14 n01; have hB14 := Below.but hB hB.size hb14 (fun k e => by omega); clear hB hC hb14 hs14; have hB := hB14; have hC : Bx W14 _ (cv ⟨strOfNums s, u, t, u2⟩) := hC14; clear hC14 hB14)
                  | (refine wpList_get 26 _ (.tmp 5) _ (cv ⟨strOfNums s, u, t, u2⟩) rfl rfl rfl hC tyR rfl ?_))
              refine (refMay_cell ⟨strOfNums s, u, t, u2⟩ _ hp.out).mono ?_
              rintro e0 W15 ⟨rfl, hB15⟩
              rw [HM.out]
              replace hX := hX.later hB15
              replace hC := hC.later hB15
              replace hB := hB.trans (hB15.mono hB.size)
              clear hB15
              go_wp2_with (first
                  | (refine wpList_put 26 _ (.tmp 2) (.tmp 81) _ (cv Ce.zero) _ rfl rfl rfl rfl hX tyR rfl rfl (cv_one _) ?_; intro W9 hb9 hs9 hX9))
              refine bodyPost_ret (v := .tuple #[.agg (cv Ce.zero), .int .i64 0, .int .i64 1]) (results3_bx Try.results51 _ _ _ _ _ _ rfl rfl rfl hX9 tyR rfl) rfl ⟨by rw [HG.out], ?_⟩
              exact Below.but hB hB.size hb9 (fun k e => by omega)
            · have HM := hide hm
              have HG := hide (Ce.get_3 hP hm)
              clear hm hP
              go_enter Try.func51, Try.ntmps51
              go_wp2_with (first
                  | (refine wpList_at5 26 _ rfl rfl rfl tyR ?_; intro W2 hB2 hC; have l01 := hB.size; have n01 := Nat.ne_of_lt hX.lt; replace hX := hX.later hB2; replace hB := hB.trans (hB2.mono hB.size); clear hB2)
                  | (refine wpList_new 26 _ rfl rfl tyR ?_; intro W1 hB hX))
              refine (refGetText_at (HS.out _ hB) HE.out).mono ?_
              rintro e0 W3 ⟨rfl, rfl⟩
              go_wp2_with (first
                  | (refine wpList_put1 9 (.tmp 24) (.tmp 22) _ 0 (.string (strOfNums s)) _ rfl rfl rfl rfl hC (show 0 < 8 by omega) (by kernel_rfl) rfl (fun a W => run_store Try.prog W a _ _ rfl) ?_; intro W4 hb4 hs4 hC4; replace hX := hX.but hb4 n01; have hB4 := Below.but hB hB.size hb4 (fun k e => by omega); clear hB hC hb4 hs4; have hB := hB4; have hC : Bx W4 _ (cv ⟨strOfNums s, Va.zero, 0, Va.zero⟩) := hC4; clear hC4 hB4)
                  | (refine wpList_cut rfl (.tmp 26) (.tmp 27) rfl v zs k rfl rfl (HS.out _ hB) hk0 HK1.out ?_; intro V1 hV1))
              refine (refGetVal_va hV1 HE2.out).mono ?_
              rintro e0 W5 ⟨rfl, hB5⟩
              replace hX := hX.later hB5
              replace hC := hC.later hB5
              replace hB := hB.trans (hB5.mono hB.size)
              clear hB5 hV1
              go_wp2_with (first
                  | (refine wpList_new 24 _ rfl rfl tyV ?_; intro W6 hB6 hV; have l12 := hC.lt; have n12 := Nat.ne_of_lt hC.lt; have n02 := Nat.ne_of_lt hX.lt)
                  | (refine wpList_put 24 _ (.tmp 10) (.tmp 30) _ (va u) _ rfl rfl rfl rfl hV tyV rfl rfl (va_one _) ?_; intro W7 hb7 hs7 hV7; have hB7 := newput hB6 hb7; replace hX := hX.later hB7; replace hC := hC.later hB7; replace hB := hB.trans (hB7.mono hB.size); clear hB6 hV hb7 hs7 hB7)
                  | (refine wpList_get 24 _ (.tmp 10) _ (va u) rfl rfl rfl hV7 tyV rfl ?_)
                  | (refine wpList_putV (.tmp 41) (.tmp 37) _ 1 u _ rfl rfl rfl rfl hC (show 1 + 3 ≤ 8 by omega) ?_; intro W8 hb8 hs8 hC8; replace hX := hX.but hb8 n01; replace hV7 := hV7.but hb8 (fun e => n12 e.symm); have hB8 := Below.but hB hB.size hb8 (fun k e => by omega); clear hB hC hb8 hs8; have hB := hB8; have hC : Bx W8 _ (cv ⟨strOfNums s, u, 0, Va.zero⟩) := hC8; clear hC8 hB8)
                  | (refine wpList_cut rfl (.tmp 43) (.tmp 44) rfl v zs (k + l) rfl rfl (HS.out _ hB) hA4 HL.out ?_; intro V2 hV2))
              refine (refGet_at hV2 HE3.out).mono ?_
              rintro e0 W10 ⟨rfl, rfl⟩
              clear hV2
              go_wp2_with (first
                  | (refine wpList_put1 2 (.tmp 58) (.tmp 54) _ 4 (.int .i64 t) _ rfl rfl rfl rfl hC (show 4 < 8 by omega) (by kernel_rfl) rfl (fun a W => run_store Try.prog W a _ _ rfl) ?_; intro W11 hb11 hs11 hC11; replace hX := hX.but hb11 n01; replace hV7 := hV7.but hb11 (fun e => n12 e.symm); have hB11 := Below.but hB hB.size hb11 (fun k e => by omega); clear hB hC hb11 hs11; have hB := hB11; have hC : Bx W11 _ (cv ⟨strOfNums s, u, t, Va.zero⟩) := hC11; clear hC11 hB11)
                  | (refine wpList_cut rfl (.tmp 62) (.tmp 63) rfl v zs (k + l + m) rfl rfl (HS.out _ hB) hA5 HL2.out ?_; intro V3 hV3))
              refine (refGetVal_va hV3 HE4.out).mono ?_
              rintro e0 W12 ⟨rfl, hB12⟩
              replace hX := hX.later hB12
              replace hC := hC.later hB12
              replace hV7 := hV7.later hB12
              replace hB := hB.trans (hB12.mono hB.size)
              clear hB12 hV3
              go_wp2_with (first
                  | (refine wpList_put 24 _ (.tmp 10) (.tmp 66) _ (va u2) _ rfl rfl rfl rfl hV7 tyV rfl rfl (va_one _) ?_; intro W13 hb13 hs13 hV13; replace hX := hX.but hb13 n02; replace hC := hC.but hb13 n12; have hB13 := Below.but hB hB.size hb13 (fun k e => by omega); clear hB hV7 hb13 hs13; have hB := hB13; clear hB13)
                  | (refine wpList_get 24 _ (.tmp 10) _ (va u2) rfl rfl rfl hV13 tyV rfl ?_)
                  | (refine wpList_putV (.tmp 77) (.tmp 73) _ 5 u2 _ rfl rfl rfl rfl hC (show 5 + 3 ≤ 8 by omega) ?_; intro W14 hb14 hs14 hC14; replace hX := hX.but hb14 n01; have hB14 := Below.but hB hB.size hb14 (fun k e => by omega); clear hB hC hb14 hs14; have hB := hB14; have hC : Bx W14 _ (cv ⟨strOfNums s, u, t, u2⟩) := hC14; clear hC14 hB14)
                  | (refine wpList_get 26 _ (.tmp 5) _ (cv ⟨strOfNums s, u, t, u2⟩) rfl rfl rfl hC tyR rfl ?_))
              refine (refMay_cell ⟨strOfNums s, u, t, u2⟩ _ hp.out).mono ?_
              rintro e0 W15 ⟨rfl, hB15⟩
              rw [HM.out]
              replace hX := hX.later hB15
              replace hC := hC.later hB15
              replace hB := hB.trans (hB15.mono hB.size)
              clear hB15
              go_wp2_with (first
                  | (refine wpList_get 26 _ (.tmp 5) _ (cv ⟨strOfNums s, u, t, u2⟩) rfl rfl rfl hC tyR rfl ?_)
                  | (refine wpList_put 26 _ (.tmp 2) (.tmp 82) _ (cv ⟨strOfNums s, u, t, u2⟩) _ rfl rfl rfl rfl hX tyR rfl rfl (cv_one _) ?_; intro W9 hb9 hs9 hX9))
              refine bodyPost_ret (v := .tuple #[.agg (cv ⟨strOfNums s, u, t, u2⟩), .int .i64 (k + l + m + j), .int .i64 0]) (results3_bx Try.results51 _ _ _ _ _ _ rfl rfl rfl hX9 tyR rfl) rfl ⟨by rw [HG.out], ?_⟩
              exact Below.but hB hB.size hb9 (fun k e => by omega)
          · have HP := hide (Ce.get_1 (Ce.parts_5 HE.out HE2.out HE3.out ht HE4.out) he4)
            have he4' : (e4 != 0) = true := by simp; exact he4
            clear he4 hpo
            go_enter Try.func51, Try.ntmps51
            go_wp2_with (first
                | (refine wpList_at5 26 _ rfl rfl rfl tyR ?_; intro W2 hB2 hC; have l01 := hB.size; have n01 := Nat.ne_of_lt hX.lt; replace hX := hX.later hB2; replace hB := hB.trans (hB2.mono hB.size); clear hB2)
                | (refine wpList_new 26 _ rfl rfl tyR ?_; intro W1 hB hX))
            refine (refGetText_at (HS.out _ hB) HE.out).mono ?_
            rintro e0 W3 ⟨rfl, rfl⟩
            go_wp2_with (first
                | (refine wpList_put1 9 (.tmp 24) (.tmp 22) _ 0 (.string (strOfNums s)) _ rfl rfl rfl rfl hC (show 0 < 8 by omega) (by kernel_rfl) rfl (fun a W => run_store Try.prog W a _ _ rfl) ?_; intro W4 hb4 hs4 hC4; replace hX := hX.but hb4 n01; have hB4 := Below.but hB hB.size hb4 (fun k e => by omega); clear hB hC hb4 hs4; have hB := hB4; have hC : Bx W4 _ (cv ⟨strOfNums s, Va.zero, 0, Va.zero⟩) := hC4; clear hC4 hB4)
                | (refine wpList_cut rfl (.tmp 26) (.tmp 27) rfl v zs k rfl rfl (HS.out _ hB) hk0 HK1.out ?_; intro V1 hV1))
            refine (refGetVal_va hV1 HE2.out).mono ?_
            rintro e0 W5 ⟨rfl, hB5⟩
            replace hX := hX.later hB5
            replace hC := hC.later hB5
            replace hB := hB.trans (hB5.mono hB.size)
            clear hB5 hV1
            go_wp2_with (first
                | (refine wpList_new 24 _ rfl rfl tyV ?_; intro W6 hB6 hV; have l12 := hC.lt; have n12 := Nat.ne_of_lt hC.lt; have n02 := Nat.ne_of_lt hX.lt)
                | (refine wpList_put 24 _ (.tmp 10) (.tmp 30) _ (va u) _ rfl rfl rfl rfl hV tyV rfl rfl (va_one _) ?_; intro W7 hb7 hs7 hV7; have hB7 := newput hB6 hb7; replace hX := hX.later hB7; replace hC := hC.later hB7; replace hB := hB.trans (hB7.mono hB.size); clear hB6 hV hb7 hs7 hB7)
                | (refine wpList_get 24 _ (.tmp 10) _ (va u) rfl rfl rfl hV7 tyV rfl ?_)
                | (refine wpList_putV (.tmp 41) (.tmp 37) _ 1 u _ rfl rfl rfl rfl hC (show 1 + 3 ≤ 8 by omega) ?_; intro W8 hb8 hs8 hC8; replace hX := hX.but hb8 n01; replace hV7 := hV7.but hb8 (fun e => n12 e.symm); have hB8 := Below.but hB hB.size hb8 (fun k e => by omega); clear hB hC hb8 hs8; have hB := hB8; have hC : Bx W8 _ (cv ⟨strOfNums s, u, 0, Va.zero⟩) := hC8; clear hC8 hB8)
                | (refine wpList_cut rfl (.tmp 43) (.tmp 44) rfl v zs (k + l) rfl rfl (HS.out _ hB) hA4 HL.out ?_; intro V2 hV2))
            refine (refGet_at hV2 HE3.out).mono ?_
            rintro e0 W10 ⟨rfl, rfl⟩
            clear hV2
            go_wp2_with (first
                | (refine wpList_put1 2 (.tmp 58) (.tmp 54) _ 4 (.int .i64 t) _ rfl rfl rfl rfl hC (show 4 < 8 by omega) (by kernel_rfl) rfl (fun a W => run_store Try.prog W a _ _ rfl) ?_; intro W11 hb11 hs11 hC11; replace hX := hX.but hb11 n01; replace hV7 := hV7.but hb11 (fun e => n12 e.symm); have hB11 := Below.but hB hB.size hb11 (fun k e => by omega); clear hB hC hb11 hs11; have hB := hB11; have hC : Bx W11 _ (cv ⟨strOfNums s, u, t, Va.zero⟩) := hC11; clear hC11 hB11)
                | (refine wpList_cut rfl (.tmp 62) (.tmp 63) rfl v zs (k + l + m) rfl rfl (HS.out _ hB) hA5 HL2.out ?_; intro V3 hV3))
            refine (refGetVal_va hV3 HE4.out).mono ?_
            rintro e0 W12 ⟨rfl, hB12⟩
            replace hX := hX.later hB12
            replace hC := hC.later hB12
            replace hV7 := hV7.later hB12
            replace hB := hB.trans (hB12.mono hB.size)
            clear hB12 hV3
            go_wp2_with (first
                | (refine wpList_put 24 _ (.tmp 10) (.tmp 66) _ (va u2) _ rfl rfl rfl rfl hV7 tyV rfl rfl (va_one _) ?_; intro W13 hb13 hs13 hV13; replace hX := hX.but hb13 n02; replace hC := hC.but hb13 n12; have hB13 := Below.but hB hB.size hb13 (fun k e => by omega); clear hB hV7 hb13 hs13; have hB := hB13; clear hB13)
                | (refine wpList_put 26 _ (.tmp 2) (.tmp 71) _ (cv Ce.zero) _ rfl rfl rfl rfl hX tyR rfl rfl (cv_one _) ?_; intro W9 hb9 hs9 hX9))
            refine bodyPost_ret (v := .tuple #[.agg (cv Ce.zero), .int .i64 0, .int .i64 e4]) (results3_bx Try.results51 _ _ _ _ _ _ rfl rfl rfl hX9 tyR rfl) rfl ⟨by rw [HP.out], ?_⟩
            exact Below.but hB hB.size hb9 (fun k e => by omega)
        · have hP := Ce.parts_4 HE.out HE2.out HE3.out ht
          rw [hP] at hpo
          have hp := hide hpo
          clear hpo
          cases hm : (⟨strOfNums s, u, t, Va.zero⟩ : Ce).may
          · have HM := hide hm
            have HG := hide (Ce.get_2 hP hm)
            clear hm hP
            go_enter Try.func51, Try.ntmps51
            go_wp2_with (first
                | (refine wpList_at5 26 _ rfl rfl rfl tyR ?_; intro W2 hB2 hC; have l01 := hB.size; have n01 := Nat.ne_of_lt hX.lt; replace hX := hX.later hB2; replace hB := hB.trans (hB2.mono hB.size); clear hB2)
                | (refine wpList_new 26 _ rfl rfl tyR ?_; intro W1 hB hX))
            refine (refGetText_at (HS.out _ hB) HE.out).mono ?_
            rintro e0 W3 ⟨rfl, rfl⟩
            go_wp2_with (first
                | (refine wpList_put1 9 (.tmp 24) (.tmp 22) _ 0 (.string (strOfNums s)) _ rfl rfl rfl rfl hC (show 0 < 8 by omega) (by kernel_rfl) rfl (fun a W => run_store Try.prog W a _ _ rfl) ?_; intro W4 hb4 hs4 hC4; replace hX := hX.but hb4 n01; have hB4 := Below.but hB hB.size hb4 (fun k e => by omega); clear hB hC hb4 hs4; have hB := hB4; have hC : Bx W4 _ (cv ⟨strOfNums s, Va.zero, 0, Va.zero⟩) := hC4; clear hC4 hB4)
                | (refine wpList_cut rfl (.tmp 26) (.tmp 27) rfl v zs k rfl rfl (HS.out _ hB) hk0 HK1.out ?_; intro V1 hV1))
            refine (refGetVal_va hV1 HE2.out).mono ?_
            rintro e0 W5 ⟨rfl, hB5⟩
            replace hX := hX.later hB5
            replace hC := hC.later hB5
            replace hB := hB.trans (hB5.mono hB.size)
            clear hB5 hV1
            go_wp2_with (first
                | (refine wpList_new 24 _ rfl rfl tyV ?_; intro W6 hB6 hV; have l12 := hC.lt; have n12 := Nat.ne_of_lt hC.lt; have n02 := Nat.ne_of_lt hX.lt)
                | (refine wpList_put 24 _ (.tmp 10) (.tmp 30) _ (va u) _ rfl rfl rfl rfl hV tyV rfl rfl (va_one _) ?_; intro W7 hb7 hs7 hV7; have hB7 := newput hB6 hb7; replace hX := hX.later hB7; replace hC := hC.later hB7; replace hB := hB.trans (hB7.mono hB.size); clear hB6 hV hb7 hs7 hB7)
                | (refine wpList_get 24 _ (.tmp 10) _ (va u) rfl rfl rfl hV7 tyV rfl ?_)
                | (refine wpList_putV (.tmp 41) (.tmp 37) _ 1 u _ rfl rfl rfl rfl hC (show 1 + 3 ≤ 8 by omega) ?_; intro W8 hb8 hs8 hC8; replace hX := hX.but hb8 n01; replace hV7 := hV7.but hb8 (fun e => n12 e.symm); have hB8 := Below.but hB hB.size hb8 (fun k e => by omega); clear hB hC hb8 hs8; have hB := hB8; have hC : Bx W8 _ (cv ⟨strOfNums s, u, 0, Va.zero⟩) := hC8; clear hC8 hB8)
                | (refine wpList_cut rfl (.tmp 43) (.tmp 44) rfl v zs (k + l) rfl rfl (HS.out _ hB) hA4 HL.out ?_; intro V2 hV2))
            refine (refGet_at hV2 HE3.out).mono ?_
            rintro e0 W10 ⟨rfl, rfl⟩
            clear hV2
            go_wp2_with (first
                | (refine wpList_put1 2 (.tmp 58) (.tmp 54) _ 4 (.int .i64 t) _ rfl rfl rfl rfl hC (show 4 < 8 by omega) (by kernel_rfl) rfl (fun a W => run_store Try.prog W a _ _ rfl) ?_; intro W11 hb11 hs11 hC11; replace hX := hX.but hb11 n01; replace hV7 := hV7.but hb11 (fun e => n12 e.symm); have hB11 := Below.but hB hB.size hb11 (fun k e => by omega); clear hB hC hb11 hs11; have hB := hB11; have hC : Bx W11 _ (cv ⟨strOfNums s, u, t, Va.zero⟩) := hC11; clear hC11 hB11)
                | (refine wpList_get 26 _ (.tmp 5) _ (cv ⟨strOfNums s, u, t, Va.zero⟩) rfl rfl rfl hC tyR rfl ?_))
            refine (refMay_cell ⟨strOfNums s, u, t, Va.zero⟩ _ hp.out).mono ?_
            rintro e0 W15 ⟨rfl, hB15⟩
            rw [HM.out]
            replace hX := hX.later hB15
            replace hC := hC.later hB15
            replace hB := hB.trans (hB15.mono hB.size)
            clear hB15
            go_wp2_with (first
                | (refine wpList_put 26 _ (.tmp 2) (.tmp 81) _ (cv Ce.zero) _ rfl rfl rfl rfl hX tyR rfl rfl (cv_one _) ?_; intro W9 hb9 hs9 hX9))
            refine bodyPost_ret (v := .tuple #[.agg (cv Ce.zero), .int .i64 0, .int .i64 1]) (results3_bx Try.results51 _ _ _ _ _ _ rfl rfl rfl hX9 tyR rfl) rfl ⟨by rw [HG.out], ?_⟩
            exact Below.but hB hB.size hb9 (fun k e => by omega)
          · have HM := hide hm
            have HG := hide (Ce.get_3 hP hm)
            clear hm hP
            go_enter Try.func51, Try.ntmps51
            go_wp2_with (first
                | (refine wpList_at5 26 _ rfl rfl rfl tyR ?_; intro W2 hB2 hC; have l01 := hB.size; have n01 := Nat.ne_of_lt hX.lt; replace hX := hX.later hB2; replace hB := hB.trans (hB2.mono hB.size); clear hB2)
                | (refine wpList_new 26 _ rfl rfl tyR ?_; intro W1 hB hX))
            refine (refGetText_at (HS.out _ hB) HE.out).mono ?_
            rintro e0 W3 ⟨rfl, rfl⟩
            go_wp2_with (first
                | (refine wpList_put1 9 (.tmp 24) (.tmp 22) _ 0 (.string (strOfNums s)) _ rfl rfl rfl rfl hC (show 0 < 8 by omega) (by kernel_rfl) rfl (fun a W => run_store Try.prog W a _ _ rfl) ?_; intro W4 hb4 hs4 hC4; replace hX := hX.but hb4 n01; have hB4 := Below.but hB hB.size hb4 (fun k e => by omega); clear hB hC hb4 hs4; have hB := hB4; have hC : Bx W4 _ (cv ⟨strOfNums s, Va.zero, 0, Va.zero⟩) := hC4; clear hC4 hB4)
                | (refine wpList_cut rfl (.tmp 26) (.tmp 27) rfl v zs k rfl rfl (HS.out _ hB) hk0 HK1.out ?_; intro V1 hV1))
            refine (refGetVal_va hV1 HE2.out).mono ?_
            rintro e0 W5 ⟨rfl, hB5⟩
            replace hX := hX.later hB5
            replace hC := hC.later hB5
            replace hB := hB.trans (hB5.mono hB.size)
            clear hB5 hV1
            go_wp2_with (first
                | (refine wpList_new 24 _ rfl rfl tyV ?_; intro W6 hB6 hV; have l12 := hC.lt; have n12 := Nat.ne_of_lt hC.lt; have n02 := Nat.ne_of_lt hX.lt)
                | (refine wpList_put 24 _ (.tmp 10) (.tmp 30) _ (va u) _ rfl rfl rfl rfl hV tyV rfl rfl (va_one _) ?_; intro W7 hb7 hs7 hV7; have hB7 := newput hB6 hb7; replace hX := hX.later hB7; replace hC := hC.later hB7; replace hB := hB.trans (hB7.mono hB.size); clear hB6 hV hb7 hs7 hB7)
                | (refine wpList_get 24 _ (.tmp 10) _ (va u) rfl rfl rfl hV7 tyV rfl ?_)
                | (refine wpList_putV (.tmp 41) (.tmp 37) _ 1 u _ rfl rfl rfl rfl hC (show 1 + 3 ≤ 8 by omega) ?_; intro W8 hb8 hs8 hC8; replace hX := hX.but hb8 n01; replace hV7 := hV7.but hb8 (fun e => n12 e.symm); have hB8 := Below.but hB hB.size hb8 (fun k e => by omega); clear hB hC hb8 hs8; have hB := hB8; have hC : Bx W8 _ (cv ⟨strOfNums s, u, 0, Va.zero⟩) := hC8; clear hC8 hB8)
                | (refine wpList_cut rfl (.tmp 43) (.tmp 44) rfl v zs (k + l) rfl rfl (HS.out _ hB) hA4 HL.out ?_; intro V2 hV2))
            refine (refGet_at hV2 HE3.out).mono ?_
            rintro e0 W10 ⟨rfl, rfl⟩
            clear hV2
            go_wp2_with (first
                | (refine wpList_put1 2 (.tmp 58) (.tmp 54) _ 4 (.int .i64 t) _ rfl rfl rfl rfl hC (show 4 < 8 by omega) (by kernel_rfl) rfl (fun a W => run_store Try.prog W a _ _ rfl) ?_; intro W11 hb11 hs11 hC11; replace hX := hX.but hb11 n01; replace hV7 := hV7.but hb11 (fun e => n12 e.symm); have hB11 := Below.but hB hB.size hb11 (fun k e => by omega); clear hB hC hb11 hs11; have hB := hB11; have hC : Bx W11 _ (cv ⟨strOfNums s, u, t, Va.zero⟩) := hC11; clear hC11 hB11)
                | (refine wpList_get 26 _ (.tmp 5) _ (cv ⟨strOfNums s, u, t, Va.zero⟩) rfl rfl rfl hC tyR rfl ?_))
            refine (refMay_cell ⟨strOfNums s, u, t, Va.zero⟩ _ hp.out).mono ?_
            rintro e0 W15 ⟨rfl, hB15⟩
            rw [HM.out]
            replace hX := hX.later hB15
            replace hC := hC.later hB15
            replace hB := hB.trans (hB15.mono hB.size)
            clear hB15
            go_wp2_with (first
                | (refine wpList_get 26 _ (.tmp 5) _ (cv ⟨strOfNums s, u, t, Va.zero⟩) rfl rfl rfl hC tyR rfl ?_)
                | (refine wpList_put 26 _ (.tmp 2) (.tmp 82) _ (cv ⟨strOfNums s, u, t, Va.zero⟩) _ rfl rfl rfl rfl hX tyR rfl rfl (cv_one _) ?_; intro W9 hb9 hs9 hX9))
            refine bodyPost_ret (v := .tuple #[.agg (cv ⟨strOfNums s, u, t, Va.zero⟩), .int .i64 (k + l + m), .int .i64 0]) (results3_bx Try.results51 _ _ _ _ _ _ rfl rfl rfl hX9 tyR rfl) rfl ⟨by rw [HG.out], ?_⟩
            exact Below.but hB hB.size hb9 (fun k e => by omega)
      · have HP := hide (Ce.get_1 (Ce.parts_3 HE.out HE2.out HE3.out he3) he3)
        have he3' : (e3 != 0) = true := by simp; exact he3
        have HL := hide hkl
        have HK1 := hide hk1
        have hA1 : k + l ≤ 9223372036854775807 := by omega
        have hA4 : 0 ≤ k + l := by omega
        clear he3 hnb hkl hk1 h hpo
        go_enter Try.func51, Try.ntmps51
        go_wp2_with (first
            | (refine wpList_at5 26 _ rfl rfl rfl tyR ?_; intro W2 hB2 hC; have l01 := hB.size; have n01 := Nat.ne_of_lt hX.lt; replace hX := hX.later hB2; replace hB := hB.trans (hB2.mono hB.size); clear hB2)
            | (refine wpList_new 26 _ rfl rfl tyR ?_; intro W1 hB hX))
        refine (refGetText_at (HS.out _ hB) HE.out).mono ?_
        rintro e0 W3 ⟨rfl, rfl⟩
        go_wp2_with (first
            | (refine wpList_put1 9 (.tmp 24) (.tmp 22) _ 0 (.string (strOfNums s)) _ rfl rfl rfl rfl hC (show 0 < 8 by omega) (by kernel_rfl) rfl (fun a W => run_store Try.prog W a _ _ rfl) ?_; intro W4 hb4 hs4 hC4; replace hX := hX.but hb4 n01; have hB4 := Below.but hB hB.size hb4 (fun k e => by omega); clear hB hC hb4 hs4; have hB := hB4; have hC : Bx W4 _ (cv ⟨strOfNums s, Va.zero, 0, Va.zero⟩) := hC4; clear hC4 hB4)
            | (refine wpList_cut rfl (.tmp 26) (.tmp 27) rfl v zs k rfl rfl (HS.out _ hB) hk0 HK1.out ?_; intro V1 hV1))
        refine (refGetVal_va hV1 HE2.out).mono ?_
        rintro e0 W5 ⟨rfl, hB5⟩
        replace hX := hX.later hB5
        replace hC := hC.later hB5
        replace hB := hB.trans (hB5.mono hB.size)
        clear hB5 hV1
        go_wp2_with (first
            | (refine wpList_new 24 _ rfl rfl tyV ?_; intro W6 hB6 hV; have l12 := hC.lt; have n12 := Nat.ne_of_lt hC.lt; have n02 := Nat.ne_of_lt hX.lt)
            | (refine wpList_put 24 _ (.tmp 10) (.tmp 30) _ (va u) _ rfl rfl rfl rfl hV tyV rfl rfl (va_one _) ?_; intro W7 hb7 hs7 hV7; have hB7 := newput hB6 hb7; replace hX := hX.later hB7; replace hC := hC.later hB7; replace hB := hB.trans (hB7.mono hB.size); clear hB6 hV hb7 hs7 hB7)
            | (refine wpList_get 24 _ (.tmp 10) _ (va u) rfl rfl rfl hV7 tyV rfl ?_)
            | (refine wpList_putV (.tmp 41) (.tmp 37) _ 1 u _ rfl rfl rfl rfl hC (show 1 + 3 ≤ 8 by omega) ?_; intro W8 hb8 hs8 hC8; replace hX := hX.but hb8 n01; replace hV7 := hV7.but hb8 (fun e => n12 e.symm); have hB8 := Below.but hB hB.size hb8 (fun k e => by omega); clear hB hC hb8 hs8; have hB := hB8; have hC : Bx W8 _ (cv ⟨strOfNums s, u, 0, Va.zero⟩) := hC8; clear hC8 hB8)
            | (refine wpList_cut rfl (.tmp 43) (.tmp 44) rfl v zs (k + l) rfl rfl (HS.out _ hB) hA4 HL.out ?_; intro V2 hV2))
        refine (refGet_at hV2 HE3.out).mono ?_
        rintro e0 W10 ⟨rfl, rfl⟩
        clear hV2
        go_wp2_with (first
            | (refine wpList_put 26 _ (.tmp 2) (.tmp 52) _ (cv Ce.zero) _ rfl rfl rfl rfl hX tyR rfl rfl (cv_one _) ?_; intro W9 hb9 hs9 hX9))
        refine bodyPost_ret (v := .tuple #[.agg (cv Ce.zero), .int .i64 0, .int .i64 e3]) (results3_bx Try.results51 _ _ _ _ _ _ rfl rfl rfl hX9 tyR rfl) rfl ⟨by rw [HP.out], ?_⟩
        exact Below.but hB hB.size hb9 (fun k e => by omega)
    · have HP := hide (Ce.get_1 (Ce.parts_2 HE.out HE2.out he2) he2)
      have he2' : (e2 != 0) = true := by simp; exact he2
      have HK1 := hide hk1
      clear he2 hkl hk1 h hpo
      go_enter Try.func51, Try.ntmps51
      go_wp2_with (first
          | (refine wpList_at5 26 _ rfl rfl rfl tyR ?_; intro W2 hB2 hC; have l01 := hB.size; have n01 := Nat.ne_of_lt hX.lt; replace hX := hX.later hB2; replace hB := hB.trans (hB2.mono hB.size); clear hB2)
          | (refine wpList_new 26 _ rfl rfl tyR ?_; intro W1 hB hX))
      refine (refGetText_at (HS.out _ hB) HE.out).mono ?_
      rintro e0 W3 ⟨rfl, rfl⟩
      go_wp2_with (first
          | (refine wpList_put1 9 (.tmp 24) (.tmp 22) _ 0 (.string (strOfNums s)) _ rfl rfl rfl rfl hC (show 0 < 8 by omega) (by kernel_rfl) rfl (fun a W => run_store Try.prog W a _ _ rfl) ?_; intro W4 hb4 hs4 hC4; replace hX := hX.but hb4 n01; have hB4 := Below.but hB hB.size hb4 (fun k e => by omega); clear hB hC hb4 hs4; have hB := hB4; have hC : Bx W4 _ (cv ⟨strOfNums s, Va.zero, 0, Va.zero⟩) := hC4; clear hC4 hB4)
          | (refine wpList_cut rfl (.tmp 26) (.tmp 27) rfl v zs k rfl rfl (HS.out _ hB) hk0 HK1.out ?_; intro V1 hV1))
      refine (refGetVal_va hV1 HE2.out).mono ?_
      rintro e0 W5 ⟨rfl, hB5⟩
      replace hX := hX.later hB5
      replace hC := hC.later hB5
      replace hB := hB.trans (hB5.mono hB.size)
      clear hB5 hV1
      go_wp2_with (first
          | (refine wpList_new 24 _ rfl rfl tyV ?_; intro W6 hB6 hV; have l12 := hC.lt; have n12 := Nat.ne_of_lt hC.lt; have n02 := Nat.ne_of_lt hX.lt)
          | (refine wpList_put 24 _ (.tmp 10) (.tmp 30) _ (va u) _ rfl rfl rfl rfl hV tyV rfl rfl (va_one _) ?_; intro W7 hb7 hs7 hV7; have hB7 := newput hB6 hb7; replace hX := hX.later hB7; replace hC := hC.later hB7; replace hB := hB.trans (hB7.mono hB.size); clear hB6 hV hb7 hs7 hB7)
          | (refine wpList_put 26 _ (.tmp 2) (.tmp 35) _ (cv Ce.zero) _ rfl rfl rfl rfl hX tyR rfl rfl (cv_one _) ?_; intro W9 hb9 hs9 hX9))
      refine bodyPost_ret (v := .tuple #[.agg (cv Ce.zero), .int .i64 0, .int .i64 e2]) (results3_bx Try.results51 _ _ _ _ _ _ rfl rfl rfl hX9 tyR rfl) rfl ⟨by rw [HP.out], ?_⟩
      exact Below.but hB hB.size hb9 (fun k e => by omega)
  · have HP := hide (Ce.get_1 (Ce.parts_1 HE.out he) he)
    have he' : (e != 0) = true := by simp; exact he
    clear he hk1 h hpo
    go_enter Try.func51, Try.ntmps51
    go_wp2_with (first
        | (refine wpList_at5 26 _ rfl rfl rfl tyR ?_; intro W2 hB2 hC; have l01 := hB.size; have n01 := Nat.ne_of_lt hX.lt; replace hX := hX.later hB2; replace hB := hB.trans (hB2.mono hB.size); clear hB2)
        | (refine wpList_new 26 _ rfl rfl tyR ?_; intro W1 hB hX))
    refine (refGetText_at (HS.out _ hB) HE.out).mono ?_
    rintro e0 W3 ⟨rfl, rfl⟩
    go_wp2_with (first
        | (refine wpList_put 26 _ (.tmp 2) (.tmp 20) _ (cv Ce.zero) _ rfl rfl rfl rfl hX tyR rfl rfl (cv_one _) ?_; intro W9 hb9 hs9 hX9))
    refine bodyPost_ret (v := .tuple #[.agg (cv Ce.zero), .int .i64 0, .int .i64 e]) (results3_bx Try.results51 _ _ _ _ _ _ rfl rfl rfl hX9 tyR rfl) rfl ⟨by rw [HP.out], ?_⟩
    exact Below.but hB hB.size hb9 (fun k e => by omega)

theorem read_cell_at {v : Value} {zs : List Int} {w : World} {c : Ce} {n e : Int} (h : Sl w v zs) (he : Ce.get zs = (c, n, e)) :
    Calls Try.prog 51 #[v] w fun r w' => r = .returned (.tuple #[.agg (cv c), .int .i64 n, .int .i64 e]) ∧ Below w.heap.size w w' := by
  have := read_cell v zs w h
  rw [he] at this
  exact this
end Go.Proofs.Ytlefhhmggaaiiaa
