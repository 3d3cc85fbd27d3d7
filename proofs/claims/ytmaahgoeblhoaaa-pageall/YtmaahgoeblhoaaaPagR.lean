/-
  Contracts of package page: Write that is refused, Read.
-/
import Derived.Test.YtmaahgoeblhoaaaPagW
import Derived.Test.YtmaahgoeblhoaaaDevB
namespace Go.Proofs.Ytmaahgoeblhoaaa
open Go.RowKit Go.Maps
set_option linter.unusedVariables false

set_option maxHeartbeats 400000 in
theorem pwrite_form {w : World} {q : Option Addr} {z : Int} {v : Value} {zs : List Int} (hv : Sl w v zs) (hl : zs.length ≠ 256) :
    Calls Try.prog 9 #[.pointer q, .int .i64 z, v] w fun e w' => e = .returned (.int .i64 1) ∧ w' = w := by
  obtain ⟨p, n, cp, rfl, hnc, hcp, Hn, HV⟩ := hv.opens
  have hn : ¬ n = 256 := by rw [Hn.out]; exact hl
  have h1 : ((n : Int) != 256) = true := by simp; omega
  clear hv hl
  go_enter Try.func9, Try.ntmps9
  go_wp2_with fail
  go_ret
  exact ⟨rfl, rfl⟩

set_option maxHeartbeats 400000 in
theorem pwrite_out {w : World} {q : Option Addr} {z : Int} (hz : ¬ (0 ≤ z ∧ z < 96)) {v : Value} {zs : List Int} (hv : Sl w v zs) (hl : zs.length = 256) :
    Calls Try.prog 9 #[.pointer q, .int .i64 z, v] w fun e w' => e = .returned (.int .i64 3) ∧ w' = w := by
  obtain ⟨p, n, cp, rfl, hnc, hcp, Hn, HV⟩ := hv.opens
  obtain rfl : n = 256 := by rw [Hn.out, hl]
  have hp1 : (decide (0 ≤ z) && decide (z < 96)) = false := by simp; omega
  clear hv hl hz
  go_enter Try.func9, Try.ntmps9
  go_wp2_with (first
    | (with_reducible refine (pis_any _ _).mono ?_; rintro e w ⟨rfl, rfl⟩; rw [hp1]))
  go_ret
  exact ⟨rfl, rfl⟩

set_option maxHeartbeats 400000 in
theorem pread_out {w : World} {q : Option Addr} {z : Int} (hz : ¬ (0 ≤ z ∧ z < 96)) :
    Calls Try.prog 11 #[.pointer q, .int .i64 z] w fun e w' => e = .returned (.tuple #[.slice none 0 0, .int .i64 3]) ∧ w' = w := by
  have hp1 : (decide (0 ≤ z) && decide (z < 96)) = false := by simp; omega
  clear hz
  go_enter Try.func11, Try.ntmps11
  go_wp2_with (first
    | (with_reducible refine (pis_any _ _).mono ?_; rintro e w ⟨rfl, rfl⟩; rw [hp1]))
  go_ret2
  exact ⟨rfl, rfl⟩

set_option maxHeartbeats 1000000 in
theorem pread_nil {w : World} (no : Nat) (hno : no < 96) :
    Calls Try.prog 11 #[.pointer none, .int .i64 (no : Int)] w fun e w' => e = .returned (.tuple #[.slice none 0 0, .int .i64 5]) ∧ Below w.heap.size w w' := by
  obtain ⟨i0, hi, hz0, hz1, hz2⟩ := info_parts Try.info5
  have hp1 : (decide (0 ≤ (no : Int)) && decide ((no : Int) < 96)) = true := by simp; omega
  have hq : (0 : Int) < 4 := by omega
  go_enter Try.func11, Try.ntmps11
  go_wp2_with (first
    | (with_reducible refine (pis_any _ _).mono ?_; rintro e w ⟨rfl, rfl⟩; rw [hp1])
    | (at_make; refine wpList_make_own _ rfl _ _ 23 rfl w.heap.size 5 i0 (.int .u8 0) 1 Try.underlying23 hi hz0 hz1 _ _ _ 256 rfl rfl rfl (by rw [hz2]; omega) (by unfold maxLen; omega) (Nat.le_refl _) ?_; intro W1 ho1 hg1; have hB1 := hide (below_new hg1); clear ho1 hg1))
  go_loopw [14] (fun i wr => i = .int .i64 0 ∧ wr = W1) (fun _ _ => 0)
  case atStart => exact ⟨rfl, rfl⟩
  case round =>
    obtain ⟨rfl, rfl⟩ := hrel
    go_wp2_with (first
      | (with_reducible refine (place_any _ no hno).mono ?_; rintro e w ⟨rfl, rfl⟩)
      | (with_reducible refine (read_nil _ _).mono ?_; rintro e w ⟨rfl, rfl⟩))
    go_ret2
    exact ⟨rfl, hB1.out⟩

set_option maxRecDepth 100000 in
set_option maxHeartbeats 1000000 in
theorem pread_any {w : World} {g bl bm : Nat} {d : Dv} (h : DevAt w g bl bm d) (no : Nat) (hno : no < 96) (hr : 2 + 4 * no + 4 ≤ d.n) :
    Calls Try.prog 11 #[.pointer (some ⟨g, 0, none⟩), .int .i64 (no : Int)] w fun e w' => ∃ b cp, e = .returned (.tuple #[.slice (some ⟨b, 0, none⟩) 256 cp, .int .i64 0]) ∧ Sl w' (.slice (some ⟨b, 0, none⟩) 256 cp) (d.pr (2 + 4 * no) 4) ∧ w.heap.size ≤ b ∧ Below w.heap.size w w' := by
  obtain ⟨i0, hi, hz0, hz1, hz2⟩ := info_parts Try.info5
  have H := hide h
  have hok := hide h.ok
  have hp1 : (decide (0 ≤ (no : Int)) && decide ((no : Int) < 96)) = true := by simp; omega
  clear h
  go_enter Try.func11, Try.ntmps11
  go_wp2_with (first
    | (with_reducible refine (pis_any _ _).mono ?_; rintro e w ⟨rfl, rfl⟩; rw [hp1])
    | (at_make; refine wpList_make_own _ rfl _ _ 23 rfl w.heap.size 5 i0 (.int .u8 0) 1 Try.underlying23 hi hz0 hz1 _ _ _ 256 rfl rfl rfl (by rw [hz2]; omega) (by unfold maxLen; omega) (Nat.le_refl _) ?_; intro W1 ho1 hg1; have hB1 := hide (below_new hg1); have HO := hide ho1; clear ho1 hg1))
  go_loopw [6, 14] (fun v i wr => ∃ k : Nat, k ≤ 4 ∧ i = .int .i64 k ∧ Hid (wr.ownsRow w.heap.size 5 1 v (k * 64) (bv (d.pr (2 + 4 * no) k))) ∧ Hid (Below w.heap.size w wr)) (fun _ i _ => 4 - (RowKit.intOf i).toNat)
  case atStart => exact ⟨0, by omega, rfl, HO, hB1⟩
  case round =>
    obtain ⟨k, hk, rfl, HR, HB⟩ := hrel
    clear HO hB1
    by_cases hlt : k < 4
    · obtain ⟨J, hJ⟩ : ∃ J, J = 2 + 4 * no + k := ⟨_, rfl⟩
      have HJ := hide hJ
      have hJn : J < d.n := by omega
      have HD := hide (H.out.later HB.out)
      clear hJ
      have HL : Hid ((d.at_ J).length = 64) := (hok.out.at_ hJn).1
      have HP : Hid (d.pr (2 + 4 * no) (k + 1) = d.pr (2 + 4 * no) k ++ d.at_ J) := by rw [HJ.out]; rfl
      go_wp2_with (first
        | (with_reducible refine (place_any _ no hno).mono ?_; rintro e wr ⟨rfl, rfl⟩)
        | (with_reducible refine (read_lit HD.out (i := J) (by have := HJ.out; omega) hJn).mono ?_; rintro e W2 ⟨b, rfl, hx2, hb2, hB2⟩; have HX := hide (hx2.sl (hok.out.at_ hJn)); have HB2 := hide hB2; have HR2 := hide (own_but HR.out (.of hB2) (fun _ _ h => h)); clear hx2 hb2 hB2)
        | (at_builtin; refine wpList_append_sl rfl (.tmp 29) (.tmp 30) 23 rfl w.heap.size 5 Try.underlying23 Try.info5 _ (k * 64) _ rfl HR2.out _ _ rfl HX.out (by rw [HL.out]; omega) (Nat.le_trans HB.out.size HB2.out.size) ?_; intro v3 W3 ho3 hg3))
      have hB2 := HB.out.trans (HB2.out.mono HB.out.size)
      have HB3 : Hid (Below w.heap.size w W3) := hB2.grown hg3 hB2.size (fun j hj => by
        rcases HR2.out.2 with ⟨e, _⟩ | ⟨g', _, _, e, hg', _⟩
        · have hj' : u6.ownBlock = some j := hj
          rw [e] at hj'
          cases hj'
        · have hj' : u6.ownBlock = some j := hj
          rw [e] at hj'
          cases hj'
          exact hg')
      have HO3 : Hid (W3.ownsRow w.heap.size 5 1 v3 ((k + 1) * 64) (bv (d.pr (2 + 4 * no) (k + 1)))) := by
        show World.ownsRow _ _ _ _ _ _ _
        rw [HP.out, show (k + 1) * 64 = k * 64 + (d.at_ J).length by rw [HL.out]; omega]
        exact ho3
      go_roundw
      case rel => exact ⟨k + 1, by omega, by go_num, HO3, HB3⟩
      case measure => simp [RowKit.intOf]; omega
    · obtain rfl : k = 4 := by omega
      have hs := Sl.own HR.out (Dv.pr_bd hok.out hr)
      rcases HR.out.2 with ⟨-, h0⟩ | ⟨b, cp, cur, rfl, hb, -⟩
      · omega
      · go_wp2_with fail
        go_ret2
        exact ⟨b, cp, rfl, hs, hb, HB.out⟩
end Go.Proofs.Ytmaahgoeblhoaaa
