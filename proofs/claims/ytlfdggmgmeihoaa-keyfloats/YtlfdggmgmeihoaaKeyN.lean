/-
  The contract of key.Mid over the translated program.
-/
import Derived.Test.YtlfdggmgmeihoaaKeyM
import Derived.Deep.QuietTactic
import Derived.BigQuiet
namespace Go.Proofs.Ytlfdggmgmeihoaa
open Go.RowKit

theorem below_dn {B : Nat} {a w : World} (h : Below B a w) (n : Nat) : Below B a (w.drewN n) := h.trans ⟨rfl, rfl, rfl, Nat.le_refl _, fun _ _ => rfl⟩

theorem mid_none {s t : ByteArray} (h : Op.bytesLess s.toList t.toList = false) : Ky.mid s t = ⟨#[]⟩ := by unfold Ky.mid; rw [if_neg (by rw [show Ky.bl s.toList t.toList = false from h]; simp)]
theorem mid_some {s t : ByteArray} (h : Op.bytesLess s.toList t.toList = true) : Ky.mid s t = t.extract 0 (Ky.cp s.toList t.toList + 1) := by unfold Ky.mid; rw [if_pos h]

theorem list_at (s : ByteArray) {k : Nat} (h : k < s.size) : s.toList.getD k 0 = s[k]'h := by
  have hd : k < s.data.size := h
  rw [ByteArray.toList_eq]
  simp [List.getD, Array.getElem?_eq_getElem hd, ByteArray.getElem_eq_getElem_data]
theorem at_same {s t : ByteArray} {k : Nat} (hs : k < s.size) (ht : k < t.size) (h : s.toList.getD k 0 = t.toList.getD k 0) : (((s[k]'hs).toNat : Int) == ((t[k]'ht).toNat : Int)) = true := by
  rw [list_at s hs, list_at t ht] at h
  rw [h]
  simp
theorem at_other {s t : ByteArray} {k : Nat} (hs : k < s.size) (ht : k < t.size) (h : s.toList.getD k 0 ≠ t.toList.getD k 0) : (((s[k]'hs).toNat : Int) == ((t[k]'ht).toNat : Int)) = false := by
  rw [list_at s hs, list_at t ht] at h
  have : (s[k]'hs).toNat ≠ (t[k]'ht).toNat := fun q => h (UInt8.toNat_inj.1 q)
  simp
  omega

set_option maxRecDepth 100000 in
set_option maxHeartbeats 1000000 in
theorem mid_any (s t : ByteArray) (w : World) (hs : s.size ≤ 100000) (ht : t.size ≤ 100000) :
    Calls Try.prog 22 #[.string s, .string t] w fun e w' => e = .returned (.string (Ky.mid s t)) ∧ Below w.heap.size w w' := by
  cases h1 : Op.bytesLess s.toList t.toList
  · have HM := hide (mid_none h1)
    go_enter Try.func22, Try.ntmps22
    go_wp2_with fail
    go_ret
    exact ⟨by rw [HM.out]; rfl, Below.refl _ _⟩
  · have HM := hide (mid_some h1)
    have HA := hide (Ky.cp_lt h1)
    have HC := hide (Ky.cp_le s.toList t.toList)
    rw [Ky.list_len] at HA HC
    go_enter Try.func22, Try.ntmps22
    go_wp2_with fail
    go_loopw [5] (fun i wr => ∃ k : Nat, k ≤ Ky.cp s.toList t.toList ∧ i = .int .i64 k ∧ Hid (Below w.heap.size w wr)) (fun i _ => Ky.cp s.toList t.toList - (intOf i).toNat)
    case atStart => exact ⟨0, by omega, rfl, hide (Below.refl _ _)⟩
    case round =>
      obtain ⟨k, hk, rfl, HBel⟩ := hrel
      by_cases hlt : k < Ky.cp s.toList t.toList
      · have ha : k < s.size := by have := HC.out; omega
        have hb : k < t.size := by have := HA.out; omega
        have hc := at_same ha hb (Ky.cp_same hlt)
        go_wp2_with fail
        go_quiet ((fail))
        go_wp2_with fail
        have HBel2 := hide (below_dn HBel.out nq)
        clear HBel
        go_roundw
        case rel => exact ⟨k + 1, by omega, by go_num, HBel2⟩
        case measure => simp [intOf]; omega
      · obtain rfl : k = Ky.cp s.toList t.toList := by omega
        have hb := HA.out
        have hsz : (t.extract 0 (Ky.cp s.toList t.toList + 1)).size ≤ 281474976710656 := by simp; omega
        have HSZ := hide hsz
        clear hsz hlt hk
        by_cases ha : Ky.cp s.toList t.toList < s.size
        · have hc := at_other ha hb (Ky.cp_other (by rw [Ky.list_len]; exact ha) (by rw [Ky.list_len]; exact hb))
          generalize Ky.cp s.toList t.toList = k at *
          go_wp2_with fail
          go_quiet ((fail))
          go_wp2_with fail
          refine (clone_any _ _ HSZ.out).mono ?_
          rintro e x ⟨rfl, hb2⟩
          have HBel2 := hide ((below_dn HBel.out nq).trans (hb2.mono HBel.out.size))
          clear HBel hb2
          go_wp2_with fail
          go_ret
          exact ⟨by rw [HM.out]; rfl, HBel2.out⟩
        · have hc : decide ((Ky.cp s.toList t.toList : Int) < (s.size : Int)) = false := decide_eq_false (by omega)
          generalize Ky.cp s.toList t.toList = k at *
          go_wp2_with fail
          go_quiet ((fail))
          go_wp2_with fail
          refine (clone_any _ _ HSZ.out).mono ?_
          rintro e x ⟨rfl, hb2⟩
          have HBel2 := hide ((below_dn HBel.out nq).trans (hb2.mono HBel.out.size))
          clear HBel hb2
          go_wp2_with fail
          go_ret
          exact ⟨by rw [HM.out]; rfl, HBel2.out⟩
end Go.Proofs.Ytlfdggmgmeihoaa
