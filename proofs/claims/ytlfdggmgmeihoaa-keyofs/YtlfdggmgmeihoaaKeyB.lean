/-
  The helper of the laws of package key: 'begun' returns true and writes nothing that was there.
-/
import Derived.Test.YtlfdggmgmeihoaaKeyN
namespace Go.Proofs.Ytlfdggmgmeihoaa
open Go.RowKit

theorem kf_f : Ky.kf (sb ⟨#[102]⟩) = (0, false) := by decide
theorem kf_of {x : Nat} (hx : x < 18446744073709551616) : Ky.kf (sb (strOfNums (Ky.key x))) = (Fl.cl x, true) := by rw [sb_nums _ (Ky.key_bd x), Ky.kf_key hx]
theorem of_size (x : Nat) : (strOfNums (Ky.key x)).size = 9 := by
  rw [← Ky.key_len x, ← sb_nums _ (Ky.key_bd x), sb_len]
  rw [sb_nums _ (Ky.key_bd x)]
theorem in_1 : inb ⟨#[98]⟩ ⟨#[97]⟩ ⟨#[99]⟩ = true := by unfold inb; simp only [ByteArray.toList_eq]; decide
theorem in_2 : inb ⟨#[99]⟩ ⟨#[97]⟩ ⟨#[99]⟩ = false := by unfold inb; simp only [ByteArray.toList_eq]; decide
theorem in_3 : inb ⟨#[122]⟩ ⟨#[]⟩ ⟨#[]⟩ = true := by unfold inb; simp only [ByteArray.toList_eq]; decide
theorem mid_1 : Ky.mid ⟨#[97, 98, 99]⟩ ⟨#[97, 98, 101]⟩ = ⟨#[97, 98, 101]⟩ := by unfold Ky.mid; simp only [ByteArray.toList_eq]; decide
theorem mid_2 : Ky.mid ⟨#[97]⟩ ⟨#[99, 122]⟩ = ⟨#[99]⟩ := by unfold Ky.mid; simp only [ByteArray.toList_eq]; decide

set_option maxRecDepth 100000 in
set_option maxHeartbeats 2000000 in
theorem begun_any (w : World) :
    Calls Try.prog 9 #[] w fun e w' => e = .returned (.bool true) ∧ Below w.heap.size w w' := by
  have hsz := of_size
  have HSZ := hide hsz
  go_enter Try.func9, Try.ntmps9
  go_wp2_with fail
  refine (kof_any 4609434218613702656 _ (by decide)).mono ?_
  rintro e x ⟨rfl, hB⟩
  go_wp2_with fail
  refine (float_any _ _ (by rw [of_size]; decide)).mono ?_
  rintro e x ⟨rfl, hb⟩
  rw [kf_of (by decide), Fl.cl_not (by decide)]
  replace hB := hB.trans (hb.mono hB.size)
  clear hb
  go_wp2_with fail
  refine (float_any ⟨#[102]⟩ _ (by decide)).mono ?_
  rintro e x ⟨rfl, hb⟩
  rw [kf_f]
  replace hB := hB.trans (hb.mono hB.size)
  clear hb
  go_wp2_with fail
  with_reducible refine (kmay_any ⟨#[97]⟩ _ (by decide)).mono ?_
  rintro e x ⟨rfl, rfl⟩
  go_wp2_with fail
  with_reducible refine (kmay_any ⟨#[]⟩ _ (by decide)).mono ?_
  rintro e x ⟨rfl, rfl⟩
  go_wp2_with fail
  refine (kof_any 0 _ (by decide)).mono ?_
  rintro e x ⟨rfl, hb⟩
  replace hB := hB.trans (hb.mono hB.size)
  clear hb
  go_wp2_with fail
  with_reducible refine (in_any ⟨#[98]⟩ ⟨#[97]⟩ ⟨#[99]⟩ _).mono ?_
  rintro e x ⟨rfl, rfl⟩
  rw [in_1]
  go_wp2_with fail
  with_reducible refine (in_any ⟨#[99]⟩ ⟨#[97]⟩ ⟨#[99]⟩ _).mono ?_
  rintro e x ⟨rfl, rfl⟩
  rw [in_2]
  go_wp2_with fail
  with_reducible refine (in_any ⟨#[122]⟩ ⟨#[]⟩ ⟨#[]⟩ _).mono ?_
  rintro e x ⟨rfl, rfl⟩
  rw [in_3]
  go_wp2_with fail
  refine (mid_any ⟨#[97, 98, 99]⟩ ⟨#[97, 98, 101]⟩ _ (by decide) (by decide)).mono ?_
  rintro e x ⟨rfl, hb⟩
  rw [mid_1]
  replace hB := hB.trans (hb.mono hB.size)
  clear hb
  go_wp2_with fail
  refine (mid_any ⟨#[97]⟩ ⟨#[99, 122]⟩ _ (by decide) (by decide)).mono ?_
  rintro e x ⟨rfl, hb⟩
  rw [mid_2]
  replace hB := hB.trans (hb.mono hB.size)
  clear hb
  go_wp2_with fail
  go_ret
  exact ⟨rfl, hB⟩
end Go.Proofs.Ytlfdggmgmeihoaa
