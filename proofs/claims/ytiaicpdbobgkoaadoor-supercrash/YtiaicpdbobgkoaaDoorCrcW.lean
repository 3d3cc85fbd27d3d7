/-
  Contracts of the functions of package crc, each over the translated program.
-/
import Derived.Test.YtiaicpdbobgkoaaDoorRows
import Derived.Test.YtiaicpdbobgkoaaDoorCrcA
import Derived.Test.YtiaicpdbobgkoaaDoorBas
import Derived.Lib.LaidTab
import Derived.Lib.SlBytesConst
namespace Go.Proofs.YtiaicpdbobgkoaaDoor
open Go.RowKit

/-- The table of four bits is there. -/
def Tab (w : World) : Prop := ∀ k, k < 16 → w.cell? ⟨0, k, none⟩ = some (.int .u32 (Cr.tab.getD k 0))
theorem Tab.later {w w' : World} (h : Tab w) (hb : Below w.heap.size w w') : Tab w' := fun k hk => by
  rw [hb.cell (p := ⟨0, k, none⟩) (cell_lt (h k hk)), h k hk]

theorem u32_signed : IntKind.u32.signed = false := rfl
theorem u32_max : IntKind.u32.max = 4294967295 := rfl
theorem x32 (a b : Nat) (ha : a < 4294967296) (hb : b < 4294967296) : bits .xor .u32 (a : Int) (b : Int) = ((a ^^^ b : Nat) : Int) := u32_xor_nat a b ha hb
theorem not32 (a : Nat) (ha : a < 4294967296) : bits .xor .u32 4294967295 (a : Int) = ((4294967295 ^^^ a : Nat) : Int) := u32_xor_nat 4294967295 a (by decide) ha

theorem st_odd (r : Nat) (hr : r < 4294967296) (h : r % 2 = 1) : bits .xor .u32 ((r : Int) / 2) 3988292384 = ((Cr.st r : Nat) : Int) := by
  have e : ((r : Int) / 2) = ((r / 2 : Nat) : Int) := by omega
  rw [e]
  unfold Cr.st
  rw [if_pos h]
  exact x32 _ 3988292384 (by omega) (by decide)
theorem st_even (r : Nat) (h : ¬ r % 2 = 1) : ((Cr.st r : Nat) : Int) = (r : Int) / 2 := by
  unfold Cr.st
  rw [if_neg h]
  omega

/-- Half a byte, as the walk spells it. -/
theorem half_step (x : Nat) (hx : x < 4294967296) : ∃ m t : Nat, m < 16 ∧ t < 4294967296 ∧ bits .and .u32 (x : Int) 15 = (m : Int) ∧ Cr.tab.getD m 0 = (t : Int) ∧
    bits .xor .u32 ((x : Int) / 16) (t : Int) = ((Cr.st4 x : Nat) : Int) := by
  have hm : x % 16 < 16 := Nat.mod_lt _ (by decide)
  have ht := Cr.tab_small (x % 16) hm
  have hlt : Cr.st4 (x % 16) < 4294967296 := Cr.st4_lt (by omega)
  refine ⟨x % 16, Cr.st4 (x % 16), hm, hlt, ?_, ht, ?_⟩
  · have := u32_and_nat x 15 hx (by decide)
    rw [nat_mask4] at this
    exact this
  · have e : ((x : Int) / 16) = ((x / 16 : Nat) : Int) := by omega
    rw [e, x32 _ _ (by omega) hlt, Cr.st4_tab x, ht]
    rfl

set_option maxHeartbeats 400000 in
theorem more_any (s : Nat) (v : Value) (zs : List Int) (w : World) (h : Sl w v zs) (hs : s < 4294967296) (ht : Tab w) :
    Calls Tryd.prog 44 #[.int .u32 (s : Int), v] w fun e w' => e = .returned (.int .u32 ((Cr.more s zs : Nat) : Int)) ∧ w' = w := by
  obtain ⟨a, cap, rfl, hl, hm, hbd, hc⟩ := h
  unfold maxLen at hm
  have HC := hide hc
  have HB := hide hbd
  have HT := hide ht
  clear hc hbd ht
  have hsg := u32_signed
  have hmx := u32_max
  have hn := not32 s hs
  have hn1 := Cr.x_lt (show 4294967295 < 4294967296 by decide) hs
  have HE : Hid (Cr.more s zs = 4294967295 ^^^ Cr.run (4294967295 ^^^ s) zs) := by show _ = _; rfl
  generalize 4294967295 ^^^ s = s' at *
  go_enter Tryd.func44, Tryd.ntmps44
  go_wp2_with fail
  go_loop [5, 12] (fun u i => ∃ (k r : Nat), k ≤ zs.length ∧ i = .int .i64 k ∧ u = .int .u32 (r : Int) ∧ r < 4294967296 ∧ Hid (Cr.run s' zs = Cr.run r (zs.drop k))) (fun _ i => zs.length - (intOf i).toNat)
  case atStart => exact ⟨0, s', Nat.zero_le _, rfl, rfl, hn1, by show _ = _; simp⟩
  case round =>
    obtain ⟨k, r, hk, rfl, rfl, hr, he⟩ := hrel
    by_cases hlt : k < zs.length
    · obtain ⟨b, off, rfl, hcell⟩ := HC.out k hlt
      have hcb := HB.out (zs.getD k 0) (by rw [getD_at hlt]; exact List.getElem_mem hlt)
      have hdr : zs.drop k = zs.getD k 0 :: zs.drop (k + 1) := by rw [getD_at hlt]; exact List.drop_eq_getElem_cons hlt
      have HD := hide hdr
      generalize zs.getD k 0 = c at *
      clear hdr HC HB
      obtain ⟨c, rfl⟩ : ∃ c' : Nat, c = (c' : Int) := ⟨c.toNat, by omega⟩
      have hx := x32 r c hr (by omega)
      have hx1 : r ^^^ c < 4294967296 := Cr.x_lt hr (by omega)
      have HF : Hid (Cr.run s' zs = Cr.run (Cr.st4 (Cr.st4 (r ^^^ c))) (zs.drop (k + 1))) := by
        show _ = _
        rw [he.out, HD.out]
        rfl
      generalize r ^^^ c = x at *
      obtain ⟨m, t, hm1, ht1, ha1, htb1, hy1⟩ := half_step x hx1
      have hc1 := HT.out m hm1
      rw [htb1] at hc1
      have hy2 := Cr.st4_lt hx1
      generalize Cr.st4 x = y at *
      obtain ⟨m', t', hm2, ht2, ha2, htb2, hz1⟩ := half_step y hy2
      have hc2 := HT.out m' hm2
      rw [htb2] at hc2
      have hz2 := Cr.st4_lt hy2
      generalize Cr.st4 y = z at *
      clear htb1 htb2
      go_wp2_with fail
      go_round
      case rel => exact ⟨k + 1, z, by omega, by go_num, rfl, hz2, HF⟩
      case measure => simp [intOf]; omega
    · have HF : Hid (Cr.more s zs = 4294967295 ^^^ r) := by
        show _ = _
        rw [HE.out, he.out, List.drop_eq_nil_of_le (by omega)]
        rfl
      have hq := not32 r hr
      go_wp2_with fail
      go_ret
      exact ⟨ret_int (by rw [HF.out]), rfl⟩

set_option maxHeartbeats 400000 in
theorem sum_any (v : Value) (zs : List Int) (w : World) (h : Sl w v zs) (ht : Tab w) :
    Calls Tryd.prog 40 #[v] w fun e w' => e = .returned (.int .u32 ((Cr.sum zs : Nat) : Int)) ∧ w' = w := by
  go_enter Tryd.func40, Tryd.ntmps40
  go_wp2_with fail
  refine (more_any 0 v zs w h (by decide) ht).mono ?_
  rintro e w1 ⟨rfl, rfl⟩
  go_wp2_with fail
  go_ret
  exact ⟨rfl, rfl⟩

end Go.Proofs.YtiaicpdbobgkoaaDoor
