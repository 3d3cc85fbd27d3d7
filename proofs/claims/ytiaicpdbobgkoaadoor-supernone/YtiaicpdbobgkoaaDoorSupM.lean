/-
  A block of bytes in memory; contracts of super.put, super.get, super.has.
-/
import Derived.Test.YtiaicpdbobgkoaaDoorRows
import Derived.Test.YtiaicpdbobgkoaaDoorSupA
import Derived.Test.YtiaicpdbobgkoaaDoorCrcW
import Derived.Test.YtiaicpdbobgkoaaDoorDevF
namespace Go.Proofs.YtiaicpdbobgkoaaDoor
open Go.RowKit Go.Maps
set_option linter.unusedVariables false

/-- A block of bytes. -/
def Bk (w : World) (g : Nat) (zs : List Int) : Prop := w.heap[g]? = some (.cells (bv zs).toArray 5 (0, 0))

theorem Bk.lt {w : World} {g : Nat} {zs : List Int} (h : Bk w g zs) : g < w.heap.size := blk_lt h
theorem Bk.cell {w : World} {g : Nat} {zs : List Int} (h : Bk w g zs) {i : Nat} (hi : i < zs.length) : w.cell? ⟨g, i, none⟩ = some (.int .u8 (zs.getD i 0)) :=
  cell_blk h (by simp [bv, List.getD, List.getElem?_eq_getElem hi])
theorem Bk.but {w w' : World} {g : Nat} {zs : List Int} {S : Nat → Prop} (h : Bk w g zs) (hb : But S w w') (hs : ¬ S g) : Bk w' g zs := (hb.block g h.lt hs).trans h
theorem Bk.later {w w' : World} {g : Nat} {zs : List Int} (h : Bk w g zs) (hb : Below w.heap.size w w') : Bk w' g zs := (hb.block g h.lt).trans h
theorem Bk.set {w : World} {g : Nat} {zs : List Int} (h : Bk w g zs) (i : Nat) (z : Int) : Bk (w.setCell ⟨g, i, none⟩ (.int .u8 z)) g (zs.set i z) := by
  unfold Bk at h ⊢
  rw [heap_setCell_same h, ← bv_set, List.setIfInBounds_toArray]
theorem Bk.sl {w : World} {g : Nat} {zs : List Int} (h : Bk w g zs) {off n cap : Nat} (hn : off + n ≤ zs.length) (hc : n ≤ cap) (hm : cap ≤ 1000) (hz : ∀ z ∈ zs, 0 ≤ z ∧ z ≤ 255) : Sl w (.slice (some ⟨g, off, none⟩) n cap) ((zs.drop off).take n) := by
  have hlen : ((zs.drop off).take n).length = n := by simp; omega
  refine ⟨_, cap, by rw [hlen], by rw [hlen]; exact hc, by unfold maxLen; omega, fun z hz' => hz z (List.mem_of_mem_drop (List.mem_of_mem_take hz')), fun i hi => ⟨g, off, rfl, ?_⟩⟩
  rw [hlen] at hi
  rw [h.cell (i := off + i) (by omega)]
  simp [List.getD, List.getElem?_take_of_lt hi, List.getElem?_drop]

/-- Where b's bytes are put. -/
def laidAt (zs : List Int) (off n x : Nat) : List Int := zs.take off ++ Fl.ben n x ++ zs.drop (off + n)

set_option maxHeartbeats 1000000 in
theorem put_any {w : World} {g : Nat} {zs : List Int} (h : Bk w g zs) {off n cap : Nat} (hn : off + n ≤ zs.length) (h8 : n ≤ 8) (hc : n ≤ cap) (hcap : cap ≤ 1000) (hz : zs.length ≤ 1000) (x : Nat) (hx : x < 18446744073709551616) :
    Calls Tryd.prog 39 #[.slice (some ⟨g, off, none⟩) n cap, .int .u64 (x : Int)] w fun e w' => e = .returned (.tuple #[]) ∧ Bk w' g (laidAt zs off n x) ∧ But (· = g) w w' := by
  have H := hide h
  clear h
  go_enter Tryd.func39, Tryd.ntmps39
  go_wp2_with fail
  go_loopw [7] (fun i wr => ∃ k : Nat, k ≤ n ∧ i = .int .i64 k ∧ Hid (Bk wr g (zs.take (off + n - k) ++ Fl.ben k x ++ zs.drop (off + n))) ∧ Hid (But (· = g) w wr)) (fun i _ => n - (RowKit.intOf i).toNat)
  case atStart => exact ⟨0, by omega, rfl, by show Bk _ _ _; simpa [Fl.ben] using H.out, But.refl _ _⟩
  case round =>
    obtain ⟨k, hk, rfl, HK, HB⟩ := hrel
    by_cases hlt : k < n
    · obtain ⟨j, hj⟩ : ∃ j, n = k + 1 + j := ⟨n - (k + 1), by omega⟩
      have hji : (n : Int) - 1 - (k : Int) = (j : Int) := by omega
      have hl : (zs.take (off + n - k) ++ Fl.ben k x ++ zs.drop (off + n)).length = zs.length := by simp [Fl.ben_len]; omega
      have hfr := frozen_blk (off + j) HK.out
      have hce := HK.out.cell (i := off + j) (by rw [hl]; omega)
      have HS : Hid (Bk (wr.setCell ⟨g, off + j, none⟩ (.int .u8 ((x : Int) / 2 ^ (8 * k) % 256))) g (zs.take (off + n - (k + 1)) ++ Fl.ben (k + 1) x ++ zs.drop (off + n))) := by
        have := HK.out.set (off + j) ((x : Int) / 2 ^ (8 * k) % 256)
        rw [← Sp.byte_at x k (by omega)] at this ⊢
        rw [show off + n - k = (off + j) + 1 by omega, List.append_assoc, Sp.set_take _ _ _ _ (by omega)] at this
        rw [show off + n - (k + 1) = off + j by omega, Fl.ben, List.append_assoc]
        exact this
      have HB2 : Hid (But (· = g) w (wr.setCell ⟨g, off + j, none⟩ (.int .u8 ((x : Int) / 2 ^ (8 * k) % 256)))) := HB.out.setCell (.inl rfl) _
      have hk8 : k < 8 := by omega
      have hj8 : j < 8 := by omega
      generalize (zs.take (off + n - k) ++ Fl.ben k x ++ zs.drop (off + n)).getD (off + j) 0 = old at *
      clear hl HK HB
      go_wp2_with fail
      go_roundw
      case rel => exact ⟨k + 1, by omega, by go_num, HS, HB2⟩
      case measure => simp [RowKit.intOf]; omega
    · obtain rfl : k = n := by omega
      go_wp2_with fail
      go_end0
      refine ⟨rfl, ?_, HB.out⟩
      have := HK.out
      rw [Nat.add_sub_cancel] at this
      exact this

set_option maxHeartbeats 400000 in
theorem get_any {w : World} {v : Value} {zs : List Int} (h : Sl w v zs) (h8 : zs.length ≤ 8) :
    Calls Tryd.prog 34 #[v] w fun e w' => e = .returned (.int .u64 ((Fl.bn zs : Nat) : Int)) ∧ w' = w := by
  have HS := hide h
  have HB := hide h.bd
  obtain ⟨p, n, cp, rfl, hn, hc, Hn, -⟩ := h.opens
  have hn8 : n ≤ 8 := by rw [Hn.out]; exact h8
  clear h h8
  go_enter Tryd.func34, Tryd.ntmps34
  go_wp2_with fail
  go_loop [3, 8] (fun u i => ∃ (k t : Nat), k ≤ n ∧ i = .int .i64 k ∧ u = .int .u64 (t : Int) ∧ Hid (t = Fl.bn (zs.take k))) (fun _ i => n - (RowKit.intOf i).toNat)
  case atStart => exact ⟨0, 0, by omega, rfl, rfl, by show _ = _; simp [Fl.bn]⟩
  case round =>
    obtain ⟨k, t, hk, rfl, rfl, HT⟩ := hrel
    by_cases hlt : k < n
    · obtain ⟨b, off, rfl, hcell, hz0, hz1⟩ := HS.out.cell (i := k) hlt
      have ht : t < 72057594037927936 := by
        have h1 := Fl.bn_lt (zs.take k) (fun z hz => HB.out z (List.mem_of_mem_take hz))
        rw [← HT.out] at h1
        have h2 : (zs.take k).length ≤ 7 := by simp; omega
        have h3 := Nat.pow_le_pow_right (show 256 > 0 by decide) h2
        omega
      have HN : Hid (t * 256 + (zs.getD k 0).toNat = Fl.bn (zs.take (k + 1))) := by
        show _ = _
        have hkl : k < zs.length := by rw [← Hn.out]; exact hlt
        rw [List.take_succ_eq_append_getElem hkl, Fl.bn_snoc, ← HT.out, getD_at hkl]
      obtain ⟨c, hc⟩ := Int.eq_ofNat_of_zero_le hz0
      rw [hc] at hcell hz1 HN
      rw [Int.toNat_natCast] at HN
      have hor := Fl.or_byte t c ht (by omega)
      have hq : t * 256 + c < 18446744073709551616 := by omega
      generalize t * 256 + c = q at *
      clear hc hz0 HT
      go_wp2_with fail
      go_round
      case rel => exact ⟨k + 1, q, by omega, by go_num, rfl, HN⟩
      case measure => simp [RowKit.intOf]; omega
    · have HZ : Hid (t = Fl.bn zs) := by
        show _ = _
        rw [HT.out, List.take_of_length_le (by rw [← Hn.out]; omega)]
      clear HT
      go_wp2_with fail
      go_ret
      exact ⟨ret_int (by rw [HZ.out]), rfl⟩

set_option maxHeartbeats 400000 in
theorem shas_any {w : World} {g bl bm : Nat} {d : Dv} (h : DevAt w g bl bm d) (z : Int) :
    Calls Tryd.prog 21 #[.pointer (some ⟨g, 0, none⟩), .int .i64 z] w fun e w' => e = .returned (.bool (decide (0 ≤ z) && decide (z < (d.n : Int) - 1))) ∧ w' = w := by
  have hm := h.ok.most
  have H := hide h
  clear h
  cases h1 : decide (0 ≤ z)
  all_goals
    go_enter Tryd.func21, Tryd.ntmps21
    go_wp2_with (first | (with_reducible refine (len_any H.out).mono ?_; rintro e x ⟨rfl, rfl⟩))
    go_ret
    exact ⟨rfl, rfl⟩

theorem shas_nil (w : World) : Calls Tryd.prog 21 #[.pointer none, .int .i64 0] w fun e w' => e = .returned (.bool false) ∧ w' = w := by
  go_enter Tryd.func21, Tryd.ntmps21
  go_wp2_with (first | (with_reducible refine (len_nil _).mono ?_; rintro e x ⟨rfl, rfl⟩))
  go_ret
  exact ⟨rfl, rfl⟩

end Go.Proofs.YtiaicpdbobgkoaaDoor
