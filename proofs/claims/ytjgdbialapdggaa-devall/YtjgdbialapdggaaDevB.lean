/-
  What every law of package dev begins with.
-/
import Derived.Test.YtjgdbialapdggaaDevC
import Derived.Test.YtjgdbialapdggaaDevR
import Derived.Lib.SlBytesConst
namespace Go.Proofs.Ytjgdbialapdggaa
open Go.RowKit Go.Maps

theorem cell_blkF {w : World} {b k : Nat} {c : Array Value} {t : TypeId} {fr : Nat × Nat} {v : Value} (h : w.heap[b]? = some (.cells c t fr)) (hk : c[k]? = some v) : w.cell? ⟨b, k, none⟩ = some v := by simp [World.cell?, h, hk]

/-- Bytes that are written out. -/
theorem lit_sl (w : World) (t : TypeId) (fr : Nat × Nat) {zs : List Int} (hz : ∀ z ∈ zs, 0 ≤ z ∧ z ≤ 255) (hl : zs.length ≤ 1000) : Sl (w.alloc (.cells (bv zs).toArray t fr)) (.slice (some ⟨w.heap.size, 0, none⟩) zs.length zs.length) zs := by
  refine ⟨_, zs.length, rfl, Nat.le_refl _, by unfold maxLen; omega, hz, fun i hi => ⟨_, _, rfl, ?_⟩⟩
  exact cell_blkF (heap_alloc_last w _) (by simp [bv, List.getD, List.getElem?_eq_getElem hi])

/-- Bools that are written out. -/
theorem lit_rw (w : World) (t : TypeId) {vs : List Value} (hl : vs.length ≤ 1000) : Rw (w.alloc (.cells vs.toArray t)) (.slice (some ⟨w.heap.size, 0, none⟩) vs.length vs.length) vs := by
  refine ⟨_, vs.length, rfl, Nat.le_refl _, by unfold maxLen; omega, fun i hi => ⟨_, _, rfl, ?_⟩⟩
  exact cell_blk (heap_alloc_last w _) (by simp [List.getElem?_eq_getElem hi])

theorem new_lit (w : World) (z : Int) (n : Nat) (hz : z = (n : Int)) (hn1 : 1 ≤ n) (hn2 : n ≤ 2048) :
    Calls Try.prog 10 #[.int .i64 z] w fun e w' => ∃ g bl bm, e = .returned (.pointer (some ⟨g, 0, none⟩)) ∧ DevAt w' g bl bm (Dv.new n) ∧ w.heap.size ≤ g ∧ w.heap.size ≤ bl ∧ w.heap.size ≤ bm ∧ Below w.heap.size w w' := by
  subst hz
  exact new_any w n hn1 hn2

theorem write_lit {w : World} {g bl bm : Nat} {d : Dv} (h : DevAt w g bl bm d) (hd : d.dead = false) (hc : d.calls < 999999) {z : Int} {i : Nat} (hz : z = (i : Int)) (hi : i < d.n) {v : Value} {zs : List Int} (hv : Sl w v zs) (hl : zs.length ≤ 64) :
    Calls Try.prog 13 #[.pointer (some ⟨g, 0, none⟩), .int .i64 z, v] w fun e w' => e = .returned (.int .i64 0) ∧ DevAt w' g bl bm (d.write i zs) ∧ But (fun k => k = g ∨ k = bm) w w' := by
  subst hz
  exact write_any h hd hc hi hv hl

theorem read_lit {w : World} {g bl bm : Nat} {d : Dv} (h : DevAt w g bl bm d) {z : Int} {i : Nat} (hz : z = (i : Int)) (hi : i < d.n) :
    Calls Try.prog 21 #[.pointer (some ⟨g, 0, none⟩), .int .i64 z] w fun e w' => ∃ b, e = .returned (.tuple #[.slice (some ⟨b, 0, none⟩) 64 64, .int .i64 0]) ∧ Box w' b (d.at_ i) ∧ w.heap.size ≤ b ∧ Below w.heap.size w w' := by
  subst hz
  exact read_any h hi

theorem Box.cell {w : World} {b : Nat} {s : List Int} (h : Box w b s) (hs : Sec s) {i : Nat} (hi : i < 64) : w.cell? ⟨b, i, none⟩ = some (.int .u8 (s.getD i 0)) :=
  cell_blk h (by simp [cs, bv, List.getD, List.getElem?_eq_getElem (show i < s.length by rw [hs.1]; exact hi)])

def b1 : Dv := (Dv.new 3).write 1 [97, 98]
theorem b1_los : b1.los = [1] := by decide
theorem b1_calls : b1.calls = 1 := rfl
theorem b1_e : (b1.crash []).at_ 1 = nought := by decide
theorem b1_f : (b1.crash [true]).at_ 1 = over [97, 98] nought := by decide

set_option maxHeartbeats 2000000 in
theorem begun_any (w : World) : Calls Try.prog 9 #[] w fun e w' => e = .returned (.bool true) ∧ Below w.heap.size w w' := by
  have hcv : ∀ (W : World) (C : Array Value) (n c : Nat), _ := fun W C n c => Lib.run_convert_bytes_const (P := Try.prog) W 31 5 C n c Try.underlying31 Try.underlying5
  go_enter Try.func9, Try.ntmps9
  go_wp2_with fail
  refine (new_lit _ _ 3 rfl (by omega) (by omega)).mono ?_
  rintro e W1 ⟨g, bl, bm, rfl, h1, hg, hbl, hbm, hB1⟩
  have H1 := hide h1
  clear h1
  go_wp2_with fail
  refine (len_any H1.out).mono ?_
  rintro e W1 ⟨rfl, rfl⟩
  rw [show ((Dv.new 3).n : Int) = 3 from rfl]
  go_wp2_with fail
  refine (write_lit (H1.out.later ((Below.refl _ _).alloc (Nat.le_refl _) _)) rfl (by decide) (i := 1) rfl (by decide) (lit_sl _ _ _ (zs := [97, 98]) (by decide) (by decide)) (by decide)).mono ?_
  rintro e W2 ⟨rfl, h2, hb2⟩
  have H2 : Hid (DevAt W2 g bl bm b1) := h2
  have HB2 : Hid (Below w.heap.size w W2) := Below.but (hB1.trans (((Below.refl _ _).alloc (Nat.le_refl _) _).mono hB1.size)) (by have := hB1.size; simp; omega) hb2 (fun k e => by omega)
  clear h2 hb2 H1 hB1
  go_wp2_with fail
  refine (loose_any H2.out).mono ?_
  rw [b1_los]
  rintro e W3 ⟨lv, rfl, ho3, hB3⟩
  obtain ⟨-, h⟩ := ho3
  rcases h with ⟨-, h0⟩ | ⟨lg, lc, lcur, rfl, hlg, hlh, hl1, -, -, hl4⟩
  · simp at h0
  have hl0 : W3.cell? ⟨lg, 0, none⟩ = some (.int .i64 1) := by
    refine cell_blk hlh ?_
    have : (lcur.toList.take (1 * 1))[0]? = (li [1])[0]? := by rw [← hl4]; rfl
    rw [List.getElem?_take_of_lt (by omega)] at this
    simpa [li] using this
  have Hl0 := hide hl0
  have Hlg : Hid (W2.heap.size ≤ lg ∧ lg < W3.heap.size) := ⟨hlg, blk_lt hlh⟩
  have H3 := hide (H2.out.later hB3)
  have HB3 := hide (HB2.out.trans (hB3.mono HB2.out.size))
  have Hs2 := hide H2.out.lts
  clear hl0 hlh hl4 hlg hB3 HB2 H2 lcur
  go_wp2_with fail
  refine (crash_any H3.out (ks := []) (Rw.nil _)).mono ?_
  rintro e W4 ⟨g4, bl4, bm4, rfl, h4, hg4, hbl4, hbm4, hB4⟩
  have H4 := hide (H3.out.later hB4)
  have HE4 := hide h4
  have HB4 := hide (HB3.out.trans (hB4.mono HB3.out.size))
  have Hl4 : Hid (W4.cell? ⟨lg, 0, none⟩ = some (.int .i64 1)) := by show _ = _; rw [hB4.cell (p := ⟨lg, 0, none⟩) Hlg.out.2]; exact Hl0.out
  have Hs4 := hide hB4.size
  clear h4 hB4 H3 HB3 Hl0
  go_wp2_with fail
  have hBA : Below W4.heap.size W4 (W4.alloc (.cells #[.bool true] 4)) := (Below.refl _ _).alloc (Nat.le_refl _) _
  refine (crash_any (H4.out.later hBA) (ks := [true]) (lit_rw _ _ (vs := bo [true]) (by decide))).mono ?_
  rintro e W5 ⟨g5, bl5, bm5, rfl, h5, hg5, hbl5, hbm5, hB5⟩
  have hB45 : Below W4.heap.size W4 W5 := hBA.trans (hB5.mono hBA.size)
  have H5 := hide (H4.out.later hB45)
  have HE5 := hide (HE4.out.later hB45)
  have HF5 := hide h5
  have HB5 := hide (HB4.out.trans (hB45.mono HB4.out.size))
  have Hl5 : Hid (W5.cell? ⟨lg, 0, none⟩ = some (.int .i64 1)) := by show _ = _; rw [hB45.cell (p := ⟨lg, 0, none⟩) (Nat.lt_of_lt_of_le Hlg.out.2 Hs4.out)]; exact Hl4.out
  have Hs5 := hide hB45.size
  have Hg5 : Hid (W4.heap.size ≤ g5 ∧ W4.heap.size ≤ bl5 ∧ W4.heap.size ≤ bm5) := by simp at hg5 hbl5 hbm5; exact ⟨by omega, by omega, by omega⟩
  clear h5 hB5 hB45 hBA H4 HE4 HB4 Hl4 hg5 hbl5 hbm5
  go_wp2_with fail
  refine (read_lit HE5.out (i := 1) rfl (by decide)).mono ?_
  rintro e W6 ⟨b6, rfl, hx6, hb6, hB6⟩
  have H6 := hide (H5.out.later hB6)
  have HE6 := hide (HE5.out.later hB6)
  have HF6 := hide (HF5.out.later hB6)
  have HB6 := hide (HB5.out.trans (hB6.mono HB5.out.size))
  have Hs3 := hide HE5.out.lts
  have Hl6 : Hid (W6.cell? ⟨lg, 0, none⟩ = some (.int .i64 1)) := by show _ = _; rw [hB6.cell (p := ⟨lg, 0, none⟩) (Nat.lt_of_lt_of_le Hlg.out.2 (Nat.le_trans Hs4.out Hs5.out))]; exact Hl5.out
  have HX6 : Hid (Box W6 b6 nought) := by have := hx6; rw [b1_e] at this; exact this
  have Hs6 : Hid (W5.heap.size ≤ W6.heap.size ∧ W5.heap.size ≤ b6) := ⟨hB6.size, hb6⟩
  clear hx6 hb6 hB6 H5 HE5 HF5 HB5 Hl5
  go_wp2_with fail
  refine (read_lit HF6.out (i := 1) rfl (by decide)).mono ?_
  rintro e W7 ⟨b7, rfl, hx7, hb7, hB7⟩
  have H7 := hide (H6.out.later hB7)
  have HE7 := hide (HE6.out.later hB7)
  have HB7 := hide (HB6.out.trans (hB7.mono HB6.out.size))
  have hlg6 : lg < W6.heap.size := Nat.lt_of_lt_of_le Hlg.out.2 (Nat.le_trans Hs4.out (Nat.le_trans Hs5.out Hs6.out.1))
  have Hl7 : Hid (W7.cell? ⟨lg, 0, none⟩ = some (.int .i64 1)) := by show _ = _; rw [hB7.cell (p := ⟨lg, 0, none⟩) hlg6]; exact Hl6.out
  have HX7 := hide (HX6.out.later hB7)
  have HY7 : Hid (Box W7 b7 (over [97, 98] nought)) := by have := hx7; rw [b1_f] at this; exact this
  have Hs7 : Hid (W6.heap.size ≤ W7.heap.size ∧ W6.heap.size ≤ b7) := ⟨hB7.size, hb7⟩
  clear hx7 hb7 hB7 H6 HE6 HF6 HB6 Hl6 HX6 hlg6
  go_wp2_with fail
  refine (fuse_any H7.out 0 (by omega)).mono ?_
  rintro e W8 ⟨rfl, h8, hb8⟩
  have H8 := hide h8
  have hgs := Hs2.out
  have hs := Hlg.out
  have hs4 := Hs4.out
  have hs5 := Hs5.out
  have hs6 := Hs6.out
  have hs7 := Hs7.out
  have HB8 : Hid (Below w.heap.size w W8) := Below.but HB7.out HB7.out.size hb8 (fun k e => by omega)
  have HE8 : Hid (DevAt W8 g4 bl4 bm4 (b1.crash [])) := HE7.out.but hb8 (by omega) (by omega) (by omega)
  have hl8 : W8.cell? ⟨lg, 0, none⟩ = some (.int .i64 1) := by rw [hb8.cell (p := ⟨lg, 0, none⟩) (by show lg < _; omega) (by show ¬ lg = g; omega)]; exact Hl7.out
  have hx8 : W8.cell? ⟨b6, 0, none⟩ = some (.int .u8 0) := by rw [hb8.cell (p := ⟨b6, 0, none⟩) HX7.out.lt (by show ¬ b6 = g; omega)]; exact HX7.out.cell sec_nought (by omega)
  have hy8 : W8.cell? ⟨b7, 1, none⟩ = some (.int .u8 98) := by rw [hb8.cell (p := ⟨b7, 1, none⟩) HY7.out.lt (by show ¬ b7 = g; omega)]; exact HY7.out.cell (sec_nought.over (by decide) (by decide)) (by omega)
  clear h8 hb8 hgs hs hs4 hs5 hs6 hs7 H7 HE7 HB7 Hl7 HX7 HY7
  go_wp2_with fail
  refine (write_dead H8.out (by decide) 9 _).mono ?_
  rintro e W8 ⟨rfl, rfl⟩
  go_wp2_with fail
  refine (flush_dead H8.out (by decide)).mono ?_
  rintro e W8 ⟨rfl, rfl⟩
  go_wp2_with fail
  refine (calls_any H8.out).mono ?_
  rintro e W8 ⟨rfl, rfl⟩
  rw [show (((b1.fused 0).calls : Nat) : Int) = 1 from rfl]
  go_wp2_with fail
  refine (dead_any H8.out).mono ?_
  rintro e W8 ⟨rfl, rfl⟩
  rw [show (b1.fused 0).dead = true by decide]
  go_wp2_with fail
  refine (dead_any HE8.out).mono ?_
  rintro e W8 ⟨rfl, rfl⟩
  rw [show (b1.crash []).dead = false by decide]
  go_wp2_with fail
  go_ret
  exact ⟨rfl, HB8.out⟩
end Go.Proofs.Ytjgdbialapdggaa
