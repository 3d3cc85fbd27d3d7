/-
  What every law of package page begins with; a device of the law's own.
-/
import Derived.Test.YtmaahgoeblhoaaaPagR
import Derived.Test.YtmaahgoeblhoaaaDevL
namespace Go.Proofs.Ytmaahgoeblhoaaa
open Go.RowKit Go.Maps
set_option linter.unusedVariables false

theorem below_alloc (w : World) (o : Obj) : Below w.heap.size w (w.alloc o) := (Below.refl _ _).alloc (Nat.le_refl _) _

/-- A device of the law's own, none of its blocks below B. -/
structure Pn (B : Nat) (w W : World) (g bl bm : Nat) (d : Dv) : Prop where
  dev : DevAt W g bl bm d
  bel : Below B w W
  big : B ≤ W.heap.size
  lo : B ≤ g ∧ B ≤ bl ∧ B ≤ bm

theorem Pn.later {B : Nat} {w W W' : World} {g bl bm : Nat} {d : Dv} (h : Pn B w W g bl bm d) (hb : Below W.heap.size W W') : Pn B w W' g bl bm d :=
  ⟨h.dev.later hb, h.bel.trans (hb.mono h.big), Nat.le_trans h.big hb.size, h.lo⟩
theorem Pn.drew {B : Nat} {w W : World} {g bl bm : Nat} {d : Dv} (h : Pn B w W g bl bm d) : Pn B w W.drew g bl bm d := h.later (Below.refl _ _).drew
theorem Pn.next {B : Nat} {w W W' : World} {g bl bm : Nat} {d d' : Dv} (h : Pn B w W g bl bm d) (hd : DevAt W' g bl bm d') (hb : But (fun k => k = g ∨ k = bm) W W') : Pn B w W' g bl bm d' :=
  ⟨hd, Below.but h.bel h.big hb (fun k e => by have := h.lo; omega), Nat.le_trans h.big hb.size, h.lo⟩

theorem Pn.beside {B : Nat} {w W W' : World} {g bl bm : Nat} {d : Dv} {S : Nat → Prop} (h : Pn B w W g bl bm d) (hb : But S W W') (hs : ∀ k, S k → B ≤ k) (h1 : ¬ S g) (h2 : ¬ S bl) (h3 : ¬ S bm) : Pn B w W' g bl bm d :=
  ⟨h.dev.but hb h1 h2 h3, Below.but h.bel h.big hb hs, Nat.le_trans h.big hb.size, h.lo⟩

theorem new_pn {B : Nat} {w W : World} (hb : Below B w W) (hB : B ≤ W.heap.size) {z : Int} (n : Nat) (hz : z = (n : Int)) (h1 : 1 ≤ n) (h2 : n ≤ 2048) :
    Calls Try.prog 7 #[.int .i64 z] W fun e W' => ∃ g bl bm, e = .returned (.pointer (some ⟨g, 0, none⟩)) ∧ Pn B w W' g bl bm (Dv.new n) ∧ Below W.heap.size W W' := by
  refine (new_lit W z n hz h1 h2).mono ?_
  rintro e W' ⟨g, bl, bm, rfl, hd, l1, l2, l3, hb'⟩
  exact ⟨g, bl, bm, rfl, ⟨hd, hb.trans (hb'.mono hB), Nat.le_trans hB hb'.size, by omega⟩, hb'⟩

/-- A Write on a device without a fuse. -/
theorem pwrite_pn {B : Nat} {w W : World} {g bl bm : Nat} {d : Dv} (h : Pn B w W g bl bm d) (hd : d.fuse = none) (hc : d.calls < 900000) {z : Int} (no : Nat) (hz : z = (no : Int)) (hno : no < 96) (hr : 2 + 4 * no + 4 ≤ d.n) {v : Value} {zs : List Int} (hv : Sl W v zs) (hl : zs.length = 256) :
    Calls Try.prog 9 #[.pointer (some ⟨g, 0, none⟩), .int .i64 z, v] W fun e W' => e = .returned (.int .i64 0) ∧ Pn B w W' g bl bm (d.pw (2 + 4 * no) zs 4) ∧ But (fun k => k = g ∨ k = bm) W W' := by
  subst hz
  refine (pwrite_any h.dev hc no hno hr hv hl).mono ?_
  rintro e W' ⟨m, er, rfl, hp, hd', hb⟩
  have hm : m = 4 := by
    rcases Nat.lt_or_ge m 4 with hm | hm
    · have := (hp.down hm).2
      simp [Dv.dead, Dv.pw_fuse, hd] at this
    · have := hp.le
      omega
  subst hm
  rw [hp.all rfl]
  exact ⟨rfl, h.next hd' hb, hb⟩

theorem pread_pn {B : Nat} {w W : World} {g bl bm : Nat} {d : Dv} (h : Pn B w W g bl bm d) {z : Int} (no : Nat) (hz : z = (no : Int)) (hno : no < 96) (hr : 2 + 4 * no + 4 ≤ d.n) :
    Calls Try.prog 11 #[.pointer (some ⟨g, 0, none⟩), .int .i64 z] W fun e W' => ∃ b cp, e = .returned (.tuple #[.slice (some ⟨b, 0, none⟩) 256 cp, .int .i64 0]) ∧ Sl W' (.slice (some ⟨b, 0, none⟩) 256 cp) (d.pr (2 + 4 * no) 4) ∧ W.heap.size ≤ b ∧ Below W.heap.size W W' := by
  subst hz
  exact pread_any h.dev no hno hr

theorem Bk.page {w : World} {b : Nat} {zs : List Int} (h : Bk w b zs) (hl : zs.length = 256) (hz : ∀ z ∈ zs, 0 ≤ z ∧ z ≤ 255) : Sl w (.slice (some ⟨b, 0, none⟩) 256 256) zs := by
  have := h.sl (off := 0) (n := 256) (cap := 256) (by omega) (by omega) (by omega) hz
  rw [List.drop_zero, List.take_of_length_le (by omega)] at this
  exact this

/-- The begun device. -/
def pbz : List Int := pad [97, 98, 99]
def pbd : Dv := (Dv.new 1410).pw 14 pbz 4

theorem pbz_bd : ∀ z ∈ pbz, 0 ≤ z ∧ z ≤ 255 := pad_bd (by decide)
theorem pbz_two : pbz.getD 2 0 = 99 := rfl
theorem pbz_one : (Dv.chunk pbz 0).getD 0 0 = 97 := rfl
theorem pbd_los : pbd.los.length = 4 := by decide +kernel

theorem pbd_pr : pbd.pr 14 4 = pbz := Dv.pr_same (Dv.new_ok (by omega) (by omega)) (pad_len _) (by show 14 + 4 ≤ 1410; omega)
theorem pbd_at : pbd.at_ 14 = Dv.chunk pbz 0 := by
  rw [pbd, Dv.pw_at (zs := pbz) (Dv.new_ok (by omega) (by omega)) (pad_len _) (by omega) (by show 14 + 4 ≤ 1410; omega), if_pos (by omega)]

set_option maxRecDepth 100000 in
set_option maxHeartbeats 2000000 in
theorem begun_any (w : World) : Calls Try.prog 6 #[] w fun e w' => e = .returned (.bool true) ∧ Below w.heap.size w w' := by
  have hcv : ∀ (W : World) (C : Array Value) (n c : Nat), _ := fun W C n c => Lib.run_convert_bytes_const (P := Try.prog) W 23 5 C n c Try.underlying23 Try.underlying5
  go_enter Try.func6, Try.ntmps6
  go_wp2_with fail
  refine (new_pn (Below.refl _ w) (Nat.le_refl _) 1410 rfl (by omega) (by omega)).mono ?_
  rintro e W1 ⟨g, bl, bm, rfl, h1, -⟩
  have H1 := hide h1
  clear h1
  go_wp2_with fail
  refine (pof_any (lit_sl _ _ _ (zs := [97, 98, 99]) (by decide) (by decide))).mono ?_
  rintro e W2 ⟨b, rfl, hb2, hl2, hB2⟩
  have H2 := hide (H1.out.later (((Below.refl _ _).alloc (Nat.le_refl _) _).trans (hB2.mono (by simp))))
  have HK2 := hide hb2
  clear hb2 hl2 hB2 H1
  go_wp2_with fail
  refine (pwrite_pn H2.out rfl (by decide) 3 rfl (by omega) (by show 2 + 4 * 3 + 4 ≤ 1410; omega) (zs := pbz) (by have := HK2.out.sl (off := 0) (n := 256) (cap := 256) (by rw [pad_len]; omega) (by omega) (by omega) pbz_bd; rw [List.drop_zero, List.take_of_length_le (by rw [pad_len]; omega)] at this; exact this) (pad_len _)).mono ?_
  rintro e W3 ⟨rfl, h3, -⟩
  have H3 : Hid (Pn w.heap.size w W3 g bl bm pbd) := h3
  clear h3 H2 HK2
  go_wp2_with fail
  refine (pread_pn H3.out 3 rfl (by omega) (by show 2 + 4 * 3 + 4 ≤ 1410; omega)).mono ?_
  rintro e W4 ⟨b4, c4, rfl, hs4, hb4, hB4⟩
  have H4 := hide (H3.out.later hB4)
  have HS4 : Hid (Sl W4 (.slice (some ⟨b4, 0, none⟩) 256 c4) pbz) := by have := hs4; rw [show 2 + 4 * 3 = 14 from rfl, pbd_pr] at this; exact this
  clear hs4 hb4 hB4 H3
  go_wp2_with fail
  refine (read_lit H4.out.dev (i := 14) rfl (by show 14 < 1410; omega)).mono ?_
  rintro e W5 ⟨b5, rfl, hx5, hb5, hB5⟩
  have H5 := hide (H4.out.later hB5)
  have HS5 := hide (HS4.out.later hB5)
  have HX5 : Hid (W5.cell? ⟨b5, 0, none⟩ = some (.int .u8 97)) := by
    have := hx5.cell (H4.out.dev.ok.at_ (by show 14 < 1410; omega)) (i := 0) (by omega)
    rw [pbd_at, pbz_one] at this
    exact this
  clear hx5 hb5 hB5 H4 HS4
  go_wp2_with fail
  refine (pread_out (by omega)).mono ?_
  rintro e W5 ⟨rfl, rfl⟩
  have c5 := HX5.out
  obtain ⟨bb, oo, he, c4', -, -⟩ := HS5.out.cell (i := 2) (by omega)
  simp only [Option.some.injEq, Addr.mk.injEq, and_true] at he
  obtain ⟨rfl, rfl⟩ := he
  rw [pbz_two, Nat.zero_add] at c4'
  obtain ⟨-, hc4, hc5⟩ := HS5.out.lens
  clear HX5 HS5
  go_wp2_with fail
  refine (loose_any H5.out.dev).mono ?_
  rintro e W6 ⟨lv, rfl, ho6, hB6⟩
  rw [pbd_los] at ho6
  have HB := hide (H5.out.later hB6).bel
  obtain ⟨-, h⟩ := ho6
  rcases h with ⟨-, h0⟩ | ⟨lg, lc, lcur, rfl, hlg, hlh, hl1, hl2, -, -⟩
  · omega
  unfold maxLen at hl2
  clear hlh hlg hB6 H5
  go_wp2_with fail
  go_ret
  exact ⟨rfl, HB.out⟩
end Go.Proofs.Ytmaahgoeblhoaaa
