/-
  What every law of package sheet begins with.
-/
import Derived.Test.YthihldepedbppaaShtG
namespace Go.Proofs.Ythihldepedbppaa
set_option maxRecDepth 100000
set_option linter.unusedVariables false
open Go.RowKit
set_option linter.unusedVariables false

/-- The begun sheet. -/
def bga : List Int := pad [97]
def bgm : Nat → Option (List Int) := put1 (put1 (fun _ => none) 5 bga) 6 zer
theorem bga_pg : Pg bga := pad_pg (by decide)
theorem bgm_chs : chs bgm (bookF 0 fun _ => none) 96 = [(5, bga)] := by decide +kernel
theorem bgm_5 (f : Nat → Option (List Int)) : orE bgm f 5 = some bga := rfl
theorem bga_0 : bga.getD 0 0 = 97 := rfl
theorem zer_0 : zer.getD 0 0 = 0 := rfl
theorem book_5 : bookF 0 (fun _ => none) 5 = some zer := rfl

theorem set_lit {w : World} {g : Nat} {u : Value} {m : Nat → Option (List Int)} {vs : List Value} (h : Sheet w g u m vs) {z : Int} {no : Nat} (hn : z = (no : Int)) (hno : no < 96) {v : Value} {zs : List Int} (hv : Sl w v zs) (hz : Pg zs) :
    Calls Try.prog 12 #[.pointer (some ⟨g, 0, none⟩), .int .i64 z, v] w fun e w' => e = .returned (.int .i64 0) ∧ ∃ vs', Sheet w' g u (put1 m no zs) vs' ∧ But (· = g) w w' := by
  subst hn
  exact set_any h no hno hv hz
theorem page_lit {w : World} {g : Nat} {u : Value} {m f : Nat → Option (List Int)} {vs : List Value} (h : Sheet w g u m vs) (hs : Src w u f) {z : Int} {no : Nat} (hn : z = (no : Int)) (hno : no < 96) :
    Calls Try.prog 13 #[.pointer (some ⟨g, 0, none⟩), .int .i64 z] w fun e w' => Rep w w' e (orE m f no) := by
  subst hn
  exact page_any h hs no hno
theorem bpage_lit {w : World} {g : Nat} {bad : Int} {m : Nat → Option (List Int)} {vs : List Value} (h : Book w g bad m vs) {z : Int} {no : Nat} (hn : z = (no : Int)) (hno : no < 96) :
    Calls Try.prog 14 #[.pointer (some ⟨g, 0, none⟩), .int .i64 z] w fun e w' => Rep w w' e (bookF bad m no) := by
  subst hn
  exact bpage_any h no hno
theorem must_lit {w : World} {g : Nat} {u : Value} {m f : Nat → Option (List Int)} {vs : List Value} (h : Sheet w g u m vs) (hs : Src w u f) {z : Int} {no : Nat} (hn : z = (no : Int)) (hno : no < 96) {zs : List Int} (hz : orE m f no = some zs) :
    Calls Try.prog 17 #[.pointer (some ⟨g, 0, none⟩), .int .i64 z] w fun e w' => ∃ v, e = .returned v ∧ w'.ownsRow w.heap.size 5 1 v 256 (bv zs) ∧ Pg zs ∧ Below w.heap.size w w' := by
  subst hn
  exact must_any h hs no hno hz

theorem say_one {L : List Im} {n : Nat} {z : List Int} (h : say L = [(n, z)]) : ∃ x : Im, L = [x] ∧ x.n = n ∧ x.z = z := by
  match L, h with
  | [x], h => simp [say] at h; exact ⟨x, rfl, h.1, h.2⟩
  | [], h => simp [say] at h
  | _ :: _ :: _, h => simp [say] at h
theorem igs_one {w : World} {base : Nat} {v : Value} {x : Im} (h : Igs w base v [x]) : ∃ b c, v = .slice (some ⟨b, 0, none⟩) 1 c ∧ 1 ≤ c ∧ c ≤ 9223372036854775807 ∧ w.cell? ⟨b, 0, none⟩ = some (.int .i64 x.n) := by
  have h1 := h.1
  rcases h1.2 with ⟨-, h0⟩ | ⟨g, cap, cur, rfl, hb, hh, h1', h2, h3, h4⟩
  · simp at h0
  · refine ⟨g, cap, rfl, h1', by unfold maxLen at h2; omega, ?_⟩
    have := h1.cellAt 0 (by simp)
    rw [this]
    rfl

set_option maxRecDepth 100000 in
set_option maxHeartbeats 4000000 in
theorem begun_any (w : World) : Calls Try.prog 9 #[] w fun e w' => e = .returned (.bool true) ∧ Below w.heap.size w w' := by
  have hcv : ∀ (W : World) (C : Array Value) (n c : Nat), _ := fun W C n c => Lib.run_convert_bytes_const (P := Try.prog) W 22 5 C n c Try.underlying22 Try.underlying5
  obtain ⟨i0, hi, hz0, hz1, hz2⟩ := info_parts Try.info5
  have HN : Hid ((madeCells (Value.int IntKind.u8 0).cells (256 * 1)).toList = bv zer) := made_noughts 256
  have HK1 := hide (Book.new w 0)
  have HB1 := hide (below_alloc w (.cells (bkz 0).toArray 28))
  have HR := hide (run_buildB w)
  generalize hq : bkz 0 = q at *
  go_enter Try.func9, Try.ntmps9
  go_wp2_with (first
    | (refine wpList_build0T 28 q rfl rfl HR.out ?_)
    | (refine wpList_boxT 28 _ q rfl rfl rfl ?_))
  generalize hW1 : w.alloc (.cells q.toArray 28) = W1 at *
  refine (new_any _ _ _).mono ?_
  rintro e W2 ⟨rfl, hs, hb⟩
  obtain ⟨gs, hgs⟩ : ∃ gs, gs = W1.heap.size := ⟨_, rfl⟩
  rw [← hgs] at hs ⊢
  have hgl : w.heap.size ≤ gs := by rw [hgs]; exact HB1.out.size
  have HS2 := hide hs
  have HK2 := hide (HK1.out.later hb)
  have HB2 := hide (HB1.out.trans (hb.mono HB1.out.size))
  clear hs hb HB1 HK1 HR hW1 hgs
  go_wp2_with fail
  refine (pof_any (lit_sl _ _ _ (zs := [97]) (by decide) (by decide))).mono ?_
  rintro e W3 ⟨b3, rfl, hp3, hl3, hb⟩
  have hb3 : Below W2.heap.size W2 W3 := (below_alloc _ _).trans (hb.mono (below_alloc W2 _).size)
  have HP3 := hide ((tb_own hp3 bga_pg (Nat.zero_le _)))
  have HS3 := hide (HS2.out.later hb3)
  have HK3 := hide (HK2.out.later hb3)
  have HB3 := hide (HB2.out.trans (hb3.mono HB2.out.size))
  clear hp3 hl3 hb hb3 HS2 HK2 HB2
  go_wp2_with fail
  refine (set_lit HS3.out (no := 5) rfl (by omega) (Sl.own HP3.out bga_pg.2) bga_pg).mono ?_
  rintro e W4 ⟨rfl, vs4, hs4, hb4⟩
  have HK4 := hide (HK3.out.beside HS3.out hb4)
  have HS4 := hide hs4
  have HB4 : Hid (Below w.heap.size w W4) := Below.but HB3.out HB3.out.size hb4 (fun k e => by omega)
  clear hs4 hb4 HS3 HK3 HB3 HP3
  go_wp2_with (first
    | (at_make; refine wpList_make_full _ rfl _ _ 22 rfl W4.heap.size 5 i0 (.int .u8 0) 1 Try.underlying22 hi hz0 hz1 _ _ _ _ 256 rfl rfl rfl rfl (by rw [hz2]; omega) (by unfold maxLen; omega) (Nat.le_refl _) ?_; intro W5 ho1 hg1; have HO5 := hide ho1; have HB5 := hide (below_new hg1); clear ho1 hg1))
  have HS5 := hide (HS4.out.later HB5.out)
  have HK5 := hide (HK4.out.later HB5.out)
  have HI5 := hide (HB4.out.trans (HB5.out.mono HB4.out.size))
  have hv5 := HO5.out
  rw [HN.out] at hv5
  refine (set_lit HS5.out (no := 6) rfl (by omega) (Sl.own hv5 zer_bd) zer_pg).mono ?_
  rintro e W6 ⟨rfl, vs6, hs6, hb6⟩
  have HK6 := hide (HK5.out.beside HS5.out hb6)
  have HS6 : Hid (Sheet W6 gs _ bgm vs6) := hs6
  have HB6 : Hid (Below w.heap.size w W6) := Below.but HI5.out HI5.out.size hb6 (fun k e => by omega)
  clear hs6 hb6 HS4 HK4 HB4 HB5 HO5 hv5 HS5 HK5 HI5
  go_wp2_with fail
  refine (page_lit HS6.out HK6.out.src (no := 5) rfl (by omega)).mono ?_
  rw [bgm_5]
  rintro e W7 ⟨v7, rfl, ho7, -, hb⟩
  obtain ⟨b7, c7, rfl, -, hc7, hd7, hf7⟩ := own_first ho7
  have HA7 : Hid (∀ W, Below W7.heap.size W7 W → W.cell? ⟨b7, 0, none⟩ = some (.int .u8 97)) := fun W hW => by
    have := hf7 0 (by omega)
    rw [hW.cell (p := ⟨b7, 0, none⟩) (cell_lt this), this, bga_0]
  have HS7 := hide (HS6.out.later hb)
  have HK7 := hide (HK6.out.later hb)
  have HB7 := hide (HB6.out.trans (hb.mono HB6.out.size))
  clear ho7 hf7 hb HS6 HK6 HB6
  go_wp2_with fail
  refine (bpage_lit HK7.out (no := 5) rfl (by omega)).mono ?_
  rw [book_5]
  rintro e W8 ⟨v8, rfl, ho8, -, hb⟩
  obtain ⟨b8, c8, rfl, -, hc8, hd8, hf8⟩ := own_first ho8
  have HA8 : Hid (∀ W, Below W8.heap.size W8 W → W.cell? ⟨b7, 0, none⟩ = some (.int .u8 97) ∧ W.cell? ⟨b8, 0, none⟩ = some (.int .u8 0)) := fun W hW => by
    have := hf8 0 (by omega)
    exact ⟨HA7.out W (hb.trans (hW.mono hb.size)), by rw [hW.cell (p := ⟨b8, 0, none⟩) (cell_lt this), this, zer_0]⟩
  have HS8 := hide (HS7.out.later hb)
  have HK8 := hide (HK7.out.later hb)
  have HB8 := hide (HB7.out.trans (hb.mono HB7.out.size))
  clear ho8 hf8 hb HS7 HK7 HB7 HA7
  go_wp2_with fail
  refine (changes_any HS8.out HK8.out.src).mono ?_
  rw [bgm_chs]
  rintro e W9 ⟨v9, L, rfl, hL, hsay, hb⟩
  obtain ⟨x9, rfl, hx9, -⟩ := say_one hsay
  obtain ⟨b9, c9, rfl, hc9, hd9, hf9⟩ := igs_one hL
  rw [hx9] at hf9
  have HA9 : Hid (∀ W, Below W9.heap.size W9 W → W.cell? ⟨b7, 0, none⟩ = some (.int .u8 97) ∧ W.cell? ⟨b8, 0, none⟩ = some (.int .u8 0) ∧ W.cell? ⟨b9, 0, none⟩ = some (.int .i64 5)) := fun W hW => by
    have h8 := HA8.out W (hb.trans (hW.mono hb.size))
    exact ⟨h8.1, h8.2, (hW.cell (p := ⟨b9, 0, none⟩) (cell_lt hf9)).trans hf9⟩
  have HS9 := hide (HS8.out.later hb)
  have HK9 := hide (HK8.out.later hb)
  have HB9 := hide (HB8.out.trans (hb.mono HB8.out.size))
  obtain ⟨a1, a2, a3⟩ := HA9.out W9 (Below.refl _ _)
  clear hL hsay hb HS8 HK8 HB8 HA8 hf9 hx9 HA9
  go_wp2_with fail
  refine (set_form (zs := []) (Sl.nil _) (by decide)).mono ?_
  rintro e W10 ⟨rfl, rfl⟩
  clear a1 a2 a3
  go_wp2_with fail
  refine (must_lit HS9.out HK9.out.src (no := 5) rfl (by omega) (bgm_5 _)).mono ?_
  rintro e W11 ⟨v11, rfl, ho, -, hb⟩
  obtain ⟨b11, c11, rfl, -, hc11, hd11, hf11⟩ := own_first ho
  have h11 := hf11 0 (by omega)
  rw [bga_0] at h11
  have HB11 := hide (HB9.out.trans (hb.mono HB9.out.size))
  clear ho hf11 hb HS9 HK9 HB9
  go_wp2_with fail
  go_ret
  exact ⟨rfl, HB11.out⟩
end Go.Proofs.Ythihldepedbppaa
