/-
  P8.1: two texts side by side on one device do not touch one another, nor what stands beside them.
-/
import Derived.Test.YtiaicpdbobgkoaaDoorCards
import Derived.Test.YtiaicpdbobgkoaaDoorTie
import Derived.WalkKit
import Derived.ProofKit
import Derived.OpenShut
import Derived.ShutString
import Derived.ChangeOld
import Derived.Below
import Derived.Deep.DeepHandedRow
import Derived.Lib.LaidTab
import Derived.Test.YtiaicpdbobgkoaaDoorSupB
import Derived.Test.YtiaicpdbobgkoaaDoorCrcT
import Derived.Test.YtiaicpdbobgkoaaDoorOpn
import Derived.Test.YtiaicpdbobgkoaaDoorSho
namespace Go.Proofs.YtiaicpdbobgkoaaDoor.superTwo
open Go.ChangeShapes Go.WideShapes Go.ChangeAt Go.RowKit
open Go.ChangeMaps (open_string shut_string)
set_option linter.unusedVariables false

theorem own : ownKnob Tryd.prog.godebug = none := by kernel_rfl
theorem laidOut : laidOutB Tryd.prog = true := by kernel_rfl

/-- What stands beside the two texts. -/
def ded : Dv := ((Dv.new 6).write 0 [108, 101, 102, 116]).write 5 [114, 105, 103, 104, 116]
theorem ded_ok : ded.Ok := Dv.write_ok (Dv.write_ok (Dv.new_ok (by omega) (by omega)) (by decide) (by decide) (by decide) (by decide)) (by decide) (by decide) (by decide) (by decide)
theorem ded_0 : ded.at_ 0 = over [108, 101, 102, 116] nought := by decide
theorem ded_5 : ded.at_ 5 = over [114, 105, 103, 104, 116] nought := by decide

/-- Both texts, and what stands beside them. -/
structure Both (d : Dv) (na ta : Nat) (A : List Int) (nb tb : Nat) (B : List Int) : Prop where
  one : Hold d 1 na ta A
  two : Hold d 3 nb tb B
  still : Still d
  fuse : d.fuse = none
  n : d.n = 6
  left : d.at_ 0 = over [108, 101, 102, 116] nought
  right : d.at_ 5 = over [114, 105, 103, 104, 116] nought

theorem both_made {A B : List Int} (hA : Sp.Fits 1 A) (hB : Sp.Fits 1 B) (ok : (mk2 ded 1 A).Ok) : Both (mk2 (mk2 ded 1 A) 3 B) 0 1 A 0 1 B := by
  have h1 := mk2_hold ded_ok (by decide) (at_ := 1) (by decide) hA
  have at1 := mk2_at ded_ok (by decide) (at_ := 1) (by decide) hA
  have hc : (mk2 ded 1 A).calls < 900000 := by rw [mk2_calls]; decide
  have at2 := mk2_at ok hc (at_ := 3) (show 3 + 1 < 6 by omega) hB
  refine ⟨h1.of rfl (by rw [at2, if_neg (by omega)]) (by rw [at2, if_neg (by omega)]), mk2_hold ok hc (show 3 + 1 < 6 by omega) hB, mk2_still _ _ _, mk2_fuse (mk2_fuse rfl _ _) _ _, rfl, ?_, ?_⟩
  · rw [at2, if_neg (by omega), at1, if_neg (by omega), ded_0]
  · rw [at2, if_neg (by omega), at1, if_neg (by omega), ded_5]

theorem Both.save1 {d : Dv} {na ta nb tb : Nat} {A B : List Int} (h : Both d na ta A nb tb B) (ok : d.Ok) (ht : ta < 1000000) : Both (sv1 d 1 na ta A) (1 - na) (ta + 1) A nb tb B := by
  have hf : Sp.Fits (ta + 1) A := ⟨by omega, by omega, h.one.fits.len, h.one.fits.bd⟩
  have at1 := sv1_at ok (now := na) h.one.room hf
  have hs := h.one.side
  exact ⟨h.one.save ok hf, h.two.of rfl (by rw [at1, if_neg (by omega)]) (by rw [at1, if_neg (by omega)]), sv1_still _ _ _ _ _, sv1_fuse h.fuse _ _ _ _, h.n, by rw [at1, if_neg (by omega), h.left], by rw [at1, if_neg (by omega), h.right]⟩

theorem Both.save2 {d : Dv} {na ta nb tb : Nat} {A B : List Int} (h : Both d na ta A nb tb B) (ok : d.Ok) (ht : tb < 1000000) : Both (sv1 d 3 nb tb B) na ta A (1 - nb) (tb + 1) B := by
  have hf : Sp.Fits (tb + 1) B := ⟨by omega, by omega, h.two.fits.len, h.two.fits.bd⟩
  have at1 := sv1_at ok (now := nb) h.two.room hf
  have hs := h.two.side
  exact ⟨h.one.of rfl (by rw [at1, if_neg (by omega)]) (by rw [at1, if_neg (by omega)]), h.two.save ok hf, sv1_still _ _ _ _ _, sv1_fuse h.fuse _ _ _ _, h.n, by rw [at1, if_neg (by omega), h.left], by rw [at1, if_neg (by omega), h.right]⟩

theorem Rw.at_ {w W : World} {a : Option Addr} {n cap : Nat} {ks : List Bool} (h : Rw w (.slice a n cap) (bo ks)) (hb : Below w.heap.size w W) {i : Nat} (hi : i < n) : ∃ b off r, a = some ⟨b, off, none⟩ ∧ W.cell? ⟨b, off + i, none⟩ = some (.bool r) := by
  have h' := h
  obtain ⟨a', cap', e, -, -, -⟩ := h
  simp at e
  obtain ⟨rfl, rfl, rfl⟩ := e
  obtain ⟨b, off, ea, hc⟩ := h'.cell (i := i) hi
  refine ⟨b, off, ks[i]'(by simpa [bo] using hi), ea, ?_⟩
  rw [World.cell?_of_block (hb.block _ (cell_lt hc)), hc]
  simp [bo]

set_option maxRecDepth 100000 in
set_option maxHeartbeats 4000000 in
theorem walk (a0 : Option Addr) (len0 cap0 : Nat) (z0 : List Int) (a1 : Option Addr) (len1 cap1 : Nat) (z1 : List Int) (a2 : Option Addr) (len2 cap2 : Nat) (z2 : List Bool) (w : World) (w0 : Sl w (.slice a0 len0 cap0) z0) (w1 : Sl w (.slice a1 len1 cap1) z1) (w2 : Rw w (.slice a2 len2 cap2) (bo z2)) (hT : Tab w) :
    Calls Tryd.prog 6 #[.slice a0 len0 cap0, .slice a1 len1 cap1, .slice a2 len2 cap2] w fun e w' => e = .returned (.bool true) ∧ Below w.heap.size w w' := by
  have hcv : ∀ (W : World) (C : Array Value) (n c : Nat), _ := fun W C n c => Lib.run_convert_bytes_const (P := Tryd.prog) W 30 5 C n c Tryd.underlying30 Tryd.underlying5
  obtain ⟨l0, hlc0, hcm0⟩ := w0.lens
  obtain ⟨l1, hlc1, hcm1⟩ := w1.lens
  obtain ⟨p2, n2, cp2, e2, hlc2, hcm2, -, -⟩ := w2.opens
  simp at e2
  obtain ⟨rfl, rfl, rfl⟩ := e2
  have H0 := hide w0
  have H1 := hide w1
  have H2 := hide w2
  have HT := hide hT
  have hpos := hT.pos
  have L0 := hide l0
  have L1 := hide l1
  clear w0 w1 w2 hT l0 l1
  go_enter Tryd.func6, Tryd.ntmps6
  go_wp2_with fail
  refine (begun_any _ HT.out).mono ?_
  rintro e x1 ⟨rfl, hB1⟩
  have HB1 := hide hB1
  have HT1 := hide (HT.out.later hB1)
  clear hB1 HT
  by_cases h40 : len0 ≤ 40
  case neg =>
    go_wp2_with fail
    go_ret
    exact ⟨rfl, HB1.out⟩
  by_cases h41 : len1 ≤ 40
  case neg =>
    go_wp2_with fail
    go_ret
    exact ⟨rfl, HB1.out⟩
  have HA1 : Hid (Sp.Fits 1 z0) := ⟨by omega, by omega, by rw [← L0.out]; exact h40, H0.out.bd⟩
  have HA2 : Hid (Sp.Fits 1 z1) := ⟨by omega, by omega, by rw [← L1.out]; exact h41, H1.out.bd⟩
  go_wp2_with fail
  refine (new_dn HB1.out HB1.out.size HT1.out hpos 6 rfl (by omega) (by omega)).mono ?_
  rintro e x2 ⟨g, bl, bm, rfl, h2, -, -⟩
  have D2 := hide h2
  clear h2 HB1 HT1
  go_wp2_with fail
  refine (write_dn (D2.out.later (below_alloc _ _)) rfl (by decide) 0 rfl (by decide) (lit_sl _ _ _ (zs := [108, 101, 102, 116]) (by decide) (by decide)) (by decide)).mono ?_
  rintro e x3 ⟨rfl, h3, -⟩
  have D3 := hide h3
  clear h3 D2
  go_wp2_with fail
  refine (write_dn (D3.out.later (below_alloc _ _)) rfl (by decide) 5 rfl (by decide) (lit_sl _ _ _ (zs := [114, 105, 103, 104, 116]) (by decide) (by decide)) (by decide)).mono ?_
  rintro e x4 ⟨rfl, h4, -⟩
  have D4 : Hid (Dn w.heap.size w x4 g bl bm ded) := h4
  clear h4 D3 hcv
  go_wp2_with fail
  refine (make_dn D4.out rfl (by decide) 1 rfl (by decide) (H0.out.later D4.out.bel) (by rw [← L0.out]; exact h40)).mono ?_
  rintro e x5 ⟨sa, bm5, rfl, hs5, h5, hsa, -⟩
  have D5 := hide h5
  have S5 := hide hs5
  have Hsa : Hid (w.heap.size ≤ sa) := Nat.le_trans D4.out.big hsa
  clear h5 hs5 hsa D4
  go_wp2_with fail
  refine (make_dn D5.out (mk2_fuse rfl _ _) (by rw [mk2_calls]; decide) 3 rfl (show 3 + 1 < 6 by omega) (H1.out.later D5.out.bel) (by rw [← L1.out]; exact h41)).mono ?_
  rintro e x6 ⟨sb, bm6, rfl, hs6, h6, hsb, hb6⟩
  have D6 := hide h6
  have S6 := hide (S5.out.kept D5.out.dev hb6)
  have T6 := hide hs6
  have Hsb : Hid (w.heap.size ≤ sb) := Nat.le_trans D5.out.big hsb
  have Hne : Hid (sa ≠ sb) := by have := S5.out.lt; show _ ≠ _; omega
  have B6 := hide (both_made HA1.out HA2.out D5.out.ok)
  have C6 : Hid ((mk2 (mk2 ded 1 z0) 3 z1).calls ≤ 8 + 2 * 0) := by show _ ≤ _; rw [mk2_calls, mk2_calls]; decide
  clear h6 hs6 hb6 hsb D5 S5
  generalize mk2 (mk2 ded 1 z0) 3 z1 = d6 at *
  go_wp2_with fail
  go_loopw [13, 14, 15] (fun s u i wr => ∃ (k ta tb na nb bm : Nat) (d : Dv), k ≤ len2 ∧ k ≤ 10 ∧ s = .int .i64 (ta : Int) ∧ u = .int .i64 (tb : Int) ∧ i = .int .i64 k ∧ ta ≤ 1 + k ∧ tb ≤ 1 + k ∧ Hid (Dn w.heap.size w wr g bl bm d) ∧ Hid (Su wr sa g 1 na ta z0) ∧ Hid (Su wr sb g 3 nb tb z1) ∧ Hid (Both d na ta z0 nb tb z1) ∧ Hid (d.calls ≤ 8 + 2 * k)) (fun _ _ i _ => 10 - (RowKit.intOf i).toNat)
  case atStart => exact ⟨0, 1, 1, 0, 0, bm6, _, by omega, by omega, rfl, rfl, rfl, by omega, by omega, D6, S6, T6, B6, C6⟩
  case round =>
    obtain ⟨k, ta, tb, na, nb, bm7, d, hk1, hk2, rfl, rfl, rfl, hta, htb, D7, S7, T7, B7, C7⟩ := hrel
    clear D6 S6 T6 B6 C6
    by_cases hk : k < len2 ∧ k < 10
    · obtain ⟨hkl, hk10⟩ := hk
      obtain ⟨b, off, r, rfl, hcell⟩ := Rw.at_ H2.out D7.out.bel hkl
      have hcal : Hid (d.calls < 900000) := by have := C7.out; show _ < _; omega
      cases r
      · go_wp2_with fail
        refine (save_free D7.out T7.out Hsb.out B7.out.fuse hcal.out B7.out.two.room B7.out.two.side (by omega) (H1.out.later D7.out.bel) (by rw [← L1.out]; exact h41)).mono ?_
        rintro e x8 ⟨rfl, bm8, h8, hs8, hb8⟩
        have D8 := hide h8
        have T8 := hide hs8
        have S8 := hide (S7.out.kept2 D7.out.dev Hne.out hb8)
        have B8 := hide (B7.out.save2 D7.out.ok (by omega))
        have C8 : Hid ((sv1 d 3 nb tb z1).calls ≤ 8 + 2 * (k + 1)) := by have := C7.out; show _ ≤ _; rw [sv1_calls]; omega
        clear h8 hs8 hb8 D7 S7 T7 B7 C7 hcal
        go_wp2_with fail
        go_roundw
        case rel => exact ⟨k + 1, ta, tb + 1, na, 1 - nb, bm8, _, by omega, by omega, rfl, by go_num, by go_num, by omega, by omega, D8, S8, T8, B8, C8⟩
        case measure => simp [RowKit.intOf]; omega
      · go_wp2_with fail
        refine (save_free D7.out S7.out Hsa.out B7.out.fuse hcal.out B7.out.one.room B7.out.one.side (by omega) (H0.out.later D7.out.bel) (by rw [← L0.out]; exact h40)).mono ?_
        rintro e x8 ⟨rfl, bm8, h8, hs8, hb8⟩
        have D8 := hide h8
        have S8 := hide hs8
        have T8 := hide (T7.out.kept2 D7.out.dev (fun e => Hne.out e.symm) hb8)
        have B8 := hide (B7.out.save1 D7.out.ok (by omega))
        have C8 : Hid ((sv1 d 1 na ta z0).calls ≤ 8 + 2 * (k + 1)) := by have := C7.out; show _ ≤ _; rw [sv1_calls]; omega
        clear h8 hs8 hb8 D7 S7 T7 B7 C7 hcal
        go_wp2_with fail
        go_roundw
        case rel => exact ⟨k + 1, ta + 1, tb, 1 - na, nb, bm8, _, by omega, by omega, by go_num, rfl, by go_num, by omega, by omega, D8, S8, T8, B8, C8⟩
        case measure => simp [RowKit.intOf]; omega
    · have hx : (¬ k < len2) ∨ (k < len2 ∧ ¬ k < 10) := by omega
      clear hk C7 S7 T7
      rcases hx with hx | ⟨hx, hx'⟩
      all_goals
        go_wp2_with fail
        refine (crash_dn D7.out (ks := []) (Rw.nil _)).mono ?_
        rintro e x8 ⟨g8, bl8, bm8, rfl, h8, -, -⟩
        have D8 := hide h8
        have O8 := hide (B7.out.one.crash B7.out.still [])
        have P8 := hide (B7.out.two.crash B7.out.still [])
        have N8 : Hid ((d.crash []).n = 6) := B7.out.n
        have E0 : Hid ((d.crash []).at_ 0 = over [108, 101, 102, 116] nought) := by show _ = _; rw [B7.out.still.crash, B7.out.left]
        have E5 : Hid ((d.crash []).at_ 5 = over [114, 105, 103, 104, 116] nought) := by show _ = _; rw [B7.out.still.crash, B7.out.right]
        clear h8 D7 B7 hx
        generalize d.crash [] = d8 at *
        go_wp2_with fail
        refine (open_dn D8.out O8.out rfl).mono ?_
        rintro e x9 ⟨sx, rfl, hs9, -, hB9⟩
        have D9 := hide (D8.out.later hB9)
        have X9 := hide hs9
        clear hs9 hB9 D8
        go_wp2_with fail
        refine (open_dn D9.out P8.out rfl).mono ?_
        rintro e x10 ⟨sy, rfl, hs10, -, hB10⟩
        have D10 := hide (D9.out.later hB10)
        have X10 := hide (X9.out.later hB10)
        have Y10 := hide hs10
        clear hs10 hB10 D9 X9
        go_wp2_with fail
        refine (read_at D10.out.dev (i := 0) rfl (by rw [N8.out]; omega)).mono ?_
        rw [E0.out]
        rintro e x11 ⟨rl, rfl, hx11, -, hB11⟩
        have D11 := hide (D10.out.later hB11)
        have X11 := hide (X10.out.later hB11)
        have Y11 := hide (Y10.out.later hB11)
        have L11 := hide hx11
        clear hx11 hB11 D10 X10 Y10
        go_wp2_with fail
        refine (read_at D11.out.dev (i := 5) rfl (by rw [N8.out]; omega)).mono ?_
        rw [E5.out]
        rintro e x12 ⟨rr, rfl, hx12, -, hB12⟩
        have hB := D11.out.bel.trans (hB12.mono D11.out.big)
        have hX := X11.out.later hB12
        have hY := Y11.out.later hB12
        have hL : Sl x12 (.slice (some ⟨rl, 0, none⟩) 4 64) [108, 101, 102, 116] := ((L11.out.later hB12).sl (sec_nought.over (by decide) (by decide))).head (m := 4) (by decide)
        have hR : Sl x12 (.slice (some ⟨rr, 0, none⟩) 5 64) [114, 105, 103, 104, 116] := (hx12.sl (sec_nought.over (by decide) (by decide))).head (m := 5) (by decide)
        have e4 : (strOfNums [108, 101, 102, 116]).toList = [108, 101, 102, 116] := by rw [Fl.str_list]; rfl
        have e5 : (strOfNums [114, 105, 103, 104, 116]).toList = [114, 105, 103, 104, 116] := by rw [Fl.str_list]; rfl
        have hA := H0.out.later hB
        have hC := H1.out.later hB
        have F1 := hide O8.out.fits
        have F2 := hide P8.out.fits
        clear hx12 hB12 D11 X11 Y11 L11 O8 P8 N8 E0 E5
        go_wp2_with fail
        refine wp_region_noPanic ?_
        refine wp_region_held_drew (S := fun W => Below x12.heap.size x12 W) (by kernel_rfl) ?_ (fun hHeld => ?_)
        · exact (Below.refl _ _).drew
        refine wpAnyH_take (i := 0) (v := ?_) rfl (by kernel_rfl) (by kernel_rfl) (by kernel_rfl) (fun _ _ _ h => h) (Or.inl ⟨by kernel_rfl, ?_⟩) hHeld ?_
        rotate_left
        · intro W hW; go_simp; first | done | with_reducible rfl
        try simp only [Act.put, List.getElem_toArray, List.getElem_cons_zero, List.setIfInBounds_toArray, List.set_cons_succ, List.set_cons_zero]
        refine wpAnyH_take (i := 3) (v := ?_) rfl (by kernel_rfl) (by kernel_rfl) (by kernel_rfl) (fun _ _ _ h => h) (Or.inl ⟨by kernel_rfl, ?_⟩) hHeld ?_
        rotate_left
        · intro W hW; go_simp; first | done | with_reducible rfl
        try simp only [Act.put, List.getElem_toArray, List.getElem_cons_zero, List.getElem_cons_succ, List.setIfInBounds_toArray, List.set_cons_succ, List.set_cons_zero]
        refine wpAnyH_take (i := 4) (v := .string (strOfNums (z0))) rfl (by kernel_rfl) (by kernel_rfl) (by kernel_rfl) (fun _ _ _ h => h) (Or.inl ⟨by kernel_rfl, ?_⟩) hHeld ?_
        · intro W hW; have hcv := (hA.later hW).conv (P := Tryd.prog) 30 9 5 Tryd.underlying30 Tryd.underlying5 Tryd.underlying9; go_simp
        try simp only [Act.put, List.getElem_toArray, List.getElem_cons_zero, List.getElem_cons_succ, List.setIfInBounds_toArray, List.set_cons_succ, List.set_cons_zero]
        refine wpAnyH_ready (rs := [1]) (by kernel_rfl) (by simp) ?_
        refine AllReadyH.cons (o := _) rfl (fun K hK => ?_) AllReadyH.nil
        go_simp
        refine (text_any (hX.later hHeld) F1.out).mono ?_
        rintro e xc ⟨v1, rfl, hv1, hb4⟩
        dsimp only
        refine hK.out _ _ ?_ (fun hHeld => ?_)
        · exact hHeld.trans (hb4.mono hHeld.size)
        clear hK K
        try simp only [Act.put, List.getElem_toArray, List.getElem_cons_zero, List.getElem_cons_succ, List.setIfInBounds_toArray, List.set_cons_succ, List.set_cons_zero]
        refine held_mono (S' := fun W => Below xc.heap.size xc W) (fun W h => hHeld.trans (h.mono hHeld.size)) _ _ _ _ ?_
        replace hX := hX.later hHeld
        replace hY := hY.later hHeld
        replace hL := hL.later hHeld
        replace hR := hR.later hHeld
        replace hA := hA.later hHeld
        replace hC := hC.later hHeld
        replace hB := hB.trans (hHeld.mono hB.size)
        clear hHeld hb4
        have hHeld : Below xc.heap.size xc xc := Below.refl _ _
        refine wpAnyH_take (i := 2) (v := .string (strOfNums (z0))) rfl (by kernel_rfl) (by kernel_rfl) (by kernel_rfl) (fun _ _ _ h => h) (Or.inl ⟨by kernel_rfl, ?_⟩) hHeld ?_
        · intro W hW; have hcv := (hv1.later hW).conv (P := Tryd.prog) 30 9 5 Tryd.underlying30 Tryd.underlying5 Tryd.underlying9; go_simp
        try simp only [Act.put, List.getElem_toArray, List.getElem_cons_zero, List.getElem_cons_succ, List.setIfInBounds_toArray, List.set_cons_succ, List.set_cons_zero]
        refine wpAnyH_take (i := 5) (v := (.bool true)) rfl (by kernel_rfl) (by kernel_rfl) (by kernel_rfl) (fun _ _ _ h => h) (Or.inl ⟨by kernel_rfl, ?_⟩) hHeld ?_
        · intro W hW; go_simp; first | done | with_reducible rfl
        try simp only [Act.put, List.getElem_toArray, List.getElem_cons_zero, List.getElem_cons_succ, List.setIfInBounds_toArray, List.set_cons_succ, List.set_cons_zero]
        refine wpAnyH_take (i := 6) (v := ?_) rfl (by kernel_rfl) (by kernel_rfl) (by kernel_rfl) (fun _ _ _ h => h) (Or.inl ⟨by kernel_rfl, ?_⟩) hHeld ?_
        rotate_left
        · intro W hW; go_simp; first | done | with_reducible rfl
        try simp only [Act.put, List.getElem_toArray, List.getElem_cons_zero, List.getElem_cons_succ, List.setIfInBounds_toArray, List.set_cons_succ, List.set_cons_zero]
        refine wpAnyH_take (i := 7) (v := ?_) rfl (by kernel_rfl) (by kernel_rfl) (by kernel_rfl) (fun _ _ _ h => h) (Or.inl ⟨by kernel_rfl, ?_⟩) hHeld ?_
        rotate_left
        · intro W hW; go_simp; first | done | with_reducible rfl
        try simp only [Act.put, List.getElem_toArray, List.getElem_cons_zero, List.getElem_cons_succ, List.setIfInBounds_toArray, List.set_cons_succ, List.set_cons_zero]
        refine wpAnyH_take (i := 9) (v := ?_) rfl (by kernel_rfl) (by kernel_rfl) (by kernel_rfl) (fun _ _ _ h => h) (Or.inl ⟨by kernel_rfl, ?_⟩) hHeld ?_
        rotate_left
        · intro W hW; go_simp; first | done | with_reducible rfl
        try simp only [Act.put, List.getElem_toArray, List.getElem_cons_zero, List.getElem_cons_succ, List.setIfInBounds_toArray, List.set_cons_succ, List.set_cons_zero]
        refine wpAnyH_ready (rs := [8]) (by kernel_rfl) (by simp) ?_
        refine AllReadyH.cons (o := _) rfl (fun K hK => ?_) AllReadyH.nil
        go_simp
        refine (turn_any (hX.later hHeld)).mono ?_
        rintro e xc ⟨rfl, rfl⟩
        dsimp only
        refine hK.out _ _ ?_ (fun hHeld => ?_)
        · exact hHeld
        clear hK K
        try simp only [Act.put, List.getElem_toArray, List.getElem_cons_zero, List.getElem_cons_succ, List.setIfInBounds_toArray, List.set_cons_succ, List.set_cons_zero]
        refine wpAnyH_take (i := 10) (v := (.bool true)) rfl (by kernel_rfl) (by kernel_rfl) (by kernel_rfl) (fun _ _ _ h => h) (Or.inl ⟨by kernel_rfl, ?_⟩) hHeld ?_
        · intro W hW; go_simp; first | done | with_reducible rfl
        try simp only [Act.put, List.getElem_toArray, List.getElem_cons_zero, List.getElem_cons_succ, List.setIfInBounds_toArray, List.set_cons_succ, List.set_cons_zero]
        refine wpAnyH_take (i := 11) (v := ?_) rfl (by kernel_rfl) (by kernel_rfl) (by kernel_rfl) (fun _ _ _ h => h) (Or.inl ⟨by kernel_rfl, ?_⟩) hHeld ?_
        rotate_left
        · intro W hW; go_simp; first | done | with_reducible rfl
        try simp only [Act.put, List.getElem_toArray, List.getElem_cons_zero, List.getElem_cons_succ, List.setIfInBounds_toArray, List.set_cons_succ, List.set_cons_zero]
        refine wpAnyH_take (i := 12) (v := ?_) rfl (by kernel_rfl) (by kernel_rfl) (by kernel_rfl) (fun _ _ _ h => h) (Or.inl ⟨by kernel_rfl, ?_⟩) hHeld ?_
        rotate_left
        · intro W hW; go_simp; first | done | with_reducible rfl
        try simp only [Act.put, List.getElem_toArray, List.getElem_cons_zero, List.getElem_cons_succ, List.setIfInBounds_toArray, List.set_cons_succ, List.set_cons_zero]
        refine wpAnyH_take (i := 13) (v := ?_) rfl (by kernel_rfl) (by kernel_rfl) (by kernel_rfl) (fun _ _ _ h => h) (Or.inl ⟨by kernel_rfl, ?_⟩) hHeld ?_
        rotate_left
        · intro W hW; go_simp; first | done | with_reducible rfl
        try simp only [Act.put, List.getElem_toArray, List.getElem_cons_zero, List.getElem_cons_succ, List.setIfInBounds_toArray, List.set_cons_succ, List.set_cons_zero]
        refine wpAnyH_take (i := 16) (v := ?_) rfl (by kernel_rfl) (by kernel_rfl) (by kernel_rfl) (fun _ _ _ h => h) (Or.inl ⟨by kernel_rfl, ?_⟩) hHeld ?_
        rotate_left
        · intro W hW; go_simp; first | done | with_reducible rfl
        try simp only [Act.put, List.getElem_toArray, List.getElem_cons_zero, List.getElem_cons_succ, List.setIfInBounds_toArray, List.set_cons_succ, List.set_cons_zero]
        refine wpAnyH_take (i := 17) (v := .string (strOfNums (z1))) rfl (by kernel_rfl) (by kernel_rfl) (by kernel_rfl) (fun _ _ _ h => h) (Or.inl ⟨by kernel_rfl, ?_⟩) hHeld ?_
        · intro W hW; have hcv := (hC.later hW).conv (P := Tryd.prog) 30 9 5 Tryd.underlying30 Tryd.underlying5 Tryd.underlying9; go_simp
        try simp only [Act.put, List.getElem_toArray, List.getElem_cons_zero, List.getElem_cons_succ, List.setIfInBounds_toArray, List.set_cons_succ, List.set_cons_zero]
        refine wpAnyH_ready (rs := [14]) (by kernel_rfl) (by simp) ?_
        refine AllReadyH.cons (o := _) rfl (fun K hK => ?_) AllReadyH.nil
        go_simp
        refine (text_any (hY.later hHeld) F2.out).mono ?_
        rintro e xc ⟨v2, rfl, hv2, hb4⟩
        dsimp only
        refine hK.out _ _ ?_ (fun hHeld => ?_)
        · exact hHeld.trans (hb4.mono hHeld.size)
        clear hK K
        try simp only [Act.put, List.getElem_toArray, List.getElem_cons_zero, List.getElem_cons_succ, List.setIfInBounds_toArray, List.set_cons_succ, List.set_cons_zero]
        refine held_mono (S' := fun W => Below xc.heap.size xc W) (fun W h => hHeld.trans (h.mono hHeld.size)) _ _ _ _ ?_
        replace hX := hX.later hHeld
        replace hY := hY.later hHeld
        replace hL := hL.later hHeld
        replace hR := hR.later hHeld
        replace hA := hA.later hHeld
        replace hC := hC.later hHeld
        replace hB := hB.trans (hHeld.mono hB.size)
        clear hHeld hb4
        have hHeld : Below xc.heap.size xc xc := Below.refl _ _
        refine wpAnyH_take (i := 15) (v := .string (strOfNums (z1))) rfl (by kernel_rfl) (by kernel_rfl) (by kernel_rfl) (fun _ _ _ h => h) (Or.inl ⟨by kernel_rfl, ?_⟩) hHeld ?_
        · intro W hW; have hcv := (hv2.later hW).conv (P := Tryd.prog) 30 9 5 Tryd.underlying30 Tryd.underlying5 Tryd.underlying9; go_simp
        try simp only [Act.put, List.getElem_toArray, List.getElem_cons_zero, List.getElem_cons_succ, List.setIfInBounds_toArray, List.set_cons_succ, List.set_cons_zero]
        refine wpAnyH_take (i := 18) (v := (.bool true)) rfl (by kernel_rfl) (by kernel_rfl) (by kernel_rfl) (fun _ _ _ h => h) (Or.inl ⟨by kernel_rfl, ?_⟩) hHeld ?_
        · intro W hW; go_simp; first | done | with_reducible rfl
        try simp only [Act.put, List.getElem_toArray, List.getElem_cons_zero, List.getElem_cons_succ, List.setIfInBounds_toArray, List.set_cons_succ, List.set_cons_zero]
        refine wpAnyH_take (i := 19) (v := ?_) rfl (by kernel_rfl) (by kernel_rfl) (by kernel_rfl) (fun _ _ _ h => h) (Or.inl ⟨by kernel_rfl, ?_⟩) hHeld ?_
        rotate_left
        · intro W hW; go_simp; first | done | with_reducible rfl
        try simp only [Act.put, List.getElem_toArray, List.getElem_cons_zero, List.getElem_cons_succ, List.setIfInBounds_toArray, List.set_cons_succ, List.set_cons_zero]
        refine wpAnyH_take (i := 20) (v := ?_) rfl (by kernel_rfl) (by kernel_rfl) (by kernel_rfl) (fun _ _ _ h => h) (Or.inl ⟨by kernel_rfl, ?_⟩) hHeld ?_
        rotate_left
        · intro W hW; go_simp; first | done | with_reducible rfl
        try simp only [Act.put, List.getElem_toArray, List.getElem_cons_zero, List.getElem_cons_succ, List.setIfInBounds_toArray, List.set_cons_succ, List.set_cons_zero]
        refine wpAnyH_take (i := 21) (v := ?_) rfl (by kernel_rfl) (by kernel_rfl) (by kernel_rfl) (fun _ _ _ h => h) (Or.inl ⟨by kernel_rfl, ?_⟩) hHeld ?_
        rotate_left
        · intro W hW; go_simp; first | done | with_reducible rfl
        try simp only [Act.put, List.getElem_toArray, List.getElem_cons_zero, List.getElem_cons_succ, List.setIfInBounds_toArray, List.set_cons_succ, List.set_cons_zero]
        refine wpAnyH_take (i := 23) (v := ?_) rfl (by kernel_rfl) (by kernel_rfl) (by kernel_rfl) (fun _ _ _ h => h) (Or.inl ⟨by kernel_rfl, ?_⟩) hHeld ?_
        rotate_left
        · intro W hW; go_simp; first | done | with_reducible rfl
        try simp only [Act.put, List.getElem_toArray, List.getElem_cons_zero, List.getElem_cons_succ, List.setIfInBounds_toArray, List.set_cons_succ, List.set_cons_zero]
        refine wpAnyH_ready (rs := [22]) (by kernel_rfl) (by simp) ?_
        refine AllReadyH.cons (o := _) rfl (fun K hK => ?_) AllReadyH.nil
        go_simp
        refine (turn_any (hY.later hHeld)).mono ?_
        rintro e xc ⟨rfl, rfl⟩
        dsimp only
        refine hK.out _ _ ?_ (fun hHeld => ?_)
        · exact hHeld
        clear hK K
        try simp only [Act.put, List.getElem_toArray, List.getElem_cons_zero, List.getElem_cons_succ, List.setIfInBounds_toArray, List.set_cons_succ, List.set_cons_zero]
        refine wpAnyH_take (i := 24) (v := (.bool true)) rfl (by kernel_rfl) (by kernel_rfl) (by kernel_rfl) (fun _ _ _ h => h) (Or.inl ⟨by kernel_rfl, ?_⟩) hHeld ?_
        · intro W hW; go_simp; first | done | with_reducible rfl
        try simp only [Act.put, List.getElem_toArray, List.getElem_cons_zero, List.getElem_cons_succ, List.setIfInBounds_toArray, List.set_cons_succ, List.set_cons_zero]
        refine wpAnyH_take (i := 25) (v := ?_) rfl (by kernel_rfl) (by kernel_rfl) (by kernel_rfl) (fun _ _ _ h => h) (Or.inl ⟨by kernel_rfl, ?_⟩) hHeld ?_
        rotate_left
        · intro W hW; go_simp; first | done | with_reducible rfl
        try simp only [Act.put, List.getElem_toArray, List.getElem_cons_zero, List.getElem_cons_succ, List.setIfInBounds_toArray, List.set_cons_succ, List.set_cons_zero]
        refine wpAnyH_take (i := 26) (v := ?_) rfl (by kernel_rfl) (by kernel_rfl) (by kernel_rfl) (fun _ _ _ h => h) (Or.inl ⟨by kernel_rfl, ?_⟩) hHeld ?_
        rotate_left
        · intro W hW; go_simp; first | done | with_reducible rfl
        try simp only [Act.put, List.getElem_toArray, List.getElem_cons_zero, List.getElem_cons_succ, List.setIfInBounds_toArray, List.set_cons_succ, List.set_cons_zero]
        refine wpAnyH_take (i := 27) (v := ?_) rfl (by kernel_rfl) (by kernel_rfl) (by kernel_rfl) (fun _ _ _ h => h) (Or.inl ⟨by kernel_rfl, ?_⟩) hHeld ?_
        rotate_left
        · intro W hW; go_simp; first | done | with_reducible rfl
        try simp only [Act.put, List.getElem_toArray, List.getElem_cons_zero, List.getElem_cons_succ, List.setIfInBounds_toArray, List.set_cons_succ, List.set_cons_zero]
        refine wpAnyH_take (i := 28) (v := (.slice (some ⟨rl, 0, none⟩) 4 64)) rfl (by kernel_rfl) (by kernel_rfl) (by kernel_rfl) (fun _ _ _ h => h) (Or.inl ⟨by kernel_rfl, ?_⟩) hHeld ?_
        · intro W hW; go_simp; first | done | with_reducible rfl
        try simp only [Act.put, List.getElem_toArray, List.getElem_cons_zero, List.getElem_cons_succ, List.setIfInBounds_toArray, List.set_cons_succ, List.set_cons_zero]
        refine wpAnyH_take (i := 29) (v := .string (strOfNums ([108, 101, 102, 116]))) rfl (by kernel_rfl) (by kernel_rfl) (by kernel_rfl) (fun _ _ _ h => h) (Or.inl ⟨by kernel_rfl, ?_⟩) hHeld ?_
        · intro W hW; have hcv := (hL.later hW).conv (P := Tryd.prog) 30 9 5 Tryd.underlying30 Tryd.underlying5 Tryd.underlying9; go_simp
        try simp only [Act.put, List.getElem_toArray, List.getElem_cons_zero, List.getElem_cons_succ, List.setIfInBounds_toArray, List.set_cons_succ, List.set_cons_zero]
        refine wpAnyH_take (i := 30) (v := (.bool true)) rfl (by kernel_rfl) (by kernel_rfl) (by kernel_rfl) (fun _ _ _ h => h) (Or.inl ⟨by kernel_rfl, ?_⟩) hHeld ?_
        · intro W hW; go_simp; first | done | with_reducible rfl
        try simp only [Act.put, List.getElem_toArray, List.getElem_cons_zero, List.getElem_cons_succ, List.setIfInBounds_toArray, List.set_cons_succ, List.set_cons_zero]
        refine wpAnyH_take (i := 31) (v := ?_) rfl (by kernel_rfl) (by kernel_rfl) (by kernel_rfl) (fun _ _ _ h => h) (Or.inl ⟨by kernel_rfl, ?_⟩) hHeld ?_
        rotate_left
        · intro W hW; go_simp; first | done | with_reducible rfl
        try simp only [Act.put, List.getElem_toArray, List.getElem_cons_zero, List.getElem_cons_succ, List.setIfInBounds_toArray, List.set_cons_succ, List.set_cons_zero]
        refine wpAnyH_take (i := 32) (v := ?_) rfl (by kernel_rfl) (by kernel_rfl) (by kernel_rfl) (fun _ _ _ h => h) (Or.inl ⟨by kernel_rfl, ?_⟩) hHeld ?_
        rotate_left
        · intro W hW; go_simp; first | done | with_reducible rfl
        try simp only [Act.put, List.getElem_toArray, List.getElem_cons_zero, List.getElem_cons_succ, List.setIfInBounds_toArray, List.set_cons_succ, List.set_cons_zero]
        refine wpAnyH_take (i := 33) (v := ?_) rfl (by kernel_rfl) (by kernel_rfl) (by kernel_rfl) (fun _ _ _ h => h) (Or.inl ⟨by kernel_rfl, ?_⟩) hHeld ?_
        rotate_left
        · intro W hW; go_simp; first | done | with_reducible rfl
        try simp only [Act.put, List.getElem_toArray, List.getElem_cons_zero, List.getElem_cons_succ, List.setIfInBounds_toArray, List.set_cons_succ, List.set_cons_zero]
        refine wpAnyH_take (i := 34) (v := (.slice (some ⟨rr, 0, none⟩) 5 64)) rfl (by kernel_rfl) (by kernel_rfl) (by kernel_rfl) (fun _ _ _ h => h) (Or.inl ⟨by kernel_rfl, ?_⟩) hHeld ?_
        · intro W hW; go_simp; first | done | with_reducible rfl
        try simp only [Act.put, List.getElem_toArray, List.getElem_cons_zero, List.getElem_cons_succ, List.setIfInBounds_toArray, List.set_cons_succ, List.set_cons_zero]
        refine wpAnyH_take (i := 35) (v := .string (strOfNums ([114, 105, 103, 104, 116]))) rfl (by kernel_rfl) (by kernel_rfl) (by kernel_rfl) (fun _ _ _ h => h) (Or.inl ⟨by kernel_rfl, ?_⟩) hHeld ?_
        · intro W hW; have hcv := (hR.later hW).conv (P := Tryd.prog) 30 9 5 Tryd.underlying30 Tryd.underlying5 Tryd.underlying9; go_simp
        try simp only [Act.put, List.getElem_toArray, List.getElem_cons_zero, List.getElem_cons_succ, List.setIfInBounds_toArray, List.set_cons_succ, List.set_cons_zero]
        refine wpAnyH_take (i := 36) (v := (.bool true)) rfl (by kernel_rfl) (by kernel_rfl) (by kernel_rfl) (fun _ _ _ h => h) (Or.inl ⟨by kernel_rfl, ?_⟩) hHeld ?_
        · intro W hW; go_simp; first | done | with_reducible rfl
        try simp only [Act.put, List.getElem_toArray, List.getElem_cons_zero, List.getElem_cons_succ, List.setIfInBounds_toArray, List.set_cons_succ, List.set_cons_zero]
        refine wpAnyH_take (i := 37) (v := ?_) rfl (by kernel_rfl) (by kernel_rfl) (by kernel_rfl) (fun _ _ _ h => h) (Or.inl ⟨by kernel_rfl, ?_⟩) hHeld ?_
        rotate_left
        · intro W hW; go_simp; first | done | with_reducible rfl
        try simp only [Act.put, List.getElem_toArray, List.getElem_cons_zero, List.getElem_cons_succ, List.setIfInBounds_toArray, List.set_cons_succ, List.set_cons_zero]
        refine wpAnyH_take (i := 38) (v := ?_) rfl (by kernel_rfl) (by kernel_rfl) (by kernel_rfl) (fun _ _ _ h => h) (Or.inl ⟨by kernel_rfl, ?_⟩) hHeld ?_
        rotate_left
        · intro W hW; go_simp; first | done | with_reducible rfl
        try simp only [Act.put, List.getElem_toArray, List.getElem_cons_zero, List.getElem_cons_succ, List.setIfInBounds_toArray, List.set_cons_succ, List.set_cons_zero]
        refine wpAnyH_done (by kernel_rfl) ?_ _
        refine NoPanic.normal ?_
        go_simp
        go_wp2_with fail
        go_ret
        exact ⟨rfl, hB⟩

theorem contract (H : Type) (enc : TypeId × Value → H) (W : World) (base : Nat) (args : Array Value) (ds gs : List (DataW H)) (before : List MemPlace)
    (hval : ∀ (j : Nat) t v, Tryd.f6.params[j]? = some t → args[j]? = some v → Value.okWide Tryd.prog W .any base t v)
    (hW : DataW.Whole enc Tryd.prog Tryd.f6.params.toList Rows.superTwoSpec.vars false W args.toList ds gs before) (hL : laidMetH Tryd.prog Rows.superTwoRow.laid W) :
    Calls Tryd.prog 6 args W fun e W' => ∃ v, e = .returned v ∧ Rows.superTwoSpec.post enc Tryd.prog Tryd.f6 false true false false W args v W' := by
  have hW' := hW
  obtain ⟨p, q, hA0, hV, rfl, hfz, hnd⟩ := hW
  have hA : DataW.TrodAll enc Tryd.prog W 0 (fun _ => true) true Tryd.f6.params.toList args.toList ds p := hA0
  rw [Tryd.params6] at hA hval
  obtain ⟨v0, vs0, d0, ds0, p0, q0, hargs, rfl, rfl, h0, r0⟩ := trodAll_cons hA
  obtain ⟨v1, vs1, d1, ds1, p1, q1, rfl, rfl, rfl, h1, r1⟩ := trodAll_cons r0
  obtain ⟨v2, vs2, d2, ds2, p2, q2, rfl, rfl, rfl, h2, r2⟩ := trodAll_cons r1
  obtain ⟨rfl, rfl, rfl⟩ := trodAll_nil r2
  obtain rfl : args = #[v0, v1, v2] := by cases args; simp_all
  obtain ⟨rfl, rfl⟩ := trodVars_none hV
  obtain ⟨a0, len0, cap0, rfl⟩ := okWide_slice Tryd.underlying30 (hval 0 30 v0 rfl rfl)
  have k0 := h0
  have lt0 : ∀ x ∈ p0, x.block < W.heap.size := by obtain ⟨m, hm⟩ := k0; exact DataW.trod_lt m _ _ _ hm
  obtain ⟨z0, w0⟩ : ∃ zs, Sl W (.slice a0 len0 cap0) zs := by
    obtain ⟨fuel, hf⟩ := h0
    obtain ⟨a, len, cap, zs, hcs, hz⟩ := open_bytes Tryd.underlying30 Tryd.underlying5 (by kernel_rfl) hf
    simp [Value.cells] at hcs
    obtain ⟨rfl, rfl, rfl⟩ := hcs
    exact ⟨zs, hz⟩
  obtain ⟨a1, len1, cap1, rfl⟩ := okWide_slice Tryd.underlying30 (hval 1 30 v1 rfl rfl)
  have k1 := h1
  have lt1 : ∀ x ∈ p1, x.block < W.heap.size := by obtain ⟨m, hm⟩ := k1; exact DataW.trod_lt m _ _ _ hm
  obtain ⟨z1, w1⟩ : ∃ zs, Sl W (.slice a1 len1 cap1) zs := by
    obtain ⟨fuel, hf⟩ := h1
    obtain ⟨a, len, cap, zs, hcs, hz⟩ := open_bytes Tryd.underlying30 Tryd.underlying5 (by kernel_rfl) hf
    simp [Value.cells] at hcs
    obtain ⟨rfl, rfl, rfl⟩ := hcs
    exact ⟨zs, hz⟩
  obtain ⟨a2, len2, cap2, rfl⟩ := okWide_slice Tryd.underlying40 (hval 2 40 v2 rfl rfl)
  have k2 := h2
  have lt2 : ∀ x ∈ p2, x.block < W.heap.size := by obtain ⟨m, hm⟩ := k2; exact DataW.trod_lt m _ _ _ hm
  obtain ⟨z2, w2⟩ : ∃ zs, Rw W (.slice a2 len2 cap2) (bo zs) := by
    obtain ⟨fuel, hf⟩ := h2
    obtain ⟨a, len, cap, zs, hcs, hz⟩ := open_bools Tryd.underlying40 Tryd.underlying4 (by kernel_rfl) hf
    simp [Value.cells] at hcs
    obtain ⟨rfl, rfl, rfl⟩ := hcs
    exact ⟨zs, hz⟩
  clear hA0
  refine (walk a0 len0 cap0 z0 a1 len1 cap1 z1 a2 len2 cap2 z2 W w0 w1 w2 (tab_laid hL)).mono fun e W' ⟨he, bel⟩ => ?_
  subst he
  exact ⟨_, rfl, _, _, _, [], _, [], hW', trodAll_mk1 (shut_bool Tryd.underlying4 _), (trodAll_cons_mk (Below.trod laidOut (by kernel_rfl) (of_decide_eq_true (by kernel_rfl)) k0 bel lt0) (trodAll_cons_mk (Below.trod laidOut (by kernel_rfl) (of_decide_eq_true (by kernel_rfl)) k1 bel lt1) (trodAll_cons_mk (Below.trod laidOut (by kernel_rfl) (of_decide_eq_true (by kernel_rfl)) k2 bel lt2) trodAll_mk0))), rfl, bel.frame _, fun h => by cases h⟩

theorem laid_met (os : Os) : laidMet Tryd.prog Rows.superTwoRow.laid ((laidWorld os).forCall (fun _ _ => 0) ⟨#[], #[.slice none 0 0, .slice none 0 0, .slice none 0 0], []⟩).memory :=
  laidMet_of_run' 8 (by kernel_rfl) (by kernel_rfl)
theorem reads (os : Os) {H : Type} (enc : TypeId × Value → H) : ∃ places, DataW.whole enc Tryd.prog ((laidWorld os).forCall (fun _ _ => 0) ⟨#[], #[.slice none 0 0, .slice none 0 0, .slice none 0 0], []⟩).memory Tryd.f6.params.toList Rows.superTwoSpec.vars false (#[.slice none 0 0, .slice none 0 0, .slice none 0 0] : Array Value).toList 8 = some ([.nil, .nil, .nil], [], places) :=
  ⟨[], by kernel_rfl⟩

set_option maxRecDepth 100000 in
theorem lifted (os : Os) (started : os.Started) (H : Type) (enc : TypeId × Value → H) (F : Stop.Interp) :
    ReturnsInHanded {} Tryd.checked os 6 .any ((OpenSpec.ofChange Rows.superTwoSpec).preRow enc Tryd.prog Tryd.f6 Rows.superTwoRow.domain false Rows.superTwoRow.laid) (((OpenSpec.ofChange Rows.superTwoSpec).at F).post enc Tryd.prog Tryd.f6 false true false false) := by
  obtain ⟨places, hx⟩ := reads os enc
  refine returnsInHanded_of_row (C := Tryd.checked) (s := OpenSpec.ofChange Rows.superTwoSpec) own started (by kernel_rfl) Tryd.func6
    (witness_row_at (enc := enc) (C := Tryd.checked) false (laidWorld os) #[.slice none 0 0, .slice none 0 0, .slice none 0 0] rfl (by kernel_rfl) (by kernel_rfl) (by kernel_rfl)
      (OpenSpec.preRow_of_cond 8 hx (by kernel_rfl) (fun k hk => by cases hk) (by kernel_rfl) (laid_met os))) ?_
  intro W base args ds gs before hval hW _ _ _ hL _ _
  exact contract H enc W base args ds gs before hval hW hL

theorem over : Rows.SuperTwoSaid :=
  OpenClaim.holds_of_cond 6 Tryd.f6 rfl rfl rfl rfl rfl rfl rfl ⟨rfl, rfl, rfl, rfl, rfl⟩ rfl rfl rfl rfl rfl (by kernel_rfl) Tryd.func6 (by kernel_rfl)
    (of_decide_eq_true (by kernel_rfl)) (by unfold Func.isWrapper; first | (rw [if_pos (by decide +kernel)]; kernel_rfl) | (rw [if_neg (by decide +kernel)]; exact ⟨rfl, rfl⟩))
    (fun os started H enc _ F => by rw [OpenClaim.pre_eq_preRow]; exact lifted os started H enc F)

theorem plain (f : FuncId) (fn : Func) (hf : Tryd.pinned.checked.prog.funcNamed "engross/engrosslaw8.SuperTwo" = some f) (hfn : Tryd.pinned.checked.prog.funcs[f]? = some fn) :
    false = Tryd.pinned.checked.prog.looks [] ∧ ∀ (j : Nat) t, fn.params[j]? = some t → Tryd.pinned.checked.prog.wantsStandIn t = false := by
  obtain rfl : f = 6 := Option.some.inj ((show Tryd.prog.funcNamed "engross/engrosslaw8.SuperTwo" = some 6 by kernel_rfl).symm.trans hf) |>.symm
  obtain rfl : fn = Tryd.f6 := (Option.some.inj (Tryd.func6.symm.trans hfn)).symm
  refine ⟨by kernel_rfl, fun j t ht => ?_⟩
  rw [Tryd.params6] at ht
  have hm := Array.mem_of_getElem? ht
  simp at hm
  have u30 : Tryd.prog.wantsStandIn 30 = false := by kernel_rfl
  have u40 : Tryd.prog.wantsStandIn 40 = false := by kernel_rfl
  first
    | (subst hm; show Tryd.prog.wantsStandIn _ = false; with_reducible assumption)
    | (rcases hm with rfl | rfl <;> (show Tryd.prog.wantsStandIn _ = false; with_reducible assumption))
    | (rcases hm with rfl | rfl | rfl <;> (show Tryd.prog.wantsStandIn _ = false; with_reducible assumption))
    | (rcases hm with rfl | rfl | rfl | rfl <;> (show Tryd.prog.wantsStandIn _ = false; with_reducible assumption))
    | (rcases hm with rfl | rfl | rfl | rfl | rfl <;> (show Tryd.prog.wantsStandIn _ = false; with_reducible assumption))

theorem proved : Rows.SuperTwoCardSaid :=
  Claim7.holds_tied_plain_at .later [] _ _ _ _ over (fun _ h => by cases h) (by kernel_rfl) (fun _ h => by cases h) superTwo_row_tie rfl ⟨rfl, rfl⟩ (by kernel_rfl) rfl plain (by kernel_rfl)
#print axioms proved
end Go.Proofs.YtiaicpdbobgkoaaDoor.superTwo
