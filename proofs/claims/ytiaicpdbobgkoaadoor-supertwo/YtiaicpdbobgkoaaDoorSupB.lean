/-
  What every law of package super begins with.
-/
import Derived.Test.YtiaicpdbobgkoaaDoorSupH
import Derived.Test.YtiaicpdbobgkoaaDoorDevB
namespace Go.Proofs.YtiaicpdbobgkoaaDoor
open Go.RowKit Go.Maps
set_option linter.unusedVariables false

theorem below_alloc (w : World) (o : Obj) : Below w.heap.size w (w.alloc o) := (Below.refl _ _).alloc (Nat.le_refl _) _

theorem ab_fits : Sp.Fits 1 [97, 98] := ⟨by omega, by omega, by decide, by decide⟩
theorem cd_fits : Sp.Fits 2 [99, 100] := ⟨by omega, by omega, by decide, by decide⟩

set_option maxRecDepth 100000 in
set_option maxHeartbeats 2000000 in
theorem begun_any (w : World) (ht : Tab w) : Calls Tryd.prog 7 #[] w fun e w' => e = .returned (.bool true) ∧ Below w.heap.size w w' := by
  have hcv : ∀ (W : World) (C : Array Value) (n c : Nat), _ := fun W C n c => Lib.run_convert_bytes_const (P := Tryd.prog) W 30 5 C n c Tryd.underlying30 Tryd.underlying5
  have HT := hide ht
  have hpos := ht.pos
  clear ht
  go_enter Tryd.func7, Tryd.ntmps7
  go_wp2_with fail
  refine (new_dn (Below.refl _ _) (Nat.le_refl _) HT.out hpos 4 rfl (by omega) (by omega)).mono ?_
  rintro e W1 ⟨g, bl, bm, rfl, h1, -, -⟩
  have H1 := hide h1
  clear h1
  go_wp2_with fail
  refine (make_dn (H1.out.later (below_alloc _ _)) rfl (by decide) 1 rfl (by decide) (lit_sl _ _ _ (zs := [97, 98]) (by decide) (by decide)) (by decide)).mono ?_
  rintro e W2 ⟨sb, bm2, rfl, hs2, h2, hsb, -⟩
  have H2 := hide h2
  have HS2 := hide hs2
  have Hsb : Hid (w.heap.size ≤ sb) := Nat.le_trans (Nat.le_trans H1.out.big (below_alloc _ _).size) hsb
  clear h2 hs2 hsb
  go_wp2_with fail
  refine (save_free (H2.out.later (below_alloc _ _)) (HS2.out.later (below_alloc _ _)) Hsb.out rfl (by decide) (by decide) (by omega) (by omega) (lit_sl _ _ _ (zs := [99, 100]) (by decide) (by decide)) (by decide)).mono ?_
  rintro e W3 ⟨rfl, bm3, h3, hs3, hb3⟩
  have HH2 : Hold (mk2 (Dv.new 4) 1 [97, 98]) 1 0 1 [97, 98] := mk2_hold (Dv.new_ok (by omega) (by omega)) (by decide) (by decide) ab_fits
  have HH3 : Hid (Hold _ 1 1 2 [99, 100]) := HH2.save H2.out.ok cd_fits
  have HST : Hid (Still (sv1 (mk2 (Dv.new 4) 1 [97, 98]) 1 0 1 [99, 100])) := sv1_still _ _ _ _ _
  have HN3 : Hid ((sv1 (mk2 (Dv.new 4) 1 [97, 98]) 1 0 1 [99, 100]).n = 4) := rfl
  have H3 := hide h3
  clear h3 hs3 hb3 HH2
  generalize sv1 (mk2 (Dv.new 4) 1 [97, 98]) 1 0 1 [99, 100] = d3 at *
  go_wp2_with fail
  refine (crash_dn H3.out (ks := []) (Rw.nil _)).mono ?_
  rintro e W4 ⟨g4, bl4, bm4, rfl, h4, -, hB4⟩
  have H4 := hide h4
  have H3 := hide (H3.out.later hB4)
  clear h4 hB4
  go_wp2_with fail
  refine (open_dn H4.out (HH3.out.crash HST.out []) rfl).mono ?_
  rintro e W5 ⟨sb5, rfl, hs5, -, hB5⟩
  have HS5 := hide hs5
  have H3 := hide (H3.out.later hB5)
  clear hs5 hB5
  go_wp2_with fail
  refine (new_dn H3.out.bel H3.out.big H3.out.tab hpos 4 rfl (by omega) (by omega)).mono ?_
  rintro e W6 ⟨g6, bl6, bm6, rfl, h6, -, hB6⟩
  have H6 := hide h6
  have H3 := hide (H3.out.later hB6)
  have HS5 := hide (HS5.out.later hB6)
  clear h6 hB6
  go_wp2_with fail
  refine (open_none H6.out (at_ := 1) (by decide) rfl rfl rfl).mono ?_
  rintro e W7 ⟨rfl, hB7⟩
  have H3 := hide (H3.out.later hB7)
  have HS5 := hide (HS5.out.later hB7)
  clear hB7
  go_wp2_with fail
  refine (make_out H3.out.dev (by rw [HN3.out]; decide) (Sl.nil _) (by decide)).mono ?_
  rintro e W7 ⟨rfl, rfl⟩
  go_wp2_with fail
  refine (text_any HS5.out cd_fits).mono ?_
  rintro e W8 ⟨v8, rfl, hv8, hB8⟩
  have hq := hv8.conv (P := Tryd.prog) 30 9 5 Tryd.underlying30 Tryd.underlying5 Tryd.underlying9
  have H3 := hide (H3.out.later hB8)
  have HS5 := hide (HS5.out.later hB8)
  clear hB8 hv8
  rw [show strOfNums [99, 100] = ⟨#[99, 100]⟩ from rfl] at hq
  go_wp2_with fail
  refine (turn_any HS5.out).mono ?_
  rintro e W8 ⟨rfl, rfl⟩
  go_wp2_with fail
  go_ret
  exact ⟨rfl, H3.out.bel⟩
end Go.Proofs.YtiaicpdbobgkoaaDoor
