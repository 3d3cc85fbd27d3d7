/-
  For any two values (each by its kind, its bits and its text cut at 25 bytes) and all bytes rest DatumAll returns true: datum.May says which may be; of one that may be datum.Put writes the document's bytes behind rest (10 bytes), and datum.Get reads it back with rest behind it; datum.Eq of two that may be is the document's. No condition.
-/
import Derived.Test.YtdooocbkhncmdaaRows
import Derived.WalkKit
import Derived.ProofKit
import Derived.OpenShut
import Derived.ShutString
import Derived.ChangeOld
import Derived.Below
import Derived.Test.YtdooocbkhncmdaaDatB
import Derived.Test.YtdooocbkhncmdaaDatS
import Derived.Test.YtdooocbkhncmdaaApn
namespace Go.Proofs.Ytdooocbkhncmdaa.datumAll
open Go.ChangeShapes Go.WideShapes Go.ChangeAt Go.RowKit
open Go.ChangeMaps (open_string shut_string)
set_option linter.unusedVariables false

theorem own : ownKnob Try.prog.godebug = none := by kernel_rfl
theorem laidOut : laidOutB Try.prog = true := by kernel_rfl

/-- WHAT THE WALK IS TOLD OF A SLICE OF INTEGERS THAT CAME IN: it is nil; or it leads to a row of 'cap' cells, the numbers 'zs' (the first 'len' are its elements, the rest its spare room), each fitting its kind. -/
def IsRow (k : IntKind) (w : World) (a : Option Addr) (len cap : Nat) (zs : List Int) : Prop :=
  (a = none ∧ len = 0 ∧ cap = 0 ∧ zs = []) ∨
  ∃ x, a = some x ∧ len ≤ cap ∧ cap ≤ maxLen ∧ zs.length = cap ∧ (∀ i, i < zs.length → w.cell? (x.add i) = some (.int k (zs.getD i 0))) ∧ ∀ n ∈ zs, (Lit.int k n).wf = true

theorem row_sl {w : World} {a : Option Addr} {len cap : Nat} {zs : List Int} (h : IsRow .u8 w a len cap zs) : Sl w (.slice a len cap) (zs.take len) := by
  rcases h with ⟨rfl, rfl, rfl, rfl⟩ | ⟨x, rfl, hl, hm, hz, hcell, hwz⟩
  · exact Sl.nil _
  · have hlen : (zs.take len).length = len := by simp; omega
    refine ⟨some x, cap, by rw [hlen], by rw [hlen]; omega, hm, fun z hz' => bounds_u8 (hwz z (List.mem_of_mem_take hz')), fun i hi => ?_⟩
    rw [hlen] at hi
    have hc := hcell i (by omega)
    have hc0 := hcell 0 (by omega)
    obtain ⟨b, off, spot⟩ := x
    have hspot : spot = none := by simpa [Addr.add] using World.cell?_spot hc0
    subst hspot
    rw [add_plain] at hc
    exact ⟨b, off, rfl, by rw [hc]; simp [List.getD, List.getElem?_take_of_lt hi]⟩

set_option maxRecDepth 100000 in
set_option maxHeartbeats 16000000 in
theorem walk (a0 : Int) (a1 : Int) (a2 : ByteArray) (a3 : Int) (a4 : Int) (a5 : ByteArray) (a6 : Option Addr) (len6 cap6 : Nat) (z6 : List Int) (w : World) (w0 : (Lit.int .i64 a0).wf = true) (w1 : (Lit.int .u64 a1).wf = true) (w2 : a2.size ≤ maxLen) (w3 : (Lit.int .i64 a3).wf = true) (w4 : (Lit.int .u64 a4).wf = true) (w5 : a5.size ≤ maxLen) (w6 : IsRow .u8 w a6 len6 cap6 z6) :
    Calls Try.prog 3 #[.int .i64 a0, .int .u64 a1, .string a2, .int .i64 a3, .int .u64 a4, .string a5, .slice a6 len6 cap6] w fun e w' => e = .returned (.bool true) ∧ Below w.heap.size w w' := by
  have S0 := hide (row_sl w6)
  obtain ⟨h0, h1⟩ := bounds_i64 w0
  obtain ⟨g0, g1⟩ := bounds_u64 w1
  obtain ⟨X, rfl⟩ := Int.eq_ofNat_of_zero_le g0
  have hX : X < 18446744073709551616 := by omega
  obtain ⟨l0, l1⟩ := bounds_u64 w4
  obtain ⟨Y, rfl⟩ := Int.eq_ofNat_of_zero_le l0
  have hY : Y < 18446744073709551616 := by omega
  clear w0 w1 w3 w4 w6 g0 g1 l0 l1
  have hsf := st_float
  go_enter Try.func3, Try.ntmps3
  go_wp2_with fail
  refine (begun_any _).mono ?_
  rintro e x1 ⟨rfl, hb1⟩
  go_wp2_with fail
  refine (val_any a0 X a2 _ w2).mono ?_
  rintro e x2 ⟨s, rfl, hs, hb2⟩
  have hBw := hb1.trans (hb2.mono hb1.size)
  clear hb1 hb2 w2
  go_wp2_with fail
  refine (val_any a3 Y a5 _ w5).mono ?_
  rintro e x3 ⟨t, rfl, ht, hb3⟩
  replace hBw := hBw.trans (hb3.mono hBw.size)
  clear hb3 w5
  have hsm : s.size ≤ maxLen := by unfold maxLen; omega
  have htm : t.size ≤ maxLen := by unfold maxLen; omega
  go_wp2_with fail
  generalize hW : (World.alloc _ _).alloc _ = W0
  have hB0 : Below x3.heap.size x3 W0 := by rw [← hW]; exact ((Below.refl _ _).alloc (Nat.le_refl _) _).alloc (by simp) _
  have HA : Hid (∀ w', Below W0.heap.size W0 w' → _) := fun w' hb => two_boxes (w := x3) (w' := w') (by rw [hW]; exact hb)
  replace hBw := hBw.trans (hB0.mono hBw.size)
  clear hW hB0
  refine (short_any _ _ 10 _ (S0.out.later hBw)).mono ?_
  rintro e x ⟨vr, rfl, hR, rfl⟩
  have hRl : ((z6.take len6).take 10).length ≤ 10 := List.length_take_le _ _
  generalize (z6.take len6).take 10 = R at *
  clear S0
  have hB : Below x.heap.size x x := Below.refl _ _
  have HRB := hide hR.bd
  obtain ⟨m, hm⟩ : ∃ m, Dt.may a0 X s = m := ⟨_, rfl⟩
  obtain ⟨n, hn⟩ : ∃ n, Dt.may a3 Y t = n := ⟨_, rfl⟩
  have HM := hide hm
  have HN := hide hn
  clear hm hn
  go_wp2_with fail
  refine wp_region_noPanic ?_
  refine wp_region_held_drew (S := fun W => Below x.heap.size x W) (by kernel_rfl) ?_ (fun hHeld => ?_)
  · exact (Below.refl _ _).drew
  refine wpAnyH_take (i := 0) (v := .agg #[.int .i64 a0, .float .f64 X, .string s]) rfl (by kernel_rfl) (by kernel_rfl) (by kernel_rfl) (fun _ _ _ h => h) (Or.inl ⟨by kernel_rfl, ?_⟩) hHeld ?_
  · intro W hW; have hq := HA.out W (hB.trans (Below.mono hW hB.size)); obtain ⟨c0, c1, c2, d0, d1, d2⟩ := hq; clear hW; go_simp; first | done | with_reducible rfl
  try simp only [Act.put]
  refine wpAnyH_take (i := 2) (v := .agg #[.int .i64 a0, .float .f64 X, .string s]) rfl (by kernel_rfl) (by kernel_rfl) (by kernel_rfl) (fun _ _ _ h => h) (Or.inl ⟨by kernel_rfl, ?_⟩) hHeld ?_
  · intro W hW; have hq := HA.out W (hB.trans (Below.mono hW hB.size)); obtain ⟨c0, c1, c2, d0, d1, d2⟩ := hq; clear hW; go_simp; first | done | with_reducible rfl
  try simp only [Act.put]
  refine wpAnyH_ready (rs := [1]) (by kernel_rfl) (by simp) ?_
  refine AllReadyH.cons (o := _) rfl (fun K hK => ?_) AllReadyH.nil
  go_simp
  refine (may_any a0 X s _ hsm).mono ?_
  rintro e xc ⟨rfl, hb4⟩
  rw [HM.out]
  dsimp only
  refine hK.out _ _ ?_ (fun hHeld => ?_)
  · exact hHeld.trans (hb4.mono hHeld.size)
  clear hK K
  try simp only [Act.put]
  refine held_mono (S' := fun W => Below xc.heap.size xc W) (fun W h => hHeld.trans (h.mono hHeld.size)) _ _ _ _ ?_
  replace hR := hR.later hHeld
  replace hB := hB.trans (hHeld.mono hB.size)
  clear hHeld hb4
  have hHeld : Below xc.heap.size xc xc := Below.refl _ _
  refine wpAnyH_ready (rs := [3]) (by kernel_rfl) (by simp) ?_
  refine AllReadyH.cons (o := _) rfl (fun K hK => ?_) AllReadyH.nil
  go_simp
  refine (refMay_any a0 X s _ hsm hX).mono ?_
  rintro e xc ⟨rfl, hb4⟩
  rw [HM.out]
  dsimp only
  refine hK.out _ _ ?_ (fun hHeld => ?_)
  · exact hHeld.trans (hb4.mono hHeld.size)
  clear hK K
  try simp only [Act.put]
  refine held_mono (S' := fun W => Below xc.heap.size xc W) (fun W h => hHeld.trans (h.mono hHeld.size)) _ _ _ _ ?_
  replace hR := hR.later hHeld
  replace hB := hB.trans (hHeld.mono hB.size)
  clear hHeld hb4
  have hHeld : Below xc.heap.size xc xc := Below.refl _ _
  refine wpAnyH_take (i := 4) (v := .bool false) rfl (by kernel_rfl) (by kernel_rfl) (by kernel_rfl) (fun _ _ _ h => h) (Or.inl ⟨by kernel_rfl, ?_⟩) hHeld ?_
  · intro W hW; go_simp; first | done | with_reducible rfl
  try simp only [Act.put]
  refine wpAnyH_take (i := 5) (v := ?_) rfl (by kernel_rfl) (by kernel_rfl) (by kernel_rfl) (fun _ _ _ h => h) (Or.inl ⟨by kernel_rfl, ?_⟩) hHeld ?_
  rotate_left
  · intro W hW; go_simp; first | done | with_reducible rfl
  try simp only [Act.put]
  refine wpAnyH_take (i := 6) (v := .agg #[.int .i64 a3, .float .f64 Y, .string t]) rfl (by kernel_rfl) (by kernel_rfl) (by kernel_rfl) (fun _ _ _ h => h) (Or.inl ⟨by kernel_rfl, ?_⟩) hHeld ?_
  · intro W hW; have hq := HA.out W (hB.trans (Below.mono hW hB.size)); obtain ⟨c0, c1, c2, d0, d1, d2⟩ := hq; clear hW; go_simp; first | done | with_reducible rfl
  try simp only [Act.put]
  refine wpAnyH_take (i := 8) (v := .agg #[.int .i64 a3, .float .f64 Y, .string t]) rfl (by kernel_rfl) (by kernel_rfl) (by kernel_rfl) (fun _ _ _ h => h) (Or.inl ⟨by kernel_rfl, ?_⟩) hHeld ?_
  · intro W hW; have hq := HA.out W (hB.trans (Below.mono hW hB.size)); obtain ⟨c0, c1, c2, d0, d1, d2⟩ := hq; clear hW; go_simp; first | done | with_reducible rfl
  try simp only [Act.put]
  refine wpAnyH_ready (rs := [7]) (by kernel_rfl) (by simp) ?_
  refine AllReadyH.cons (o := _) rfl (fun K hK => ?_) AllReadyH.nil
  go_simp
  refine (may_any a3 Y t _ htm).mono ?_
  rintro e xc ⟨rfl, hb4⟩
  rw [HN.out]
  dsimp only
  refine hK.out _ _ ?_ (fun hHeld => ?_)
  · exact hHeld.trans (hb4.mono hHeld.size)
  clear hK K
  try simp only [Act.put]
  refine held_mono (S' := fun W => Below xc.heap.size xc W) (fun W h => hHeld.trans (h.mono hHeld.size)) _ _ _ _ ?_
  replace hR := hR.later hHeld
  replace hB := hB.trans (hHeld.mono hB.size)
  clear hHeld hb4
  have hHeld : Below xc.heap.size xc xc := Below.refl _ _
  refine wpAnyH_ready (rs := [9]) (by kernel_rfl) (by simp) ?_
  refine AllReadyH.cons (o := _) rfl (fun K hK => ?_) AllReadyH.nil
  go_simp
  refine (refMay_any a3 Y t _ htm hY).mono ?_
  rintro e xc ⟨rfl, hb4⟩
  rw [HN.out]
  dsimp only
  refine hK.out _ _ ?_ (fun hHeld => ?_)
  · exact hHeld.trans (hb4.mono hHeld.size)
  clear hK K
  try simp only [Act.put]
  refine held_mono (S' := fun W => Below xc.heap.size xc W) (fun W h => hHeld.trans (h.mono hHeld.size)) _ _ _ _ ?_
  replace hR := hR.later hHeld
  replace hB := hB.trans (hHeld.mono hB.size)
  clear hHeld hb4
  have hHeld : Below xc.heap.size xc xc := Below.refl _ _
  refine wpAnyH_take (i := 10) (v := .bool false) rfl (by kernel_rfl) (by kernel_rfl) (by kernel_rfl) (fun _ _ _ h => h) (Or.inl ⟨by kernel_rfl, ?_⟩) hHeld ?_
  · intro W hW; go_simp; first | done | with_reducible rfl
  try simp only [Act.put]
  refine wpAnyH_take (i := 11) (v := .bool false) rfl (by kernel_rfl) (by kernel_rfl) (by kernel_rfl) (fun _ _ _ h => h) (Or.inl ⟨by kernel_rfl, ?_⟩) hHeld ?_
  · intro W hW; go_simp; first | done | with_reducible rfl
  try simp only [Act.put]
  refine wpAnyH_done (by kernel_rfl) ?_ _
  refine NoPanic.normal ?_
  clear hHeld
  obtain ⟨c0, c1, c2, d0, d1, d2⟩ := HA.out _ hB
  go_simp
  go_wp2_with fail
  cases m
  · skip
    with_reducible refine (refMay_any a0 X s _ hsm hX).mono ?_
    rintro e x ⟨rfl, hb⟩
    rw [HM.out]
    replace hB := hB.trans (hb.mono hB.size)
    clear hb c0 c1 c2 d0 d1 d2
    obtain ⟨c0, c1, c2, d0, d1, d2⟩ := HA.out _ hB
    go_wp2_with fail
    go_ret
    exact ⟨rfl, hBw.trans (hB.mono hBw.size)⟩
  · with_reducible refine (refMay_any a0 X s _ hsm hX).mono ?_
    rintro e x ⟨rfl, hb⟩
    rw [HM.out]
    replace hB := hB.trans (hb.mono hB.size)
    replace hR := hR.later hb
    clear hb c0 c1 c2 d0 d1 d2
    have hpl := Dt.put_len (k := a0) (x := X) (s := s)
    have HPB := hide (Dt.put_bd (x := X) h0 h1 (show s.size ≤ 140737488350000 by omega))
    have HGP := hide (Dt.get_put hX HM.out R)
    have HRF := hide (Dt.eq_refl a0 X s)
    go_wp2_with fail
    refine wp_region_noPanic ?_
    refine wp_region_held_drew (S := fun W => Below x.heap.size x W) (by kernel_rfl) ?_ (fun hHeld => ?_)
    · exact (Below.refl _ _).drew
    refine wpAnyH_take (i := 0) (v := ?_) rfl (by kernel_rfl) (by kernel_rfl) (by kernel_rfl) (fun _ _ _ h => h) (Or.inl ⟨by kernel_rfl, ?_⟩) hHeld ?_
    rotate_left
    · intro W hW; go_simp; first | done | with_reducible rfl
    try simp only [Act.put]
    refine wpAnyH_take (i := 2) (v := .agg #[.int .i64 a0, .float .f64 X, .string s]) rfl (by kernel_rfl) (by kernel_rfl) (by kernel_rfl) (fun _ _ _ h => h) (Or.inl ⟨by kernel_rfl, ?_⟩) hHeld ?_
    · intro W hW; have hq := HA.out W (hB.trans (Below.mono hW hB.size)); obtain ⟨c0, c1, c2, d0, d1, d2⟩ := hq; clear hW; go_simp; first | done | with_reducible rfl
    try simp only [Act.put]
    refine wpAnyH_ready (rs := [1]) (by kernel_rfl) (by simp) ?_
    refine AllReadyH.cons (o := _) rfl (fun K hK => ?_) AllReadyH.nil
    rw [if_pos (by kernel_rfl)]
    refine wp_append_sl (.const (.slice none 0 0)) (.tmp 50) 23 rfl _ 5 Try.underlying23 Try.info5 _ 0 [] rfl (World.ownsRow_nil _ _ _ _) _ (R) rfl (hR.later hHeld) (by omega) (Nat.le_refl _) ?_
    intro VA xc ho4 hg4
    refine hK.out _ _ ?_ (fun hHeld => ?_)
    · exact hHeld.trans ((below_new hg4).mono hHeld.size)
    clear hK K
    try simp only [Act.put]
    refine held_mono (S' := fun W => Below xc.heap.size xc W) (fun W h => hHeld.trans (h.mono hHeld.size)) _ _ _ _ ?_
    replace hR := hR.later hHeld
    replace hB := hB.trans (hHeld.mono hB.size)
    have hVA : Sl xc VA (R) := Sl.own (by simpa using ho4) hR.bd
    clear hHeld hg4 ho4
    have hHeld : Below xc.heap.size xc xc := Below.refl _ _
    refine wpAnyH_ready (rs := [3]) (by kernel_rfl) (by simp) ?_
    refine AllReadyH.cons (o := _) rfl (fun K hK => ?_) AllReadyH.nil
    go_simp
    refine (dput_any VA R a0 X s _ hVA (by omega) h0 h1 hX).mono ?_
    rintro e xc ⟨VB, rfl, ho4, hb4⟩
    dsimp only
    refine hK.out _ _ ?_ (fun hHeld => ?_)
    · exact hHeld.trans (hb4.mono hHeld.size)
    clear hK K
    try simp only [Act.put]
    refine held_mono (S' := fun W => Below xc.heap.size xc W) (fun W h => hHeld.trans (h.mono hHeld.size)) _ _ _ _ ?_
    replace hR := hR.later hHeld
    replace hVA := hVA.later hHeld
    replace hB := hB.trans (hHeld.mono hB.size)
    have hVB : Sl xc VB (R ++ Dt.put a0 X s) := Sl.own (by simpa using ho4) (bd_app HRB.out HPB.out)
    clear hHeld hb4 ho4
    have hHeld : Below xc.heap.size xc xc := Below.refl _ _
    refine wpAnyH_take (i := 4) (v := ?_) rfl (by kernel_rfl) (by kernel_rfl) (by kernel_rfl) (fun _ _ _ h => h) (Or.inl ⟨by kernel_rfl, ?_⟩) hHeld ?_
    rotate_left
    · intro W hW; go_simp; first | done | with_reducible rfl
    try simp only [Act.put]
    refine wpAnyH_done (by kernel_rfl) ?_ _
    refine NoPanic.normal ?_
    clear hHeld hVA
    go_simp
    go_wp2_with fail
    refine wp_region_noPanic ?_
    refine wp_region_held_drew (S := fun W => Below xc.heap.size xc W) (by kernel_rfl) ?_ (fun hHeld => ?_)
    · exact (Below.refl _ _).drew
    have hcat := nums_app R (Dt.put a0 X s)
    have hsz : ¬ 9223372036854775807 < (strOfNums R).size + (strOfNums (Dt.put a0 X s)).size := by rw [strOfNums_size, strOfNums_size]; omega
    refine wpAnyH_take (i := 0) (v := ?_) rfl (by kernel_rfl) (by kernel_rfl) (by kernel_rfl) (fun _ _ _ h => h) (Or.inl ⟨by kernel_rfl, ?_⟩) hHeld ?_
    rotate_left
    · intro W hW; go_simp; first | done | with_reducible rfl
    try simp only [Act.put]
    refine wpAnyH_take (i := 1) (v := .string (strOfNums (R ++ Dt.put a0 X s))) rfl (by kernel_rfl) (by kernel_rfl) (by kernel_rfl) (fun _ _ _ h => h) (Or.inl ⟨by kernel_rfl, ?_⟩) hHeld ?_
    · intro W hW; have hcv := (hVB.later hW).conv (P := Try.prog) 23 9 5 Try.underlying23 Try.underlying5 Try.underlying9; go_simp
    try simp only [Act.put]
    refine wpAnyH_take (i := 2) (v := ?_) rfl (by kernel_rfl) (by kernel_rfl) (by kernel_rfl) (fun _ _ _ h => h) (Or.inl ⟨by kernel_rfl, ?_⟩) hHeld ?_
    rotate_left
    · intro W hW; go_simp; first | done | with_reducible rfl
    try simp only [Act.put]
    refine wpAnyH_take (i := 3) (v := .string (strOfNums (R))) rfl (by kernel_rfl) (by kernel_rfl) (by kernel_rfl) (fun _ _ _ h => h) (Or.inl ⟨by kernel_rfl, ?_⟩) hHeld ?_
    · intro W hW; have hcv := (hR.later hW).conv (P := Try.prog) 23 9 5 Try.underlying23 Try.underlying5 Try.underlying9; go_simp
    try simp only [Act.put]
    refine wpAnyH_take (i := 4) (v := .agg #[.int .i64 a0, .float .f64 X, .string s]) rfl (by kernel_rfl) (by kernel_rfl) (by kernel_rfl) (fun _ _ _ h => h) (Or.inl ⟨by kernel_rfl, ?_⟩) hHeld ?_
    · intro W hW; have hq := HA.out W (hB.trans (Below.mono hW hB.size)); obtain ⟨c0, c1, c2, d0, d1, d2⟩ := hq; clear hW; go_simp; first | done | with_reducible rfl
    try simp only [Act.put]
    refine wpAnyH_ready (rs := [5]) (by kernel_rfl) (by simp) ?_
    refine AllReadyH.cons (o := _) rfl (fun K hK => ?_) AllReadyH.nil
    go_simp
    refine (refPutVal_any a0 X s _ (by omega) h0 h1 hX).mono ?_
    rintro e xc ⟨VP, rfl, ho4, hb4⟩
    dsimp only
    refine hK.out _ _ ?_ (fun hHeld => ?_)
    · exact hHeld.trans (hb4.mono hHeld.size)
    clear hK K
    try simp only [Act.put]
    refine held_mono (S' := fun W => Below xc.heap.size xc W) (fun W h => hHeld.trans (h.mono hHeld.size)) _ _ _ _ ?_
    replace hR := hR.later hHeld
    replace hVB := hVB.later hHeld
    replace hB := hB.trans (hHeld.mono hB.size)
    have hVP : Sl xc VP (Dt.put a0 X s) := Sl.own (by simpa using ho4) HPB.out
    clear hHeld hb4 ho4
    have hHeld : Below xc.heap.size xc xc := Below.refl _ _
    refine wpAnyH_take (i := 6) (v := .string (strOfNums (Dt.put a0 X s))) rfl (by kernel_rfl) (by kernel_rfl) (by kernel_rfl) (fun _ _ _ h => h) (Or.inl ⟨by kernel_rfl, ?_⟩) hHeld ?_
    · intro W hW; have hcv := (hVP.later hW).conv (P := Try.prog) 23 9 5 Try.underlying23 Try.underlying5 Try.underlying9; go_simp
    try simp only [Act.put]
    refine wpAnyH_take (i := 7) (v := .string (strOfNums (R ++ Dt.put a0 X s))) rfl (by kernel_rfl) (by kernel_rfl) (by kernel_rfl) (fun _ _ _ h => h) (Or.inl ⟨by kernel_rfl, ?_⟩) hHeld ?_
    · intro W hW; go_simp; first | done | with_reducible rfl
    try simp only [Act.put]
    refine wpAnyH_take (i := 8) (v := .bool false) rfl (by kernel_rfl) (by kernel_rfl) (by kernel_rfl) (fun _ _ _ h => h) (Or.inl ⟨by kernel_rfl, ?_⟩) hHeld ?_
    · intro W hW; go_simp; first | done | with_reducible rfl
    try simp only [Act.put]
    refine wpAnyH_done (by kernel_rfl) ?_ _
    refine NoPanic.normal ?_
    clear hHeld hcat hsz hVP
    go_simp
    obtain ⟨pa, na, ca, rfl, hna, hca, Hna, HRa⟩ := hR.opens
    obtain ⟨pb, nb, cb, rfl, hnb, hcb, Hnb, HBb⟩ := hVB.opens
    have hab : na ≤ nb := by rw [Hna.out, Hnb.out]; simp
    have hlb : nb - na = (Dt.put a0 X s).length := by rw [Hna.out, Hnb.out]; simp
    have hneb : ¬ cb = na := by omega
    have hQb : Sl xc (.slice (pb.map (·.add na)) (nb - na) (cb - na)) (Dt.put a0 X s) := by
      have := HBb.out.rest (l := na) (by rw [Hna.out]; simp) _ rfl
      rw [if_neg hneb, Hna.out, List.drop_left, ← Hna.out] at this
      exact this
    have HQb := hide hQb
    have HLb := hide hlb
    clear hQb hlb hVB hR
    go_wp2_with (first | (refine wpList_append_sl rfl (.const (.slice none 0 0)) (.tmp 67) 23 rfl xc.heap.size 5 Try.underlying23 Try.info5 _ 0 [] rfl (World.ownsRow_nil _ _ _ _) _ (Dt.put a0 X s) rfl HQb.out (by omega) (Nat.le_refl _) ?_; intro v11 x11 ho11 hg11) | (refine wpList_append_sl rfl (.tmp 68) (.tmp 69) 23 rfl xc.heap.size 5 Try.underlying23 Try.info5 v11 (0 + (Dt.put a0 X s).length) ([] ++ Dt.put a0 X s) rfl ho11 _ R rfl (HRa.out.later (below_new hg11)) (by omega) hg11.size ?_; intro v12 x12 ho12 hg12))
    have hb12 : Below xc.heap.size xc x12 := (below_new hg11).grown hg12 hg11.size (fun k hk => (ho11.lt k hk).1)
    have hS12 : Sl x12 v12 (Dt.put a0 X s ++ R) := Sl.own (by simpa using ho12) (bd_app HPB.out HRB.out)
    replace hB := hB.trans (hb12.mono hB.size)
    clear ho11 hg11 ho12 hg12 hb12 HQb HRa HBb
    refine (dget_at hS12 HGP.out).mono ?_
    rintro e x13 ⟨rfl, hb⟩
    replace hB := hB.trans (hb.mono hB.size)
    clear hb hS12
    have e2 : ((Dt.put a0 X s).length : Int) = (nb : Int) - (na : Int) := by have := HLb.out; omega
    rw [e2, sb_back]
    clear e2
    generalize hZ : x13.alloc (Obj.cells #[Value.int IntKind.i64 a0, Value.float FloatKind.f64 X, Value.string s] 27) = Z
    have hBZ := hB.alloc hB.size (Obj.cells #[Value.int IntKind.i64 a0, Value.float FloatKind.f64 X, Value.string s] 27)
    rw [hZ] at hBZ
    have HA2 : Hid (∀ w', Below Z.heap.size Z w' → _) := fun w' hb => and6 (HA.out w' (hBZ.trans (hb.mono hBZ.size))) (box_cells (w := x13) (w' := w') (by rw [hZ]; exact hb))
    replace hBw := hBw.trans (hBZ.mono hBw.size)
    clear HA hB hBZ
    have HA := HA2
    clear HA2
    have hB : Below Z.heap.size Z Z := Below.refl _ _
    go_wp2_with fail
    refine wp_region_noPanic ?_
    refine wp_region_held_drew (S := fun W => Below Z.heap.size Z W) (by kernel_rfl) ?_ (fun hHeld => ?_)
    · exact (Below.refl _ _).drew
    refine wpAnyH_take (i := 0) (v := ?_) rfl (by kernel_rfl) (by kernel_rfl) (by kernel_rfl) (fun _ _ _ h => h) (Or.inl ⟨by kernel_rfl, ?_⟩) hHeld ?_
    rotate_left
    · intro W hW; go_simp; first | done | with_reducible rfl
    try simp only [Act.put]
    refine wpAnyH_take (i := 1) (v := .bool true) rfl (by kernel_rfl) (by kernel_rfl) (by kernel_rfl) (fun _ _ _ h => h) (Or.inl ⟨by kernel_rfl, ?_⟩) hHeld ?_
    · intro W hW; go_simp; first | done | with_reducible rfl
    try simp only [Act.put]
    refine wpAnyH_take (i := 2) (v := ?_) rfl (by kernel_rfl) (by kernel_rfl) (by kernel_rfl) (fun _ _ _ h => h) (Or.inl ⟨by kernel_rfl, ?_⟩) hHeld ?_
    rotate_left
    · intro W hW; go_simp; first | done | with_reducible rfl
    try simp only [Act.put]
    refine wpAnyH_take (i := 3) (v := ?_) rfl (by kernel_rfl) (by kernel_rfl) (by kernel_rfl) (fun _ _ _ h => h) (Or.inl ⟨by kernel_rfl, ?_⟩) hHeld ?_
    rotate_left
    · intro W hW; go_simp; first | done | with_reducible rfl
    try simp only [Act.put]
    refine wpAnyH_take (i := 4) (v := ?_) rfl (by kernel_rfl) (by kernel_rfl) (by kernel_rfl) (fun _ _ _ h => h) (Or.inl ⟨by kernel_rfl, ?_⟩) hHeld ?_
    rotate_left
    · intro W hW; go_simp; first | done | with_reducible rfl
    try simp only [Act.put]
    refine wpAnyH_take (i := 5) (v := ?_) rfl (by kernel_rfl) (by kernel_rfl) (by kernel_rfl) (fun _ _ _ h => h) (Or.inl ⟨by kernel_rfl, ?_⟩) hHeld ?_
    rotate_left
    · intro W hW; go_simp; first | done | with_reducible rfl
    try simp only [Act.put]
    refine wpAnyH_take (i := 6) (v := ?_) rfl (by kernel_rfl) (by kernel_rfl) (by kernel_rfl) (fun _ _ _ h => h) (Or.inl ⟨by kernel_rfl, ?_⟩) hHeld ?_
    rotate_left
    · intro W hW; go_simp; first | done | with_reducible rfl
    try simp only [Act.put]
    refine wpAnyH_take (i := 7) (v := ?_) rfl (by kernel_rfl) (by kernel_rfl) (by kernel_rfl) (fun _ _ _ h => h) (Or.inl ⟨by kernel_rfl, ?_⟩) hHeld ?_
    rotate_left
    · intro W hW; go_simp; first | done | with_reducible rfl
    try simp only [Act.put]
    have hsub : IntKind.i64.wrap ((nb : Int) - (na : Int)) = (nb : Int) - (na : Int) := by simp [IntKind.wrap, IntKind.bits, IntKind.signed]; omega
    refine wpAnyH_take (i := 8) (v := .int .i64 ((nb : Int) - (na : Int))) rfl (by kernel_rfl) (by kernel_rfl) (by kernel_rfl) (fun _ _ _ h => h) (Or.inl ⟨by kernel_rfl, ?_⟩) hHeld ?_
    · intro W hW; go_simp; first | done | with_reducible rfl
    try simp only [Act.put]
    clear hsub
    refine wpAnyH_take (i := 9) (v := .bool true) rfl (by kernel_rfl) (by kernel_rfl) (by kernel_rfl) (fun _ _ _ h => h) (Or.inl ⟨by kernel_rfl, ?_⟩) hHeld ?_
    · intro W hW; go_simp; first | done | with_reducible rfl
    try simp only [Act.put]
    refine wpAnyH_take (i := 10) (v := .bool true) rfl (by kernel_rfl) (by kernel_rfl) (by kernel_rfl) (fun _ _ _ h => h) (Or.inl ⟨by kernel_rfl, ?_⟩) hHeld ?_
    · intro W hW; go_simp; first | done | with_reducible rfl
    try simp only [Act.put]
    refine wpAnyH_take (i := 11) (v := ?_) rfl (by kernel_rfl) (by kernel_rfl) (by kernel_rfl) (fun _ _ _ h => h) (Or.inl ⟨by kernel_rfl, ?_⟩) hHeld ?_
    rotate_left
    · intro W hW; go_simp; first | done | with_reducible rfl
    try simp only [Act.put]
    refine wpAnyH_take (i := 12) (v := .agg #[.int .i64 a0, .float .f64 X, .string s]) rfl (by kernel_rfl) (by kernel_rfl) (by kernel_rfl) (fun _ _ _ h => h) (Or.inl ⟨by kernel_rfl, ?_⟩) hHeld ?_
    · intro W hW; have hq := HA.out W (hB.trans (Below.mono hW hB.size)); obtain ⟨c0, c1, c2, d0, d1, d2, e0, e1, e2⟩ := hq; clear hW; go_simp; first | done | with_reducible rfl
    try simp only [Act.put]
    refine wpAnyH_take (i := 13) (v := .agg #[.int .i64 a0, .float .f64 X, .string s]) rfl (by kernel_rfl) (by kernel_rfl) (by kernel_rfl) (fun _ _ _ h => h) (Or.inl ⟨by kernel_rfl, ?_⟩) hHeld ?_
    · intro W hW; have hq := HA.out W (hB.trans (Below.mono hW hB.size)); obtain ⟨c0, c1, c2, d0, d1, d2, e0, e1, e2⟩ := hq; clear hW; go_simp; first | done | with_reducible rfl
    try simp only [Act.put]
    refine wpAnyH_ready (rs := [14]) (by kernel_rfl) (by simp) ?_
    refine AllReadyH.cons (o := _) rfl (fun K hK => ?_) AllReadyH.nil
    go_simp
    refine (refEq_any a0 X s a0 X s _ hX hX).mono ?_
    rintro e xc ⟨rfl, hb4⟩
    rw [HRF.out]
    dsimp only
    refine hK.out _ _ ?_ (fun hHeld => ?_)
    · exact hHeld.trans (hb4.mono hHeld.size)
    clear hK K
    try simp only [Act.put]
    refine held_mono (S' := fun W => Below xc.heap.size xc W) (fun W h => hHeld.trans (h.mono hHeld.size)) _ _ _ _ ?_
    replace hB := hB.trans (hHeld.mono hB.size)
    clear hHeld hb4
    have hHeld : Below xc.heap.size xc xc := Below.refl _ _
    refine wpAnyH_take (i := 15) (v := .bool true) rfl (by kernel_rfl) (by kernel_rfl) (by kernel_rfl) (fun _ _ _ h => h) (Or.inl ⟨by kernel_rfl, ?_⟩) hHeld ?_
    · intro W hW; go_simp; first | done | with_reducible rfl
    try simp only [Act.put]
    refine wpAnyH_take (i := 16) (v := ?_) rfl (by kernel_rfl) (by kernel_rfl) (by kernel_rfl) (fun _ _ _ h => h) (Or.inl ⟨by kernel_rfl, ?_⟩) hHeld ?_
    rotate_left
    · intro W hW; go_simp; first | done | with_reducible rfl
    try simp only [Act.put]
    refine wpAnyH_take (i := 17) (v := ?_) rfl (by kernel_rfl) (by kernel_rfl) (by kernel_rfl) (fun _ _ _ h => h) (Or.inl ⟨by kernel_rfl, ?_⟩) hHeld ?_
    rotate_left
    · intro W hW; go_simp; first | done | with_reducible rfl
    try simp only [Act.put]
    refine wpAnyH_take (i := 18) (v := .float .f64 X) rfl (by kernel_rfl) (by kernel_rfl) (by kernel_rfl) (fun _ _ _ h => h) (Or.inl ⟨by kernel_rfl, ?_⟩) hHeld ?_
    · intro W hW; have hq := HA.out W (hB.trans (Below.mono hW hB.size)); obtain ⟨c0, c1, c2, d0, d1, d2, e0, e1, e2⟩ := hq; clear hW; go_simp; first | done | with_reducible rfl
    try simp only [Act.put]
    refine wpAnyH_take (i := 19) (v := ?_) rfl (by kernel_rfl) (by kernel_rfl) (by kernel_rfl) (fun _ _ _ h => h) (Or.inl ⟨by kernel_rfl, ?_⟩) hHeld ?_
    rotate_left
    · intro W hW; go_simp; first | done | with_reducible rfl
    try simp only [Act.put]
    refine wpAnyH_take (i := 20) (v := .float .f64 X) rfl (by kernel_rfl) (by kernel_rfl) (by kernel_rfl) (fun _ _ _ h => h) (Or.inl ⟨by kernel_rfl, ?_⟩) hHeld ?_
    · intro W hW; have hq := HA.out W (hB.trans (Below.mono hW hB.size)); obtain ⟨c0, c1, c2, d0, d1, d2, e0, e1, e2⟩ := hq; clear hW; go_simp; first | done | with_reducible rfl
    try simp only [Act.put]
    refine wpAnyH_ready (rs := [21]) (by kernel_rfl) (by simp) ?_
    refine AllReadyH.cons (o := _) rfl (fun K hK => ?_) AllReadyH.nil
    go_simp
    refine (eq_any X X _).mono ?_
    rintro e xc ⟨rfl, rfl⟩
    rw [show decide (X = X) = true by simp]
    dsimp only
    refine hK.out _ _ ?_ (fun hHeld => ?_)
    · exact hHeld
    clear hK K
    try simp only [Act.put]
    refine wpAnyH_take (i := 22) (v := .bool true) rfl (by kernel_rfl) (by kernel_rfl) (by kernel_rfl) (fun _ _ _ h => h) (Or.inl ⟨by kernel_rfl, ?_⟩) hHeld ?_
    · intro W hW; go_simp; first | done | with_reducible rfl
    try simp only [Act.put]
    refine wpAnyH_take (i := 23) (v := ?_) rfl (by kernel_rfl) (by kernel_rfl) (by kernel_rfl) (fun _ _ _ h => h) (Or.inl ⟨by kernel_rfl, ?_⟩) hHeld ?_
    rotate_left
    · intro W hW; go_simp; first | done | with_reducible rfl
    try simp only [Act.put]
    refine wpAnyH_take (i := 24) (v := .agg #[.int .i64 a3, .float .f64 Y, .string t]) rfl (by kernel_rfl) (by kernel_rfl) (by kernel_rfl) (fun _ _ _ h => h) (Or.inl ⟨by kernel_rfl, ?_⟩) hHeld ?_
    · intro W hW; have hq := HA.out W (hB.trans (Below.mono hW hB.size)); obtain ⟨c0, c1, c2, d0, d1, d2, e0, e1, e2⟩ := hq; clear hW; go_simp; first | done | with_reducible rfl
    try simp only [Act.put]
    cases n
    · skip
      refine wpAnyH_ready (rs := [25]) (by kernel_rfl) (by simp) ?_
      refine AllReadyH.cons (o := _) rfl (fun K hK => ?_) AllReadyH.nil
      go_simp
      refine (refMay_any a3 Y t _ htm hY).mono ?_
      rintro e xc ⟨rfl, hb4⟩
      rw [HN.out]
      dsimp only
      refine hK.out _ _ ?_ (fun hHeld => ?_)
      · exact hHeld.trans (hb4.mono hHeld.size)
      clear hK K
      try simp only [Act.put]
      refine held_mono (S' := fun W => Below xc.heap.size xc W) (fun W h => hHeld.trans (h.mono hHeld.size)) _ _ _ _ ?_
      replace hB := hB.trans (hHeld.mono hB.size)
      clear hHeld hb4
      have hHeld : Below xc.heap.size xc xc := Below.refl _ _
      refine wpAnyH_take (i := 26) (v := .bool true) rfl (by kernel_rfl) (by kernel_rfl) (by kernel_rfl) (fun _ _ _ h => h) (Or.inl ⟨by kernel_rfl, ?_⟩) hHeld ?_
      · intro W hW; go_simp; first | done | with_reducible rfl
      try simp only [Act.put]
      refine wpAnyH_take (i := 27) (v := ?_) rfl (by kernel_rfl) (by kernel_rfl) (by kernel_rfl) (fun _ _ _ h => h) (Or.inl ⟨by kernel_rfl, ?_⟩) hHeld ?_
      rotate_left
      · intro W hW; go_simp; first | done | with_reducible rfl
      try simp only [Act.put]
      refine wpAnyH_take (i := 28) (v := undef) rfl (by kernel_rfl) (by kernel_rfl) (by kernel_rfl) (fun _ _ _ h => h) (Or.inr ⟨by kernel_rfl, rfl⟩) hHeld ?_
      try simp only [Act.put]
      refine wpAnyH_take (i := 29) (v := undef) rfl (by kernel_rfl) (by kernel_rfl) (by kernel_rfl) (fun _ _ _ h => h) (Or.inr ⟨by kernel_rfl, rfl⟩) hHeld ?_
      try simp only [Act.put]
      refine wpAnyH_take (i := 31) (v := undef) rfl (by kernel_rfl) (by kernel_rfl) (by kernel_rfl) (fun _ _ _ h => h) (Or.inr ⟨by kernel_rfl, rfl⟩) hHeld ?_
      try simp only [Act.put]
      refine wpAnyH_take (i := 32) (v := undef) rfl (by kernel_rfl) (by kernel_rfl) (by kernel_rfl) (fun _ _ _ h => h) (Or.inr ⟨by kernel_rfl, rfl⟩) hHeld ?_
      try simp only [Act.put]
      refine wpAnyH_ready (rs := [30]) (by kernel_rfl) (by simp) ?_
      refine AllReadyH.cons (o := _) rfl (fun K hK => ?_) AllReadyH.nil
      go_simp
      refine hK.out _ _ ?_ (fun hHeld => ?_)
      · exact hHeld
      clear hK K
      try simp only [Act.put]
      refine wpAnyH_ready (rs := [33]) (by kernel_rfl) (by simp) ?_
      refine AllReadyH.cons (o := _) rfl (fun K hK => ?_) AllReadyH.nil
      go_simp
      refine hK.out _ _ ?_ (fun hHeld => ?_)
      · exact hHeld
      clear hK K
      try simp only [Act.put]
      refine wpAnyH_take (i := 34) (v := undef) rfl (by kernel_rfl) (by kernel_rfl) (by kernel_rfl) (fun _ _ _ h => h) (Or.inr ⟨by kernel_rfl, rfl⟩) hHeld ?_
      try simp only [Act.put]
      refine wpAnyH_take (i := 35) (v := .bool true) rfl (by kernel_rfl) (by kernel_rfl) (by kernel_rfl) (fun _ _ _ h => h) (Or.inl ⟨by kernel_rfl, ?_⟩) hHeld ?_
      · intro W hW; go_simp; first | done | with_reducible rfl
      try simp only [Act.put]
      refine wpAnyH_take (i := 36) (v := .bool true) rfl (by kernel_rfl) (by kernel_rfl) (by kernel_rfl) (fun _ _ _ h => h) (Or.inl ⟨by kernel_rfl, ?_⟩) hHeld ?_
      · intro W hW; go_simp; first | done | with_reducible rfl
      try simp only [Act.put]
      refine wpAnyH_take (i := 37) (v := ?_) rfl (by kernel_rfl) (by kernel_rfl) (by kernel_rfl) (fun _ _ _ h => h) (Or.inl ⟨by kernel_rfl, ?_⟩) hHeld ?_
      rotate_left
      · intro W hW; go_simp; first | done | with_reducible rfl
      try simp only [Act.put]
      refine wpAnyH_done (by kernel_rfl) ?_ _
      refine NoPanic.normal ?_
      clear hHeld
      go_simp
      go_wp2_with fail
      go_ret
      exact ⟨rfl, hBw.trans (hB.mono hBw.size)⟩
    · obtain ⟨l, hl⟩ : ∃ l, Dt.eq a0 X s a3 Y t = l := ⟨_, rfl⟩
      have HL := hide hl
      clear hl
      refine wpAnyH_ready (rs := [25]) (by kernel_rfl) (by simp) ?_
      refine AllReadyH.cons (o := _) rfl (fun K hK => ?_) AllReadyH.nil
      go_simp
      refine (refMay_any a3 Y t _ htm hY).mono ?_
      rintro e xc ⟨rfl, hb4⟩
      rw [HN.out]
      dsimp only
      refine hK.out _ _ ?_ (fun hHeld => ?_)
      · exact hHeld.trans (hb4.mono hHeld.size)
      clear hK K
      try simp only [Act.put]
      refine held_mono (S' := fun W => Below xc.heap.size xc W) (fun W h => hHeld.trans (h.mono hHeld.size)) _ _ _ _ ?_
      replace hB := hB.trans (hHeld.mono hB.size)
      clear hHeld hb4
      have hHeld : Below xc.heap.size xc xc := Below.refl _ _
      refine wpAnyH_take (i := 26) (v := .bool false) rfl (by kernel_rfl) (by kernel_rfl) (by kernel_rfl) (fun _ _ _ h => h) (Or.inl ⟨by kernel_rfl, ?_⟩) hHeld ?_
      · intro W hW; go_simp; first | done | with_reducible rfl
      try simp only [Act.put]
      refine wpAnyH_take (i := 27) (v := ?_) rfl (by kernel_rfl) (by kernel_rfl) (by kernel_rfl) (fun _ _ _ h => h) (Or.inl ⟨by kernel_rfl, ?_⟩) hHeld ?_
      rotate_left
      · intro W hW; go_simp; first | done | with_reducible rfl
      try simp only [Act.put]
      refine wpAnyH_take (i := 28) (v := .agg #[.int .i64 a0, .float .f64 X, .string s]) rfl (by kernel_rfl) (by kernel_rfl) (by kernel_rfl) (fun _ _ _ h => h) (Or.inl ⟨by kernel_rfl, ?_⟩) hHeld ?_
      · intro W hW; have hq := HA.out W (hB.trans (Below.mono hW hB.size)); obtain ⟨c0, c1, c2, d0, d1, d2, e0, e1, e2⟩ := hq; clear hW; go_simp; first | done | with_reducible rfl
      try simp only [Act.put]
      refine wpAnyH_take (i := 29) (v := .agg #[.int .i64 a3, .float .f64 Y, .string t]) rfl (by kernel_rfl) (by kernel_rfl) (by kernel_rfl) (fun _ _ _ h => h) (Or.inl ⟨by kernel_rfl, ?_⟩) hHeld ?_
      · intro W hW; have hq := HA.out W (hB.trans (Below.mono hW hB.size)); obtain ⟨c0, c1, c2, d0, d1, d2, e0, e1, e2⟩ := hq; clear hW; go_simp; first | done | with_reducible rfl
      try simp only [Act.put]
      refine wpAnyH_take (i := 31) (v := .agg #[.int .i64 a0, .float .f64 X, .string s]) rfl (by kernel_rfl) (by kernel_rfl) (by kernel_rfl) (fun _ _ _ h => h) (Or.inl ⟨by kernel_rfl, ?_⟩) hHeld ?_
      · intro W hW; have hq := HA.out W (hB.trans (Below.mono hW hB.size)); obtain ⟨c0, c1, c2, d0, d1, d2, e0, e1, e2⟩ := hq; clear hW; go_simp; first | done | with_reducible rfl
      try simp only [Act.put]
      refine wpAnyH_take (i := 32) (v := .agg #[.int .i64 a3, .float .f64 Y, .string t]) rfl (by kernel_rfl) (by kernel_rfl) (by kernel_rfl) (fun _ _ _ h => h) (Or.inl ⟨by kernel_rfl, ?_⟩) hHeld ?_
      · intro W hW; have hq := HA.out W (hB.trans (Below.mono hW hB.size)); obtain ⟨c0, c1, c2, d0, d1, d2, e0, e1, e2⟩ := hq; clear hW; go_simp; first | done | with_reducible rfl
      try simp only [Act.put]
      refine wpAnyH_ready (rs := [30]) (by kernel_rfl) (by simp) ?_
      refine AllReadyH.cons (o := _) rfl (fun K hK => ?_) AllReadyH.nil
      go_simp
      refine (eqv_any a0 X s a3 Y t _ hX hY).mono ?_
      rintro e xc ⟨rfl, hb4⟩
      rw [HL.out]
      dsimp only
      refine hK.out _ _ ?_ (fun hHeld => ?_)
      · exact hHeld.trans (hb4.mono hHeld.size)
      clear hK K
      try simp only [Act.put]
      refine held_mono (S' := fun W => Below xc.heap.size xc W) (fun W h => hHeld.trans (h.mono hHeld.size)) _ _ _ _ ?_
      replace hB := hB.trans (hHeld.mono hB.size)
      clear hHeld hb4
      have hHeld : Below xc.heap.size xc xc := Below.refl _ _
      refine wpAnyH_ready (rs := [33]) (by kernel_rfl) (by simp) ?_
      refine AllReadyH.cons (o := _) rfl (fun K hK => ?_) AllReadyH.nil
      go_simp
      refine (refEq_any a0 X s a3 Y t _ hX hY).mono ?_
      rintro e xc ⟨rfl, hb4⟩
      rw [HL.out]
      dsimp only
      refine hK.out _ _ ?_ (fun hHeld => ?_)
      · exact hHeld.trans (hb4.mono hHeld.size)
      clear hK K
      try simp only [Act.put]
      refine held_mono (S' := fun W => Below xc.heap.size xc W) (fun W h => hHeld.trans (h.mono hHeld.size)) _ _ _ _ ?_
      replace hB := hB.trans (hHeld.mono hB.size)
      clear hHeld hb4
      have hHeld : Below xc.heap.size xc xc := Below.refl _ _
      refine wpAnyH_take (i := 34) (v := .bool true) rfl (by kernel_rfl) (by kernel_rfl) (by kernel_rfl) (fun _ _ _ h => h) (Or.inl ⟨by kernel_rfl, ?_⟩) hHeld ?_
      · intro W hW; go_simp; first | done | with_reducible rfl
      try simp only [Act.put]
      refine wpAnyH_take (i := 35) (v := .bool true) rfl (by kernel_rfl) (by kernel_rfl) (by kernel_rfl) (fun _ _ _ h => h) (Or.inl ⟨by kernel_rfl, ?_⟩) hHeld ?_
      · intro W hW; go_simp; first | done | with_reducible rfl
      try simp only [Act.put]
      refine wpAnyH_take (i := 36) (v := .bool true) rfl (by kernel_rfl) (by kernel_rfl) (by kernel_rfl) (fun _ _ _ h => h) (Or.inl ⟨by kernel_rfl, ?_⟩) hHeld ?_
      · intro W hW; go_simp; first | done | with_reducible rfl
      try simp only [Act.put]
      refine wpAnyH_take (i := 37) (v := ?_) rfl (by kernel_rfl) (by kernel_rfl) (by kernel_rfl) (fun _ _ _ h => h) (Or.inl ⟨by kernel_rfl, ?_⟩) hHeld ?_
      rotate_left
      · intro W hW; go_simp; first | done | with_reducible rfl
      try simp only [Act.put]
      refine wpAnyH_done (by kernel_rfl) ?_ _
      refine NoPanic.normal ?_
      clear hHeld
      go_simp
      go_wp2_with fail
      go_ret
      exact ⟨rfl, hBw.trans (hB.mono hBw.size)⟩

set_option maxRecDepth 100000 in
theorem lifted (os : Os) (started : os.Started) (H : Type) (enc : TypeId × Value → H) :
    ReturnsInHanded {} Try.checked os 3 .any (Rows.datumAllSpec.pre6 enc Try.prog Try.f3 Rows.datumAllRow.domain false) (Rows.datumAllSpec.post enc Try.prog Try.f3 false true false false) := by
  refine returnsInHanded_of_change (C := Try.checked) own started (by kernel_rfl) Try.func3
    (ChangeSpec.witness6 (enc := enc) (C := Try.checked) false ⟨#[], #[.int .i64 0, .int .u64 0, .string ByteArray.empty, .int .i64 0, .int .u64 0, .string ByteArray.empty, .slice none 0 0], []⟩ 8 (by kernel_rfl) (by kernel_rfl) (by kernel_rfl) (by kernel_rfl)) ?_
  intro W base args ds gs before hval0 hW hcnd _
  have hval : ∀ (j : Nat) t v, Try.f3.params[j]? = some t → args[j]? = some v → Value.okWide Try.prog W .any base t v := hval0
  have hW' := hW
  obtain ⟨p, q, hA0, hV, rfl, hfz, hnd⟩ := hW
  have hA : DataW.TrodAll enc Try.prog W 0 (fun _ => true) true Try.f3.params.toList args.toList ds p := hA0
  rw [Try.params3] at hA hval
  obtain ⟨v0, vs0, d0, ds0, p0, q0, hargs, rfl, rfl, h0, r0⟩ := trodAll_cons hA
  obtain ⟨v1, vs1, d1, ds1, p1, q1, rfl, rfl, rfl, h1, r1⟩ := trodAll_cons r0
  obtain ⟨v2, vs2, d2, ds2, p2, q2, rfl, rfl, rfl, h2, r2⟩ := trodAll_cons r1
  obtain ⟨v3, vs3, d3, ds3, p3, q3, rfl, rfl, rfl, h3, r3⟩ := trodAll_cons r2
  obtain ⟨v4, vs4, d4, ds4, p4, q4, rfl, rfl, rfl, h4, r4⟩ := trodAll_cons r3
  obtain ⟨v5, vs5, d5, ds5, p5, q5, rfl, rfl, rfl, h5, r5⟩ := trodAll_cons r4
  obtain ⟨v6, vs6, d6, ds6, p6, q6, rfl, rfl, rfl, h6, r6⟩ := trodAll_cons r5
  obtain ⟨rfl, rfl, rfl⟩ := trodAll_nil r6
  obtain rfl : args = #[v0, v1, v2, v3, v4, v5, v6] := by cases args; simp_all
  obtain ⟨rfl, rfl⟩ := trodVars_none hV
  obtain ⟨a0, rfl, rfl, rfl, w0⟩ := open_int Try.underlying3 (hval 0 3 v0 rfl rfl) h0
  obtain ⟨a1, rfl, rfl, rfl, w1⟩ := open_int Try.underlying22 (hval 1 22 v1 rfl rfl) h1
  obtain ⟨a2, rfl, rfl, rfl, w2⟩ := open_string Try.underlying9 (hval 2 9 v2 rfl rfl) h2
  obtain ⟨a3, rfl, rfl, rfl, w3⟩ := open_int Try.underlying3 (hval 3 3 v3 rfl rfl) h3
  obtain ⟨a4, rfl, rfl, rfl, w4⟩ := open_int Try.underlying22 (hval 4 22 v4 rfl rfl) h4
  obtain ⟨a5, rfl, rfl, rfl, w5⟩ := open_string Try.underlying9 (hval 5 9 v5 rfl rfl) h5
  obtain ⟨a6, len6, cap6, rfl⟩ := okWide_slice Try.underlying23 (hval 6 23 v6 rfl rfl)
  have k6 := h6
  have lt6 : ∀ x ∈ p6, x.block < W.heap.size := by obtain ⟨m, hm⟩ := k6; exact DataW.trod_lt m _ _ _ hm
  obtain ⟨z6, w6⟩ : ∃ zs, IsRow .u8 W a6 len6 cap6 zs := by
    obtain ⟨fuel, hf⟩ := h6
    rcases open_ints Try.underlying23 Try.underlying5 (by kernel_rfl) hf with ⟨hcs, _⟩ | ⟨x, l, c, zs, hcs, _, hl, hm, hz, _, hcell, hwz⟩
    · simp [Value.cells] at hcs
      obtain ⟨rfl, rfl, rfl⟩ := hcs
      exact ⟨[], .inl ⟨rfl, rfl, rfl, rfl⟩⟩
    · simp [Value.cells] at hcs
      obtain ⟨rfl, rfl, rfl⟩ := hcs
      exact ⟨zs, .inr ⟨_, rfl, hl, hm, by simpa using hz, hcell, hwz⟩⟩
  clear hA0 hval0
  refine (walk a0 a1 a2 a3 a4 a5 a6 len6 cap6 z6 W w0 w1 w2 w3 w4 w5 w6).mono fun e W' ⟨he, bel⟩ => ?_
  subst he
  exact ⟨_, rfl, _, _, _, [], _, [], hW', trodAll_mk1 (shut_bool Try.underlying4 _), (trodAll_cons_mk (shut_int Try.underlying3 w0) (trodAll_cons_mk (shut_int Try.underlying22 w1) (trodAll_cons_mk (shut_string Try.underlying9 w2) (trodAll_cons_mk (shut_int Try.underlying3 w3) (trodAll_cons_mk (shut_int Try.underlying22 w4) (trodAll_cons_mk (shut_string Try.underlying9 w5) (trodAll_cons_mk (Below.trod laidOut (by kernel_rfl) (of_decide_eq_true (by kernel_rfl)) k6 bel lt6) trodAll_mk0))))))), rfl, bel.frame _, fun h => by cases h⟩

theorem over : Rows.datumAllRow.holds Try.pinned (OpenSpec.ofChange Rows.datumAllSpec) :=
  OpenClaim.holds_of_wide 3 Try.f3 rfl rfl rfl rfl rfl rfl rfl ⟨rfl, rfl, rfl, rfl, rfl⟩ rfl rfl rfl rfl rfl (by kernel_rfl) Try.func3 (by kernel_rfl)
    (of_decide_eq_true (by kernel_rfl)) (by unfold Func.isWrapper; first | (rw [if_pos (by decide +kernel)]; kernel_rfl) | (rw [if_neg (by decide +kernel)]; exact ⟨rfl, rfl⟩))
    (fun os started H enc _ => lifted os started H enc)

theorem proved : Rows.DatumAllSaid := over
#print axioms proved
end Go.Proofs.Ytdooocbkhncmdaa.datumAll
