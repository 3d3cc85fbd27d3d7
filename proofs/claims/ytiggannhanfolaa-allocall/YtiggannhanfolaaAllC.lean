/-
  Contracts of alloc.SetRoot, Free, Take.
-/
import Derived.Test.YtiggannhanfolaaAllB
import Derived.Test.YtiggannhanfolaaOrd
namespace Go.Proofs.Ytiggannhanfolaa
set_option maxRecDepth 100000
set_option linter.unusedVariables false
open Go.RowKit
set_option linter.unusedVariables false

/-- A byte of a row of one's own turns. -/
theorem own_seti {w : World} {base b c : Nat} {zs : List Int} (h : w.ownsRow base 5 1 (.slice (some ⟨b, 0, none⟩) 256 c) 256 (bv zs)) (k : Nat) (z : Int) :
    (w.setCell ⟨b, k, none⟩ (.int .u8 z)).ownsRow base 5 1 (.slice (some ⟨b, 0, none⟩) 256 c) 256 (bv (zs.set k z)) := by
  obtain ⟨hl, h⟩ := h
  have hl' := hl
  rw [bv_len] at hl'
  rcases h with ⟨e, -⟩ | ⟨g, cap, cur, e, hb, hh, h1, h2, h3, h4⟩
  · simp at e
  · simp only [Value.slice.injEq, Option.some.injEq, Addr.mk.injEq, and_true, true_and] at e
    obtain ⟨rfl, rfl⟩ := e
    refine ⟨by rw [bv_len, List.length_set, ← bv_len]; exact hl, .inr ⟨b, c, _, rfl, hb, heap_setCell_same hh, h1, h2, by rw [Array.size_setIfInBounds]; exact h3, ?_⟩⟩
    rw [Array.toList_setIfInBounds, List.take_set, h4, bv_set]

section
variable {w : World} {g : Nat} {u : Value} {m f : Nat → Option (List Int)} {vs : List Value}

set_option maxHeartbeats 1000000 in
theorem setroot_out (h : Sheet w g u m vs) {z : Int} (hz : mb z = false) :
    Calls Try.prog 14 #[.pointer (some ⟨g, 0, none⟩), .int .i64 z] w fun e w' => e = .returned (.int .i64 3) ∧ w' = w := by
  have HM := hide hz
  clear hz h
  go_enter Try.func14, Try.ntmps14
  go_wp2_with fail
  refine (mayb_any _ _).mono ?_
  rw [HM.out]
  rintro e w ⟨rfl, rfl⟩
  go_wp2_with fail
  go_ret
  exact ⟨rfl, rfl⟩

set_option maxHeartbeats 1000000 in
theorem setroot_down (h : Sheet w g u m vs) (hs : Src w u f) (h1 : orE m f 1 = none) {z : Int} (hz : mb z = true) :
    Calls Try.prog 14 #[.pointer (some ⟨g, 0, none⟩), .int .i64 z] w fun e w' => e = .returned (.int .i64 5) ∧ Below w.heap.size w w' := by
  have HM := hide hz
  have H1 := hide h1
  have HS := hide (h.src hs)
  clear hz h1 h hs
  go_enter Try.func14, Try.ntmps14
  go_wp2_with fail
  refine (mayb_any _ _).mono ?_
  rw [HM.out]
  rintro e w ⟨rfl, rfl⟩
  go_wp2_with fail
  refine (aread_any HS.out).mono ?_
  rw [H1.out]
  rintro e W ⟨rfl, hb⟩
  have HB := hide hb
  clear HS H1 hb
  go_wp2_with fail
  go_ret
  exact ⟨rfl, HB.out⟩

set_option maxHeartbeats 1000000 in
theorem setroot_any (h : Sheet w g u m vs) (hs : Src w u f) {zs : List Int} (h1 : orE m f 1 = some zs) {z : Int} (hz : mb z = true) :
    Calls Try.prog 14 #[.pointer (some ⟨g, 0, none⟩), .int .i64 z] w fun e w' => e = .returned (.int .i64 0) ∧ ∃ vs', Sheet w' g u (put1 m 1 (zs.set 4 z)) vs' ∧ But (· = g) w w' := by
  have HM := hide hz
  have H1 := hide h1
  have HH := hide h
  have HS := hide (h.src hs)
  have hz0 : 0 ≤ z ∧ z ≤ 255 := by
    simp [mb] at hz
    omega
  have hzw : z % 256 = z := by omega
  clear hz h1 h hs
  go_enter Try.func14, Try.ntmps14
  go_wp2_with fail
  refine (mayb_any _ _).mono ?_
  rw [HM.out]
  rintro e w ⟨rfl, rfl⟩
  go_wp2_with fail
  refine (aread_any HS.out).mono ?_
  rw [H1.out]
  rintro e W ⟨v, rfl, ho, hp, hb⟩
  obtain ⟨b, c, us, rfl, hlo, hc0, hc1, ht, hc⟩ := own_row ho
  have hH := HH.out.later hb
  have HB := hide hb
  have HO := hide (own_seti ho 4 z)
  have HP := hide (pg_set hp 4 hz0)
  have hbt := but_set W b 4 (.int .u8 z)
  have HT := hide (hH.off hbt ht)
  have HBB : Hid (But (· = g) w (W.setCell ⟨b, 4, none⟩ (.int .u8 z))) := But.of (Below.but hb hb.size hbt (fun k e => by omega))
  have c4 := hc 4 (by omega)
  have f4 := ht.frozen 4
  clear ho hp hb hc ht hbt hH hlo HS H1 HH HM
  go_wp2_with fail
  refine (set_lit HT.out (no := 1) rfl (by omega) (Sl.own HO.out HP.out.2) HP.out).mono ?_
  rintro e W2 ⟨rfl, vs', hs', hb'⟩
  have HS' := hide hs'
  have HB' := hide (HBB.out.trans hb')
  clear hs' hb' HT HO HP HBB
  go_wp2_with fail
  go_ret
  exact ⟨rfl, _, HS'.out, HB'.out⟩

set_option maxHeartbeats 1000000 in
theorem free_out {z : Int} (hz : ¬ (2 ≤ z ∧ z < 32)) :
    Calls Try.prog 13 #[.pointer (some ⟨g, 0, none⟩), .int .i64 z] w fun e w' => e = .returned (.int .i64 6) ∧ w' = w := by
  have h0 : (decide (2 ≤ z) && decide (z < 32)) = false := by simp; omega
  clear hz
  go_enter Try.func13, Try.ntmps13
  go_wp2_with fail
  refine (ais_any _ _).mono ?_
  rw [h0]
  rintro e w ⟨rfl, rfl⟩
  go_wp2_with fail
  go_ret
  exact ⟨rfl, rfl⟩

set_option maxHeartbeats 1000000 in
theorem free_down (h : Sheet w g u m vs) (hs : Src w u f) (h1 : orE m f 1 = none) {z : Int} (hz : 2 ≤ z ∧ z < 32) :
    Calls Try.prog 13 #[.pointer (some ⟨g, 0, none⟩), .int .i64 z] w fun e w' => e = .returned (.int .i64 5) ∧ Below w.heap.size w w' := by
  have h0 : (decide (2 ≤ z) && decide (z < 32)) = true := by simp; omega
  have H1 := hide h1
  have HS := hide (h.src hs)
  clear hz h1 h hs
  go_enter Try.func13, Try.ntmps13
  go_wp2_with fail
  refine (ais_any _ _).mono ?_
  rw [h0]
  rintro e w ⟨rfl, rfl⟩
  go_wp2_with fail
  refine (aread_any HS.out).mono ?_
  rw [H1.out]
  rintro e W ⟨rfl, hb⟩
  have HB := hide hb
  clear HS H1 hb
  go_wp2_with fail
  go_ret
  exact ⟨rfl, HB.out⟩

set_option maxHeartbeats 1000000 in
theorem free_none (h : Sheet w g u m vs) (hs : Src w u f) {zs : List Int} (h1 : orE m f 1 = some zs) {no : Nat} (hno : 2 ≤ no ∧ no < 32) (hu : us zs no = false) :
    Calls Try.prog 13 #[.pointer (some ⟨g, 0, none⟩), .int .i64 (no : Int)] w fun e w' => e = .returned (.int .i64 6) ∧ Below w.heap.size w w' := by
  have h0 : (decide (2 ≤ (no : Int)) && decide ((no : Int) < 32)) = true := by simp; omega
  have hn : no < 2048 := by omega
  have H1 := hide h1
  have HU := hide hu
  have HS := hide (h.src hs)
  clear hno h1 h hs hu
  go_enter Try.func13, Try.ntmps13
  go_wp2_with fail
  refine (ais_any _ _).mono ?_
  rw [h0]
  rintro e w ⟨rfl, rfl⟩
  go_wp2_with fail
  refine (aread_any HS.out).mono ?_
  rw [H1.out]
  rintro e W ⟨v, rfl, ho, hz, hb⟩
  have HB := hide hb
  have HV := hide (Sl.own ho hz.2)
  have HZ := hide hz
  clear ho hz hb HS H1
  go_wp2_with fail
  refine (used_any HV.out HZ.out.1 no hn).mono ?_
  rw [HU.out]
  rintro e W' ⟨rfl, n, rfl⟩
  go_wp2_with fail
  go_ret
  exact ⟨rfl, below_dn HB.out _⟩

set_option maxHeartbeats 2000000 in
/-- A mark is struck. -/
theorem free_any (h : Sheet w g u m vs) (hs : Src w u f) {zs : List Int} (h1 : orE m f 1 = some zs) {no : Nat} (hno : 2 ≤ no ∧ no < 32) (hu : us zs no = true) :
    Calls Try.prog 13 #[.pointer (some ⟨g, 0, none⟩), .int .i64 (no : Int)] w fun e w' => e = .returned (.int .i64 0) ∧ ∃ vs', Sheet w' g u (put1 m 1 (strike zs no)) vs' ∧ But (· = g) w w' := by
  have h0 : (decide (2 ≤ (no : Int)) && decide ((no : Int) < 32)) = true := by simp; omega
  have hn : no < 2048 := by omega
  have H1 := hide h1
  have HU := hide hu
  have HH := hide h
  have HS := hide (h.src hs)
  clear hno h1 h hs hu
  go_enter Try.func13, Try.ntmps13
  go_wp2_with fail
  refine (ais_any _ _).mono ?_
  rw [h0]
  rintro e w ⟨rfl, rfl⟩
  go_wp2_with fail
  refine (aread_any HS.out).mono ?_
  rw [H1.out]
  rintro e W0 ⟨v, rfl, ho, hp, hb⟩
  have HO0 := hide ho
  have HB0 := hide hb
  have HZ := hide hp
  clear ho hb hp HS H1
  go_wp2_with fail
  refine (used_any (Sl.own HO0.out HZ.out.2) HZ.out.1 no hn).mono ?_
  rw [HU.out]
  rintro e W ⟨rfl, n, rfl⟩
  have ho : ((W0.drewN n).drew).ownsRow w.heap.size 5 1 v 256 (bv zs) := HO0.out
  have hb : Below w.heap.size w ((W0.drewN n).drew) := (below_dn HB0.out n).drew
  generalize hWD : (W0.drewN n).drew = W at *
  have HW := hide hWD
  clear HO0 HB0 HU hWD
  obtain ⟨b, c, us, rfl, hlo, hc0, hc1, ht, hc⟩ := own_row ho
  have h8 : no / 8 < 256 := by omega
  have cc := hc (no / 8) h8
  obtain ⟨q1, q2, q3, -⟩ := an_bit (pg_at HZ.out h8).1 (pg_at HZ.out h8).2 (k := no % 8) (by omega)
  have hbt := but_set W b (no / 8) (.int .u8 (anb (zs.getD (no / 8) 0) (no % 8)))
  have HO := hide (own_seti ho (no / 8) (anb (zs.getD (no / 8) 0) (no % 8)))
  have HT := hide ((HH.out.later hb).off hbt ht)
  have HBB : Hid (But (· = g) w (W.setCell ⟨b, no / 8, none⟩ (.int .u8 (anb (zs.getD (no / 8) 0) (no % 8))))) := But.of (Below.but hb hb.size hbt (fun k e => by omega))
  have HP := hide (strike_pg HZ.out hn)
  rw [show zs.set (no / 8) (anb (zs.getD (no / 8) 0) (no % 8)) = strike zs no from rfl] at HO
  generalize anb (zs.getD (no / 8) 0) (no % 8) = y at *
  generalize zs.getD (no / 8) 0 = x at *
  have f4 := ht.frozen (no / 8)
  have hk : (no : Int) / 8 = ((no / 8 : Nat) : Int) := by omega
  have hk2 : ((no / 8 : Nat) : Int) < 256 := by omega
  generalize no / 8 = k at *
  have HQ := hide q1
  have HC := hide cc
  have HF := hide f4
  clear ho hb hc ht hbt hlo HH q1 q2 q3 cc f4
  go_upto_region 8 with fail
  refine wp_region_noPanic ?_
  refine wp_region_P 9 (fun X => X = W) (by kernel_rfl) HW.out (fun hHeld => ?_)
  rw [HW.out] at hHeld ⊢
  have hk3 : IntKind.i64.wrap (k : Int) = (k : Int) := by rw [IntKind.wrap_i64]; omega
  refine wpAnyP_takeU (i := 0) (v := ?_) rfl (by kernel_rfl) (by kernel_rfl) (by kernel_rfl) (by decide) (fun _ _ _ h => h) (Or.inl ⟨by kernel_rfl, ?_⟩) hHeld ?_
  rotate_left
  · intro W hW; clear hW; go_simp; first | done | with_reducible rfl | rfl
  try simp only [Act.put, List.getElem_toArray, List.getElem_cons_zero, List.setIfInBounds_toArray, List.set_cons_succ, List.set_cons_zero]
  refine wpAnyP_takeU (i := 1) (v := ?_) rfl (by kernel_rfl) (by kernel_rfl) (by kernel_rfl) (by decide) (fun _ _ _ h => h) (Or.inl ⟨by kernel_rfl, ?_⟩) hHeld ?_
  rotate_left
  · intro W hW; clear hW; go_simp; first | done | with_reducible rfl | rfl
  try simp only [Act.put, List.getElem_toArray, List.getElem_cons_zero, List.getElem_cons_succ, List.setIfInBounds_toArray, List.set_cons_succ, List.set_cons_zero]
  refine wpAnyP_takeU (i := 2) (v := (.int .i64 (k : Int))) rfl (by kernel_rfl) (by kernel_rfl) (by kernel_rfl) (by decide) (fun _ _ _ h => h) (Or.inl ⟨by kernel_rfl, ?_⟩) hHeld ?_
  · intro W hW; clear hW; go_simp; first | done | with_reducible rfl | rfl
  try simp only [Act.put, List.getElem_toArray, List.getElem_cons_zero, List.getElem_cons_succ, List.setIfInBounds_toArray, List.set_cons_succ, List.set_cons_zero]
  refine wpAnyP_takeU (i := 3) (v := (.pointer (some ⟨b, k, none⟩))) rfl (by kernel_rfl) (by kernel_rfl) (by kernel_rfl) (by decide) (fun _ _ _ h => h) (Or.inl ⟨by kernel_rfl, ?_⟩) hHeld ?_
  · intro W hW; clear hW; go_simp; first | done | with_reducible rfl | rfl
  try simp only [Act.put, List.getElem_toArray, List.getElem_cons_zero, List.getElem_cons_succ, List.setIfInBounds_toArray, List.set_cons_succ, List.set_cons_zero]
  refine wpAnyP_take (i := 4) (v := .int .u8 x) rfl (by kernel_rfl) (by kernel_rfl) (by kernel_rfl) (by kernel_rfl) (by kernel_rfl) (by decide) (fun _ _ _ h => h) (Or.inl ⟨by kernel_rfl, ?_⟩) hHeld ?_
  · intro W hW; have qc := HC.out; go_simp; first | done | with_reducible rfl | rfl
  try simp only [Act.put, List.getElem_toArray, List.getElem_cons_zero, List.getElem_cons_succ, List.setIfInBounds_toArray, List.set_cons_succ, List.set_cons_zero]
  refine wpAnyP_takeU (i := 5) (v := ?_) rfl (by kernel_rfl) (by kernel_rfl) (by kernel_rfl) (by decide) (fun _ _ _ h => h) (Or.inl ⟨by kernel_rfl, ?_⟩) hHeld ?_
  rotate_left
  · intro W hW; clear hW; go_simp; first | done | with_reducible rfl | rfl
  try simp only [Act.put, List.getElem_toArray, List.getElem_cons_zero, List.getElem_cons_succ, List.setIfInBounds_toArray, List.set_cons_succ, List.set_cons_zero]
  refine wpAnyP_ready (rs := [6]) (by kernel_rfl) (by simp) ?_
  refine AllReadyP.cons (o := _) rfl (fun K hK => ?_) AllReadyP.nil
  rw [if_pos (by kernel_rfl)]
  go_simp
  refine (bit_any _ no).mono ?_
  rintro e W' ⟨rfl, rfl⟩
  dsimp only
  refine hK.out _ _ rfl ?_
  clear hK K hHeld
  have hHeld : W' = W' := rfl
  try simp only [Act.put, List.getElem_toArray, List.getElem_cons_zero, List.getElem_cons_succ, List.setIfInBounds_toArray, List.set_cons_succ, List.set_cons_zero]
  have qq := HQ.out
  refine wpAnyP_takeU (i := 7) (v := .int .u8 y) rfl (by kernel_rfl) (by kernel_rfl) (by kernel_rfl) (by decide) (fun _ _ _ h => h) (Or.inl ⟨by kernel_rfl, ?_⟩) hHeld ?_
  · intro W hW; clear hW; go_simp; first | done | with_reducible rfl | rfl
  try simp only [Act.put, List.getElem_toArray, List.getElem_cons_zero, List.getElem_cons_succ, List.setIfInBounds_toArray, List.set_cons_succ, List.set_cons_zero]
  refine wpAnyP_takeU (i := 8) (v := (.pointer (some ⟨b, k, none⟩))) rfl (by kernel_rfl) (by kernel_rfl) (by kernel_rfl) (by decide) (fun _ _ _ h => h) (Or.inl ⟨by kernel_rfl, ?_⟩) hHeld ?_
  · intro W hW; clear hW; go_simp; first | done | with_reducible rfl | rfl
  try simp only [Act.put, List.getElem_toArray, List.getElem_cons_zero, List.getElem_cons_succ, List.setIfInBounds_toArray, List.set_cons_succ, List.set_cons_zero]
  have qc := HC.out
  have qf := HF.out
  refine wpAnyP_ready (rs := [9]) (by kernel_rfl) (by simp) ?_
  refine AllReadyP.late (o := _) rfl (by kernel_rfl) (fun K hK => ?_)
  rw [if_pos (by kernel_rfl)]
  go_simp
  refine hK.out _ _ ?_
  clear hK K qc qf HC HF
  generalize W'.setCell ⟨b, k, none⟩ (.int .u8 y) = Y at *
  refine wpAnyP_done (by kernel_rfl) ?_ _
  refine NoPanic.normal ?_
  go_simp
  clear hHeld qq HW
  go_wp2_with fail
  refine (set_lit HT.out (no := 1) rfl (by omega) (Sl.own HO.out HP.out.2) HP.out).mono ?_
  rintro e W2 ⟨rfl, vs', hs', hb'⟩
  have HS' := hide hs'
  have HB' := hide (HBB.out.trans hb')
  clear hs' hb' HT HO HP HBB
  go_wp2_with fail
  go_ret
  exact ⟨rfl, _, HS'.out, HB'.out⟩
end
end Go.Proofs.Ytiggannhanfolaa
