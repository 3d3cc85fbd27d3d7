/-
  The contract of alloc.Take.
-/
import Derived.Test.YtiggannhanfolaaAllC
namespace Go.Proofs.Ytiggannhanfolaa
set_option maxRecDepth 100000
set_option linter.unusedVariables false
open Go.RowKit
set_option linter.unusedVariables false

section
variable {w : World} {g : Nat} {u : Value} {m f : Nat → Option (List Int)} {vs : List Value}

set_option maxHeartbeats 1000000 in
theorem take_down (h : Sheet w g u m vs) (hs : Src w u f) (h1 : orE m f 1 = none) :
    Calls Try.prog 10 #[.pointer (some ⟨g, 0, none⟩)] w fun e w' => e = .returned (.tuple #[.int .i64 0, .int .i64 5]) ∧ Below w.heap.size w w' := by
  have H1 := hide h1
  have HS := hide (h.src hs)
  clear h1 h hs
  go_enter Try.func10, Try.ntmps10
  go_wp2_with fail
  refine (aread_any HS.out).mono ?_
  rw [H1.out]
  rintro e W ⟨rfl, hb⟩
  have HB := hide hb
  clear HS H1 hb
  go_wp2_with fail
  go_ret2
  exact ⟨rfl, HB.out⟩

/-- What Take does. -/
def Took (w : World) (g : Nat) (u : Value) (m : Nat → Option (List Int)) (zs : List Int) (e : Ending) (w' : World) : Prop :=
  (∃ a, 2 ≤ a ∧ a < 32 ∧ us zs a = false ∧ (∀ k, 2 ≤ k → k < a → us zs k = true) ∧ e = .returned (.tuple #[.int .i64 (a : Int), .int .i64 0]) ∧ ∃ vs', Sheet w' g u (put1 (put1 m a zer) 1 (mark zs a)) vs' ∧ But (· = g) w w') ∨
  ((∀ k, 2 ≤ k → k < 32 → us zs k = true) ∧ e = .returned (.tuple #[.int .i64 0, .int .i64 4]) ∧ Below w.heap.size w w')

set_option maxHeartbeats 2000000 in
theorem take_any (h : Sheet w g u m vs) (hs : Src w u f) {zs : List Int} (h1 : orE m f 1 = some zs) :
    Calls Try.prog 10 #[.pointer (some ⟨g, 0, none⟩)] w fun e w' => Took w g u m zs e w' := by
  obtain ⟨i0, hi, hz0, hz1, hz2⟩ := info_parts Try.info5
  have HN : Hid ((madeCells (Value.int IntKind.u8 0).cells (256 * 1)).toList = bv zer) := made_noughts 256
  have H1 := hide h1
  have HH := hide h
  have HS := hide (h.src hs)
  clear h1 h hs
  go_enter Try.func10, Try.ntmps10
  go_wp2_with fail
  refine (aread_any HS.out).mono ?_
  rw [H1.out]
  rintro e W0 ⟨v, rfl, ho, hp, hb⟩
  have HO0 := hide ho
  have HB0 := hide hb
  have HZ := hide hp
  obtain ⟨b, c, us0, rfl, hlo, hc0, hc1, -, -⟩ := own_row ho
  have HL := hide hlo
  clear ho hb hp HS H1 hlo
  go_wp2_with fail
  go_loopw [6] (fun n wr => ∃ no : Nat, n = .int .i64 no ∧ 2 ≤ no ∧ no ≤ 32 ∧ Hid (∀ k, 2 ≤ k → k < no → us zs k = true) ∧ Hid (wr.ownsRow w.heap.size 5 1 (.slice (some ⟨b, 0, none⟩) 256 c) 256 (bv zs)) ∧ Hid (Below w.heap.size w wr)) (fun n _ => 32 - (RowKit.intOf n).toNat)
  case atStart => exact ⟨2, rfl, by omega, by omega, fun k h1 h2 => by omega, HO0, HB0⟩
  case round =>
    obtain ⟨no, rfl, hn2, hn32, HU, HO, HB⟩ := hrel
    clear HO0 HB0
    by_cases hlt : no < 32
    · have h0 : (decide (2 ≤ (no : Int)) && decide ((no : Int) < 32)) = true := by simp; omega
      have hn : no < 2048 := by omega
      go_wp2_with fail
      refine (ais_any _ _).mono ?_
      rw [h0]
      rintro e wr ⟨rfl, rfl⟩
      clear h0
      cases hu : us zs no
      all_goals
        have HX := hide hu
        clear hu
        go_wp2_with fail
        refine (used_any (Sl.own HO.out HZ.out.2) HZ.out.1 no hn).mono ?_
        rw [HX.out]
        rintro e wq ⟨rfl, n, rfl⟩
      · have ho : ((wr.drewN n).drew).ownsRow w.heap.size 5 1 (.slice (some ⟨b, 0, none⟩) 256 c) 256 (bv zs) := HO.out
        have hb : Below w.heap.size w ((wr.drewN n).drew) := (below_dn HB.out n).drew
        generalize hWD : (wr.drewN n).drew = W at *
        have HW := hide hWD
        clear HO HB hWD
        obtain ⟨b', c', us1, e', hlo, -, -, ht, hc⟩ := own_row ho
        simp only [Value.slice.injEq, Option.some.injEq, Addr.mk.injEq, and_true, true_and] at e'
        obtain ⟨rfl, rfl⟩ := e'
        have h8 : no / 8 < 256 := by omega
        have cc := hc (no / 8) h8
        obtain ⟨q1, q2, q3, -⟩ := or_bit (pg_at HZ.out h8).1 (pg_at HZ.out h8).2 (k := no % 8) (by omega)
        have hbt := but_set W b (no / 8) (.int .u8 (orb (zs.getD (no / 8) 0) (no % 8)))
        have HO := hide (own_seti ho (no / 8) (orb (zs.getD (no / 8) 0) (no % 8)))
        have HT := hide ((HH.out.later hb).off hbt ht)
        have HBB : Hid (But (· = g) w (W.setCell ⟨b, no / 8, none⟩ (.int .u8 (orb (zs.getD (no / 8) 0) (no % 8))))) := But.of (Below.but hb hb.size hbt (fun k e => by omega))
        have HP := hide (mark_pg HZ.out hn)
        rw [show zs.set (no / 8) (orb (zs.getD (no / 8) 0) (no % 8)) = mark zs no from rfl] at HO
        generalize orb (zs.getD (no / 8) 0) (no % 8) = y at *
        generalize zs.getD (no / 8) 0 = x at *
        have f4 := ht.frozen (no / 8)
        have hk : (no : Int) / 8 = ((no / 8 : Nat) : Int) := by omega
        have hk2 : ((no / 8 : Nat) : Int) < 256 := by omega
        generalize no / 8 = k at *
        have HQ := hide q1
        have HC := hide cc
        have HF := hide f4
        clear ho hb hc ht hbt hlo HH q1 q2 q3 cc f4
        go_upto_region 8 with fail
        refine wp_region_noPanic ?_
        refine wp_region_P 9 (fun X => X = W) (by kernel_rfl) HW.out (fun hHeld => ?_)
        rw [HW.out] at hHeld ⊢
        have hk3 : IntKind.i64.wrap (k : Int) = (k : Int) := by rw [IntKind.wrap_i64]; omega
        refine wpAnyP_takeU (i := 0) (v := ?_) rfl (by kernel_rfl) (by kernel_rfl) (by kernel_rfl) (by decide) (fun _ _ _ h => h) (Or.inl ⟨by kernel_rfl, ?_⟩) hHeld ?_
        rotate_left
        · intro W hW; clear hW; go_simp; first | done | with_reducible rfl | rfl
        try simp only [Act.put, List.getElem_toArray, List.getElem_cons_zero, List.setIfInBounds_toArray, List.set_cons_succ, List.set_cons_zero]
        refine wpAnyP_takeU (i := 1) (v := ?_) rfl (by kernel_rfl) (by kernel_rfl) (by kernel_rfl) (by decide) (fun _ _ _ h => h) (Or.inl ⟨by kernel_rfl, ?_⟩) hHeld ?_
        rotate_left
        · intro W hW; clear hW; go_simp; first | done | with_reducible rfl | rfl
        try simp only [Act.put, List.getElem_toArray, List.getElem_cons_zero, List.getElem_cons_succ, List.setIfInBounds_toArray, List.set_cons_succ, List.set_cons_zero]
        refine wpAnyP_takeU (i := 2) (v := (.int .i64 (k : Int))) rfl (by kernel_rfl) (by kernel_rfl) (by kernel_rfl) (by decide) (fun _ _ _ h => h) (Or.inl ⟨by kernel_rfl, ?_⟩) hHeld ?_
        · intro W hW; clear hW; go_simp; first | done | with_reducible rfl | rfl
        try simp only [Act.put, List.getElem_toArray, List.getElem_cons_zero, List.getElem_cons_succ, List.setIfInBounds_toArray, List.set_cons_succ, List.set_cons_zero]
        refine wpAnyP_takeU (i := 3) (v := (.pointer (some ⟨b, k, none⟩))) rfl (by kernel_rfl) (by kernel_rfl) (by kernel_rfl) (by decide) (fun _ _ _ h => h) (Or.inl ⟨by kernel_rfl, ?_⟩) hHeld ?_
        · intro W hW; clear hW; go_simp; first | done | with_reducible rfl | rfl
        try simp only [Act.put, List.getElem_toArray, List.getElem_cons_zero, List.getElem_cons_succ, List.setIfInBounds_toArray, List.set_cons_succ, List.set_cons_zero]
        refine wpAnyP_take (i := 4) (v := .int .u8 x) rfl (by kernel_rfl) (by kernel_rfl) (by kernel_rfl) (by kernel_rfl) (by kernel_rfl) (by decide) (fun _ _ _ h => h) (Or.inl ⟨by kernel_rfl, ?_⟩) hHeld ?_
        · intro W hW; have qc := HC.out; go_simp; first | done | with_reducible rfl | rfl
        try simp only [Act.put, List.getElem_toArray, List.getElem_cons_zero, List.getElem_cons_succ, List.setIfInBounds_toArray, List.set_cons_succ, List.set_cons_zero]
        refine wpAnyP_takeU (i := 5) (v := ?_) rfl (by kernel_rfl) (by kernel_rfl) (by kernel_rfl) (by decide) (fun _ _ _ h => h) (Or.inl ⟨by kernel_rfl, ?_⟩) hHeld ?_
        rotate_left
        · intro W hW; clear hW; go_simp; first | done | with_reducible rfl | rfl
        try simp only [Act.put, List.getElem_toArray, List.getElem_cons_zero, List.getElem_cons_succ, List.setIfInBounds_toArray, List.set_cons_succ, List.set_cons_zero]
        refine wpAnyP_ready (rs := [6]) (by kernel_rfl) (by simp) ?_
        refine AllReadyP.cons (o := _) rfl (fun K hK => ?_) AllReadyP.nil
        rw [if_pos (by kernel_rfl)]
        go_simp
        refine (bit_any _ no).mono ?_
        rintro e W' ⟨rfl, rfl⟩
        dsimp only
        refine hK.out _ _ rfl ?_
        clear hK K hHeld
        have hHeld : W' = W' := rfl
        try simp only [Act.put, List.getElem_toArray, List.getElem_cons_zero, List.getElem_cons_succ, List.setIfInBounds_toArray, List.set_cons_succ, List.set_cons_zero]
        have qq := HQ.out
        refine wpAnyP_takeU (i := 7) (v := .int .u8 y) rfl (by kernel_rfl) (by kernel_rfl) (by kernel_rfl) (by decide) (fun _ _ _ h => h) (Or.inl ⟨by kernel_rfl, ?_⟩) hHeld ?_
        · intro W hW; clear hW; go_simp; first | done | with_reducible rfl | rfl
        try simp only [Act.put, List.getElem_toArray, List.getElem_cons_zero, List.getElem_cons_succ, List.setIfInBounds_toArray, List.set_cons_succ, List.set_cons_zero]
        refine wpAnyP_takeU (i := 8) (v := (.pointer (some ⟨b, k, none⟩))) rfl (by kernel_rfl) (by kernel_rfl) (by kernel_rfl) (by decide) (fun _ _ _ h => h) (Or.inl ⟨by kernel_rfl, ?_⟩) hHeld ?_
        · intro W hW; clear hW; go_simp; first | done | with_reducible rfl | rfl
        try simp only [Act.put, List.getElem_toArray, List.getElem_cons_zero, List.getElem_cons_succ, List.setIfInBounds_toArray, List.set_cons_succ, List.set_cons_zero]
        have qc := HC.out
        have qf := HF.out
        refine wpAnyP_ready (rs := [9]) (by kernel_rfl) (by simp) ?_
        refine AllReadyP.late (o := _) rfl (by kernel_rfl) (fun K hK => ?_)
        rw [if_pos (by kernel_rfl)]
        go_simp
        refine hK.out _ _ ?_
        clear hK K qc qf HC HF
        generalize W'.setCell ⟨b, k, none⟩ (.int .u8 y) = Y at *
        refine wpAnyP_done (by kernel_rfl) ?_ _
        refine NoPanic.normal ?_
        go_simp
        clear hHeld qq HW
        go_wp2_with (first
          | (at_make; refine wpList_make_full _ rfl _ _ 25 rfl Y.heap.size 5 i0 (.int .u8 0) 1 Try.underlying25 hi hz0 hz1 _ _ _ _ 256 rfl rfl rfl rfl (by rw [hz2]; omega) (by unfold maxLen; omega) (Nat.le_refl _) ?_; intro W5 ho1 hg1; have HO5 := hide ho1; have HB5 := hide (below_new hg1); clear ho1 hg1))
        have hv5 := HO5.out
        rw [HN.out] at hv5
        have HO6 := hide (own_later HO.out HB5.out)
        refine (set_any (HT.out.later HB5.out) no (by omega) (Sl.own hv5 zer_bd) zer_pg).mono ?_
        rintro e W6 ⟨rfl, vs6, hs6, hb6⟩
        have HS6 := hide hs6
        have HV6 := hide ((HT.out.later HB5.out).bytes hb6 (Sl.own HO6.out HP.out.2))
        have HB6 := hide ((HBB.out.trans (But.of HB5.out)).trans hb6)
        clear hs6 hb6 hv5 HO5 HO6 HB5 HT HBB HO
        go_wp2_with fail
        refine (set_lit HS6.out (no := 1) rfl (by omega) HV6.out HP.out).mono ?_
        rintro e W7 ⟨rfl, vs7, hs7, hb7⟩
        have HS7 := hide hs7
        have HB7 := hide (HB6.out.trans hb7)
        clear hs7 hb7 HS6 HV6 HB6
        go_wp2_with fail
        go_ret2
        exact .inl ⟨no, hn2, hlt, HX.out, HU.out, rfl, _, HS7.out, HB7.out⟩
      · have HO' : Hid ((wr.drewN n).ownsRow w.heap.size 5 1 (.slice (some ⟨b, 0, none⟩) 256 c) 256 (bv zs)) := HO
        have HB' := hide (below_dn HB.out n)
        clear HO HB
        go_wp2_with fail
        go_roundw
        case rel => exact ⟨no + 1, by go_num, by omega, by omega, fun k h1 h2 => by
          rcases Nat.lt_or_ge k no with h | h
          · exact HU.out k h1 h
          · rw [show k = no by omega]; exact HX.out, HO', HB'⟩
        case measure => simp [RowKit.intOf]; omega
    · obtain rfl : no = 32 := by omega
      go_wp2_with fail
      refine (ais_any _ _).mono ?_
      rintro e wr ⟨rfl, rfl⟩
      go_wp2_with fail
      go_ret2
      exact .inr ⟨HU.out, rfl, HB.out⟩
end
end Go.Proofs.Ytiggannhanfolaa
