/-
  For every two slices of operations SheetTwo returns true: of two sheets one above the other (the first 20 operations of each) the changes of the upper one, set into the lower one, are all: it has none left, and the lower one's changes laid into the book make its pages those of the upper sheet. No condition.
-/
import Derived.Test.YthihldepedbppabRows
import Derived.WalkKit
import Derived.ProofKit
import Derived.OpenShut
import Derived.ShutString
import Derived.ChangeOld
import Derived.Below
import Derived.Test.YthihldepedbppabShtU
namespace Go.Proofs.Ythihldepedbppab.sheetTwo
open Go.ChangeShapes Go.WideShapes Go.ChangeAt Go.RowKit
open Go.ChangeMaps (open_string shut_string)
set_option linter.unusedVariables false

theorem own : ownKnob Try.prog.godebug = none := by kernel_rfl
theorem laidOut : laidOutB Try.prog = true := by kernel_rfl

set_option maxRecDepth 100000 in
set_option maxHeartbeats 8000000 in
theorem walk (a0 : Option Addr) (len0 cap0 : Nat) (z0 : List (Int × Int × List Int)) (a1 : Option Addr) (len1 cap1 : Nat) (z1 : List (Int × Int × List Int)) (w : World) (w0 : Ops w (.slice a0 len0 cap0) z0) (w1 : Ops w (.slice a1 len1 cap1) z1) :
    Calls Try.prog 3 #[.slice a0 len0 cap0, .slice a1 len1 cap1] w fun e w' => e = .returned (.bool true) ∧ Below w.heap.size w w' := by
  obtain ⟨hq0, hq1⟩ := w0.len
  obtain ⟨hq2, hq3⟩ := w1.len
  have HA := hide w0
  have HC := hide w1
  clear w0 w1
  go_enter Try.func3, Try.ntmps3
  go_wp2_with fail
  refine (begun_any _).mono ?_
  rintro e x1 ⟨rfl, hB1⟩
  have HK1 := hide (Book.new x1 0)
  have HB1 := hide (hB1.trans ((below_alloc x1 (.cells (bkz 0).toArray 28)).mono hB1.size))
  have HR := hide (run_buildB x1)
  have hl1 := hB1.size
  generalize hq : bkz 0 = q at *
  clear hB1
  go_wp2_with (first
    | (refine wpList_build0T 28 q rfl rfl HR.out ?_)
    | (refine wpList_boxT 28 _ q rfl rfl rfl ?_))
  obtain ⟨gb, hgb⟩ : ∃ gb, gb = x1.heap.size := ⟨_, rfl⟩
  rw [← hgb] at HK1 hl1 ⊢
  refine (Duo.new HK1.out HB1.out HB1.out.size hl1).mono ?_
  rintro e x2 ⟨gs, rfl, hd, -⟩
  have HD := hide hd
  clear hd HK1 HB1 HR hl1 hgb hq
  go_wp2_with fail
  go_loopw [8] (fun i wr => ∃ (k : Nat) (m : Nat → Option (List Int)), k ≤ 20 ∧ k ≤ len0 ∧ i = .int .i64 k ∧ Hid (Duo w.heap.size w wr gs gb 0 m (fun _ => none))) (fun i _ => 20 - (RowKit.intOf i).toNat)
  case atStart => exact ⟨0, _, by omega, by omega, rfl, HD⟩
  case round =>
    clear HD
    obtain ⟨k, m, hk, hkl, rfl, HD⟩ := hrel
    by_cases hlt : k < len0 ∧ k < 20
    · obtain ⟨t1, t2⟩ := hlt
      obtain ⟨b0, o0, pB, nB, cB, kind, z, bs, rfl, HQ, HZ, HS⟩ := HA.out.at_ t1
      go_upto_region 9 with fail
      refine wp_region_noPanic ?_
      refine wp_region_held_drew (S := fun W => Below w.heap.size w W) (by kernel_rfl) ?_ (fun hHeld => ?_)
      · exact HD.out.bel.drew
      refine wpAnyH_take (i := 0) (v := ?_) rfl (by kernel_rfl) (by kernel_rfl) (by kernel_rfl) (fun _ _ _ h => h) (Or.inl ⟨by kernel_rfl, ?_⟩) hHeld ?_
      rotate_left
      · intro W hW; go_simp; first | done | with_reducible rfl | rfl
      try simp only [Act.put, List.getElem_toArray, List.getElem_cons_zero, List.setIfInBounds_toArray, List.set_cons_succ, List.set_cons_zero]
      refine wpAnyH_take (i := 1) (v := ?_) rfl (by kernel_rfl) (by kernel_rfl) (by kernel_rfl) (fun _ _ _ h => h) (Or.inl ⟨by kernel_rfl, ?_⟩) hHeld ?_
      rotate_left
      · intro W hW; go_simp; first | done | with_reducible rfl | rfl
      try simp only [Act.put, List.getElem_toArray, List.getElem_cons_zero, List.getElem_cons_succ, List.setIfInBounds_toArray, List.set_cons_succ, List.set_cons_zero]
      refine wpAnyH_take (i := 2) (v := ?_) rfl (by kernel_rfl) (by kernel_rfl) (by kernel_rfl) (fun _ _ _ h => h) (Or.inl ⟨by kernel_rfl, ?_⟩) hHeld ?_
      rotate_left
      · intro W hW; go_simp; first | done | with_reducible rfl | rfl
      try simp only [Act.put, List.getElem_toArray, List.getElem_cons_zero, List.getElem_cons_succ, List.setIfInBounds_toArray, List.set_cons_succ, List.set_cons_zero]
      refine wpAnyH_take (i := 3) (v := (.pointer (some ⟨b0, o0 + k * 3, none⟩))) rfl (by kernel_rfl) (by kernel_rfl) (by kernel_rfl) (fun _ _ _ h => h) (Or.inl ⟨by kernel_rfl, ?_⟩) hHeld ?_
      · intro W hW; go_simp; first | done | with_reducible rfl | rfl
      try simp only [Act.put, List.getElem_toArray, List.getElem_cons_zero, List.getElem_cons_succ, List.setIfInBounds_toArray, List.set_cons_succ, List.set_cons_zero]
      refine wpAnyH_take (i := 4) (v := ?_) rfl (by kernel_rfl) (by kernel_rfl) (by kernel_rfl) (fun _ _ _ h => h) (Or.inl ⟨by kernel_rfl, ?_⟩) hHeld ?_
      rotate_left
      · intro W hW; go_simp; first | done | with_reducible rfl | rfl
      try simp only [Act.put, List.getElem_toArray, List.getElem_cons_zero, List.getElem_cons_succ, List.setIfInBounds_toArray, List.set_cons_succ, List.set_cons_zero]
      refine wpAnyH_take (i := 5) (v := .int .i64 z) rfl (by kernel_rfl) (by kernel_rfl) (by kernel_rfl) (fun _ _ _ h => h) (Or.inl ⟨by kernel_rfl, ?_⟩) hHeld ?_
      · intro W hW; have cc := (HQ.out W hW).2.1; clear hW; go_simp; first | done | with_reducible rfl | rfl
      try simp only [Act.put, List.getElem_toArray, List.getElem_cons_zero, List.getElem_cons_succ, List.setIfInBounds_toArray, List.set_cons_succ, List.set_cons_zero]
      refine wpAnyH_take (i := 6) (v := ?_) rfl (by kernel_rfl) (by kernel_rfl) (by kernel_rfl) (fun _ _ _ h => h) (Or.inl ⟨by kernel_rfl, ?_⟩) hHeld ?_
      rotate_left
      · intro W hW; go_simp; first | done | with_reducible rfl | rfl
      try simp only [Act.put, List.getElem_toArray, List.getElem_cons_zero, List.getElem_cons_succ, List.setIfInBounds_toArray, List.set_cons_succ, List.set_cons_zero]
      refine wpAnyH_take (i := 7) (v := ?_) rfl (by kernel_rfl) (by kernel_rfl) (by kernel_rfl) (fun _ _ _ h => h) (Or.inl ⟨by kernel_rfl, ?_⟩) hHeld ?_
      rotate_left
      · intro W hW; go_simp; first | done | with_reducible rfl | rfl
      try simp only [Act.put, List.getElem_toArray, List.getElem_cons_zero, List.getElem_cons_succ, List.setIfInBounds_toArray, List.set_cons_succ, List.set_cons_zero]
      refine wpAnyH_take (i := 8) (v := (.pointer (some ⟨b0, o0 + k * 3, none⟩))) rfl (by kernel_rfl) (by kernel_rfl) (by kernel_rfl) (fun _ _ _ h => h) (Or.inl ⟨by kernel_rfl, ?_⟩) hHeld ?_
      · intro W hW; go_simp; first | done | with_reducible rfl | rfl
      try simp only [Act.put, List.getElem_toArray, List.getElem_cons_zero, List.getElem_cons_succ, List.setIfInBounds_toArray, List.set_cons_succ, List.set_cons_zero]
      refine wpAnyH_take (i := 9) (v := ?_) rfl (by kernel_rfl) (by kernel_rfl) (by kernel_rfl) (fun _ _ _ h => h) (Or.inl ⟨by kernel_rfl, ?_⟩) hHeld ?_
      rotate_left
      · intro W hW; go_simp; first | done | with_reducible rfl | rfl
      try simp only [Act.put, List.getElem_toArray, List.getElem_cons_zero, List.getElem_cons_succ, List.setIfInBounds_toArray, List.set_cons_succ, List.set_cons_zero]
      refine wpAnyH_take (i := 10) (v := .slice pB nB cB) rfl (by kernel_rfl) (by kernel_rfl) (by kernel_rfl) (fun _ _ _ h => h) (Or.inl ⟨by kernel_rfl, ?_⟩) hHeld ?_
      · intro W hW; have cc := (HQ.out W hW).2.2; clear hW; go_simp; first | done | with_reducible rfl | rfl
      try simp only [Act.put, List.getElem_toArray, List.getElem_cons_zero, List.getElem_cons_succ, List.setIfInBounds_toArray, List.set_cons_succ, List.set_cons_zero]
      refine wpAnyH_ready (rs := [11]) (by kernel_rfl) (by simp) ?_
      refine AllReadyH.cons (o := _) rfl (fun K hK => ?_) AllReadyH.nil
      go_simp
      refine (short_any _ _ w _ HS.out).mono ?_
      rintro e x3 ⟨v3, rfl, hs3, rfl⟩
      have HS3 := hide hs3
      dsimp only
      refine hK.out _ _ hHeld (fun hHeld => ?_)
      clear hK K hs3
      try simp only [Act.put, List.getElem_toArray, List.getElem_cons_zero, List.getElem_cons_succ, List.setIfInBounds_toArray, List.set_cons_succ, List.set_cons_zero]
      refine wpAnyH_ready (rs := [12]) (by kernel_rfl) (by simp) ?_
      refine AllReadyH.cons (o := _) rfl (fun K hK => ?_) AllReadyH.nil
      go_simp
      refine (pof_any (HS3.out.later hHeld)).mono ?_
      rintro e x4 ⟨b4, rfl, hp4, -, hb⟩
      have HP4 : Hid (Pg (pad (bs.take 256))) := pad_pg HS3.out.bd
      have HT4 := hide (Sl.own (tb_own hp4 HP4.out (Nat.zero_le _)) HP4.out.2)
      have HD4 := hide (HD.out.later ((Below.refl _ wr).drew.trans hb))
      dsimp only
      refine hK.out _ _ HD4.out.bel (fun hHeld => ?_)
      clear hK K hp4 hb HS3 HD
      try simp only [Act.put, List.getElem_toArray, List.getElem_cons_zero, List.getElem_cons_succ, List.setIfInBounds_toArray, List.set_cons_succ, List.set_cons_zero]
      refine wpAnyH_ready (rs := [13]) (by kernel_rfl) (by simp) ?_
      refine AllReadyH.cons (o := _) rfl (fun K hK => ?_) AllReadyH.nil
      go_simp
      by_cases hr : 0 ≤ z ∧ z < 96
      · obtain ⟨no, rfl⟩ := Int.eq_ofNat_of_zero_le hr.1
        have hno : no < 96 := by omega
        refine (HD4.out.set rfl hno HT4.out HP4.out).mono ?_
        rintro e x5 ⟨rfl, hd5, -, -⟩
        have HD5 := hide hd5
        dsimp only
        refine hK.out _ _ HD5.out.bel (fun hHeld => ?_)
        clear hK K hd5 HD4 HT4
        try simp only [Act.put, List.getElem_toArray, List.getElem_cons_zero, List.getElem_cons_succ, List.setIfInBounds_toArray, List.set_cons_succ, List.set_cons_zero]
        refine wpAnyH_done (by kernel_rfl) ?_ _
        refine NoPanic.normal ?_
        go_simp
        clear hHeld hr
        go_wp2_with fail
        go_roundw
        case rel => exact ⟨k + 1, _, by omega, by omega, by go_num, HD5⟩
        case measure => simp [RowKit.intOf]; omega
      · refine (set_out HT4.out HP4.out.1 hr).mono ?_
        rintro e x5 ⟨rfl, rfl⟩
        dsimp only
        refine hK.out _ _ HD4.out.bel (fun hHeld => ?_)
        clear hK K HT4
        try simp only [Act.put, List.getElem_toArray, List.getElem_cons_zero, List.getElem_cons_succ, List.setIfInBounds_toArray, List.set_cons_succ, List.set_cons_zero]
        refine wpAnyH_done (by kernel_rfl) ?_ _
        refine NoPanic.normal ?_
        go_simp
        clear hHeld hr
        go_wp2_with fail
        go_roundw
        case rel => exact ⟨k + 1, _, by omega, by omega, by go_num, HD4⟩
        case measure => simp [RowKit.intOf]; omega
    · have hx : (¬ k < len0) ∨ (k < len0 ∧ ¬ k < 20) := by omega
      clear hlt
      rcases hx with hx | ⟨hx, hx'⟩
      all_goals
        go_wp2_with fail
        refine HD.out.over.mono ?_
        rintro e y1 ⟨gt, rfl, ht, -⟩
        have HT := hide ht
        clear ht HD hx
        go_wp2_with fail
        go_loopw [10] (fun i wr => ∃ (k : Nat) (n : Nat → Option (List Int)), k ≤ 20 ∧ k ≤ len1 ∧ i = .int .i64 k ∧ Hid (Tri w.heap.size w wr gt gs gb n m (fun _ => none))) (fun i _ => 20 - (RowKit.intOf i).toNat)
        case atStart => exact ⟨0, _, by omega, by omega, rfl, HT⟩
        case round =>
          clear HT hk hkl
          obtain ⟨k, n, hk, hkl, rfl, HD⟩ := hrel
          by_cases hlt : k < len1 ∧ k < 20
          · obtain ⟨t1, t2⟩ := hlt
            obtain ⟨b0, o0, pB, nB, cB, kind, z, bs, rfl, HQ, HZ, HS⟩ := HC.out.at_ t1
            go_upto_region 14 with fail
            refine wp_region_noPanic ?_
            refine wp_region_held_drew (S := fun W => Below w.heap.size w W) (by kernel_rfl) ?_ (fun hHeld => ?_)
            · exact HD.out.duo.bel.drew
            refine wpAnyH_take (i := 0) (v := ?_) rfl (by kernel_rfl) (by kernel_rfl) (by kernel_rfl) (fun _ _ _ h => h) (Or.inl ⟨by kernel_rfl, ?_⟩) hHeld ?_
            rotate_left
            · intro W hW; go_simp; first | done | with_reducible rfl | rfl
            try simp only [Act.put, List.getElem_toArray, List.getElem_cons_zero, List.setIfInBounds_toArray, List.set_cons_succ, List.set_cons_zero]
            refine wpAnyH_take (i := 1) (v := ?_) rfl (by kernel_rfl) (by kernel_rfl) (by kernel_rfl) (fun _ _ _ h => h) (Or.inl ⟨by kernel_rfl, ?_⟩) hHeld ?_
            rotate_left
            · intro W hW; go_simp; first | done | with_reducible rfl | rfl
            try simp only [Act.put, List.getElem_toArray, List.getElem_cons_zero, List.getElem_cons_succ, List.setIfInBounds_toArray, List.set_cons_succ, List.set_cons_zero]
            refine wpAnyH_take (i := 2) (v := ?_) rfl (by kernel_rfl) (by kernel_rfl) (by kernel_rfl) (fun _ _ _ h => h) (Or.inl ⟨by kernel_rfl, ?_⟩) hHeld ?_
            rotate_left
            · intro W hW; go_simp; first | done | with_reducible rfl | rfl
            try simp only [Act.put, List.getElem_toArray, List.getElem_cons_zero, List.getElem_cons_succ, List.setIfInBounds_toArray, List.set_cons_succ, List.set_cons_zero]
            refine wpAnyH_take (i := 3) (v := (.pointer (some ⟨b0, o0 + k * 3, none⟩))) rfl (by kernel_rfl) (by kernel_rfl) (by kernel_rfl) (fun _ _ _ h => h) (Or.inl ⟨by kernel_rfl, ?_⟩) hHeld ?_
            · intro W hW; go_simp; first | done | with_reducible rfl | rfl
            try simp only [Act.put, List.getElem_toArray, List.getElem_cons_zero, List.getElem_cons_succ, List.setIfInBounds_toArray, List.set_cons_succ, List.set_cons_zero]
            refine wpAnyH_take (i := 4) (v := ?_) rfl (by kernel_rfl) (by kernel_rfl) (by kernel_rfl) (fun _ _ _ h => h) (Or.inl ⟨by kernel_rfl, ?_⟩) hHeld ?_
            rotate_left
            · intro W hW; go_simp; first | done | with_reducible rfl | rfl
            try simp only [Act.put, List.getElem_toArray, List.getElem_cons_zero, List.getElem_cons_succ, List.setIfInBounds_toArray, List.set_cons_succ, List.set_cons_zero]
            refine wpAnyH_take (i := 5) (v := .int .i64 z) rfl (by kernel_rfl) (by kernel_rfl) (by kernel_rfl) (fun _ _ _ h => h) (Or.inl ⟨by kernel_rfl, ?_⟩) hHeld ?_
            · intro W hW; have cc := (HQ.out W hW).2.1; clear hW; go_simp; first | done | with_reducible rfl | rfl
            try simp only [Act.put, List.getElem_toArray, List.getElem_cons_zero, List.getElem_cons_succ, List.setIfInBounds_toArray, List.set_cons_succ, List.set_cons_zero]
            refine wpAnyH_take (i := 6) (v := ?_) rfl (by kernel_rfl) (by kernel_rfl) (by kernel_rfl) (fun _ _ _ h => h) (Or.inl ⟨by kernel_rfl, ?_⟩) hHeld ?_
            rotate_left
            · intro W hW; go_simp; first | done | with_reducible rfl | rfl
            try simp only [Act.put, List.getElem_toArray, List.getElem_cons_zero, List.getElem_cons_succ, List.setIfInBounds_toArray, List.set_cons_succ, List.set_cons_zero]
            refine wpAnyH_take (i := 7) (v := ?_) rfl (by kernel_rfl) (by kernel_rfl) (by kernel_rfl) (fun _ _ _ h => h) (Or.inl ⟨by kernel_rfl, ?_⟩) hHeld ?_
            rotate_left
            · intro W hW; go_simp; first | done | with_reducible rfl | rfl
            try simp only [Act.put, List.getElem_toArray, List.getElem_cons_zero, List.getElem_cons_succ, List.setIfInBounds_toArray, List.set_cons_succ, List.set_cons_zero]
            refine wpAnyH_take (i := 8) (v := (.pointer (some ⟨b0, o0 + k * 3, none⟩))) rfl (by kernel_rfl) (by kernel_rfl) (by kernel_rfl) (fun _ _ _ h => h) (Or.inl ⟨by kernel_rfl, ?_⟩) hHeld ?_
            · intro W hW; go_simp; first | done | with_reducible rfl | rfl
            try simp only [Act.put, List.getElem_toArray, List.getElem_cons_zero, List.getElem_cons_succ, List.setIfInBounds_toArray, List.set_cons_succ, List.set_cons_zero]
            refine wpAnyH_take (i := 9) (v := ?_) rfl (by kernel_rfl) (by kernel_rfl) (by kernel_rfl) (fun _ _ _ h => h) (Or.inl ⟨by kernel_rfl, ?_⟩) hHeld ?_
            rotate_left
            · intro W hW; go_simp; first | done | with_reducible rfl | rfl
            try simp only [Act.put, List.getElem_toArray, List.getElem_cons_zero, List.getElem_cons_succ, List.setIfInBounds_toArray, List.set_cons_succ, List.set_cons_zero]
            refine wpAnyH_take (i := 10) (v := .slice pB nB cB) rfl (by kernel_rfl) (by kernel_rfl) (by kernel_rfl) (fun _ _ _ h => h) (Or.inl ⟨by kernel_rfl, ?_⟩) hHeld ?_
            · intro W hW; have cc := (HQ.out W hW).2.2; clear hW; go_simp; first | done | with_reducible rfl | rfl
            try simp only [Act.put, List.getElem_toArray, List.getElem_cons_zero, List.getElem_cons_succ, List.setIfInBounds_toArray, List.set_cons_succ, List.set_cons_zero]
            refine wpAnyH_ready (rs := [11]) (by kernel_rfl) (by simp) ?_
            refine AllReadyH.cons (o := _) rfl (fun K hK => ?_) AllReadyH.nil
            go_simp
            refine (short_any _ _ w _ HS.out).mono ?_
            rintro e x3 ⟨v3, rfl, hs3, rfl⟩
            have HS3 := hide hs3
            dsimp only
            refine hK.out _ _ hHeld (fun hHeld => ?_)
            clear hK K hs3
            try simp only [Act.put, List.getElem_toArray, List.getElem_cons_zero, List.getElem_cons_succ, List.setIfInBounds_toArray, List.set_cons_succ, List.set_cons_zero]
            refine wpAnyH_ready (rs := [12]) (by kernel_rfl) (by simp) ?_
            refine AllReadyH.cons (o := _) rfl (fun K hK => ?_) AllReadyH.nil
            go_simp
            refine (pof_any (HS3.out.later hHeld)).mono ?_
            rintro e x4 ⟨b4, rfl, hp4, -, hb⟩
            have HP4 : Hid (Pg (pad (bs.take 256))) := pad_pg HS3.out.bd
            have HT4 := hide (Sl.own (tb_own hp4 HP4.out (Nat.zero_le _)) HP4.out.2)
            have HD4 := hide (HD.out.later ((Below.refl _ wr).drew.trans hb))
            dsimp only
            refine hK.out _ _ HD4.out.duo.bel (fun hHeld => ?_)
            clear hK K hp4 hb HS3 HD
            try simp only [Act.put, List.getElem_toArray, List.getElem_cons_zero, List.getElem_cons_succ, List.setIfInBounds_toArray, List.set_cons_succ, List.set_cons_zero]
            refine wpAnyH_ready (rs := [13]) (by kernel_rfl) (by simp) ?_
            refine AllReadyH.cons (o := _) rfl (fun K hK => ?_) AllReadyH.nil
            go_simp
            by_cases hr : 0 ≤ z ∧ z < 96
            · obtain ⟨no, rfl⟩ := Int.eq_ofNat_of_zero_le hr.1
              have hno : no < 96 := by omega
              refine (HD4.out.setTop rfl hno HT4.out HP4.out).mono ?_
              rintro e x5 ⟨rfl, hd5, -⟩
              have HD5 := hide hd5
              dsimp only
              refine hK.out _ _ HD5.out.duo.bel (fun hHeld => ?_)
              clear hK K hd5 HD4 HT4
              try simp only [Act.put, List.getElem_toArray, List.getElem_cons_zero, List.getElem_cons_succ, List.setIfInBounds_toArray, List.set_cons_succ, List.set_cons_zero]
              refine wpAnyH_done (by kernel_rfl) ?_ _
              refine NoPanic.normal ?_
              go_simp
              clear hHeld hr
              go_wp2_with fail
              go_roundw
              case rel => exact ⟨k + 1, _, by omega, by omega, by go_num, HD5⟩
              case measure => simp [RowKit.intOf]; omega
            · refine (set_out HT4.out HP4.out.1 hr).mono ?_
              rintro e x5 ⟨rfl, rfl⟩
              dsimp only
              refine hK.out _ _ HD4.out.duo.bel (fun hHeld => ?_)
              clear hK K HT4
              try simp only [Act.put, List.getElem_toArray, List.getElem_cons_zero, List.getElem_cons_succ, List.setIfInBounds_toArray, List.set_cons_succ, List.set_cons_zero]
              refine wpAnyH_done (by kernel_rfl) ?_ _
              refine NoPanic.normal ?_
              go_simp
              clear hHeld hr
              go_wp2_with fail
              go_roundw
              case rel => exact ⟨k + 1, _, by omega, by omega, by go_num, HD4⟩
              case measure => simp [RowKit.intOf]; omega
          · have hx : (¬ k < len1) ∨ (k < len1 ∧ ¬ k < 20) := by omega
            clear hlt
            rcases hx with hx | ⟨hx, hx'⟩
            all_goals
              go_wp2_with fail
              refine HD.out.changes.mono ?_
              rintro e y2 ⟨v2, L, rfl, hL, hsay, hb⟩
              have HY2 := hide (HD.out.later hb)
              have HSAY := hide hsay
              obtain ⟨p9, n9, c9, rfl, hn9, hm9, Hn9, HL9⟩ := hL.opens
              have HLen : Hid (L.length ≤ 96) := by
                have h1 := chs_len n (orE m (bookF 0 fun _ => none)) 96
                rw [← hsay, say, List.length_map] at h1
                exact h1
              clear hL hsay hb HD hx
              go_wp2_with fail
              go_loopw [12] (fun i wr => ∃ k : Nat, k ≤ n9 ∧ i = .int .i64 k ∧ Hid (Tri w.heap.size w wr gt gs gb n (puts m ((say L).take k)) (fun _ => none)) ∧ Hid (Igs wr 0 (.slice p9 n9 c9) L)) (fun i _ => n9 - (RowKit.intOf i).toNat)
              case atStart => exact ⟨0, by omega, rfl, HY2, HL9.out.mono (Nat.zero_le _)⟩
              case round =>
                clear HY2 HL9 hk hkl
                obtain ⟨k, hk, rfl, HD, HI⟩ := hrel
                by_cases hlt : k < n9
                · obtain ⟨g, x, rfl, hx, -, -, hpg, hno, ho⟩ := HI.out.at_ hlt
                  have HPG := hide hpg
                  have HSL : Hid (Sl wr (.slice (some ⟨x.b, 0, none⟩) 256 x.c) x.z) := Sl.own ho hpg.2
                  have HQ : Hid (∀ W, But (· = gs) wr W → W.cell? ⟨g, k * 2, none⟩ = some (.int .i64 x.n) ∧ W.cell? ⟨g, k * 2 + 1, none⟩ = some (.slice (some ⟨x.b, 0, none⟩) 256 x.c)) := fun W hW => by
                    obtain ⟨ws, hg⟩ := HD.out.duo.sheet
                    obtain ⟨g', x', e1, e2, e3, e4, -⟩ := (HI.out.but hW hg.at_ (by decide) (by decide)).at_ hlt
                    rw [hx] at e2
                    simp only [Option.some.injEq, Addr.mk.injEq, and_true] at e1 e2
                    obtain rfl := e1
                    obtain rfl := e2
                    exact ⟨e3, e4⟩
                  have HT : Hid ((say L).take (k + 1) = (say L).take k ++ [(x.n, x.z)]) := by
                    show _ = _
                    rw [List.take_add_one, say, List.getElem?_map, hx]
                    rfl
                  clear hx hpg ho
                  go_upto_region 19 with fail
                  refine wp_region_noPanic ?_
                  refine wp_region_held_drew (S := fun W => But (· = gs) wr W) (by kernel_rfl) ?_ (fun hHeld => ?_)
                  · exact But.of (Below.refl _ _).drew
                  refine wpAnyH_take (i := 0) (v := ?_) rfl (by kernel_rfl) (by kernel_rfl) (by kernel_rfl) (fun _ _ _ h => h) (Or.inl ⟨by kernel_rfl, ?_⟩) hHeld ?_
                  rotate_left
                  · intro W hW; go_simp; first | done | with_reducible rfl | rfl
                  try simp only [Act.put, List.getElem_toArray, List.getElem_cons_zero, List.setIfInBounds_toArray, List.set_cons_succ, List.set_cons_zero]
                  refine wpAnyH_take (i := 1) (v := ?_) rfl (by kernel_rfl) (by kernel_rfl) (by kernel_rfl) (fun _ _ _ h => h) (Or.inl ⟨by kernel_rfl, ?_⟩) hHeld ?_
                  rotate_left
                  · intro W hW; go_simp; first | done | with_reducible rfl | rfl
                  try simp only [Act.put, List.getElem_toArray, List.getElem_cons_zero, List.getElem_cons_succ, List.setIfInBounds_toArray, List.set_cons_succ, List.set_cons_zero]
                  refine wpAnyH_take (i := 2) (v := ?_) rfl (by kernel_rfl) (by kernel_rfl) (by kernel_rfl) (fun _ _ _ h => h) (Or.inl ⟨by kernel_rfl, ?_⟩) hHeld ?_
                  rotate_left
                  · intro W hW; go_simp; first | done | with_reducible rfl | rfl
                  try simp only [Act.put, List.getElem_toArray, List.getElem_cons_zero, List.getElem_cons_succ, List.setIfInBounds_toArray, List.set_cons_succ, List.set_cons_zero]
                  refine wpAnyH_take (i := 3) (v := (.pointer (some ⟨g, k * 2, none⟩))) rfl (by kernel_rfl) (by kernel_rfl) (by kernel_rfl) (fun _ _ _ h => h) (Or.inl ⟨by kernel_rfl, ?_⟩) hHeld ?_
                  · intro W hW; go_simp; first | done | with_reducible rfl | rfl
                  try simp only [Act.put, List.getElem_toArray, List.getElem_cons_zero, List.getElem_cons_succ, List.setIfInBounds_toArray, List.set_cons_succ, List.set_cons_zero]
                  refine wpAnyH_take (i := 4) (v := ?_) rfl (by kernel_rfl) (by kernel_rfl) (by kernel_rfl) (fun _ _ _ h => h) (Or.inl ⟨by kernel_rfl, ?_⟩) hHeld ?_
                  rotate_left
                  · intro W hW; go_simp; first | done | with_reducible rfl | rfl
                  try simp only [Act.put, List.getElem_toArray, List.getElem_cons_zero, List.getElem_cons_succ, List.setIfInBounds_toArray, List.set_cons_succ, List.set_cons_zero]
                  refine wpAnyH_take (i := 5) (v := .int .i64 (x.n : Int)) rfl (by kernel_rfl) (by kernel_rfl) (by kernel_rfl) (fun _ _ _ h => h) (Or.inl ⟨by kernel_rfl, ?_⟩) hHeld ?_
                  · intro W hW; have cc := (HQ.out W hW).1; clear hW; go_simp; first | done | with_reducible rfl | rfl
                  try simp only [Act.put, List.getElem_toArray, List.getElem_cons_zero, List.getElem_cons_succ, List.setIfInBounds_toArray, List.set_cons_succ, List.set_cons_zero]
                  refine wpAnyH_take (i := 6) (v := ?_) rfl (by kernel_rfl) (by kernel_rfl) (by kernel_rfl) (fun _ _ _ h => h) (Or.inl ⟨by kernel_rfl, ?_⟩) hHeld ?_
                  rotate_left
                  · intro W hW; go_simp; first | done | with_reducible rfl | rfl
                  try simp only [Act.put, List.getElem_toArray, List.getElem_cons_zero, List.getElem_cons_succ, List.setIfInBounds_toArray, List.set_cons_succ, List.set_cons_zero]
                  refine wpAnyH_take (i := 7) (v := ?_) rfl (by kernel_rfl) (by kernel_rfl) (by kernel_rfl) (fun _ _ _ h => h) (Or.inl ⟨by kernel_rfl, ?_⟩) hHeld ?_
                  rotate_left
                  · intro W hW; go_simp; first | done | with_reducible rfl | rfl
                  try simp only [Act.put, List.getElem_toArray, List.getElem_cons_zero, List.getElem_cons_succ, List.setIfInBounds_toArray, List.set_cons_succ, List.set_cons_zero]
                  refine wpAnyH_take (i := 8) (v := (.pointer (some ⟨g, k * 2, none⟩))) rfl (by kernel_rfl) (by kernel_rfl) (by kernel_rfl) (fun _ _ _ h => h) (Or.inl ⟨by kernel_rfl, ?_⟩) hHeld ?_
                  · intro W hW; go_simp; first | done | with_reducible rfl | rfl
                  try simp only [Act.put, List.getElem_toArray, List.getElem_cons_zero, List.getElem_cons_succ, List.setIfInBounds_toArray, List.set_cons_succ, List.set_cons_zero]
                  refine wpAnyH_take (i := 9) (v := ?_) rfl (by kernel_rfl) (by kernel_rfl) (by kernel_rfl) (fun _ _ _ h => h) (Or.inl ⟨by kernel_rfl, ?_⟩) hHeld ?_
                  rotate_left
                  · intro W hW; go_simp; first | done | with_reducible rfl | rfl
                  try simp only [Act.put, List.getElem_toArray, List.getElem_cons_zero, List.getElem_cons_succ, List.setIfInBounds_toArray, List.set_cons_succ, List.set_cons_zero]
                  refine wpAnyH_take (i := 10) (v := .slice (some ⟨x.b, 0, none⟩) 256 x.c) rfl (by kernel_rfl) (by kernel_rfl) (by kernel_rfl) (fun _ _ _ h => h) (Or.inl ⟨by kernel_rfl, ?_⟩) hHeld ?_
                  · intro W hW; have cc := (HQ.out W hW).2; clear hW; go_simp; first | done | with_reducible rfl | rfl
                  try simp only [Act.put, List.getElem_toArray, List.getElem_cons_zero, List.getElem_cons_succ, List.setIfInBounds_toArray, List.set_cons_succ, List.set_cons_zero]
                  refine wpAnyH_ready (rs := [11]) (by kernel_rfl) (by simp) ?_
                  refine AllReadyH.cons (o := _) rfl (fun K hK => ?_) AllReadyH.nil
                  go_simp
                  have HD1 := hide (HD.out.later (Below.refl _ wr).drew)
                  have HI1 := hide (HI.out.later (Below.refl _ wr).drew)
                  refine (HD1.out.setLow rfl hno (HSL.out.later (Below.refl _ wr).drew) HPG.out).mono ?_
                  rintro e y3 ⟨rfl, hd3, hb3, hi3⟩
                  have HI3 := hide (hi3 HI1.out)
                  have HD3 : Hid (Tri w.heap.size w y3 gt gs gb n (puts m ((say L).take (k + 1))) (fun _ => none)) := by rw [HT.out, puts_snoc]; exact hd3
                  dsimp only
                  refine hK.out _ _ (hHeld.trans (hb3.mono fun _ _ e => e)) (fun hHeld => ?_)
                  clear hK K hd3 hb3 hi3 HD1 HI1 HQ HSL HT HD HI
                  try simp only [Act.put, List.getElem_toArray, List.getElem_cons_zero, List.getElem_cons_succ, List.setIfInBounds_toArray, List.set_cons_succ, List.set_cons_zero]
                  refine wpAnyH_take (i := 12) (v := (.bool false)) rfl (by kernel_rfl) (by kernel_rfl) (by kernel_rfl) (fun _ _ _ h => h) (Or.inl ⟨by kernel_rfl, ?_⟩) hHeld ?_
                  · intro W hW; go_simp; first | done | with_reducible rfl | rfl
                  try simp only [Act.put, List.getElem_toArray, List.getElem_cons_zero, List.getElem_cons_succ, List.setIfInBounds_toArray, List.set_cons_succ, List.set_cons_zero]
                  refine wpAnyH_done (by kernel_rfl) ?_ _
                  refine NoPanic.normal ?_
                  go_simp
                  clear hHeld
                  go_wp2_with fail
                  go_roundw
                  case rel => exact ⟨k + 1, by omega, by go_num, HD3, HI3⟩
                  case measure => simp [RowKit.intOf]; omega
                · obtain rfl : k = n9 := by omega
                  have HD3 : Hid (Tri w.heap.size w wr gt gs gb n (puts m (say L)) (fun _ => none)) := by
                    have := HD
                    rw [List.take_of_length_le (by rw [say, List.length_map, ← Hn9.out]; omega)] at this
                    exact this
                  have HN : Hid (chs n (orE (puts m (say L)) (bookF 0 fun _ => none)) 96 = []) := by
                    show _ = _
                    rw [HSAY.out]
                    exact two_none _ _ _
                  clear HD
                  go_wp2_with fail
                  refine HD3.out.changes.mono ?_
                  rintro e y4 ⟨v4, L4, rfl, hL4, hs4, hb⟩
                  have hl4 : L4.length = 0 := by
                    have := congrArg List.length hs4
                    rw [say, List.length_map, HN.out] at this
                    exact this
                  obtain ⟨p4, n4, c4, rfl, hn4, hm4, Hn4, -⟩ := hL4.opens
                  obtain rfl : n4 = 0 := by rw [Hn4.out, hl4]
                  have HD4 := hide (HD3.out.later hb)
                  have HI4 := hide (HI.out.later hb)
                  clear hL4 hs4 hb HD3 HI hl4 Hn4
                  go_wp2_with fail
                  refine HD4.out.duo.changes.mono ?_
                  rintro e y5 ⟨v5, L5, rfl, hL5, hs5, hb⟩
                  have hl5 : L5.length ≤ 96 := by
                    have h1 := chs_len (puts m (say L)) (bookF 0 fun _ => none) 96
                    rw [← hs5, say, List.length_map] at h1
                    exact h1
                  have HD5 := hide (HD4.out.later hb)
                  have HI5 := hide (HI4.out.later hb)
                  have HL5 := hide hL5
                  have HS5 := hide hs5
                  have Hl5 := hide hl5
                  clear hL5 hs5 hb hl5 HD4 HI4
                  go_wp2_with fail
                  refine (HD5.out.lay HL5.out Hl5.out).mono ?_
                  rintro e y6 ⟨rfl, hd6, hi6⟩
                  have HI6 := hide (hi6 HI5.out)
                  have HD6 : Hid (Tri w.heap.size w y6 gt gs gb n (puts m (say L)) (puts (fun _ => none) (chs (puts m (say L)) (bookF 0 fun _ => none) 96))) := by rw [← HS5.out]; exact hd6
                  have HE : Hid (∀ i, i < 96 → ∃ z, bookF 0 (puts (fun _ => none) (chs (puts m (say L)) (bookF 0 fun _ => none) 96)) i = some z ∧ orE n (orE (puts m (say L)) (bookF 0 (puts (fun _ => none) (chs (puts m (say L)) (bookF 0 fun _ => none) 96)))) i = some z) := fun i hi => by
                    obtain ⟨z, hz⟩ := two_book (puts (fun _ => none) (chs (puts m (say L)) (bookF 0 fun _ => none) 96)) i
                    exact ⟨z, hz, by rw [two_same n (puts m (say L)) HN.out hi, hz]⟩
                  clear hd6 hi6 HD5 HI5 HL5 HS5 Hl5
                  generalize puts (fun _ => none) (chs (puts m (say L)) (bookF 0 fun _ => none) 96) = fb at *
                  go_wp2_with fail
                  go_loopw [13] (fun i wr => ∃ j : Nat, j ≤ 96 ∧ i = .int .i64 j ∧ Hid (Below y6.heap.size y6 wr)) (fun i _ => 96 - (RowKit.intOf i).toNat)
                  case atStart => exact ⟨0, by omega, rfl, Below.refl _ _⟩
                  case round =>
                    obtain ⟨j, hj, rfl, HB⟩ := hrel
                    by_cases hjl : j < 96
                    · have HDr := hide (HD6.out.later HB.out)
                      obtain ⟨z, hz1, hz2⟩ := HE.out j hjl
                      go_wp2_with fail
                      refine (HDr.out.page rfl hjl).mono ?_
                      rw [hz2]
                      rintro e y7 ⟨v7, rfl, ho7, hpz, hb7⟩
                      have HS7 := hide (Sl.own ho7 hpz.2)
                      obtain ⟨b7, c7, us7, rfl, -, -, -, -, -⟩ := own_row ho7
                      have HD7 := hide (HDr.out.later hb7)
                      have HB7 := hide (HB.out.trans (hb7.mono HB.out.size))
                      clear ho7 hpz hb7 HDr HB
                      go_wp2_with fail
                      refine (HD7.out.duo.bpage rfl hjl).mono ?_
                      rw [hz1]
                      rintro e y8 ⟨v8, rfl, ho8, hpz, hb8⟩
                      have h1 := (HS7.out.later hb8).conv (P := Try.prog) 25 9 5 Try.underlying25 Try.underlying5 Try.underlying9
                      have h2 := (Sl.own ho8 hpz.2).conv (P := Try.prog) 25 9 5 Try.underlying25 Try.underlying5 Try.underlying9
                      obtain ⟨b8, c8, us8, rfl, -, -, -, -, -⟩ := own_row ho8
                      have HB8 := hide (HB7.out.trans (hb8.mono HB7.out.size))
                      clear ho8 hpz hb8 HD7 HB7 HS7 hz1 hz2
                      go_wp2_with fail
                      clear h1 h2
                      go_roundw
                      case rel => exact ⟨j + 1, by omega, by go_num, HB8⟩
                      case measure => simp [RowKit.intOf]; omega
                    · obtain rfl : j = 96 := by omega
                      rw [show ((96 : Nat) : Int) = 96 from rfl]
                      have HI7 := hide (HI6.out.later HB.out)
                      have HD7 := hide (HD6.out.later HB.out).duo.bel
                      have hrise : ∀ i a b, L[i]? = some a → L[i + 1]? = some b → a.n < b.n := by
                        intro i a b ha hb
                        refine (chs_rise n (orE m (bookF 0 fun _ => none)) 96).2 i (a.n, a.z) (b.n, b.z) ?_ ?_
                        · rw [← HSAY.out, say, List.getElem?_map, ha]; rfl
                        · rw [← HSAY.out, say, List.getElem?_map, hb]; rfl
                      have HRise := hide hrise
                      clear hrise HB HD6 HI6 HE
                      go_wp2_with fail
                      refine (mayIm_any HI7.out HLen.out HRise.out).mono ?_
                      rintro e y7 ⟨rfl, hb⟩
                      have HB7 := hide (HD7.out.trans (hb.mono HD7.out.size))
                      cases hd : decide (1 ≤ L.length)
                      · have hk0 : k = 0 := by
                          have h1 := Hn9.out
                          have h2 := of_decide_eq_false hd
                          omega
                        subst hk0
                        clear hb hd
                        go_wp2_with fail
                        go_ret
                        exact ⟨rfl, HB7.out⟩
                      · clear hb hd
                        go_wp2_with fail
                        go_ret
                        exact ⟨rfl, HB7.out⟩

set_option maxRecDepth 100000 in
theorem lifted (os : Os) (started : os.Started) (H : Type) (enc : TypeId × Value → H) :
    ReturnsInHanded {} Try.checked os 3 .any (Rows.sheetTwoSpec.pre6 enc Try.prog Try.f3 Rows.sheetTwoRow.domain false) (Rows.sheetTwoSpec.post enc Try.prog Try.f3 false true false false) := by
  refine returnsInHanded_of_change (C := Try.checked) own started (by kernel_rfl) Try.func3
    (ChangeSpec.witness6 (enc := enc) (C := Try.checked) false ⟨#[], #[.slice none 0 0, .slice none 0 0], []⟩ 8 (by kernel_rfl) (by kernel_rfl) (by kernel_rfl) (by kernel_rfl)) ?_
  intro W base args ds gs before hval0 hW hcnd _
  have hval : ∀ (j : Nat) t v, Try.f3.params[j]? = some t → args[j]? = some v → Value.okWide Try.prog W .any base t v := hval0
  have hW' := hW
  obtain ⟨p, q, hA0, hV, rfl, hfz, hnd⟩ := hW
  have hA : DataW.TrodAll enc Try.prog W 0 (fun _ => true) true Try.f3.params.toList args.toList ds p := hA0
  rw [Try.params3] at hA hval
  obtain ⟨v0, vs0, d0, ds0, p0, q0, hargs, rfl, rfl, h0, r0⟩ := trodAll_cons hA
  obtain ⟨v1, vs1, d1, ds1, p1, q1, rfl, rfl, rfl, h1, r1⟩ := trodAll_cons r0
  obtain ⟨rfl, rfl, rfl⟩ := trodAll_nil r1
  obtain rfl : args = #[v0, v1] := by cases args; simp_all
  obtain ⟨rfl, rfl⟩ := trodVars_none hV
  obtain ⟨a0, len0, cap0, rfl⟩ := okWide_slice Try.underlying22 (hval 0 22 v0 rfl rfl)
  have k0 := h0
  have lt0 : ∀ x ∈ p0, x.block < W.heap.size := by obtain ⟨m, hm⟩ := k0; exact DataW.trod_lt m _ _ _ hm
  obtain ⟨z0, w0⟩ : ∃ zs, Ops W (.slice a0 len0 cap0) zs := by
    obtain ⟨fuel, hf⟩ := h0
    obtain ⟨a, len, cap, zs, hcs, hz⟩ := open_Op hf
    simp [Value.cells] at hcs
    obtain ⟨rfl, rfl, rfl⟩ := hcs
    exact ⟨zs, hz⟩
  obtain ⟨a1, len1, cap1, rfl⟩ := okWide_slice Try.underlying22 (hval 1 22 v1 rfl rfl)
  have k1 := h1
  have lt1 : ∀ x ∈ p1, x.block < W.heap.size := by obtain ⟨m, hm⟩ := k1; exact DataW.trod_lt m _ _ _ hm
  obtain ⟨z1, w1⟩ : ∃ zs, Ops W (.slice a1 len1 cap1) zs := by
    obtain ⟨fuel, hf⟩ := h1
    obtain ⟨a, len, cap, zs, hcs, hz⟩ := open_Op hf
    simp [Value.cells] at hcs
    obtain ⟨rfl, rfl, rfl⟩ := hcs
    exact ⟨zs, hz⟩
  clear hA0 hval0
  refine (walk a0 len0 cap0 z0 a1 len1 cap1 z1 W w0 w1).mono fun e W' ⟨he, bel⟩ => ?_
  subst he
  exact ⟨_, rfl, _, _, _, [], _, [], hW', trodAll_mk1 (shut_bool Try.underlying4 _), (trodAll_cons_mk (Below.trod laidOut (by kernel_rfl) (of_decide_eq_true (by kernel_rfl)) k0 bel lt0) (trodAll_cons_mk (Below.trod laidOut (by kernel_rfl) (of_decide_eq_true (by kernel_rfl)) k1 bel lt1) trodAll_mk0)), rfl, bel.frame _, fun h => by cases h⟩

theorem over : Rows.sheetTwoRow.holds Try.pinned (OpenSpec.ofChange Rows.sheetTwoSpec) :=
  OpenClaim.holds_of_wide 3 Try.f3 rfl rfl rfl rfl rfl rfl rfl ⟨rfl, rfl, rfl, rfl, rfl⟩ rfl rfl rfl rfl rfl (by kernel_rfl) Try.func3 (by kernel_rfl)
    (of_decide_eq_true (by kernel_rfl)) (by unfold Func.isWrapper; first | (rw [if_pos (by decide +kernel)]; kernel_rfl) | (rw [if_neg (by decide +kernel)]; exact ⟨rfl, rfl⟩))
    (fun os started H enc _ => lifted os started H enc)

theorem proved : Rows.SheetTwoSaid := over
#print axioms proved
end Go.Proofs.Ythihldepedbppab.sheetTwo
