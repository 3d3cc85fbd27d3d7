/-
  For every int no and every byte x PageApart returns true: a page (0 to 95) that is written on a device whose every seventh sector was written leaves all other sectors as they were, and its own four hold its 256 bytes. No condition.
-/
import Derived.Test.YtmaahgoeblhoaaaRows
import Derived.WalkKit
import Derived.ProofKit
import Derived.OpenShut
import Derived.ShutString
import Derived.ChangeOld
import Derived.Below
import Derived.Test.YtmaahgoeblhoaaaPagB
namespace Go.Proofs.Ytmaahgoeblhoaaa.pageApart
open Go.ChangeShapes Go.WideShapes Go.ChangeAt Go.RowKit
open Go.ChangeMaps (open_string shut_string)
set_option linter.unusedVariables false

theorem own : ownKnob Try.prog.godebug = none := by kernel_rfl
theorem laidOut : laidOutB Try.prog = true := by kernel_rfl

/-- A device on which each seventh sector was written, k of them. -/
def ap : Nat → Dv
  | 0 => Dv.new 1410
  | k + 1 => (ap k).write (7 * k) [((7 * k : Nat) : Int) % 256, 1]

theorem ap_n : ∀ k, (ap k).n = 1410
  | 0 => rfl
  | k + 1 => ap_n k
theorem ap_calls : ∀ k, (ap k).calls = k
  | 0 => rfl
  | k + 1 => by show (ap k).calls + 1 = _; rw [ap_calls k]
theorem ap_fuse : ∀ k, (ap k).fuse = none
  | 0 => rfl
  | k + 1 => by show ((ap k).fuse).map _ = _; rw [ap_fuse k]; rfl
theorem ap_at : ∀ k j, (ap k).at_ j = if j % 7 = 0 ∧ j < 7 * k then over [(j : Int) % 256, 1] nought else nought
  | 0, j => by rw [if_neg (by omega)]; rfl
  | k + 1, j => by
    rw [ap, Dv.at_write]
    by_cases h : j = 7 * k
    · rw [if_pos h, if_pos (by omega), ap_at k, if_neg (by omega), h]
    · rw [if_neg h, ap_at k]
      by_cases h2 : j % 7 = 0 ∧ j < 7 * k
      · rw [if_pos h2, if_pos (by omega)]
      · rw [if_neg h2, if_neg (by omega)]

/-- The page: its first k bytes are laid. -/
def fil (x : Int) (k : Nat) : List Int := (List.range k).map (fun i => (x + (i : Nat)) % 256) ++ zer.drop k

theorem fil_len {x : Int} {k : Nat} (h : k ≤ 256) : (fil x k).length = 256 := by rw [fil, List.length_append, List.length_map, List.length_range, List.length_drop, zer_len]; omega
theorem fil_bd (x : Int) (k : Nat) : ∀ z ∈ fil x k, 0 ≤ z ∧ z ≤ 255 := fun z hz => by
  rcases List.mem_append.1 hz with hz | hz
  · obtain ⟨i, _, rfl⟩ := List.mem_map.1 hz
    omega
  · exact zer_bd z (List.mem_of_mem_drop hz)
theorem fil_zero (x : Int) : fil x 0 = zer := rfl
theorem fil_set {x : Int} {k : Nat} (h : k < 256) : (fil x k).set k ((x + (k : Nat)) % 256) = fil x (k + 1) := by
  have hl : ((List.range k).map (fun i : Nat => (x + (i : Nat)) % 256)).length = k := by rw [List.length_map, List.length_range]
  rw [fil, fil, List.range_succ, List.map_append, List.append_assoc, List.set_append_right _ _ (by rw [hl]; exact Nat.le_refl _), hl, Nat.sub_self]
  congr 1
  rw [List.drop_eq_getElem_cons (show k < zer.length by rw [zer_len]; exact h)]
  rfl

theorem byte_wrap (z : Int) : IntKind.u8.wrap z = z % 256 := by rw [IntKind.wrap_u8]

set_option maxRecDepth 100000 in
set_option maxHeartbeats 4000000 in
theorem walk (a0 : Int) (a1 : Int) (w : World) (w0 : (Lit.int .i64 a0).wf = true) (w1 : (Lit.int .u8 a1).wf = true) :
    Calls Try.prog 5 #[.int .i64 a0, .int .u8 a1] w fun e w' => e = .returned (.bool true) ∧ Below w.heap.size w w' := by
  obtain ⟨ha0, ha1⟩ := bounds_u8 w1
  clear w0 w1
  obtain ⟨i0, hi, hz0, hz1, hz2⟩ := info_parts Try.info5
  have HN : Hid ((madeCells (Value.int IntKind.u8 0).cells (256 * 1)).toList = bv zer) := made_noughts 256
  by_cases hd : 0 ≤ a0 ∧ a0 ≤ 95
  · obtain ⟨no, rfl⟩ := Int.eq_ofNat_of_zero_le hd.1
    have hn : no < 96 := by omega
    clear hd
    have c1 : decide ((no : Int) < 0) = false := by simp
    have c2 : decide ((95 : Int) < (no : Int)) = false := by simp; omega
    go_enter Try.func5, Try.ntmps5
    go_wp2_with fail
    refine (begun_any _).mono ?_
    rintro e x1 ⟨rfl, hB1⟩
    go_wp2_with fail
    clear c1 c2
    refine (new_pn hB1 hB1.size 1410 rfl (by omega) (by omega)).mono ?_
    rintro e x2 ⟨g, bl, bm, rfl, h2, -⟩
    have H2 : Hid (Pn w.heap.size w x2 g bl bm (ap 0)) := h2
    clear h2 hB1
    go_wp2_with fail
    go_loopw [7] (fun i wr => ∃ k : Nat, k ≤ 202 ∧ i = .int .i64 ((7 * k : Nat) : Int) ∧ Hid (Pn w.heap.size w wr g bl bm (ap k))) (fun i _ => 1414 - (RowKit.intOf i).toNat)
    case atStart => exact ⟨0, by omega, rfl, H2⟩
    case round =>
      obtain ⟨k, hk, rfl, HP⟩ := hrel
      clear H2
      by_cases hlt : k < 202
      · have HP2 := hide (HP.out.later (below_alloc wr (.cells (bv [((7 * k : Nat) : Int) % 256, 1]).toArray 5)))
        obtain ⟨I, hI⟩ : ∃ I, I = 7 * k := ⟨_, rfl⟩
        have hIl : I < 1410 := by omega
        have HI := hide hI
        have HX : Hid (∀ W h, Pn w.heap.size w W g bl bm h → h = (ap k).write I [(I : Int) % 256, 1] → Pn w.heap.size w W g bl bm (ap (k + 1))) := fun W h hp he => by
          rw [he, HI.out] at hp
          exact hp
        rw [← hI] at HP2 ⊢
        clear hI
        go_wp2_with fail
        refine (write_lit HP2.out.dev (by simp [Dv.dead, ap_fuse]) (by rw [ap_calls]; omega) (i := I) rfl (by rw [ap_n]; exact hIl) (lit_sl _ _ _ (zs := [(I : Int) % 256, 1]) (fun z hz => by simp at hz; omega) (by simp)) (by simp)).mono ?_
        rintro e W2 ⟨rfl, h2, hb2⟩
        have HP3 := hide (HX.out _ _ (HP2.out.next h2 hb2) rfl)
        clear h2 hb2 HP2 HP HX
        go_wp2_with fail
        go_roundw
        case rel => exact ⟨k + 1, by omega, by have := HI.out; congr 1; omega, HP3⟩
        case measure => simp [RowKit.intOf]; omega
      · obtain rfl : k = 202 := by omega
        go_wp2_with (first
          | (at_make; refine wpList_make_full _ rfl _ _ 23 rfl wr.heap.size 5 i0 (.int .u8 0) 1 Try.underlying23 hi hz0 hz1 _ _ _ _ 256 rfl rfl rfl rfl (by rw [hz2]; omega) (by unfold maxLen; omega) (Nat.le_refl _) ?_; intro W3 ho3 hg3; have HO := hide ho3; have HB3 := hide (below_new hg3); clear ho3 hg3))
        have HK3 : Hid (Bk W3 wr.heap.size (fil a1 0)) := own_bk (by have := HO.out; rw [HN.out] at this; exact this)
        have HP3 := hide (HP.out.later HB3.out)
        have HL : Hid (g < wr.heap.size ∧ bl < wr.heap.size ∧ bm < wr.heap.size ∧ w.heap.size ≤ wr.heap.size) := by have := HP.out.dev.lts; exact ⟨this.1, this.2.1, this.2.2, HP.out.big⟩
        clear HO HB3 HP HN
        generalize wr.heap.size = pb at *
        go_loopw [37] (fun i wq => ∃ k : Nat, k ≤ 256 ∧ i = .int .i64 k ∧ Hid (Bk wq pb (fil a1 k)) ∧ Hid (Pn w.heap.size w wq g bl bm (ap 202))) (fun i _ => 256 - (RowKit.intOf i).toNat)
        case atStart => exact ⟨0, by omega, rfl, HK3, HP3⟩
        case round =>
          obtain ⟨k, hk, rfl, HK, HP⟩ := hrel
          clear HK3 HP3
          by_cases hlt : k < 256
          · have hce := HK.out.cell (i := k) (by rw [fil_len (by omega)]; exact hlt)
            have hfr := frozen_blk k HK.out
            generalize (fil a1 k).getD k 0 = old at *
            have HK4 : Hid (Bk (wr.setCell ⟨pb, k, none⟩ (.int .u8 ((a1 + (k : Nat)) % 256))) pb (fil a1 (k + 1))) := by
              have := HK.out.set k ((a1 + (k : Nat)) % 256)
              rw [fil_set hlt] at this
              exact this
            have HP4 : Hid (Pn w.heap.size w (wr.setCell ⟨pb, k, none⟩ (.int .u8 ((a1 + (k : Nat)) % 256))) g bl bm (ap 202)) := by
              have hl := HL.out
              exact HP.out.beside (S := (· = pb)) ((But.refl (· = pb) wr).setCell (p := ⟨pb, k, none⟩) (.inl rfl) _) (fun k e => by omega) (by omega) (by omega) (by omega)
            go_wp2_with fail
            go_roundw
            case rel => exact ⟨k + 1, by omega, by go_num, HK4, HP4⟩
            case measure => simp [RowKit.intOf]; omega
          · obtain rfl : k = 256 := by omega
            have HS := hide (HK.out.page (fil_len (Nat.le_refl _)) (fil_bd _ _))
            clear HK
            go_wp2_with fail
            refine (pwrite_pn HP.out (ap_fuse _) (by rw [ap_calls]; omega) no rfl hn (by rw [ap_n]; omega) HS.out (fil_len (Nat.le_refl _))).mono ?_
            rintro e W5 ⟨rfl, h5, hb5⟩
            have HS5 := hide (HS.out.beside HP.out.dev hb5)
            have HP5 := hide h5
            have HA5 : Hid (∀ j, ((ap 202).pw (2 + 4 * no) (fil a1 256) 4).at_ j = if 2 + 4 * no ≤ j ∧ j < 2 + 4 * no + 4 then Dv.chunk (fil a1 256) (j - (2 + 4 * no)) else (ap 202).at_ j) := Dv.pw_at HP.out.dev.ok (fil_len (Nat.le_refl _)) (by omega) (by rw [ap_n]; omega)
            have HN5 : Hid (((ap 202).pw (2 + 4 * no) (fil a1 256) 4).n = 1410) := by show _ = _; rw [Dv.pw_n, ap_n]
            clear h5 hb5 HS HP
            generalize (ap 202).pw (2 + 4 * no) (fil a1 256) 4 = d5 at *
            have HF : Hid ((fil a1 256).length = 256) := fil_len (Nat.le_refl _)
            generalize fil a1 256 = zs at *
            go_wp2_with fail
            go_loopw [10] (fun i wq => ∃ k : Nat, k ≤ 1410 ∧ i = .int .i64 k ∧ Hid (Sl wq (.slice (some ⟨pb, 0, none⟩) 256 256) zs) ∧ Hid (Pn w.heap.size w wq g bl bm d5)) (fun i _ => 1410 - (RowKit.intOf i).toNat)
            case atStart => exact ⟨0, by omega, rfl, HS5, HP5⟩
            case round =>
              obtain ⟨k, hk, rfl, HS, HP⟩ := hrel
              clear HS5 HP5
              by_cases hlt : k < 1410
              · go_wp2_with fail
                refine (read_lit HP.out.dev (i := k) rfl (by rw [HN5.out]; exact hlt)).mono ?_
                rintro e W6 ⟨b, rfl, hx6, hb6, hB6⟩
                have HS6 := hide (HS.out.later hB6)
                have HP6 := hide (HP.out.later hB6)
                have HX6 := hide hx6
                have HC6 := hide (HP.out.dev.ok.at_ (i := k) (by rw [HN5.out]; exact hlt))
                clear hx6 hb6 hB6 HS HP
                by_cases hin : 2 + 4 * no ≤ k ∧ k < 2 + 4 * no + 4
                · obtain ⟨J, hJ⟩ : ∃ J : Nat, k = 2 + 4 * no + J := ⟨k - (2 + 4 * no), by omega⟩
                  have hat : (k : Int) - 2 - 4 * (no : Int) = (J : Int) := by omega
                  have hJ4 : J < 4 := by omega
                  have hX : Sl W6 (.slice (some ⟨b, 0, none⟩) 64 64) (Dv.chunk zs J) := by
                    have := HX6.out.sl HC6.out
                    rw [HA5.out, if_pos hin, hJ, Nat.add_sub_cancel_left] at this
                    exact this
                  clear hJ hin HX6 HC6 HA5
                  go_wp2_with fail
                  obtain ⟨A, hA⟩ : ∃ A, A = J * 64 := ⟨_, rfl⟩
                  obtain ⟨C, hC⟩ : ∃ C, C = A + 64 := ⟨_, rfl⟩
                  have e1 : IntKind.i64.wrap (64 * (J : Int)) = (A : Int) := by rw [IntKind.wrap_i64]; omega
                  have e2 : IntKind.i64.wrap ((A : Int) + 64) = (C : Int) := by rw [IntKind.wrap_i64]; omega
                  have q1 : A ≤ C := by omega
                  have q2 : C ≤ 256 := by omega
                  have q3 : ¬ 256 = A := by omega
                  have q5 : ¬ (256 : Int) < (C : Int) := by omega
                  have q4 : C - A = 64 := by omega
                  have hP : Sl W6 (.slice (some ⟨pb, A, none⟩) 64 (256 - A)) (Dv.chunk zs J) := by
                    have := HS6.out.mid (l := A) (m := C) q1 q2 (by omega)
                    rw [q4, Nat.zero_add, hA] at this
                    rw [hA]
                    exact this
                  clear hA hC
                  refine wp_region_noPanic ?_
                  refine wp_region_held_drew (S := fun W => Below W6.heap.size W6 W) (by kernel_rfl) ?_ (fun hHeld => ?_)
                  · exact (Below.refl _ _).drew
                  refine wpAnyH_take (i := 0) (v := ?_) rfl (by kernel_rfl) (by kernel_rfl) (by kernel_rfl) (fun _ _ _ h => h) (Or.inl ⟨by kernel_rfl, ?_⟩) hHeld ?_
                  rotate_left
                  · intro W hW; go_simp; first | done | with_reducible rfl
                  try simp only [Act.put, List.getElem_toArray, List.getElem_cons_zero, List.setIfInBounds_toArray, List.set_cons_succ, List.set_cons_zero]
                  refine wpAnyH_take (i := 2) (v := ?_) rfl (by kernel_rfl) (by kernel_rfl) (by kernel_rfl) (fun _ _ _ h => h) (Or.inl ⟨by kernel_rfl, ?_⟩) hHeld ?_
                  rotate_left
                  · intro W hW; go_simp; first | done | with_reducible rfl
                  try simp only [Act.put, List.getElem_toArray, List.getElem_cons_zero, List.getElem_cons_succ, List.setIfInBounds_toArray, List.set_cons_succ, List.set_cons_zero]
                  refine wpAnyH_take (i := 3) (v := ?_) rfl (by kernel_rfl) (by kernel_rfl) (by kernel_rfl) (fun _ _ _ h => h) (Or.inl ⟨by kernel_rfl, ?_⟩) hHeld ?_
                  rotate_left
                  · intro W hW; go_simp; first | done | with_reducible rfl
                  try simp only [Act.put, List.getElem_toArray, List.getElem_cons_zero, List.getElem_cons_succ, List.setIfInBounds_toArray, List.set_cons_succ, List.set_cons_zero]
                  refine wpAnyH_take (i := 5) (v := ?_) rfl (by kernel_rfl) (by kernel_rfl) (by kernel_rfl) (fun _ _ _ h => h) (Or.inl ⟨by kernel_rfl, ?_⟩) hHeld ?_
                  rotate_left
                  · intro W hW; go_simp; first | done | with_reducible rfl
                  try simp only [Act.put, List.getElem_toArray, List.getElem_cons_zero, List.getElem_cons_succ, List.setIfInBounds_toArray, List.set_cons_succ, List.set_cons_zero]
                  refine wpAnyH_take (i := 1) (v := .string (strOfNums (Dv.chunk zs J))) rfl (by kernel_rfl) (by kernel_rfl) (by kernel_rfl) (fun _ _ _ h => h) (Or.inl ⟨by kernel_rfl, ?_⟩) hHeld ?_
                  · intro W hW; have hcv := (hX.later hW).conv (P := Try.prog) 23 9 5 Try.underlying23 Try.underlying5 Try.underlying9; go_simp
                  try simp only [Act.put, List.getElem_toArray, List.getElem_cons_zero, List.getElem_cons_succ, List.setIfInBounds_toArray, List.set_cons_succ, List.set_cons_zero]
                  refine wpAnyH_take (i := 4) (v := (.int .i64 (A : Int))) rfl (by kernel_rfl) (by kernel_rfl) (by kernel_rfl) (fun _ _ _ h => h) (Or.inl ⟨by kernel_rfl, ?_⟩) hHeld ?_
                  · intro W hW; go_simp; first | done | with_reducible rfl
                  try simp only [Act.put, List.getElem_toArray, List.getElem_cons_zero, List.getElem_cons_succ, List.setIfInBounds_toArray, List.set_cons_succ, List.set_cons_zero]
                  refine wpAnyH_take (i := 6) (v := (.int .i64 (A : Int))) rfl (by kernel_rfl) (by kernel_rfl) (by kernel_rfl) (fun _ _ _ h => h) (Or.inl ⟨by kernel_rfl, ?_⟩) hHeld ?_
                  · intro W hW; go_simp; first | done | with_reducible rfl
                  try simp only [Act.put, List.getElem_toArray, List.getElem_cons_zero, List.getElem_cons_succ, List.setIfInBounds_toArray, List.set_cons_succ, List.set_cons_zero]
                  refine wpAnyH_take (i := 7) (v := (.int .i64 (C : Int))) rfl (by kernel_rfl) (by kernel_rfl) (by kernel_rfl) (fun _ _ _ h => h) (Or.inl ⟨by kernel_rfl, ?_⟩) hHeld ?_
                  · intro W hW; go_simp; first | done | with_reducible rfl
                  try simp only [Act.put, List.getElem_toArray, List.getElem_cons_zero, List.getElem_cons_succ, List.setIfInBounds_toArray, List.set_cons_succ, List.set_cons_zero]
                  refine wpAnyH_take (i := 8) (v := (.slice (some ⟨pb, A, none⟩) 64 (256 - A))) rfl (by kernel_rfl) (by kernel_rfl) (by kernel_rfl) (fun _ _ _ h => h) (Or.inl ⟨by kernel_rfl, ?_⟩) hHeld ?_
                  · intro W hW; go_simp; first | done | with_reducible rfl
                  try simp only [Act.put, List.getElem_toArray, List.getElem_cons_zero, List.getElem_cons_succ, List.setIfInBounds_toArray, List.set_cons_succ, List.set_cons_zero]
                  refine wpAnyH_take (i := 9) (v := .string (strOfNums (Dv.chunk zs J))) rfl (by kernel_rfl) (by kernel_rfl) (by kernel_rfl) (fun _ _ _ h => h) (Or.inl ⟨by kernel_rfl, ?_⟩) hHeld ?_
                  · intro W hW; have hcv := (hP.later hW).conv (P := Try.prog) 23 9 5 Try.underlying23 Try.underlying5 Try.underlying9; go_simp
                  try simp only [Act.put, List.getElem_toArray, List.getElem_cons_zero, List.getElem_cons_succ, List.setIfInBounds_toArray, List.set_cons_succ, List.set_cons_zero]
                  refine wpAnyH_take (i := 10) (v := (.bool false)) rfl (by kernel_rfl) (by kernel_rfl) (by kernel_rfl) (fun _ _ _ h => h) (Or.inl ⟨by kernel_rfl, ?_⟩) hHeld ?_
                  · intro W hW; go_simp; first | done | with_reducible rfl
                  try simp only [Act.put, List.getElem_toArray, List.getElem_cons_zero, List.getElem_cons_succ, List.setIfInBounds_toArray, List.set_cons_succ, List.set_cons_zero]
                  refine wpAnyH_done (by kernel_rfl) ?_ _
                  refine NoPanic.normal ?_
                  go_simp
                  have HS7 := hide (HS6.out.later (Below.refl _ W6).drew)
                  have HP7 := hide HP6.out.drew
                  clear HS6 HP6 hHeld hX hP e1 e2 q1 q2 q3 q4 q5
                  go_wp2_with fail
                  go_roundw
                  case rel => exact ⟨k + 1, by omega, by go_num, HS7, HP7⟩
                  case measure => simp [RowKit.intOf]; omega
                · have hx0 := HX6.out.cell HC6.out (i := 0) (by omega)
                  have hx1 := HX6.out.cell HC6.out (i := 1) (by omega)
                  rw [HA5.out, if_neg hin, ap_at] at hx0 hx1
                  clear HX6 HC6 HA5
                  have hcc : ((k : Int) - 2 < 4 * (no : Int)) ∨ (¬ ((k : Int) - 2 < 4 * (no : Int)) ∧ ¬ ((k : Int) - 2 - 4 * (no : Int) < 4)) := by omega
                  by_cases h7 : k % 7 = 0
                  · rw [if_pos (by omega)] at hx0 hx1
                    have e7 : ((k : Int) % 7 == 0) = true := by simp; omega
                    have e8 : ((k : Int) % 7 != 0) = false := by simp; omega
                    have d0 : W6.cell? ⟨b, 0, none⟩ = some (.int .u8 ((k : Int) % 256)) := hx0
                    have d1 : W6.cell? ⟨b, 1, none⟩ = some (.int .u8 1) := hx1
                    clear hx0 hx1 h7 hin
                    rcases hcc with hcc | ⟨hcc, hcd⟩
                    all_goals
                      go_wp2_with fail
                      go_roundw
                      case rel => exact ⟨k + 1, by omega, by go_num, HS6, HP6⟩
                      case measure => simp [RowKit.intOf]; omega
                  · rw [if_neg (by omega)] at hx0 hx1
                    have e7 : ((k : Int) % 7 == 0) = false := by simp; omega
                    have e8 : ((k : Int) % 7 != 0) = true := by simp; omega
                    have d0 : W6.cell? ⟨b, 0, none⟩ = some (.int .u8 0) := hx0
                    have d1 : W6.cell? ⟨b, 1, none⟩ = some (.int .u8 0) := hx1
                    clear hx0 hx1 h7 hin
                    rcases hcc with hcc | ⟨hcc, hcd⟩
                    all_goals
                      go_wp2_with fail
                      go_roundw
                      case rel => exact ⟨k + 1, by omega, by go_num, HS6, HP6⟩
                      case measure => simp [RowKit.intOf]; omega
              · obtain rfl : k = 1410 := by omega
                go_wp2_with fail
                go_ret
                exact ⟨rfl, HP.out.bel⟩
  · have hc : a0 < 0 ∨ (0 ≤ a0 ∧ 95 < a0) := by omega
    clear hd
    rcases hc with hc | hc
    all_goals
      go_enter Try.func5, Try.ntmps5
      go_wp2_with fail
      refine (begun_any _).mono ?_
      rintro e x1 ⟨rfl, hB1⟩
      go_wp2_with fail
      go_ret
      exact ⟨rfl, hB1⟩

set_option maxRecDepth 100000 in
theorem lifted (os : Os) (started : os.Started) (H : Type) (enc : TypeId × Value → H) :
    ReturnsInHanded {} Try.checked os 5 .any (Rows.pageApartSpec.pre6 enc Try.prog Try.f5 Rows.pageApartRow.domain false) (Rows.pageApartSpec.post enc Try.prog Try.f5 false true false false) := by
  refine returnsInHanded_of_change (C := Try.checked) own started (by kernel_rfl) Try.func5
    (ChangeSpec.witness6 (enc := enc) (C := Try.checked) false ⟨#[], #[.int .i64 0, .int .u8 0], []⟩ 8 (by kernel_rfl) (by kernel_rfl) (by kernel_rfl) (by kernel_rfl)) ?_
  intro W base args ds gs before hval0 hW hcnd _
  have hval : ∀ (j : Nat) t v, Try.f5.params[j]? = some t → args[j]? = some v → Value.okWide Try.prog W .any base t v := hval0
  have hW' := hW
  obtain ⟨p, q, hA0, hV, rfl, hfz, hnd⟩ := hW
  have hA : DataW.TrodAll enc Try.prog W 0 (fun _ => true) true Try.f5.params.toList args.toList ds p := hA0
  rw [Try.params5] at hA hval
  obtain ⟨v0, vs0, d0, ds0, p0, q0, hargs, rfl, rfl, h0, r0⟩ := trodAll_cons hA
  obtain ⟨v1, vs1, d1, ds1, p1, q1, rfl, rfl, rfl, h1, r1⟩ := trodAll_cons r0
  obtain ⟨rfl, rfl, rfl⟩ := trodAll_nil r1
  obtain rfl : args = #[v0, v1] := by cases args; simp_all
  obtain ⟨rfl, rfl⟩ := trodVars_none hV
  obtain ⟨a0, rfl, rfl, rfl, w0⟩ := open_int Try.underlying3 (hval 0 3 v0 rfl rfl) h0
  obtain ⟨a1, rfl, rfl, rfl, w1⟩ := open_int Try.underlying5 (hval 1 5 v1 rfl rfl) h1
  clear hA0 hval0
  refine (walk a0 a1 W w0 w1).mono fun e W' ⟨he, bel⟩ => ?_
  subst he
  exact ⟨_, rfl, _, _, _, [], _, [], hW', trodAll_mk1 (shut_bool Try.underlying4 _), (trodAll_cons_mk (shut_int Try.underlying3 w0) (trodAll_cons_mk (shut_int Try.underlying5 w1) trodAll_mk0)), rfl, bel.frame _, fun h => by cases h⟩

theorem over : Rows.pageApartRow.holds Try.pinned (OpenSpec.ofChange Rows.pageApartSpec) :=
  OpenClaim.holds_of_wide 5 Try.f5 rfl rfl rfl rfl rfl rfl rfl ⟨rfl, rfl, rfl, rfl, rfl⟩ rfl rfl rfl rfl rfl (by kernel_rfl) Try.func5 (by kernel_rfl)
    (of_decide_eq_true (by kernel_rfl)) (by unfold Func.isWrapper; first | (rw [if_pos (by decide +kernel)]; kernel_rfl) | (rw [if_neg (by decide +kernel)]; exact ⟨rfl, rfl⟩))
    (fun os started H enc _ => lifted os started H enc)

theorem proved : Rows.PageApartSaid := over
#print axioms proved
end Go.Proofs.Ytmaahgoeblhoaaa.pageApart
