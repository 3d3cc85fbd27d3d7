/-
  For every slice of bytes first, every slice of operations and every int bad SheetAll returns true: of the first 40 operations Set answers as the document says, Page what was set last or what lies beneath, and Changes just what was set and is another page beneath, by number. No condition.
-/
import Derived.Test.YthihldepedbppaaRows
import Derived.WalkKit
import Derived.ProofKit
import Derived.OpenShut
import Derived.ShutString
import Derived.ChangeOld
import Derived.Below
import Derived.Test.YthihldepedbppaaShtV
namespace Go.Proofs.Ythihldepedbppaa.sheetAll
open Go.ChangeShapes Go.WideShapes Go.ChangeAt Go.RowKit
open Go.ChangeMaps (open_string shut_string)
set_option linter.unusedVariables false

theorem own : ownKnob Try.prog.godebug = none := by kernel_rfl
theorem laidOut : laidOutB Try.prog = true := by kernel_rfl

set_option maxRecDepth 100000 in
set_option maxHeartbeats 16000000 in
theorem walk (a0 : Option Addr) (len0 cap0 : Nat) (z0 : List Int) (a1 : Option Addr) (len1 cap1 : Nat) (z1 : List (Int × Int × List Int)) (a2 : Int) (w : World) (w0 : Sl w (.slice a0 len0 cap0) z0) (w1 : Ops w (.slice a1 len1 cap1) z1) (w2 : (Lit.int .i64 a2).wf = true) :
    Calls Try.prog 3 #[.slice a0 len0 cap0, .slice a1 len1 cap1, .int .i64 a2] w fun e w' => e = .returned (.bool true) ∧ Below w.heap.size w w' := by
  obtain ⟨hn0, hq0, hq1⟩ := w0.lens
  obtain ⟨hq2, hq3⟩ := w1.len
  have HF := hide w0
  have HC := hide w1
  have HN0 := hide hn0
  clear w0 w1 w2 hn0
  go_enter Try.func3, Try.ntmps3
  go_wp2_with fail
  refine (begun_any _).mono ?_
  rintro e x1 ⟨rfl, hB1⟩
  go_upto_region 4 with fail
  have HK1 := hide (Book.new x1 a2)
  have HB1 := hide (hB1.trans ((below_alloc x1 (.cells (bkz a2).toArray 28)).mono hB1.size))
  have HR := hide (run_buildBad a2 x1)
  have hl1 := hB1.size
  generalize hq : bkz a2 = q at *
  clear hB1
  obtain ⟨bad, hbad⟩ : ∃ bad : Int, bad = if a2 < 0 ∨ 95 < a2 then 0 else a2 := ⟨_, rfl⟩
  have hcases : (a2 < 0 ∧ bad = 0) ∨ (0 ≤ a2 ∧ 95 < a2 ∧ bad = 0) ∨ (0 ≤ a2 ∧ a2 ≤ 95 ∧ bad = a2) := by
    by_cases h0 : a2 < 0
    · exact .inl ⟨h0, by rw [hbad, if_pos (.inl h0)]⟩
    · by_cases h9 : 95 < a2
      · exact .inr (.inl ⟨by omega, h9, by rw [hbad, if_pos (.inr h9)]⟩)
      · exact .inr (.inr ⟨by omega, by omega, by rw [hbad, if_neg (by omega)]⟩)
  clear hbad
  go_upto_region 5 with (first
    | (refine wpList_buildT 28 1 (.tmp 29) q rfl rfl (.int .i64 a2) rfl HR.out ?_)
    | (refine wpList_boxT 28 _ q rfl rfl rfl ?_))
  obtain ⟨gb, hgb⟩ : ∃ gb, gb = x1.heap.size := ⟨_, rfl⟩
  generalize hX2 : x1.alloc (.cells q.toArray 28) = x2 at *
  rw [← hgb] at HK1 hl1 ⊢
  clear HR hgb hq hX2
  have HL1 := hide hl1
  clear hl1
  obtain ⟨c5, hc5⟩ : ∃ c, c = (decide (a2 < 0) || decide (95 < a2)) := ⟨_, rfl⟩
  go_cut [37] from 26 (fun s wc => s = .bool c5 ∧ wc = x2)
  case first =>
    rcases hcases with ⟨h0, -⟩ | ⟨h0, h1, -⟩ | ⟨h0, h1, -⟩
    all_goals
      go_wp2_with fail
      go_meet
      case rel => exact ⟨by first | exact congrArg Value.bool hc5.symm | (rw [hc5]; simp [*]), rfl⟩
  case rest =>
    obtain ⟨rfl, rfl⟩ := hcut
    have hbc : c5 = true ∧ bad = 0 ∨ c5 = false ∧ bad = a2 := by
      rcases hcases with ⟨h0, h⟩ | ⟨h0, h1, h⟩ | ⟨h0, h1, h⟩
      · exact .inl ⟨by rw [hc5]; simp [h0], h⟩
      · exact .inl ⟨by rw [hc5]; simp [h1], h⟩
      · exact .inr ⟨by rw [hc5]; simp; omega, h⟩
    have c96 := HK1.out.at_.cell (i := 96) (by rw [HK1.out.len]; omega)
    have f96 := HK1.out.at_.frozen 96
    rw [HK1.out.worse] at c96
    clear hc5 hcases
    go_upto_if 37 with fail
    go_cut [] from 26 (fun W => Hid (∃ us, Book W gb bad (fun _ => none) us) ∧ Hid (Below w.heap.size w W))
    case first =>
      rcases hbc with ⟨rfl, rfl⟩ | ⟨rfl, rfl⟩
      · have HKs := hide HK1.out.bad0
        have HBs : Hid (Below w.heap.size w (wc.setCell ⟨gb, 96, none⟩ (.int .i64 0))) := Below.but HB1.out HB1.out.size (but_set wc gb 96 _) (fun i e => by have := HL1.out; omega)
        go_wp2_with fail
        go_meet
        case rel => exact ⟨⟨_, HKs.out⟩, HBs⟩
      · go_wp2_with fail
        go_meet
        case rel => exact ⟨⟨_, HK1.out⟩, HB1⟩
    case rest =>
      obtain ⟨HK2, HB2⟩ := hcut
      clear HK1 HB1 c96 f96 hbc
      go_wp2_with fail
      go_loopw [9] (fun i wr => ∃ (k : Nat) (f : Nat → Option (List Int)), k ≤ 30 ∧ k ≤ len0 ∧ i = .int .i64 k ∧ Hid (∃ us, Book wr gb bad f us) ∧ Hid (Below w.heap.size w wr)) (fun i _ => 30 - (RowKit.intOf i).toNat)
      case atStart => exact ⟨0, _, by omega, by omega, rfl, HK2, HB2⟩
      case round =>
        clear HK2 HB2
        obtain ⟨k, f, hk, hkl, rfl, HK, HB⟩ := hrel
        obtain ⟨c8, hc8⟩ : ∃ c, c = decide (k < len0 ∧ k < 30) := ⟨_, rfl⟩
        go_upto_region 8 with fail
        go_cut [48] from 207 (fun s W => s = .bool c8 ∧ W = wr)
        case first =>
          have hx : (¬ k < len0) ∨ (k < len0 ∧ ¬ k < 30) ∨ (k < len0 ∧ k < 30) := by omega
          rcases hx with hx | ⟨hx, hy⟩ | ⟨hx, hy⟩
          all_goals
            go_wp2_with fail
            go_meet
            case rel => exact ⟨(by rw [hc8]; simp [*] <;> omega), rfl⟩
        case rest =>
          obtain ⟨rfl, rfl⟩ := hcut
          cases c8 with
          | false =>
            go_wp2_with fail
            clear hc8 hk hkl
            obtain ⟨us, hK⟩ := HK.out
            refine (Duo.new hK HB.out HB.out.size HL1.out).mono ?_
            rintro e x3 ⟨gs, rfl, hd, -⟩
            have HD3 := hide hd
            clear hd hK HK HB
            go_wp2_with (first
              | (refine wpList_alloc96 w.heap.size rfl rfl ?_; intro x4 vs4 hb4 hn4; have HST := hide (St.mk (HD3.out.later hb4) ⟨vs4, hn4⟩ HD3.out.big); clear hb4 hn4 HD3))
            generalize x3.heap.size = ab at *
            go_loopw [12] (fun i wr => ∃ (k : Nat) (m : Nat → Option (List Int)), k ≤ 40 ∧ k ≤ len1 ∧ i = .int .i64 k ∧ Hid (St w.heap.size w wr gs gb ab bad m m f)) (fun i _ => 40 - (RowKit.intOf i).toNat)
            case atStart => exact ⟨0, _, by omega, by omega, rfl, HST⟩
            case round =>
              clear HST
              obtain ⟨k, m, hk, hkl, rfl, HST⟩ := hrel
              obtain ⟨c14, hc14⟩ : ∃ c, c = decide (k < len1 ∧ k < 40) := ⟨_, rfl⟩
              go_upto_region 14 with fail
              go_cut [72] from 207 (fun s W => s = .bool c14 ∧ W = wr)
              case first =>
                have hx : (¬ k < len1) ∨ (k < len1 ∧ ¬ k < 40) ∨ (k < len1 ∧ k < 40) := by omega
                rcases hx with hx | ⟨hx, hy⟩ | ⟨hx, hy⟩
                all_goals
                  go_wp2_with fail
                  go_meet
                  case rel => exact ⟨(by rw [hc14]; simp [*] <;> omega), rfl⟩
              case rest =>
                obtain ⟨rfl, rfl⟩ := hcut
                cases c14 with
                | false =>
                  as_aux_lemma =>
                    clear hc14 hk hkl
                    go_wp2_with fail
                    go_loopw [22, 23] (fun l i wr => ∃ (j : Nat) (L : List Im), j ≤ 96 ∧ i = .int .i64 j ∧ Hid (Below wc.heap.size wc wr) ∧ Hid (Igs wr w.heap.size l L) ∧ Hid (wr.ownsRow wc.heap.size 40 2 l L.length (ims L)) ∧ Hid (say L = chs m (bookF bad f) j)) (fun _ i _ => 96 - (RowKit.intOf i).toNat)
                    case atStart => exact ⟨0, [], by omega, rfl, Below.refl _ _, ⟨World.ownsRow_nil _ _ _ _, fun x hx => by cases hx⟩, World.ownsRow_nil _ _ _ _, (chs_zero _ _).symm⟩
                    case round =>
                      obtain ⟨j, L, hj, rfl, HB, HL, HR, HC0⟩ := hrel
                      have qN : ∀ (w : World) (a : Option Addr) (n c n' c' : Nat), (binOp .neq 22 (.slice a n c) (.slice none n' c')).run Try.prog w = .ok (.bool (!a.isNone)) w := fun w a n c n' c' => run_neq_slice_nil_any w _ _ a n c n' c' Try.underlying22
                      by_cases hjl : j < 96
                      · have HSr := hide (HST.out.later HB.out)
                        have hj96 : ¬ (96 : Int) ≤ (j : Int) := by omega
                        have HLL : Hid (L.length ≤ 96) := by
                          have h1 := chs_len m (bookF bad f) j
                          rw [← HC0.out, say, List.length_map] at h1
                          exact Nat.le_trans h1 hj
                        generalize hF : bookF bad f j = F0
                        cases F0 with
                        | none =>
                          have HFF := hide hF
                          go_wp2_with fail
                          refine (HSr.out.duo.bpage rfl hjl).mono ?_
                          rw [HFF.out]
                          rintro e y5 ⟨rfl, hb5⟩
                          have HB5 := hide (HB.out.trans (hb5.mono HB.out.size))
                          have HL5 := hide (HL.out.later hb5)
                          have HR5 := hide (own_later HR.out hb5)
                          clear hb5 HB HL HR HSr
                          cases hm : m j with
                          | none =>
                            have hch : chOf m (bookF bad f) j = none := by simp [chOf, hm]
                            have qd := (HST.out.later HB5.out).nowNone hjl hm
                            have HQ : Hid (∀ W, Below y5.heap.size y5 W → W.cell? ⟨ab, j, none⟩ = some (.slice none 0 0)) := fun W hW => by rw [hW.cell (p := ⟨ab, j, none⟩) (cell_lt qd)]; exact qd
                            have HC1 : Hid (say L = chs m (bookF bad f) (j + 1)) := by show _ = _; rw [chs_succ, hch, HC0.out]; simp
                            clear qd hch hm hF
                            go_upto_region 43 with fail
                            refine wp_region_noPanic ?_
                            refine wp_region_held_drew (S := fun W => Below y5.heap.size y5 W) (by kernel_rfl) ?_ (fun hHeld => ?_)
                            · exact (Below.refl _ _).drew
                            refine wpAnyH_take (i := 0) (v := ?_) rfl (by kernel_rfl) (by kernel_rfl) (by kernel_rfl) (fun _ _ _ h => h) (Or.inl ⟨by kernel_rfl, ?_⟩) hHeld ?_
                            rotate_left
                            · intro W hW; go_simp; first | done | with_reducible rfl | rfl
                            try simp only [Act.put, List.getElem_toArray, List.getElem_cons_zero, List.setIfInBounds_toArray, List.set_cons_succ, List.set_cons_zero]
                            refine wpAnyH_take (i := 1) (v := (.pointer (some ⟨ab, j, none⟩))) rfl (by kernel_rfl) (by kernel_rfl) (by kernel_rfl) (fun _ _ _ h => h) (Or.inl ⟨by kernel_rfl, ?_⟩) hHeld ?_
                            · intro W hW; go_simp; first | done | with_reducible rfl | rfl
                            try simp only [Act.put, List.getElem_toArray, List.getElem_cons_zero, List.getElem_cons_succ, List.setIfInBounds_toArray, List.set_cons_succ, List.set_cons_zero]
                            refine wpAnyH_take (i := 2) (v := .slice none 0 0) rfl (by kernel_rfl) (by kernel_rfl) (by kernel_rfl) (fun _ _ _ h => h) (Or.inl ⟨by kernel_rfl, ?_⟩) hHeld ?_
                            · intro W hW; have cc := HQ.out W hW; clear hW; go_simp; first | done | with_reducible rfl | rfl
                            try simp only [Act.put, List.getElem_toArray, List.getElem_cons_zero, List.getElem_cons_succ, List.setIfInBounds_toArray, List.set_cons_succ, List.set_cons_zero]
                            refine wpAnyH_take (i := 3) (v := (.bool false)) rfl (by kernel_rfl) (by kernel_rfl) (by kernel_rfl) (fun _ _ _ h => h) (Or.inl ⟨by kernel_rfl, ?_⟩) hHeld ?_
                            · intro W hW; go_simp; first | done | with_reducible rfl | rfl
                            try simp only [Act.put, List.getElem_toArray, List.getElem_cons_zero, List.getElem_cons_succ, List.setIfInBounds_toArray, List.set_cons_succ, List.set_cons_zero]
                            refine wpAnyH_take (i := 4) (v := ?_) rfl (by kernel_rfl) (by kernel_rfl) (by kernel_rfl) (fun _ _ _ h => h) (Or.inl ⟨by kernel_rfl, ?_⟩) hHeld ?_
                            rotate_left
                            · intro W hW; go_simp; first | done | with_reducible rfl | rfl
                            try simp only [Act.put, List.getElem_toArray, List.getElem_cons_zero, List.getElem_cons_succ, List.setIfInBounds_toArray, List.set_cons_succ, List.set_cons_zero]
                            refine wpAnyH_take (i := 5) (v := undef) rfl (by kernel_rfl) (by kernel_rfl) (by kernel_rfl) (fun _ _ _ h => h) (Or.inr ⟨by kernel_rfl, rfl⟩) hHeld ?_
                            try simp only [Act.put, List.getElem_toArray, List.getElem_cons_zero, List.getElem_cons_succ, List.setIfInBounds_toArray, List.set_cons_succ, List.set_cons_zero]
                            refine wpAnyH_take (i := 6) (v := undef) rfl (by kernel_rfl) (by kernel_rfl) (by kernel_rfl) (fun _ _ _ h => h) (Or.inr ⟨by kernel_rfl, rfl⟩) hHeld ?_
                            try simp only [Act.put, List.getElem_toArray, List.getElem_cons_zero, List.getElem_cons_succ, List.setIfInBounds_toArray, List.set_cons_succ, List.set_cons_zero]
                            refine wpAnyH_take (i := 7) (v := undef) rfl (by kernel_rfl) (by kernel_rfl) (by kernel_rfl) (fun _ _ _ h => h) (Or.inr ⟨by kernel_rfl, rfl⟩) hHeld ?_
                            try simp only [Act.put, List.getElem_toArray, List.getElem_cons_zero, List.getElem_cons_succ, List.setIfInBounds_toArray, List.set_cons_succ, List.set_cons_zero]
                            refine wpAnyH_take (i := 8) (v := undef) rfl (by kernel_rfl) (by kernel_rfl) (by kernel_rfl) (fun _ _ _ h => h) (Or.inr ⟨by kernel_rfl, rfl⟩) hHeld ?_
                            try simp only [Act.put, List.getElem_toArray, List.getElem_cons_zero, List.getElem_cons_succ, List.setIfInBounds_toArray, List.set_cons_succ, List.set_cons_zero]
                            refine wpAnyH_take (i := 9) (v := undef) rfl (by kernel_rfl) (by kernel_rfl) (by kernel_rfl) (fun _ _ _ h => h) (Or.inr ⟨by kernel_rfl, rfl⟩) hHeld ?_
                            try simp only [Act.put, List.getElem_toArray, List.getElem_cons_zero, List.getElem_cons_succ, List.setIfInBounds_toArray, List.set_cons_succ, List.set_cons_zero]
                            refine wpAnyH_take (i := 10) (v := undef) rfl (by kernel_rfl) (by kernel_rfl) (by kernel_rfl) (fun _ _ _ h => h) (Or.inr ⟨by kernel_rfl, rfl⟩) hHeld ?_
                            try simp only [Act.put, List.getElem_toArray, List.getElem_cons_zero, List.getElem_cons_succ, List.setIfInBounds_toArray, List.set_cons_succ, List.set_cons_zero]
                            refine wpAnyH_take (i := 11) (v := undef) rfl (by kernel_rfl) (by kernel_rfl) (by kernel_rfl) (fun _ _ _ h => h) (Or.inr ⟨by kernel_rfl, rfl⟩) hHeld ?_
                            try simp only [Act.put, List.getElem_toArray, List.getElem_cons_zero, List.getElem_cons_succ, List.setIfInBounds_toArray, List.set_cons_succ, List.set_cons_zero]
                            refine wpAnyH_take (i := 12) (v := undef) rfl (by kernel_rfl) (by kernel_rfl) (by kernel_rfl) (fun _ _ _ h => h) (Or.inr ⟨by kernel_rfl, rfl⟩) hHeld ?_
                            try simp only [Act.put, List.getElem_toArray, List.getElem_cons_zero, List.getElem_cons_succ, List.setIfInBounds_toArray, List.set_cons_succ, List.set_cons_zero]
                            refine wpAnyH_take (i := 13) (v := undef) rfl (by kernel_rfl) (by kernel_rfl) (by kernel_rfl) (fun _ _ _ h => h) (Or.inr ⟨by kernel_rfl, rfl⟩) hHeld ?_
                            try simp only [Act.put, List.getElem_toArray, List.getElem_cons_zero, List.getElem_cons_succ, List.setIfInBounds_toArray, List.set_cons_succ, List.set_cons_zero]
                            refine wpAnyH_take (i := 14) (v := undef) rfl (by kernel_rfl) (by kernel_rfl) (by kernel_rfl) (fun _ _ _ h => h) (Or.inr ⟨by kernel_rfl, rfl⟩) hHeld ?_
                            try simp only [Act.put, List.getElem_toArray, List.getElem_cons_zero, List.getElem_cons_succ, List.setIfInBounds_toArray, List.set_cons_succ, List.set_cons_zero]
                            refine wpAnyH_take (i := 15) (v := undef) rfl (by kernel_rfl) (by kernel_rfl) (by kernel_rfl) (fun _ _ _ h => h) (Or.inr ⟨by kernel_rfl, rfl⟩) hHeld ?_
                            try simp only [Act.put, List.getElem_toArray, List.getElem_cons_zero, List.getElem_cons_succ, List.setIfInBounds_toArray, List.set_cons_succ, List.set_cons_zero]
                            refine wpAnyH_take (i := 16) (v := (.bool false)) rfl (by kernel_rfl) (by kernel_rfl) (by kernel_rfl) (fun _ _ _ h => h) (Or.inl ⟨by kernel_rfl, ?_⟩) hHeld ?_
                            · intro W hW; go_simp; first | done | with_reducible rfl | rfl
                            try simp only [Act.put, List.getElem_toArray, List.getElem_cons_zero, List.getElem_cons_succ, List.setIfInBounds_toArray, List.set_cons_succ, List.set_cons_zero]
                            refine wpAnyH_done (by kernel_rfl) ?_ _
                            refine NoPanic.normal ?_
                            go_simp
                            clear hHeld
                            have HBd := hide HB5.out.drew
                            have HLd := hide (HL5.out.later (Below.refl _ y5).drew)
                            have HRd := hide (own_later HR5.out (Below.refl _ y5).drew)
                            clear HB5 HL5 HR5 HC0
                            go_wp2_with fail
                            go_roundw
                            case rel => exact ⟨j + 1, L, by omega, by go_num, HBd, HLd, HRd, HC1⟩
                            case measure => simp [RowKit.intOf]; omega
                          | some zs =>
                            have hch : chOf m (bookF bad f) j = some (j, zs) := by simp [chOf, hm, hF]
                            obtain ⟨b0', c0', hpz0, how0, qd0⟩ := (HST.out.later HB5.out).nowPage hjl hm
                            have hs1 : Sl y5 (.slice (some ⟨b0', 0, none⟩) 256 c0') zs := Sl.own how0 hpz0.2
                            have HQ : Hid (∀ W, Below y5.heap.size y5 W → W.cell? ⟨ab, j, none⟩ = some (.slice (some ⟨b0', 0, none⟩) 256 c0')) := fun W hW => by rw [hW.cell (p := ⟨ab, j, none⟩) (cell_lt qd0)]; exact qd0
                            have HC1 : Hid (say (L ++ [⟨j, b0', c0', zs⟩]) = chs m (bookF bad f) (j + 1)) := by
                              show _ = _
                              rw [chs_succ, hch, ← HC0.out]
                              simp [say]
                            clear qd0
                            clear hch hm hF
                            go_upto_region 43 with fail
                            refine wp_region_noPanic ?_
                            refine wp_region_held_drew (S := fun W => Below y5.heap.size y5 W) (by kernel_rfl) ?_ (fun hHeld => ?_)
                            · exact (Below.refl _ _).drew
                            refine wpAnyH_take (i := 0) (v := ?_) rfl (by kernel_rfl) (by kernel_rfl) (by kernel_rfl) (fun _ _ _ h => h) (Or.inl ⟨by kernel_rfl, ?_⟩) hHeld ?_
                            rotate_left
                            · intro W hW; go_simp; first | done | with_reducible rfl | rfl
                            try simp only [Act.put, List.getElem_toArray, List.getElem_cons_zero, List.setIfInBounds_toArray, List.set_cons_succ, List.set_cons_zero]
                            refine wpAnyH_take (i := 1) (v := (.pointer (some ⟨ab, j, none⟩))) rfl (by kernel_rfl) (by kernel_rfl) (by kernel_rfl) (fun _ _ _ h => h) (Or.inl ⟨by kernel_rfl, ?_⟩) hHeld ?_
                            · intro W hW; go_simp; first | done | with_reducible rfl | rfl
                            try simp only [Act.put, List.getElem_toArray, List.getElem_cons_zero, List.getElem_cons_succ, List.setIfInBounds_toArray, List.set_cons_succ, List.set_cons_zero]
                            refine wpAnyH_take (i := 2) (v := .slice (some ⟨b0', 0, none⟩) 256 c0') rfl (by kernel_rfl) (by kernel_rfl) (by kernel_rfl) (fun _ _ _ h => h) (Or.inl ⟨by kernel_rfl, ?_⟩) hHeld ?_
                            · intro W hW; have cc := HQ.out W hW; clear hW; go_simp; first | done | with_reducible rfl | rfl
                            try simp only [Act.put, List.getElem_toArray, List.getElem_cons_zero, List.getElem_cons_succ, List.setIfInBounds_toArray, List.set_cons_succ, List.set_cons_zero]
                            refine wpAnyH_take (i := 3) (v := (.bool true)) rfl (by kernel_rfl) (by kernel_rfl) (by kernel_rfl) (fun _ _ _ h => h) (Or.inl ⟨by kernel_rfl, ?_⟩) hHeld ?_
                            · intro W hW; go_simp; first | done | with_reducible rfl | rfl
                            try simp only [Act.put, List.getElem_toArray, List.getElem_cons_zero, List.getElem_cons_succ, List.setIfInBounds_toArray, List.set_cons_succ, List.set_cons_zero]
                            refine wpAnyH_take (i := 4) (v := ?_) rfl (by kernel_rfl) (by kernel_rfl) (by kernel_rfl) (fun _ _ _ h => h) (Or.inl ⟨by kernel_rfl, ?_⟩) hHeld ?_
                            rotate_left
                            · intro W hW; go_simp; first | done | with_reducible rfl | rfl
                            try simp only [Act.put, List.getElem_toArray, List.getElem_cons_zero, List.getElem_cons_succ, List.setIfInBounds_toArray, List.set_cons_succ, List.set_cons_zero]
                            refine wpAnyH_take (i := 5) (v := ?_) rfl (by kernel_rfl) (by kernel_rfl) (by kernel_rfl) (fun _ _ _ h => h) (Or.inl ⟨by kernel_rfl, ?_⟩) hHeld ?_
                            rotate_left
                            · intro W hW; go_simp; first | done | with_reducible rfl | rfl
                            try simp only [Act.put, List.getElem_toArray, List.getElem_cons_zero, List.getElem_cons_succ, List.setIfInBounds_toArray, List.set_cons_succ, List.set_cons_zero]
                            refine wpAnyH_take (i := 6) (v := (.bool true)) rfl (by kernel_rfl) (by kernel_rfl) (by kernel_rfl) (fun _ _ _ h => h) (Or.inl ⟨by kernel_rfl, ?_⟩) hHeld ?_
                            · intro W hW; go_simp; first | done | with_reducible rfl | rfl
                            try simp only [Act.put, List.getElem_toArray, List.getElem_cons_zero, List.getElem_cons_succ, List.setIfInBounds_toArray, List.set_cons_succ, List.set_cons_zero]
                            refine wpAnyH_take (i := 7) (v := ?_) rfl (by kernel_rfl) (by kernel_rfl) (by kernel_rfl) (fun _ _ _ h => h) (Or.inl ⟨by kernel_rfl, ?_⟩) hHeld ?_
                            rotate_left
                            · intro W hW; go_simp; first | done | with_reducible rfl | rfl
                            try simp only [Act.put, List.getElem_toArray, List.getElem_cons_zero, List.getElem_cons_succ, List.setIfInBounds_toArray, List.set_cons_succ, List.set_cons_zero]
                            refine wpAnyH_take (i := 8) (v := undef) rfl (by kernel_rfl) (by kernel_rfl) (by kernel_rfl) (fun _ _ _ h => h) (Or.inr ⟨by kernel_rfl, rfl⟩) hHeld ?_
                            try simp only [Act.put, List.getElem_toArray, List.getElem_cons_zero, List.getElem_cons_succ, List.setIfInBounds_toArray, List.set_cons_succ, List.set_cons_zero]
                            refine wpAnyH_take (i := 9) (v := undef) rfl (by kernel_rfl) (by kernel_rfl) (by kernel_rfl) (fun _ _ _ h => h) (Or.inr ⟨by kernel_rfl, rfl⟩) hHeld ?_
                            try simp only [Act.put, List.getElem_toArray, List.getElem_cons_zero, List.getElem_cons_succ, List.setIfInBounds_toArray, List.set_cons_succ, List.set_cons_zero]
                            refine wpAnyH_take (i := 10) (v := undef) rfl (by kernel_rfl) (by kernel_rfl) (by kernel_rfl) (fun _ _ _ h => h) (Or.inr ⟨by kernel_rfl, rfl⟩) hHeld ?_
                            try simp only [Act.put, List.getElem_toArray, List.getElem_cons_zero, List.getElem_cons_succ, List.setIfInBounds_toArray, List.set_cons_succ, List.set_cons_zero]
                            refine wpAnyH_take (i := 11) (v := undef) rfl (by kernel_rfl) (by kernel_rfl) (by kernel_rfl) (fun _ _ _ h => h) (Or.inr ⟨by kernel_rfl, rfl⟩) hHeld ?_
                            try simp only [Act.put, List.getElem_toArray, List.getElem_cons_zero, List.getElem_cons_succ, List.setIfInBounds_toArray, List.set_cons_succ, List.set_cons_zero]
                            refine wpAnyH_take (i := 12) (v := undef) rfl (by kernel_rfl) (by kernel_rfl) (by kernel_rfl) (fun _ _ _ h => h) (Or.inr ⟨by kernel_rfl, rfl⟩) hHeld ?_
                            try simp only [Act.put, List.getElem_toArray, List.getElem_cons_zero, List.getElem_cons_succ, List.setIfInBounds_toArray, List.set_cons_succ, List.set_cons_zero]
                            refine wpAnyH_take (i := 13) (v := undef) rfl (by kernel_rfl) (by kernel_rfl) (by kernel_rfl) (fun _ _ _ h => h) (Or.inr ⟨by kernel_rfl, rfl⟩) hHeld ?_
                            try simp only [Act.put, List.getElem_toArray, List.getElem_cons_zero, List.getElem_cons_succ, List.setIfInBounds_toArray, List.set_cons_succ, List.set_cons_zero]
                            refine wpAnyH_take (i := 14) (v := undef) rfl (by kernel_rfl) (by kernel_rfl) (by kernel_rfl) (fun _ _ _ h => h) (Or.inr ⟨by kernel_rfl, rfl⟩) hHeld ?_
                            try simp only [Act.put, List.getElem_toArray, List.getElem_cons_zero, List.getElem_cons_succ, List.setIfInBounds_toArray, List.set_cons_succ, List.set_cons_zero]
                            refine wpAnyH_take (i := 15) (v := (.bool true)) rfl (by kernel_rfl) (by kernel_rfl) (by kernel_rfl) (fun _ _ _ h => h) (Or.inl ⟨by kernel_rfl, ?_⟩) hHeld ?_
                            · intro W hW; go_simp; first | done | with_reducible rfl | rfl
                            try simp only [Act.put, List.getElem_toArray, List.getElem_cons_zero, List.getElem_cons_succ, List.setIfInBounds_toArray, List.set_cons_succ, List.set_cons_zero]
                            refine wpAnyH_take (i := 16) (v := (.bool true)) rfl (by kernel_rfl) (by kernel_rfl) (by kernel_rfl) (fun _ _ _ h => h) (Or.inl ⟨by kernel_rfl, ?_⟩) hHeld ?_
                            · intro W hW; go_simp; first | done | with_reducible rfl | rfl
                            try simp only [Act.put, List.getElem_toArray, List.getElem_cons_zero, List.getElem_cons_succ, List.setIfInBounds_toArray, List.set_cons_succ, List.set_cons_zero]
                            refine wpAnyH_done (by kernel_rfl) ?_ _
                            refine NoPanic.normal ?_
                            go_simp
                            clear hHeld
                            have HBd := hide HB5.out.drew
                            have HLd := hide (HL5.out.later (Below.refl _ y5).drew)
                            have HRd := hide (own_later HR5.out (Below.refl _ y5).drew)
                            have HSd := hide (HST.out.later HBd.out)
                            have hpz := hpz0
                            have how := own_later how0 (Below.refl _ y5).drew
                            have qd := HQ.out _ (Below.refl _ y5).drew
                            clear HB5 HL5 HR5 HQ how0 hpz0 hs1 HC0
                            have HPZ := hide hpz
                            have HOW := hide how
                            generalize hYd : y5.drew = yd at *
                            clear hYd hpz how
                            go_wp2_with (first
                              | (refine wpList_buildIm rfl (.tmp 196) (.tmp 199) rfl (j : Int) (some ⟨b0', 0, none⟩) 256 c0' rfl rfl ?_)
                              | (refine wpList_buildN rfl 38 40 _ 2 32 Try.underlying38 infoIm rfl (by omega) (by omega) (.tmp 200) rfl (.agg #[.int .i64 (j : Int), .slice (some ⟨b0', 0, none⟩) 256 c0']) rfl rfl ?_)
                              | (at_builtin; refine wpList_appN rfl 38 40 _ 2 32 Try.underlying38 infoIm rfl (by omega) (.tmp 195) (.tmp 201) rfl wc.heap.size u22 L.length (ims L) yd.heap.size #[.int .i64 (j : Int), .slice (some ⟨b0', 0, none⟩) 256 c0'] rfl rfl (by have := HLL.out; omega) (by have := HLL.out; omega) (HRd.out.alloc _) (heap_alloc_new yd _) rfl (by intro u hu; simp at hu; rcases hu with rfl | rfl <;> rfl) (by have := HBd.out.size; simp [World.size_alloc]; omega) ?_; intro v' w' ho' hg'))
                            have hg2 : (yd.alloc (.cells #[.int .i64 (j : Int), .slice (some ⟨b0', 0, none⟩) 256 c0'] 40)).grownBy w' u22.ownBlock := hg'
                            have hr3 := HRd.out
                            have hkeep : ∀ {x : Value} {zs : List Int}, yd.ownsRow w.heap.size 5 1 x 256 (bv zs) → w'.ownsRow w.heap.size 5 1 x 256 (bv zs) := fun {x zs} hx => (hx.alloc _).kept hg2 (own_apart hx hr3 (by decide))
                            have HR6 : Hid (w'.ownsRow wc.heap.size 40 2 v' (L ++ [(⟨j, b0', c0', zs⟩ : Im)]).length (ims (L ++ [⟨j, b0', c0', zs⟩]))) := by
                              rw [List.length_append, ims_snoc]
                              exact ho'
                            have HL6 : Hid (Igs w' w.heap.size v' (L ++ [⟨j, b0', c0', zs⟩])) := by
                              refine ⟨own_mono HR6.out HST.out.duo.big, fun x hx => ?_⟩
                              rcases List.mem_append.1 hx with hx | hx
                              · exact ⟨(HLd.out.2 x hx).1, (HLd.out.2 x hx).2.1, hkeep (HLd.out.2 x hx).2.2⟩
                              · rw [List.mem_singleton.1 hx]
                                exact ⟨HPZ.out, hjl, hkeep HOW.out⟩
                            have HB6 : Hid (Below wc.heap.size wc w') := (HBd.out.alloc HBd.out.size _).grown hg2 (by have := HBd.out.size; simp [World.size_alloc]; omega) (fun i hi => (hr3.lt i hi).1)
                            clear ho' hg' hg2 hr3 hkeep HLd HRd HBd HSd HOW
                            go_roundw
                            case rel => exact ⟨j + 1, _, by omega, by go_num, HB6, HL6, HR6, HC1⟩
                            case measure => simp [RowKit.intOf]; omega
                        | some ys =>
                          have HFF := hide hF
                          go_wp2_with fail
                          refine (HSr.out.duo.bpage rfl hjl).mono ?_
                          rw [HFF.out]
                          rintro e y5 ⟨v5, rfl, ho5, hz5, hb5⟩
                          have hs2 := Sl.own ho5 hz5.2
                          have hbd2 := hz5.2
                          obtain ⟨b5, c5', us5, rfl, -, hc5', hd5', -, -⟩ := own_row ho5
                          have HB5 := hide (HB.out.trans (hb5.mono HB.out.size))
                          have HL5 := hide (HL.out.later hb5)
                          have HR5 := hide (own_later HR.out hb5)
                          clear ho5 hz5 hb5 HB HL HR HSr
                          cases hm : m j with
                          | none =>
                            have hch : chOf m (bookF bad f) j = none := by simp [chOf, hm]
                            have qd := (HST.out.later HB5.out).nowNone hjl hm
                            clear hs2 hbd2
                            have HQ : Hid (∀ W, Below y5.heap.size y5 W → W.cell? ⟨ab, j, none⟩ = some (.slice none 0 0)) := fun W hW => by rw [hW.cell (p := ⟨ab, j, none⟩) (cell_lt qd)]; exact qd
                            have HC1 : Hid (say L = chs m (bookF bad f) (j + 1)) := by show _ = _; rw [chs_succ, hch, HC0.out]; simp
                            clear qd hch hm hF
                            go_upto_region 43 with fail
                            refine wp_region_noPanic ?_
                            refine wp_region_held_drew (S := fun W => Below y5.heap.size y5 W) (by kernel_rfl) ?_ (fun hHeld => ?_)
                            · exact (Below.refl _ _).drew
                            refine wpAnyH_take (i := 0) (v := ?_) rfl (by kernel_rfl) (by kernel_rfl) (by kernel_rfl) (fun _ _ _ h => h) (Or.inl ⟨by kernel_rfl, ?_⟩) hHeld ?_
                            rotate_left
                            · intro W hW; go_simp; first | done | with_reducible rfl | rfl
                            try simp only [Act.put, List.getElem_toArray, List.getElem_cons_zero, List.setIfInBounds_toArray, List.set_cons_succ, List.set_cons_zero]
                            refine wpAnyH_take (i := 1) (v := (.pointer (some ⟨ab, j, none⟩))) rfl (by kernel_rfl) (by kernel_rfl) (by kernel_rfl) (fun _ _ _ h => h) (Or.inl ⟨by kernel_rfl, ?_⟩) hHeld ?_
                            · intro W hW; go_simp; first | done | with_reducible rfl | rfl
                            try simp only [Act.put, List.getElem_toArray, List.getElem_cons_zero, List.getElem_cons_succ, List.setIfInBounds_toArray, List.set_cons_succ, List.set_cons_zero]
                            refine wpAnyH_take (i := 2) (v := .slice none 0 0) rfl (by kernel_rfl) (by kernel_rfl) (by kernel_rfl) (fun _ _ _ h => h) (Or.inl ⟨by kernel_rfl, ?_⟩) hHeld ?_
                            · intro W hW; have cc := HQ.out W hW; clear hW; go_simp; first | done | with_reducible rfl | rfl
                            try simp only [Act.put, List.getElem_toArray, List.getElem_cons_zero, List.getElem_cons_succ, List.setIfInBounds_toArray, List.set_cons_succ, List.set_cons_zero]
                            refine wpAnyH_take (i := 3) (v := (.bool false)) rfl (by kernel_rfl) (by kernel_rfl) (by kernel_rfl) (fun _ _ _ h => h) (Or.inl ⟨by kernel_rfl, ?_⟩) hHeld ?_
                            · intro W hW; go_simp; first | done | with_reducible rfl | rfl
                            try simp only [Act.put, List.getElem_toArray, List.getElem_cons_zero, List.getElem_cons_succ, List.setIfInBounds_toArray, List.set_cons_succ, List.set_cons_zero]
                            refine wpAnyH_take (i := 4) (v := ?_) rfl (by kernel_rfl) (by kernel_rfl) (by kernel_rfl) (fun _ _ _ h => h) (Or.inl ⟨by kernel_rfl, ?_⟩) hHeld ?_
                            rotate_left
                            · intro W hW; go_simp; first | done | with_reducible rfl | rfl
                            try simp only [Act.put, List.getElem_toArray, List.getElem_cons_zero, List.getElem_cons_succ, List.setIfInBounds_toArray, List.set_cons_succ, List.set_cons_zero]
                            refine wpAnyH_take (i := 5) (v := undef) rfl (by kernel_rfl) (by kernel_rfl) (by kernel_rfl) (fun _ _ _ h => h) (Or.inr ⟨by kernel_rfl, rfl⟩) hHeld ?_
                            try simp only [Act.put, List.getElem_toArray, List.getElem_cons_zero, List.getElem_cons_succ, List.setIfInBounds_toArray, List.set_cons_succ, List.set_cons_zero]
                            refine wpAnyH_take (i := 6) (v := undef) rfl (by kernel_rfl) (by kernel_rfl) (by kernel_rfl) (fun _ _ _ h => h) (Or.inr ⟨by kernel_rfl, rfl⟩) hHeld ?_
                            try simp only [Act.put, List.getElem_toArray, List.getElem_cons_zero, List.getElem_cons_succ, List.setIfInBounds_toArray, List.set_cons_succ, List.set_cons_zero]
                            refine wpAnyH_take (i := 7) (v := undef) rfl (by kernel_rfl) (by kernel_rfl) (by kernel_rfl) (fun _ _ _ h => h) (Or.inr ⟨by kernel_rfl, rfl⟩) hHeld ?_
                            try simp only [Act.put, List.getElem_toArray, List.getElem_cons_zero, List.getElem_cons_succ, List.setIfInBounds_toArray, List.set_cons_succ, List.set_cons_zero]
                            refine wpAnyH_take (i := 8) (v := undef) rfl (by kernel_rfl) (by kernel_rfl) (by kernel_rfl) (fun _ _ _ h => h) (Or.inr ⟨by kernel_rfl, rfl⟩) hHeld ?_
                            try simp only [Act.put, List.getElem_toArray, List.getElem_cons_zero, List.getElem_cons_succ, List.setIfInBounds_toArray, List.set_cons_succ, List.set_cons_zero]
                            refine wpAnyH_take (i := 9) (v := undef) rfl (by kernel_rfl) (by kernel_rfl) (by kernel_rfl) (fun _ _ _ h => h) (Or.inr ⟨by kernel_rfl, rfl⟩) hHeld ?_
                            try simp only [Act.put, List.getElem_toArray, List.getElem_cons_zero, List.getElem_cons_succ, List.setIfInBounds_toArray, List.set_cons_succ, List.set_cons_zero]
                            refine wpAnyH_take (i := 10) (v := undef) rfl (by kernel_rfl) (by kernel_rfl) (by kernel_rfl) (fun _ _ _ h => h) (Or.inr ⟨by kernel_rfl, rfl⟩) hHeld ?_
                            try simp only [Act.put, List.getElem_toArray, List.getElem_cons_zero, List.getElem_cons_succ, List.setIfInBounds_toArray, List.set_cons_succ, List.set_cons_zero]
                            refine wpAnyH_take (i := 11) (v := undef) rfl (by kernel_rfl) (by kernel_rfl) (by kernel_rfl) (fun _ _ _ h => h) (Or.inr ⟨by kernel_rfl, rfl⟩) hHeld ?_
                            try simp only [Act.put, List.getElem_toArray, List.getElem_cons_zero, List.getElem_cons_succ, List.setIfInBounds_toArray, List.set_cons_succ, List.set_cons_zero]
                            refine wpAnyH_take (i := 12) (v := undef) rfl (by kernel_rfl) (by kernel_rfl) (by kernel_rfl) (fun _ _ _ h => h) (Or.inr ⟨by kernel_rfl, rfl⟩) hHeld ?_
                            try simp only [Act.put, List.getElem_toArray, List.getElem_cons_zero, List.getElem_cons_succ, List.setIfInBounds_toArray, List.set_cons_succ, List.set_cons_zero]
                            refine wpAnyH_take (i := 13) (v := undef) rfl (by kernel_rfl) (by kernel_rfl) (by kernel_rfl) (fun _ _ _ h => h) (Or.inr ⟨by kernel_rfl, rfl⟩) hHeld ?_
                            try simp only [Act.put, List.getElem_toArray, List.getElem_cons_zero, List.getElem_cons_succ, List.setIfInBounds_toArray, List.set_cons_succ, List.set_cons_zero]
                            refine wpAnyH_take (i := 14) (v := undef) rfl (by kernel_rfl) (by kernel_rfl) (by kernel_rfl) (fun _ _ _ h => h) (Or.inr ⟨by kernel_rfl, rfl⟩) hHeld ?_
                            try simp only [Act.put, List.getElem_toArray, List.getElem_cons_zero, List.getElem_cons_succ, List.setIfInBounds_toArray, List.set_cons_succ, List.set_cons_zero]
                            refine wpAnyH_take (i := 15) (v := undef) rfl (by kernel_rfl) (by kernel_rfl) (by kernel_rfl) (fun _ _ _ h => h) (Or.inr ⟨by kernel_rfl, rfl⟩) hHeld ?_
                            try simp only [Act.put, List.getElem_toArray, List.getElem_cons_zero, List.getElem_cons_succ, List.setIfInBounds_toArray, List.set_cons_succ, List.set_cons_zero]
                            refine wpAnyH_take (i := 16) (v := (.bool false)) rfl (by kernel_rfl) (by kernel_rfl) (by kernel_rfl) (fun _ _ _ h => h) (Or.inl ⟨by kernel_rfl, ?_⟩) hHeld ?_
                            · intro W hW; go_simp; first | done | with_reducible rfl | rfl
                            try simp only [Act.put, List.getElem_toArray, List.getElem_cons_zero, List.getElem_cons_succ, List.setIfInBounds_toArray, List.set_cons_succ, List.set_cons_zero]
                            refine wpAnyH_done (by kernel_rfl) ?_ _
                            refine NoPanic.normal ?_
                            go_simp
                            clear hHeld
                            have HBd := hide HB5.out.drew
                            have HLd := hide (HL5.out.later (Below.refl _ y5).drew)
                            have HRd := hide (own_later HR5.out (Below.refl _ y5).drew)
                            clear HB5 HL5 HR5 HC0
                            go_wp2_with fail
                            go_roundw
                            case rel => exact ⟨j + 1, L, by omega, by go_num, HBd, HLd, HRd, HC1⟩
                            case measure => simp [RowKit.intOf]; omega
                          | some zs =>
                            by_cases hzy : ys = zs
                            · subst hzy
                              have hch : chOf m (bookF bad f) j = none := by simp [chOf, hm, hF]
                              obtain ⟨b0', c0', hpz0, how0, qd0⟩ := (HST.out.later HB5.out).nowPage hjl hm
                              have hs1 : Sl y5 (.slice (some ⟨b0', 0, none⟩) 256 c0') ys := Sl.own how0 hpz0.2
                              have HQ : Hid (∀ W, Below y5.heap.size y5 W → W.cell? ⟨ab, j, none⟩ = some (.slice (some ⟨b0', 0, none⟩) 256 c0')) := fun W hW => by rw [hW.cell (p := ⟨ab, j, none⟩) (cell_lt qd0)]; exact qd0
                              have HC1 : Hid (say L = chs m (bookF bad f) (j + 1)) := by show _ = _; rw [chs_succ, hch, HC0.out]; simp
                              clear qd0 how0 hpz0 hch hm hF
                              go_upto_region 43 with fail
                              refine wp_region_noPanic ?_
                              refine wp_region_held_drew (S := fun W => Below y5.heap.size y5 W) (by kernel_rfl) ?_ (fun hHeld => ?_)
                              · exact (Below.refl _ _).drew
                              refine wpAnyH_take (i := 0) (v := ?_) rfl (by kernel_rfl) (by kernel_rfl) (by kernel_rfl) (fun _ _ _ h => h) (Or.inl ⟨by kernel_rfl, ?_⟩) hHeld ?_
                              rotate_left
                              · intro W hW; go_simp; first | done | with_reducible rfl | rfl
                              try simp only [Act.put, List.getElem_toArray, List.getElem_cons_zero, List.setIfInBounds_toArray, List.set_cons_succ, List.set_cons_zero]
                              refine wpAnyH_take (i := 1) (v := (.pointer (some ⟨ab, j, none⟩))) rfl (by kernel_rfl) (by kernel_rfl) (by kernel_rfl) (fun _ _ _ h => h) (Or.inl ⟨by kernel_rfl, ?_⟩) hHeld ?_
                              · intro W hW; go_simp; first | done | with_reducible rfl | rfl
                              try simp only [Act.put, List.getElem_toArray, List.getElem_cons_zero, List.getElem_cons_succ, List.setIfInBounds_toArray, List.set_cons_succ, List.set_cons_zero]
                              refine wpAnyH_take (i := 2) (v := .slice (some ⟨b0', 0, none⟩) 256 c0') rfl (by kernel_rfl) (by kernel_rfl) (by kernel_rfl) (fun _ _ _ h => h) (Or.inl ⟨by kernel_rfl, ?_⟩) hHeld ?_
                              · intro W hW; have cc := HQ.out W hW; clear hW; go_simp; first | done | with_reducible rfl | rfl
                              try simp only [Act.put, List.getElem_toArray, List.getElem_cons_zero, List.getElem_cons_succ, List.setIfInBounds_toArray, List.set_cons_succ, List.set_cons_zero]
                              refine wpAnyH_take (i := 3) (v := (.bool true)) rfl (by kernel_rfl) (by kernel_rfl) (by kernel_rfl) (fun _ _ _ h => h) (Or.inl ⟨by kernel_rfl, ?_⟩) hHeld ?_
                              · intro W hW; go_simp; first | done | with_reducible rfl | rfl
                              try simp only [Act.put, List.getElem_toArray, List.getElem_cons_zero, List.getElem_cons_succ, List.setIfInBounds_toArray, List.set_cons_succ, List.set_cons_zero]
                              refine wpAnyH_take (i := 4) (v := ?_) rfl (by kernel_rfl) (by kernel_rfl) (by kernel_rfl) (fun _ _ _ h => h) (Or.inl ⟨by kernel_rfl, ?_⟩) hHeld ?_
                              rotate_left
                              · intro W hW; go_simp; first | done | with_reducible rfl | rfl
                              try simp only [Act.put, List.getElem_toArray, List.getElem_cons_zero, List.getElem_cons_succ, List.setIfInBounds_toArray, List.set_cons_succ, List.set_cons_zero]
                              refine wpAnyH_take (i := 5) (v := ?_) rfl (by kernel_rfl) (by kernel_rfl) (by kernel_rfl) (fun _ _ _ h => h) (Or.inl ⟨by kernel_rfl, ?_⟩) hHeld ?_
                              rotate_left
                              · intro W hW; go_simp; first | done | with_reducible rfl | rfl
                              try simp only [Act.put, List.getElem_toArray, List.getElem_cons_zero, List.getElem_cons_succ, List.setIfInBounds_toArray, List.set_cons_succ, List.set_cons_zero]
                              refine wpAnyH_take (i := 6) (v := (.bool false)) rfl (by kernel_rfl) (by kernel_rfl) (by kernel_rfl) (fun _ _ _ h => h) (Or.inl ⟨by kernel_rfl, ?_⟩) hHeld ?_
                              · intro W hW; go_simp; first | done | with_reducible rfl | rfl
                              try simp only [Act.put, List.getElem_toArray, List.getElem_cons_zero, List.getElem_cons_succ, List.setIfInBounds_toArray, List.set_cons_succ, List.set_cons_zero]
                              refine wpAnyH_take (i := 7) (v := ?_) rfl (by kernel_rfl) (by kernel_rfl) (by kernel_rfl) (fun _ _ _ h => h) (Or.inl ⟨by kernel_rfl, ?_⟩) hHeld ?_
                              rotate_left
                              · intro W hW; go_simp; first | done | with_reducible rfl | rfl
                              try simp only [Act.put, List.getElem_toArray, List.getElem_cons_zero, List.getElem_cons_succ, List.setIfInBounds_toArray, List.set_cons_succ, List.set_cons_zero]
                              refine wpAnyH_take (i := 8) (v := ?_) rfl (by kernel_rfl) (by kernel_rfl) (by kernel_rfl) (fun _ _ _ h => h) (Or.inl ⟨by kernel_rfl, ?_⟩) hHeld ?_
                              rotate_left
                              · intro W hW; go_simp; first | done | with_reducible rfl | rfl
                              try simp only [Act.put, List.getElem_toArray, List.getElem_cons_zero, List.getElem_cons_succ, List.setIfInBounds_toArray, List.set_cons_succ, List.set_cons_zero]
                              refine wpAnyH_take (i := 9) (v := (.pointer (some ⟨ab, j, none⟩))) rfl (by kernel_rfl) (by kernel_rfl) (by kernel_rfl) (fun _ _ _ h => h) (Or.inl ⟨by kernel_rfl, ?_⟩) hHeld ?_
                              · intro W hW; go_simp; first | done | with_reducible rfl | rfl
                              try simp only [Act.put, List.getElem_toArray, List.getElem_cons_zero, List.getElem_cons_succ, List.setIfInBounds_toArray, List.set_cons_succ, List.set_cons_zero]
                              refine wpAnyH_take (i := 10) (v := .slice (some ⟨b0', 0, none⟩) 256 c0') rfl (by kernel_rfl) (by kernel_rfl) (by kernel_rfl) (fun _ _ _ h => h) (Or.inl ⟨by kernel_rfl, ?_⟩) hHeld ?_
                              · intro W hW; have cc := HQ.out W hW; clear hW; go_simp; first | done | with_reducible rfl | rfl
                              try simp only [Act.put, List.getElem_toArray, List.getElem_cons_zero, List.getElem_cons_succ, List.setIfInBounds_toArray, List.set_cons_succ, List.set_cons_zero]
                              refine wpAnyH_take (i := 11) (v := .string (strOfNums (ys))) rfl (by kernel_rfl) (by kernel_rfl) (by kernel_rfl) (fun _ _ _ h => h) (Or.inl ⟨by kernel_rfl, ?_⟩) hHeld ?_
                              · intro W hW; have hcv := (hs1.later hW).conv (P := Try.prog) 22 9 5 Try.underlying22 Try.underlying5 Try.underlying9; go_simp
                              try simp only [Act.put, List.getElem_toArray, List.getElem_cons_zero, List.getElem_cons_succ, List.setIfInBounds_toArray, List.set_cons_succ, List.set_cons_zero]
                              refine wpAnyH_take (i := 12) (v := ?_) rfl (by kernel_rfl) (by kernel_rfl) (by kernel_rfl) (fun _ _ _ h => h) (Or.inl ⟨by kernel_rfl, ?_⟩) hHeld ?_
                              rotate_left
                              · intro W hW; go_simp; first | done | with_reducible rfl | rfl
                              try simp only [Act.put, List.getElem_toArray, List.getElem_cons_zero, List.getElem_cons_succ, List.setIfInBounds_toArray, List.set_cons_succ, List.set_cons_zero]
                              refine wpAnyH_take (i := 13) (v := .string (strOfNums (ys))) rfl (by kernel_rfl) (by kernel_rfl) (by kernel_rfl) (fun _ _ _ h => h) (Or.inl ⟨by kernel_rfl, ?_⟩) hHeld ?_
                              · intro W hW; have hcv := (hs2.later hW).conv (P := Try.prog) 22 9 5 Try.underlying22 Try.underlying5 Try.underlying9; go_simp
                              try simp only [Act.put, List.getElem_toArray, List.getElem_cons_zero, List.getElem_cons_succ, List.setIfInBounds_toArray, List.set_cons_succ, List.set_cons_zero]
                              refine wpAnyH_take (i := 14) (v := (.bool false)) rfl (by kernel_rfl) (by kernel_rfl) (by kernel_rfl) (fun _ _ _ h => h) (Or.inl ⟨by kernel_rfl, ?_⟩) hHeld ?_
                              · intro W hW; go_simp; first | done | with_reducible rfl | rfl
                              try simp only [Act.put, List.getElem_toArray, List.getElem_cons_zero, List.getElem_cons_succ, List.setIfInBounds_toArray, List.set_cons_succ, List.set_cons_zero]
                              refine wpAnyH_take (i := 15) (v := (.bool false)) rfl (by kernel_rfl) (by kernel_rfl) (by kernel_rfl) (fun _ _ _ h => h) (Or.inl ⟨by kernel_rfl, ?_⟩) hHeld ?_
                              · intro W hW; go_simp; first | done | with_reducible rfl | rfl
                              try simp only [Act.put, List.getElem_toArray, List.getElem_cons_zero, List.getElem_cons_succ, List.setIfInBounds_toArray, List.set_cons_succ, List.set_cons_zero]
                              refine wpAnyH_take (i := 16) (v := (.bool false)) rfl (by kernel_rfl) (by kernel_rfl) (by kernel_rfl) (fun _ _ _ h => h) (Or.inl ⟨by kernel_rfl, ?_⟩) hHeld ?_
                              · intro W hW; go_simp; first | done | with_reducible rfl | rfl
                              try simp only [Act.put, List.getElem_toArray, List.getElem_cons_zero, List.getElem_cons_succ, List.setIfInBounds_toArray, List.set_cons_succ, List.set_cons_zero]
                              refine wpAnyH_done (by kernel_rfl) ?_ _
                              refine NoPanic.normal ?_
                              go_simp
                              clear hHeld
                              have HBd := hide HB5.out.drew
                              have HLd := hide (HL5.out.later (Below.refl _ y5).drew)
                              have HRd := hide (own_later HR5.out (Below.refl _ y5).drew)
                              clear hs1 hs2 HQ
                              clear HB5 HL5 HR5 HC0
                              go_wp2_with fail
                              go_roundw
                              case rel => exact ⟨j + 1, L, by omega, by go_num, HBd, HLd, HRd, HC1⟩
                              case measure => simp [RowKit.intOf]; omega
                            · have hch : chOf m (bookF bad f) j = some (j, zs) := by simp [chOf, hm, hF, hzy]
                              obtain ⟨b0', c0', hpz0, how0, qd0⟩ := (HST.out.later HB5.out).nowPage hjl hm
                              have hs1 : Sl y5 (.slice (some ⟨b0', 0, none⟩) 256 c0') zs := Sl.own how0 hpz0.2
                              have HQ : Hid (∀ W, Below y5.heap.size y5 W → W.cell? ⟨ab, j, none⟩ = some (.slice (some ⟨b0', 0, none⟩) 256 c0')) := fun W hW => by rw [hW.cell (p := ⟨ab, j, none⟩) (cell_lt qd0)]; exact qd0
                              have HC1 : Hid (say (L ++ [⟨j, b0', c0', zs⟩]) = chs m (bookF bad f) (j + 1)) := by
                                show _ = _
                                rw [chs_succ, hch, ← HC0.out]
                                simp [say]
                              clear qd0
                              have hne : ((strOfNums zs).toList == (strOfNums ys).toList) = false := by rw [nums_same hs1.bd hbd2]; simpa using fun e => hzy e.symm
                              clear hch hm hF
                              go_upto_region 43 with fail
                              refine wp_region_noPanic ?_
                              refine wp_region_held_drew (S := fun W => Below y5.heap.size y5 W) (by kernel_rfl) ?_ (fun hHeld => ?_)
                              · exact (Below.refl _ _).drew
                              refine wpAnyH_take (i := 0) (v := ?_) rfl (by kernel_rfl) (by kernel_rfl) (by kernel_rfl) (fun _ _ _ h => h) (Or.inl ⟨by kernel_rfl, ?_⟩) hHeld ?_
                              rotate_left
                              · intro W hW; go_simp; first | done | with_reducible rfl | rfl
                              try simp only [Act.put, List.getElem_toArray, List.getElem_cons_zero, List.setIfInBounds_toArray, List.set_cons_succ, List.set_cons_zero]
                              refine wpAnyH_take (i := 1) (v := (.pointer (some ⟨ab, j, none⟩))) rfl (by kernel_rfl) (by kernel_rfl) (by kernel_rfl) (fun _ _ _ h => h) (Or.inl ⟨by kernel_rfl, ?_⟩) hHeld ?_
                              · intro W hW; go_simp; first | done | with_reducible rfl | rfl
                              try simp only [Act.put, List.getElem_toArray, List.getElem_cons_zero, List.getElem_cons_succ, List.setIfInBounds_toArray, List.set_cons_succ, List.set_cons_zero]
                              refine wpAnyH_take (i := 2) (v := .slice (some ⟨b0', 0, none⟩) 256 c0') rfl (by kernel_rfl) (by kernel_rfl) (by kernel_rfl) (fun _ _ _ h => h) (Or.inl ⟨by kernel_rfl, ?_⟩) hHeld ?_
                              · intro W hW; have cc := HQ.out W hW; clear hW; go_simp; first | done | with_reducible rfl | rfl
                              try simp only [Act.put, List.getElem_toArray, List.getElem_cons_zero, List.getElem_cons_succ, List.setIfInBounds_toArray, List.set_cons_succ, List.set_cons_zero]
                              refine wpAnyH_take (i := 3) (v := (.bool true)) rfl (by kernel_rfl) (by kernel_rfl) (by kernel_rfl) (fun _ _ _ h => h) (Or.inl ⟨by kernel_rfl, ?_⟩) hHeld ?_
                              · intro W hW; go_simp; first | done | with_reducible rfl | rfl
                              try simp only [Act.put, List.getElem_toArray, List.getElem_cons_zero, List.getElem_cons_succ, List.setIfInBounds_toArray, List.set_cons_succ, List.set_cons_zero]
                              refine wpAnyH_take (i := 4) (v := ?_) rfl (by kernel_rfl) (by kernel_rfl) (by kernel_rfl) (fun _ _ _ h => h) (Or.inl ⟨by kernel_rfl, ?_⟩) hHeld ?_
                              rotate_left
                              · intro W hW; go_simp; first | done | with_reducible rfl | rfl
                              try simp only [Act.put, List.getElem_toArray, List.getElem_cons_zero, List.getElem_cons_succ, List.setIfInBounds_toArray, List.set_cons_succ, List.set_cons_zero]
                              refine wpAnyH_take (i := 5) (v := ?_) rfl (by kernel_rfl) (by kernel_rfl) (by kernel_rfl) (fun _ _ _ h => h) (Or.inl ⟨by kernel_rfl, ?_⟩) hHeld ?_
                              rotate_left
                              · intro W hW; go_simp; first | done | with_reducible rfl | rfl
                              try simp only [Act.put, List.getElem_toArray, List.getElem_cons_zero, List.getElem_cons_succ, List.setIfInBounds_toArray, List.set_cons_succ, List.set_cons_zero]
                              refine wpAnyH_take (i := 6) (v := (.bool false)) rfl (by kernel_rfl) (by kernel_rfl) (by kernel_rfl) (fun _ _ _ h => h) (Or.inl ⟨by kernel_rfl, ?_⟩) hHeld ?_
                              · intro W hW; go_simp; first | done | with_reducible rfl | rfl
                              try simp only [Act.put, List.getElem_toArray, List.getElem_cons_zero, List.getElem_cons_succ, List.setIfInBounds_toArray, List.set_cons_succ, List.set_cons_zero]
                              refine wpAnyH_take (i := 7) (v := ?_) rfl (by kernel_rfl) (by kernel_rfl) (by kernel_rfl) (fun _ _ _ h => h) (Or.inl ⟨by kernel_rfl, ?_⟩) hHeld ?_
                              rotate_left
                              · intro W hW; go_simp; first | done | with_reducible rfl | rfl
                              try simp only [Act.put, List.getElem_toArray, List.getElem_cons_zero, List.getElem_cons_succ, List.setIfInBounds_toArray, List.set_cons_succ, List.set_cons_zero]
                              refine wpAnyH_take (i := 8) (v := ?_) rfl (by kernel_rfl) (by kernel_rfl) (by kernel_rfl) (fun _ _ _ h => h) (Or.inl ⟨by kernel_rfl, ?_⟩) hHeld ?_
                              rotate_left
                              · intro W hW; go_simp; first | done | with_reducible rfl | rfl
                              try simp only [Act.put, List.getElem_toArray, List.getElem_cons_zero, List.getElem_cons_succ, List.setIfInBounds_toArray, List.set_cons_succ, List.set_cons_zero]
                              refine wpAnyH_take (i := 9) (v := (.pointer (some ⟨ab, j, none⟩))) rfl (by kernel_rfl) (by kernel_rfl) (by kernel_rfl) (fun _ _ _ h => h) (Or.inl ⟨by kernel_rfl, ?_⟩) hHeld ?_
                              · intro W hW; go_simp; first | done | with_reducible rfl | rfl
                              try simp only [Act.put, List.getElem_toArray, List.getElem_cons_zero, List.getElem_cons_succ, List.setIfInBounds_toArray, List.set_cons_succ, List.set_cons_zero]
                              refine wpAnyH_take (i := 10) (v := .slice (some ⟨b0', 0, none⟩) 256 c0') rfl (by kernel_rfl) (by kernel_rfl) (by kernel_rfl) (fun _ _ _ h => h) (Or.inl ⟨by kernel_rfl, ?_⟩) hHeld ?_
                              · intro W hW; have cc := HQ.out W hW; clear hW; go_simp; first | done | with_reducible rfl | rfl
                              try simp only [Act.put, List.getElem_toArray, List.getElem_cons_zero, List.getElem_cons_succ, List.setIfInBounds_toArray, List.set_cons_succ, List.set_cons_zero]
                              refine wpAnyH_take (i := 11) (v := .string (strOfNums (zs))) rfl (by kernel_rfl) (by kernel_rfl) (by kernel_rfl) (fun _ _ _ h => h) (Or.inl ⟨by kernel_rfl, ?_⟩) hHeld ?_
                              · intro W hW; have hcv := (hs1.later hW).conv (P := Try.prog) 22 9 5 Try.underlying22 Try.underlying5 Try.underlying9; go_simp
                              try simp only [Act.put, List.getElem_toArray, List.getElem_cons_zero, List.getElem_cons_succ, List.setIfInBounds_toArray, List.set_cons_succ, List.set_cons_zero]
                              refine wpAnyH_take (i := 12) (v := ?_) rfl (by kernel_rfl) (by kernel_rfl) (by kernel_rfl) (fun _ _ _ h => h) (Or.inl ⟨by kernel_rfl, ?_⟩) hHeld ?_
                              rotate_left
                              · intro W hW; go_simp; first | done | with_reducible rfl | rfl
                              try simp only [Act.put, List.getElem_toArray, List.getElem_cons_zero, List.getElem_cons_succ, List.setIfInBounds_toArray, List.set_cons_succ, List.set_cons_zero]
                              refine wpAnyH_take (i := 13) (v := .string (strOfNums (ys))) rfl (by kernel_rfl) (by kernel_rfl) (by kernel_rfl) (fun _ _ _ h => h) (Or.inl ⟨by kernel_rfl, ?_⟩) hHeld ?_
                              · intro W hW; have hcv := (hs2.later hW).conv (P := Try.prog) 22 9 5 Try.underlying22 Try.underlying5 Try.underlying9; go_simp
                              try simp only [Act.put, List.getElem_toArray, List.getElem_cons_zero, List.getElem_cons_succ, List.setIfInBounds_toArray, List.set_cons_succ, List.set_cons_zero]
                              refine wpAnyH_take (i := 14) (v := .bool true) rfl (by kernel_rfl) (by kernel_rfl) (by kernel_rfl) (fun _ _ _ h => h) (Or.inl ⟨by kernel_rfl, ?_⟩) hHeld ?_
                              · intro W hW; have cc := hne; clear hW; go_simp; first | done | with_reducible rfl | rfl
                              try simp only [Act.put, List.getElem_toArray, List.getElem_cons_zero, List.getElem_cons_succ, List.setIfInBounds_toArray, List.set_cons_succ, List.set_cons_zero]
                              refine wpAnyH_take (i := 15) (v := (.bool true)) rfl (by kernel_rfl) (by kernel_rfl) (by kernel_rfl) (fun _ _ _ h => h) (Or.inl ⟨by kernel_rfl, ?_⟩) hHeld ?_
                              · intro W hW; go_simp; first | done | with_reducible rfl | rfl
                              try simp only [Act.put, List.getElem_toArray, List.getElem_cons_zero, List.getElem_cons_succ, List.setIfInBounds_toArray, List.set_cons_succ, List.set_cons_zero]
                              refine wpAnyH_take (i := 16) (v := (.bool true)) rfl (by kernel_rfl) (by kernel_rfl) (by kernel_rfl) (fun _ _ _ h => h) (Or.inl ⟨by kernel_rfl, ?_⟩) hHeld ?_
                              · intro W hW; go_simp; first | done | with_reducible rfl | rfl
                              try simp only [Act.put, List.getElem_toArray, List.getElem_cons_zero, List.getElem_cons_succ, List.setIfInBounds_toArray, List.set_cons_succ, List.set_cons_zero]
                              refine wpAnyH_done (by kernel_rfl) ?_ _
                              refine NoPanic.normal ?_
                              go_simp
                              clear hHeld
                              have HBd := hide HB5.out.drew
                              have HLd := hide (HL5.out.later (Below.refl _ y5).drew)
                              have HRd := hide (own_later HR5.out (Below.refl _ y5).drew)
                              clear hs2 hne hbd2
                              have HSd := hide (HST.out.later HBd.out)
                              have hpz := hpz0
                              have how := own_later how0 (Below.refl _ y5).drew
                              have qd := HQ.out _ (Below.refl _ y5).drew
                              clear HB5 HL5 HR5 HQ how0 hpz0 hs1 HC0
                              have HPZ := hide hpz
                              have HOW := hide how
                              generalize hYd : y5.drew = yd at *
                              clear hYd hpz how
                              go_wp2_with (first
                                | (refine wpList_buildIm rfl (.tmp 196) (.tmp 199) rfl (j : Int) (some ⟨b0', 0, none⟩) 256 c0' rfl rfl ?_)
                                | (refine wpList_buildN rfl 38 40 _ 2 32 Try.underlying38 infoIm rfl (by omega) (by omega) (.tmp 200) rfl (.agg #[.int .i64 (j : Int), .slice (some ⟨b0', 0, none⟩) 256 c0']) rfl rfl ?_)
                                | (at_builtin; refine wpList_appN rfl 38 40 _ 2 32 Try.underlying38 infoIm rfl (by omega) (.tmp 195) (.tmp 201) rfl wc.heap.size u22 L.length (ims L) yd.heap.size #[.int .i64 (j : Int), .slice (some ⟨b0', 0, none⟩) 256 c0'] rfl rfl (by have := HLL.out; omega) (by have := HLL.out; omega) (HRd.out.alloc _) (heap_alloc_new yd _) rfl (by intro u hu; simp at hu; rcases hu with rfl | rfl <;> rfl) (by have := HBd.out.size; simp [World.size_alloc]; omega) ?_; intro v' w' ho' hg'))
                              have hg2 : (yd.alloc (.cells #[.int .i64 (j : Int), .slice (some ⟨b0', 0, none⟩) 256 c0'] 40)).grownBy w' u22.ownBlock := hg'
                              have hr3 := HRd.out
                              have hkeep : ∀ {x : Value} {zs : List Int}, yd.ownsRow w.heap.size 5 1 x 256 (bv zs) → w'.ownsRow w.heap.size 5 1 x 256 (bv zs) := fun {x zs} hx => (hx.alloc _).kept hg2 (own_apart hx hr3 (by decide))
                              have HR6 : Hid (w'.ownsRow wc.heap.size 40 2 v' (L ++ [(⟨j, b0', c0', zs⟩ : Im)]).length (ims (L ++ [⟨j, b0', c0', zs⟩]))) := by
                                rw [List.length_append, ims_snoc]
                                exact ho'
                              have HL6 : Hid (Igs w' w.heap.size v' (L ++ [⟨j, b0', c0', zs⟩])) := by
                                refine ⟨own_mono HR6.out HST.out.duo.big, fun x hx => ?_⟩
                                rcases List.mem_append.1 hx with hx | hx
                                · exact ⟨(HLd.out.2 x hx).1, (HLd.out.2 x hx).2.1, hkeep (HLd.out.2 x hx).2.2⟩
                                · rw [List.mem_singleton.1 hx]
                                  exact ⟨HPZ.out, hjl, hkeep HOW.out⟩
                              have HB6 : Hid (Below wc.heap.size wc w') := (HBd.out.alloc HBd.out.size _).grown hg2 (by have := HBd.out.size; simp [World.size_alloc]; omega) (fun i hi => (hr3.lt i hi).1)
                              clear ho' hg' hg2 hr3 hkeep HLd HRd HBd HSd HOW
                              go_roundw
                              case rel => exact ⟨j + 1, _, by omega, by go_num, HB6, HL6, HR6, HC1⟩
                              case measure => simp [RowKit.intOf]; omega
                      · obtain rfl : j = 96 := by omega
                        have HSr := hide (HST.out.later HB.out)
                        clear qN HR
                        rw [show ((96 : Nat) : Int) = 96 from rfl]
                        go_wp2_with fail
                        refine HSr.out.duo.changes.mono ?_
                        rintro e y6 ⟨v6, L6, rfl, hL6, hs6, hb6⟩
                        have HBE := hide (HSr.out.later hb6).duo.bel
                        have HLE := hide (HL.out.later hb6)
                        have HL6 := hide hL6
                        have HS6 : Hid (say L6 = say L) := by show _ = _; rw [hs6, HC0.out]
                        clear hL6 hs6 hb6 HL HSr
                        go_wp2_with fail
                        refine (eqIm_any HL6.out HLE.out HS6.out).mono ?_
                        rintro e y7 ⟨rfl, hb7⟩
                        have HBF := hide (HBE.out.trans (hb7.mono HBE.out.size))
                        clear hb7
                        go_wp2_with fail
                        go_ret
                        exact ⟨rfl, HBF.out⟩
                | true =>
                  obtain ⟨t1, t2⟩ : k < len1 ∧ k < 40 := by simpa using hc14.symm
                  clear hc14
                  obtain ⟨b0, o0, pB, nB, cB, kind, z, bs, rfl, HQ, HZ, HS⟩ := HC.out.at_ t1
                  obtain ⟨d0, d1, d2⟩ := HQ.out wc HST.out.duo.bel
                  go_upto_region 17 with (first
                    | (refine wpList_loadO (.tmp 77) rfl rfl b0 (o0 + k * 3) kind z pB nB cB rfl d0 d1 d2 ?_)
                    | (refine wpList_allocO rfl rfl ?_; intro y1 hb1 ho1)
                    | (refine wpList_storeO (.tmp 13) (.tmp 78) rfl rfl wc.heap.size kind z pB nB cB _ rfl rfl ho1 rfl ?_; intro y2 hb2 ho2))
                  have hb2' : Below wc.heap.size wc y2 := Below.but hb1 hb1.size hb2 (fun i e => by omega)
                  have HST2 := hide (HST.out.later hb2')
                  have HO2 := hide ho2
                  clear ho1 hb1 ho2 hb2 hb2' d0 d1 d2 HST
                  generalize wc.heap.size = ob at *
                  have e0 : y2.cell? ⟨ob, 0, none⟩ = some (.int .i64 kind) := HO2.out.cell (i := 0) (by simp)
                  have e1 : y2.cell? ⟨ob, 1, none⟩ = some (.int .i64 z) := HO2.out.cell (i := 1) (by simp)
                  have e2 : y2.cell? ⟨ob, 2, none⟩ = some (.slice pB nB cB) := HO2.out.cell (i := 2) (by simp)
                  simp only [Act.put, List.setIfInBounds_toArray, List.set_cons_succ, List.set_cons_zero]
                  have HZ2 : Hid (¬ (0 ≤ z ∧ z < 96) ∨ (0 ≤ z ∧ z < 96)) := by show _ ∨ _; omega
                  obtain ⟨inn, hinn⟩ : ∃ c, c = decide (0 ≤ z ∧ z ≤ 95) := ⟨_, rfl⟩
                  go_cut [14] from 207 (fun s W => s = .bool inn ∧ W = y2)
                  case first =>
                    have hx : z < 0 ∨ (0 ≤ z ∧ 95 < z) ∨ (0 ≤ z ∧ z ≤ 95) := by omega
                    rcases hx with hx | ⟨hx, hy⟩ | ⟨hx, hy⟩
                    all_goals
                      go_wp2_with fail
                      go_meet
                      case rel => exact ⟨(by rw [hinn]; simp [*] <;> omega), rfl⟩
                  case rest =>
                    obtain ⟨rfl, rfl⟩ := hcut
                    have HINN := hide hinn
                    clear hinn
                    go_upto_if 89 with fail
                    go_cut [] from 207 (fun W => ∃ m' : Nat → Option (List Int), Hid (St w.heap.size w W gs gb ab bad m' m' f) ∧ Hid (Tb W 33 ob [.int .i64 kind, .int .i64 z, .slice pB nB cB]))
                    case first =>
                      as_aux_lemma =>
                        by_cases hk0 : kind = 0
                        · subst hk0
                          obtain ⟨c20, hc20⟩ : ∃ c, c = decide (0 < nB ∧ nB < 250) := ⟨_, rfl⟩
                          go_upto_region 20 with fail
                          go_cut [99] from 207 (fun s W => s = .bool c20 ∧ W = wc)
                          case first =>
                            have hx : (¬ 0 < nB) ∨ (0 < nB ∧ ¬ nB < 250) ∨ (0 < nB ∧ nB < 250) := by omega
                            rcases hx with hx | ⟨hx, hy⟩ | ⟨hx, hy⟩
                            all_goals
                              go_wp2_with fail
                              go_meet
                              case rel => exact ⟨(by rw [hc20]; simp [*] <;> omega), rfl⟩
                          case rest =>
                            obtain ⟨rfl, rfl⟩ := hcut
                            clear hc20
                            have HSB := hide (HS.out.later HST2.out.duo.bel)
                            go_upto_if 99 with fail
                            go_cut [15] from 207 (fun s W => ∃ (p : Option Addr) (n c : Nat) (ps : List Int), s = .slice p n c ∧ Hid (Sl W (.slice p n c) ps) ∧ Hid (St w.heap.size w W gs gb ab bad m m f) ∧ Hid (Tb W 33 ob [.int .i64 0, .int .i64 z, .slice pB nB cB]))
                            case first =>
                              cases c20 with
                              | false =>
                                go_wp2_with fail
                                go_meet
                                case rel => exact ⟨_, _, _, _, rfl, HSB, HST2, HO2⟩
                              | true =>
                                go_wp2_with fail
                                refine (pof_any HSB.out).mono ?_
                                rintro e y3 ⟨b3, rfl, hp3, -, hb⟩
                                have HP3 : Hid (Sl y3 (.slice (some ⟨b3, 0, none⟩) 256 256) (pad bs)) := Sl.own (tb_own hp3 (pad_pg HSB.out.bd) (Nat.zero_le _)) (pad_bd HSB.out.bd)
                                have HST3 := hide (HST2.out.later hb)
                                have HO3 := hide (HO2.out.later hb)
                                clear hp3 hb HST2 HO2 HSB e0 e1 e2
                                go_wp2_with fail
                                go_meet
                                case rel => exact ⟨_, _, _, _, rfl, HP3, HST3, HO3⟩
                            case rest =>
                              obtain ⟨p, n, c, ps, rfl, HP, HST3, HO3⟩ := hcut
                              clear HSB HST2 HO2 e0 e1 e2
                              obtain ⟨hn, hnc, hcm⟩ := HP.out.lens
                              have HN := hide hn
                              have e1 : wc.cell? ⟨ob, 1, none⟩ = some (.int .i64 z) := HO3.out.cell (i := 1) (by simp)
                              clear hn
                              cases inn with
                              | false =>
                                have hr : ¬ (0 ≤ z ∧ z < 96) := by
                                  have := HINN.out
                                  simp at this
                                  omega
                                go_wp2_with fail
                                refine (set_bad HP.out hr).mono ?_
                                rintro e y4 ⟨er, rfl, her, rfl⟩
                                clear hr
                                go_wp2_with fail
                                go_meet
                                case rel => exact ⟨_, HST3, HO3⟩
                              | true =>
                                have hr : 0 ≤ z ∧ z ≤ 95 := by
                                  have := HINN.out
                                  simpa using this.symm
                                obtain ⟨no, rfl⟩ := Int.eq_ofNat_of_zero_le hr.1
                                have hno : no < 96 := by omega
                                have hno' : ¬ (96 : Int) ≤ (no : Int) := by omega
                                clear hr
                                by_cases h256 : n = 256
                                · subst h256
                                  have hpg : Pg ps := ⟨by rw [← HN.out], HP.out.bd⟩
                                  have HPG := hide hpg
                                  clear hpg
                                  go_wp2_with fail
                                  refine (HST3.out.set rfl hno HP.out HPG.out).mono ?_
                                  rintro e y4 ⟨rfl, hst, hb4, hs4⟩
                                  have HST4 := hide hst
                                  have HP4 := hide (hs4 HP.out)
                                  have HO4 : Hid (Tb y4 33 ob [.int .i64 0, .int .i64 (no : Int), .slice pB nB cB]) := by
                                    obtain ⟨us, hg⟩ := HST3.out.duo.sheet
                                    exact HO3.out.but hb4 (HO3.out.apart hg.at_ (by decide))
                                  clear hst hb4 hs4 HST3 HO3 HP e1
                                  obtain ⟨ws, hnw⟩ := HST4.out.now
                                  have HOB : Hid (Tb y4 26 ab ws) := hnw.at_
                                  have HQ4 : Hid (∀ W, But (· = ab) y4 W → W.cell? ⟨ob, 1, none⟩ = some (.int .i64 (no : Int))) := fun W hW => by
                                    exact (HO4.out.but hW (HO4.out.apart HOB.out (by decide))).cell (i := 1) (by simp)
                                  clear hnw
                                  go_upto_region 31 with fail
                                  refine wp_region_noPanic ?_
                                  refine wp_region_held_drew (S := fun W => But (· = ab) y4 W) (by kernel_rfl) ?_ (fun hHeld => ?_)
                                  · exact But.of (Below.refl _ _).drew
                                  refine wpAnyH_take (i := 0) (v := ?_) rfl (by kernel_rfl) (by kernel_rfl) (by kernel_rfl) (fun _ _ _ h => h) (Or.inl ⟨by kernel_rfl, ?_⟩) hHeld ?_
                                  rotate_left
                                  · intro W hW; go_simp; first | done | with_reducible rfl | rfl
                                  try simp only [Act.put, List.getElem_toArray, List.getElem_cons_zero, List.setIfInBounds_toArray, List.set_cons_succ, List.set_cons_zero]
                                  refine wpAnyH_take (i := 1) (v := .int .i64 (no : Int)) rfl (by kernel_rfl) (by kernel_rfl) (by kernel_rfl) (fun _ _ _ h => h) (Or.inl ⟨by kernel_rfl, ?_⟩) hHeld ?_
                                  · intro W hW; have cc := (HQ4.out W hW); clear hW; go_simp; first | done | with_reducible rfl | rfl
                                  try simp only [Act.put, List.getElem_toArray, List.getElem_cons_zero, List.getElem_cons_succ, List.setIfInBounds_toArray, List.set_cons_succ, List.set_cons_zero]
                                  refine wpAnyH_take (i := 2) (v := ?_) rfl (by kernel_rfl) (by kernel_rfl) (by kernel_rfl) (fun _ _ _ h => h) (Or.inl ⟨by kernel_rfl, ?_⟩) hHeld ?_
                                  rotate_left
                                  · intro W hW; go_simp; first | done | with_reducible rfl | rfl
                                  try simp only [Act.put, List.getElem_toArray, List.getElem_cons_zero, List.getElem_cons_succ, List.setIfInBounds_toArray, List.set_cons_succ, List.set_cons_zero]
                                  refine wpAnyH_ready (rs := [3]) (by kernel_rfl) (by simp) ?_
                                  refine AllReadyH.cons (o := _) rfl (fun K hK => ?_) AllReadyH.nil
                                  rw [if_pos (by kernel_rfl)]
                                  refine wp_append_sl (.const (.slice none 0 0)) (.tmp 129) 22 rfl w.heap.size 5 Try.underlying22 Try.info5 _ 0 [] rfl (World.ownsRow_nil _ _ _ _) _ ps rfl (HP4.out.later (Below.refl _ y4).drew) (by rw [HPG.out.1]; omega) HST4.out.duo.big ?_
                                  intro v5 y5 ho5 hg5
                                  rw [HPG.out.1] at ho5
                                  obtain ⟨b5, c5', us5, rfl, -, hc5', hd5', -, -⟩ := own_row ho5
                                  have hb5 : Below y4.heap.size y4 y5 := (Below.refl _ y4).drew.trans (below_new hg5)
                                  have HST5 := hide (HST4.out.later hb5)
                                  have HO5 := hide (HO4.out.later hb5)
                                  have HOW := hide ho5
                                  obtain ⟨ws5, hn5⟩ := HST5.out.now
                                  have q5 := hn5.at_.cell (i := no) (by rw [hn5.len]; omega)
                                  have f5 := hn5.at_.frozen no
                                  have HOB5 := hide hn5.at_
                                  refine hK.out _ _ (hHeld.trans (But.of (below_new hg5))) (fun hHeld => ?_)
                                  clear hK K ho5 hg5 hb5 hn5
                                  try simp only [Act.put, List.getElem_toArray, List.getElem_cons_zero, List.getElem_cons_succ, List.setIfInBounds_toArray, List.set_cons_succ, List.set_cons_zero]
                                  refine wpAnyH_take (i := 4) (v := (.pointer (some ⟨ab, no, none⟩))) rfl (by kernel_rfl) (by kernel_rfl) (by kernel_rfl) (fun _ _ _ h => h) (Or.inl ⟨by kernel_rfl, ?_⟩) hHeld ?_
                                  · intro W hW; go_simp; first | done | with_reducible rfl | rfl
                                  try simp only [Act.put, List.getElem_toArray, List.getElem_cons_zero, List.getElem_cons_succ, List.setIfInBounds_toArray, List.set_cons_succ, List.set_cons_zero]
                                  refine wpAnyH_ready (rs := [5]) (by kernel_rfl) (by simp) ?_
                                  refine AllReadyH.cons (o := _) rfl (fun K hK => ?_) AllReadyH.nil
                                  go_simp
                                  have hbt := but_set y5 ab no (.slice (some ⟨b5, 0, none⟩) 256 c5')
                                  have HST6 := hide (HST5.out.put hno HPG.out HOW.out)
                                  have HO6 := hide (HO5.out.but hbt (HO5.out.apart HOB5.out (by decide)))
                                  refine hK.out _ _ (hHeld.trans (hbt.mono fun _ _ e => e)) (fun hHeld => ?_)
                                  generalize y5.setCell ⟨ab, no, none⟩ (.slice (some ⟨b5, 0, none⟩) 256 c5') = y6 at *
                                  clear hK K hbt hHeld q5 f5 HST5 HO5 HOW HOB5 HST4 HO4 HP4 HQ4 HOB
                                  refine wpAnyH_done (by kernel_rfl) ?_ _
                                  refine NoPanic.normal ?_
                                  go_simp
                                  go_wp2_with fail
                                  go_meet
                                  case rel => exact ⟨_, HST6, HO6⟩
                                · have h257 : ((n : Int) == 256) = false := by simp; omega
                                  go_wp2_with fail
                                  refine (set_form HP.out (by rw [← HN.out]; exact h256)).mono ?_
                                  rintro e y4 ⟨rfl, rfl⟩
                                  go_wp2_with fail
                                  go_meet
                                  case rel => exact ⟨_, HST3, HO3⟩
                        · have hk1 : (kind == 0) = false := by simpa using hk0
                          go_wp2_with fail
                          go_meet
                          case rel => exact ⟨_, HST2, HO2⟩
                    case rest =>
                      as_aux_lemma =>
                        obtain ⟨m', HST4, HO4⟩ := hcut
                        clear HST2 HO2 e0 e1 e2
                        have e1 : wc.cell? ⟨ob, 1, none⟩ = some (.int .i64 z) := HO4.out.cell (i := 1) (by simp)
                        cases inn with
                        | false =>
                          have hr : ¬ (0 ≤ z ∧ z < 96) := by
                            have := HINN.out
                            simp at this
                            omega
                          have h1 := (Sl.nil wc).conv (P := Try.prog) 22 9 5 Try.underlying22 Try.underlying5 Try.underlying9
                          have HR := hide hr
                          clear hr
                          go_wp2_with fail
                          refine (page_out HR.out).mono ?_
                          rintro e y4 ⟨rfl, rfl⟩
                          go_wp2_with fail
                          refine (bpage_out HR.out).mono ?_
                          rintro e y4 ⟨rfl, rfl⟩
                          go_wp2_with fail
                          go_roundw
                          case rel => exact ⟨k + 1, _, by omega, by omega, by go_num, HST4⟩
                          case measure => simp [RowKit.intOf]; omega
                        | true =>
                          have hr : 0 ≤ z ∧ z ≤ 95 := by
                            have := HINN.out
                            simpa using this.symm
                          obtain ⟨no, rfl⟩ := Int.eq_ofNat_of_zero_le hr.1
                          have hno : no < 96 := by omega
                          have hno' : ¬ (96 : Int) ≤ (no : Int) := by omega
                          have qN : ∀ (w : World) (a : Option Addr) (n c n' c' : Nat), (binOp .neq 22 (.slice a n c) (.slice none n' c')).run Try.prog w = .ok (.bool (!a.isNone)) w := fun w a n c n' c' => run_neq_slice_nil_any w _ _ a n c n' c' Try.underlying22
                          clear hr
                          generalize hF : bookF bad f no = F0
                          have HFF := hide hF
                          clear hF
                          cases hm : m' no with
                          | some zs =>
                            have hA : orE m' (bookF bad f) no = some zs := by simp [orE, hm]
                            have HA := hide hA
                            have HM := hide hm
                            clear hA hm
                            go_wp2_with fail
                            refine (HST4.out.duo.page rfl hno).mono ?_
                            rw [HA.out]
                            rintro e y4 ⟨v4, rfl, ho4, hz4, hb4⟩
                            have HS4 := hide (Sl.own ho4 hz4.2)
                            obtain ⟨b4, c4, us4, rfl, -, hc4, hd4, -, -⟩ := own_row ho4
                            have HSTa := hide (HST4.out.later hb4)
                            have HOa := hide (HO4.out.later hb4)
                            have e1a : y4.cell? ⟨ob, 1, none⟩ = some (.int .i64 (no : Int)) := HOa.out.cell (i := 1) (by simp)
                            clear ho4 hz4 hb4 HST4 HO4 e1
                            cases F0 with
                            | none =>
                              go_wp2_with fail
                              refine (HSTa.out.duo.bpage rfl hno).mono ?_
                              rw [HFF.out]
                              rintro e y5 ⟨rfl, hb5⟩
                              have HSTb := hide (HSTa.out.later hb5)
                              have HOb := hide (HOa.out.later hb5)
                              have h1 := (HS4.out.later hb5).conv (P := Try.prog) 22 9 5 Try.underlying22 Try.underlying5 Try.underlying9
                              have e1b : y5.cell? ⟨ob, 1, none⟩ = some (.int .i64 (no : Int)) := HOb.out.cell (i := 1) (by simp)
                              obtain ⟨b6, c6, h2, qc⟩ := HSTb.out.nowSome hno HM.out
                              clear hb5 HSTa HOa HS4 e1a HOb HA HM
                              go_wp2_with fail
                              go_roundw
                              case rel => exact ⟨k + 1, _, by omega, by omega, by go_num, HSTb⟩
                              case measure => simp [RowKit.intOf]; omega
                            | some ys =>
                              go_wp2_with fail
                              refine (HSTa.out.duo.bpage rfl hno).mono ?_
                              rw [HFF.out]
                              rintro e y5 ⟨v5, rfl, ho5, -, hb5⟩
                              obtain ⟨b5, c5', us5, rfl, -, hc5, hd5, -, -⟩ := own_row ho5
                              have HSTb := hide (HSTa.out.later hb5)
                              have HOb := hide (HOa.out.later hb5)
                              have h1 := (HS4.out.later hb5).conv (P := Try.prog) 22 9 5 Try.underlying22 Try.underlying5 Try.underlying9
                              have e1b : y5.cell? ⟨ob, 1, none⟩ = some (.int .i64 (no : Int)) := HOb.out.cell (i := 1) (by simp)
                              obtain ⟨b6, c6, h2, qc⟩ := HSTb.out.nowSome hno HM.out
                              clear ho5 hb5 HSTa HOa HS4 e1a HOb HA HM
                              go_wp2_with fail
                              go_roundw
                              case rel => exact ⟨k + 1, _, by omega, by omega, by go_num, HSTb⟩
                              case measure => simp [RowKit.intOf]; omega
                          | none =>
                            have hA : orE m' (bookF bad f) no = F0 := by simp [orE, hm, HFF.out]
                            have HA := hide hA
                            have HM := hide hm
                            clear hA hm
                            cases F0 with
                            | none =>
                              go_wp2_with fail
                              refine (HST4.out.duo.page rfl hno).mono ?_
                              rw [HA.out]
                              rintro e y4 ⟨rfl, hb4⟩
                              have HSTa := hide (HST4.out.later hb4)
                              have HOa := hide (HO4.out.later hb4)
                              have e1a : y4.cell? ⟨ob, 1, none⟩ = some (.int .i64 (no : Int)) := HOa.out.cell (i := 1) (by simp)
                              clear hb4 HST4 HO4 e1
                              go_wp2_with fail
                              refine (HSTa.out.duo.bpage rfl hno).mono ?_
                              rw [HFF.out]
                              rintro e y5 ⟨rfl, hb5⟩
                              have HSTb := hide (HSTa.out.later hb5)
                              have HOb := hide (HOa.out.later hb5)
                              have h1 := (Sl.nil y5).conv (P := Try.prog) 22 9 5 Try.underlying22 Try.underlying5 Try.underlying9
                              have e1b : y5.cell? ⟨ob, 1, none⟩ = some (.int .i64 (no : Int)) := HOb.out.cell (i := 1) (by simp)
                              have qc := HSTb.out.nowNone hno HM.out
                              clear hb5 HSTa HOa e1a HOb HA HM
                              go_wp2_with fail
                              go_roundw
                              case rel => exact ⟨k + 1, _, by omega, by omega, by go_num, HSTb⟩
                              case measure => simp [RowKit.intOf]; omega
                            | some ys =>
                              go_wp2_with fail
                              refine (HST4.out.duo.page rfl hno).mono ?_
                              rw [HA.out]
                              rintro e y4 ⟨v4, rfl, ho4, hz4, hb4⟩
                              have HS4 := hide (Sl.own ho4 hz4.2)
                              obtain ⟨b4, c4, us4, rfl, -, hc4, hd4, -, -⟩ := own_row ho4
                              have HSTa := hide (HST4.out.later hb4)
                              have HOa := hide (HO4.out.later hb4)
                              have e1a : y4.cell? ⟨ob, 1, none⟩ = some (.int .i64 (no : Int)) := HOa.out.cell (i := 1) (by simp)
                              clear ho4 hz4 hb4 HST4 HO4 e1
                              go_wp2_with fail
                              refine (HSTa.out.duo.bpage rfl hno).mono ?_
                              rw [HFF.out]
                              rintro e y5 ⟨v5, rfl, ho5, hz5, hb5⟩
                              have h2 := (Sl.own ho5 hz5.2).conv (P := Try.prog) 22 9 5 Try.underlying22 Try.underlying5 Try.underlying9
                              obtain ⟨b5, c5', us5, rfl, -, hc5, hd5, -, -⟩ := own_row ho5
                              have HSTb := hide (HSTa.out.later hb5)
                              have HOb := hide (HOa.out.later hb5)
                              have h1 := (HS4.out.later hb5).conv (P := Try.prog) 22 9 5 Try.underlying22 Try.underlying5 Try.underlying9
                              have e1b : y5.cell? ⟨ob, 1, none⟩ = some (.int .i64 (no : Int)) := HOb.out.cell (i := 1) (by simp)
                              have qc := HSTb.out.nowNone hno HM.out
                              clear ho5 hz5 hb5 HSTa HOa HS4 e1a HOb HA HM
                              go_wp2_with fail
                              go_roundw
                              case rel => exact ⟨k + 1, _, by omega, by omega, by go_num, HSTb⟩
                              case measure => simp [RowKit.intOf]; omega
          | true =>
            obtain ⟨t1, t2⟩ : k < len0 ∧ k < 30 := by simpa using hc8.symm
            clear hc8
            obtain ⟨b0, o0, rfl, hc0, q0, q1⟩ := HF.out.cell (i := k) t1
            generalize z0.getD k 0 = x at *
            have HQ : Hid (∀ W, Below w.heap.size w W → W.cell? ⟨b0, o0 + k, none⟩ = some (.int .u8 x)) := fun W hB => by rw [hB.cell (p := ⟨b0, o0 + k, none⟩) (cell_lt hc0)]; exact hc0
            have HX : Hid (0 ≤ x ∧ x ≤ 255) := ⟨q0, q1⟩
            have HXP : Hid (Pg (pad [x])) := pad_pg (by intro z hz; rw [List.mem_singleton] at hz; rw [hz]; exact HX.out)
            have hk96 : ¬ (96 : Int) ≤ (k : Int) := by omega
            have hk96' : k < 96 := by omega
            clear hc0 q0 q1
            go_upto_region 10 with fail
            refine wp_region_noPanic ?_
            refine wp_region_held_drew (S := fun W => Below w.heap.size w W) (by kernel_rfl) ?_ (fun hHeld => ?_)
            · exact HB.out.drew
            refine wpAnyH_take (i := 0) (v := ?_) rfl (by kernel_rfl) (by kernel_rfl) (by kernel_rfl) (fun _ _ _ h => h) (Or.inl ⟨by kernel_rfl, ?_⟩) hHeld ?_
            rotate_left
            · intro W hW; go_simp; first | done | with_reducible rfl | rfl
            try simp only [Act.put, List.getElem_toArray, List.getElem_cons_zero, List.setIfInBounds_toArray, List.set_cons_succ, List.set_cons_zero]
            refine wpAnyH_take (i := 1) (v := ?_) rfl (by kernel_rfl) (by kernel_rfl) (by kernel_rfl) (fun _ _ _ h => h) (Or.inl ⟨by kernel_rfl, ?_⟩) hHeld ?_
            rotate_left
            · intro W hW; go_simp; first | done | with_reducible rfl | rfl
            try simp only [Act.put, List.getElem_toArray, List.getElem_cons_zero, List.getElem_cons_succ, List.setIfInBounds_toArray, List.set_cons_succ, List.set_cons_zero]
            refine wpAnyH_take (i := 2) (v := ?_) rfl (by kernel_rfl) (by kernel_rfl) (by kernel_rfl) (fun _ _ _ h => h) (Or.inl ⟨by kernel_rfl, ?_⟩) hHeld ?_
            rotate_left
            · intro W hW; go_simp; first | done | with_reducible rfl | rfl
            try simp only [Act.put, List.getElem_toArray, List.getElem_cons_zero, List.getElem_cons_succ, List.setIfInBounds_toArray, List.set_cons_succ, List.set_cons_zero]
            refine wpAnyH_take (i := 3) (v := ?_) rfl (by kernel_rfl) (by kernel_rfl) (by kernel_rfl) (fun _ _ _ h => h) (Or.inl ⟨by kernel_rfl, ?_⟩) hHeld ?_
            rotate_left
            · intro W hW; go_simp; first | done | with_reducible rfl | rfl
            try simp only [Act.put, List.getElem_toArray, List.getElem_cons_zero, List.getElem_cons_succ, List.setIfInBounds_toArray, List.set_cons_succ, List.set_cons_zero]
            refine wpAnyH_take (i := 4) (v := (.pointer (some ⟨b0, o0 + k, none⟩))) rfl (by kernel_rfl) (by kernel_rfl) (by kernel_rfl) (fun _ _ _ h => h) (Or.inl ⟨by kernel_rfl, ?_⟩) hHeld ?_
            · intro W hW; go_simp; first | done | with_reducible rfl | rfl
            try simp only [Act.put, List.getElem_toArray, List.getElem_cons_zero, List.getElem_cons_succ, List.setIfInBounds_toArray, List.set_cons_succ, List.set_cons_zero]
            refine wpAnyH_take (i := 5) (v := .int .u8 x) rfl (by kernel_rfl) (by kernel_rfl) (by kernel_rfl) (fun _ _ _ h => h) (Or.inl ⟨by kernel_rfl, ?_⟩) hHeld ?_
            · intro W hW; have cc := (HQ.out W hW); clear hW; go_simp; first | done | with_reducible rfl | rfl
            try simp only [Act.put, List.getElem_toArray, List.getElem_cons_zero, List.getElem_cons_succ, List.setIfInBounds_toArray, List.set_cons_succ, List.set_cons_zero]
            refine wpAnyH_take (i := 8) (v := ?_) rfl (by kernel_rfl) (by kernel_rfl) (by kernel_rfl) (fun _ _ _ h => h) (Or.inl ⟨by kernel_rfl, ?_⟩) hHeld ?_
            rotate_left
            · intro W hW; go_simp; first | done | with_reducible rfl | rfl
            try simp only [Act.put, List.getElem_toArray, List.getElem_cons_zero, List.getElem_cons_succ, List.setIfInBounds_toArray, List.set_cons_succ, List.set_cons_zero]
            refine wpAnyH_take (i := 9) (v := ?_) rfl (by kernel_rfl) (by kernel_rfl) (by kernel_rfl) (fun _ _ _ h => h) (Or.inl ⟨by kernel_rfl, ?_⟩) hHeld ?_
            rotate_left
            · intro W hW; go_simp; first | done | with_reducible rfl | rfl
            try simp only [Act.put, List.getElem_toArray, List.getElem_cons_zero, List.getElem_cons_succ, List.setIfInBounds_toArray, List.set_cons_succ, List.set_cons_zero]
            refine wpAnyH_ready (rs := [6]) (by kernel_rfl) (by simp) ?_
            refine AllReadyH.cons (o := _) rfl (fun K hK => ?_) AllReadyH.nil
            go_simp
            refine hK.out _ _ ?_ (fun hHeld => ?_)
            · exact hHeld.trans ((below_alloc _ _).mono hHeld.size)
            clear hK K
            try simp only [Act.put, List.getElem_toArray, List.getElem_cons_zero, List.getElem_cons_succ, List.setIfInBounds_toArray, List.set_cons_succ, List.set_cons_zero]
            refine wpAnyH_ready (rs := [7]) (by kernel_rfl) (by simp) ?_
            refine AllReadyH.cons (o := _) rfl (fun K hK => ?_) AllReadyH.nil
            go_simp
            refine (pof_any (Sl.later (lit_sl wc 5 (0, 0) (zs := [x]) (by intro z hz; rw [List.mem_singleton] at hz; rw [hz]; exact HX.out) (by simp)) (Below.refl _ _).drew)).mono ?_
            rintro e y3 ⟨b3, rfl, hp3, -, hb⟩
            have hb3 : Below wc.heap.size wc y3 := ((below_alloc wc _).drew).trans (hb.mono (below_alloc wc _).size)
            have HB3 := hide (HB.out.trans (hb3.mono HB.out.size))
            obtain ⟨us, hK0⟩ := HK.out
            have HK3 := hide (hK0.later hb3)
            have HT3 := hide hp3
            have c3 := HK3.out.at_.cell (i := k) (by rw [HK3.out.len]; omega)
            have f3 := HK3.out.at_.frozen k
            dsimp only
            refine hK.out _ _ HB3.out (fun hHeld => ?_)
            clear hK K hp3 hb hb3 hK0
            try simp only [Act.put, List.getElem_toArray, List.getElem_cons_zero, List.getElem_cons_succ, List.setIfInBounds_toArray, List.set_cons_succ, List.set_cons_zero]
            refine wpAnyH_take (i := 10) (v := (.pointer (some ⟨gb, k, none⟩))) rfl (by kernel_rfl) (by kernel_rfl) (by kernel_rfl) (fun _ _ _ h => h) (Or.inl ⟨by kernel_rfl, ?_⟩) hHeld ?_
            · intro W hW; go_simp; first | done | with_reducible rfl | rfl
            try simp only [Act.put, List.getElem_toArray, List.getElem_cons_zero, List.getElem_cons_succ, List.setIfInBounds_toArray, List.set_cons_succ, List.set_cons_zero]
            refine wpAnyH_ready (rs := [11]) (by kernel_rfl) (by simp) ?_
            refine AllReadyH.cons (o := _) rfl (fun K hK => ?_) AllReadyH.nil
            go_simp
            have HK4 := hide (HK3.out.put (k := k) (Sl.own (tb_own HT3.out HXP.out (Nat.zero_le _)) HXP.out.2) HXP.out hk96')
            have HB4 : Hid (Below w.heap.size w (y3.setCell ⟨gb, k, none⟩ (.slice (some ⟨b3, 0, none⟩) 256 256))) := Below.but HB3.out HB3.out.size (but_set y3 gb k _) (fun i e => by have := HL1.out; omega)
            refine hK.out _ _ HB4.out (fun hHeld => ?_)
            generalize y3.setCell ⟨gb, k, none⟩ (.slice (some ⟨b3, 0, none⟩) 256 256) = y4 at *
            clear hK K c3 f3 HT3 HK3 HB3 HK HB
            refine wpAnyH_done (by kernel_rfl) ?_ _
            refine NoPanic.normal ?_
            go_simp
            clear hHeld
            go_wp2_with fail
            go_roundw
            case rel => exact ⟨k + 1, _, by omega, by omega, by go_num, ⟨_, HK4.out⟩, HB4⟩
            case measure => simp [RowKit.intOf]; omega

set_option maxRecDepth 100000 in
theorem lifted (os : Os) (started : os.Started) (H : Type) (enc : TypeId × Value → H) :
    ReturnsInHanded {} Try.checked os 3 .any (Rows.sheetAllSpec.pre6 enc Try.prog Try.f3 Rows.sheetAllRow.domain false) (Rows.sheetAllSpec.post enc Try.prog Try.f3 false true false false) := by
  refine returnsInHanded_of_change (C := Try.checked) own started (by kernel_rfl) Try.func3
    (ChangeSpec.witness6 (enc := enc) (C := Try.checked) false ⟨#[], #[.slice none 0 0, .slice none 0 0, .int .i64 0], []⟩ 8 (by kernel_rfl) (by kernel_rfl) (by kernel_rfl) (by kernel_rfl)) ?_
  intro W base args ds gs before hval0 hW hcnd _
  have hval : ∀ (j : Nat) t v, Try.f3.params[j]? = some t → args[j]? = some v → Value.okWide Try.prog W .any base t v := hval0
  have hW' := hW
  obtain ⟨p, q, hA0, hV, rfl, hfz, hnd⟩ := hW
  have hA : DataW.TrodAll enc Try.prog W 0 (fun _ => true) true Try.f3.params.toList args.toList ds p := hA0
  rw [Try.params3] at hA hval
  obtain ⟨v0, vs0, d0, ds0, p0, q0, hargs, rfl, rfl, h0, r0⟩ := trodAll_cons hA
  obtain ⟨v1, vs1, d1, ds1, p1, q1, rfl, rfl, rfl, h1, r1⟩ := trodAll_cons r0
  obtain ⟨v2, vs2, d2, ds2, p2, q2, rfl, rfl, rfl, h2, r2⟩ := trodAll_cons r1
  obtain ⟨rfl, rfl, rfl⟩ := trodAll_nil r2
  obtain rfl : args = #[v0, v1, v2] := by cases args; simp_all
  obtain ⟨rfl, rfl⟩ := trodVars_none hV
  obtain ⟨a0, len0, cap0, rfl⟩ := okWide_slice Try.underlying22 (hval 0 22 v0 rfl rfl)
  have k0 := h0
  have lt0 : ∀ x ∈ p0, x.block < W.heap.size := by obtain ⟨m, hm⟩ := k0; exact DataW.trod_lt m _ _ _ hm
  obtain ⟨z0, w0⟩ : ∃ zs, Sl W (.slice a0 len0 cap0) zs := by
    obtain ⟨fuel, hf⟩ := h0
    obtain ⟨a, len, cap, zs, hcs, hz⟩ := open_bytes Try.underlying22 Try.underlying5 (by kernel_rfl) hf
    simp [Value.cells] at hcs
    obtain ⟨rfl, rfl, rfl⟩ := hcs
    exact ⟨zs, hz⟩
  obtain ⟨a1, len1, cap1, rfl⟩ := okWide_slice Try.underlying23 (hval 1 23 v1 rfl rfl)
  have k1 := h1
  have lt1 : ∀ x ∈ p1, x.block < W.heap.size := by obtain ⟨m, hm⟩ := k1; exact DataW.trod_lt m _ _ _ hm
  obtain ⟨z1, w1⟩ : ∃ zs, Ops W (.slice a1 len1 cap1) zs := by
    obtain ⟨fuel, hf⟩ := h1
    obtain ⟨a, len, cap, zs, hcs, hz⟩ := open_Op hf
    simp [Value.cells] at hcs
    obtain ⟨rfl, rfl, rfl⟩ := hcs
    exact ⟨zs, hz⟩
  obtain ⟨a2, rfl, rfl, rfl, w2⟩ := open_int Try.underlying3 (hval 2 3 v2 rfl rfl) h2
  clear hA0 hval0
  refine (walk a0 len0 cap0 z0 a1 len1 cap1 z1 a2 W w0 w1 w2).mono fun e W' ⟨he, bel⟩ => ?_
  subst he
  exact ⟨_, rfl, _, _, _, [], _, [], hW', trodAll_mk1 (shut_bool Try.underlying4 _), (trodAll_cons_mk (Below.trod laidOut (by kernel_rfl) (of_decide_eq_true (by kernel_rfl)) k0 bel lt0) (trodAll_cons_mk (Below.trod laidOut (by kernel_rfl) (of_decide_eq_true (by kernel_rfl)) k1 bel lt1) (trodAll_cons_mk (shut_int Try.underlying3 w2) trodAll_mk0))), rfl, bel.frame _, fun h => by cases h⟩

theorem over : Rows.sheetAllRow.holds Try.pinned (OpenSpec.ofChange Rows.sheetAllSpec) :=
  OpenClaim.holds_of_wide 3 Try.f3 rfl rfl rfl rfl rfl rfl rfl ⟨rfl, rfl, rfl, rfl, rfl⟩ rfl rfl rfl rfl rfl (by kernel_rfl) Try.func3 (by kernel_rfl)
    (of_decide_eq_true (by kernel_rfl)) (by unfold Func.isWrapper; first | (rw [if_pos (by decide +kernel)]; kernel_rfl) | (rw [if_neg (by decide +kernel)]; exact ⟨rfl, rfl⟩))
    (fun os started H enc _ => lifted os started H enc)

theorem proved : Rows.SheetAllSaid := over
#print axioms proved
end Go.Proofs.Ythihldepedbppaa.sheetAll
