/-
  For every slice of ints and every byte x SheetReads returns true: pages that are read (the first 40 numbers; those that are not 0 to 95 tell an error) and written over in what was told change nothing. No condition.
-/
import Derived.Test.YthihldepedbppaaRows
import Derived.WalkKit
import Derived.ProofKit
import Derived.OpenShut
import Derived.ShutString
import Derived.ChangeOld
import Derived.Below
import Derived.Test.YthihldepedbppaaShtI
import Derived.Test.YthihldepedbppaaOrw
import Derived.Test.YthihldepedbppaaOpn
namespace Go.Proofs.Ythihldepedbppaa.sheetReads
open Go.ChangeShapes Go.WideShapes Go.ChangeAt Go.RowKit
open Go.ChangeMaps (open_string shut_string)
set_option linter.unusedVariables false

theorem own : ownKnob Try.prog.godebug = none := by kernel_rfl
theorem laidOut : laidOutB Try.prog = true := by kernel_rfl

/-- A row of 256 bytes that turns. -/
def Rb (w : World) (b : Nat) : Prop := ∃ us, Tb w 5 b us ∧ ∀ i, i < 256 → ∃ z : Int, (0 ≤ z ∧ z ≤ 255) ∧ w.cell? ⟨b, i, none⟩ = some (.int .u8 z)
theorem Rb.set {w : World} {b i : Nat} (h : Rb w b) (hi : i < 256) {z : Int} (hz : 0 ≤ z ∧ z ≤ 255) : Rb (w.setCell ⟨b, i, none⟩ (.int .u8 z)) b := by
  obtain ⟨us, h1, h2⟩ := h
  refine ⟨_, h1.set i _, fun j hj => ?_⟩
  by_cases e : j = i
  · subst e
    obtain ⟨z0, _, h3⟩ := h2 j hj
    exact ⟨z, hz, World.cell?_setCell_same _ _ _ h3⟩
  · obtain ⟨z0, h4, h3⟩ := h2 j hj
    refine ⟨z0, h4, ?_⟩
    rw [World.cell?_setCell_other _ _ _ _ (by intro q; simp only [Addr.mk.injEq, and_true, true_and] at q; exact e q.symm)]
    exact h3
theorem reads_chs (m : Nat → Option (List Int)) : chs (fun _ => none) (bookF 0 m) 96 = [] := by
  have : ∀ n, chs (fun _ => none) (bookF 0 m) n = [] := by
    intro n
    induction n with
    | zero => rfl
    | succ n ih => rw [chs_succ, ih]; rfl
  exact this 96
theorem reads_page (m : Nat → Option (List Int)) (i : Nat) : orE (fun _ => none) (bookF 0 m) i = some ((m i).getD zer) := by simp [orE, bookF]

set_option maxRecDepth 100000 in
set_option maxHeartbeats 4000000 in
theorem walk (a0 : Option Addr) (len0 cap0 : Nat) (z0 : List Int) (a1 : Int) (w : World) (w0 : Is w (.slice a0 len0 cap0) z0) (w1 : (Lit.int .u8 a1).wf = true) :
    Calls Try.prog 7 #[.slice a0 len0 cap0, .int .u8 a1] w fun e w' => e = .returned (.bool true) ∧ Below w.heap.size w w' := by
  have hx : 0 ≤ a1 ∧ a1 ≤ 255 := bounds_u8 w1
  have HX := hide hx
  have HXP : Hid (Pg (pad [a1])) := pad_pg (by intro z hz; rw [List.mem_singleton] at hz; rw [hz]; exact HX.out)
  have HX0 : Hid ((pad [a1]).getD 0 0 = a1) := rfl
  clear w1 hx
  have HI := hide w0
  have hl0 : len0 ≤ cap0 ∧ cap0 ≤ 9223372036854775807 ∧ len0 = z0.length := by
    obtain ⟨a, cap, e, h1, h2, -⟩ := w0.1
    simp at e
    obtain ⟨rfl, rfl, rfl⟩ := e
    rw [List.length_map] at h1
    unfold maxLen at h2
    exact ⟨h1, by omega, rfl⟩
  obtain ⟨hq0, hq1, hq2⟩ := hl0
  have HL0 := hide hq2
  clear w0 hq2
  go_enter Try.func7, Try.ntmps7
  go_wp2_with fail
  refine (begun_any _).mono ?_
  rintro e x1 ⟨rfl, hB1⟩
  have HK1 := hide (Book.new x1 0)
  have HB1 := hide (hB1.trans ((below_alloc x1 (.cells (bkz 0).toArray 28)).mono hB1.size))
  have HR := hide (run_buildB x1)
  have hl1 := hB1.size
  generalize hq : bkz 0 = q at *
  clear hB1
  go_wp2_with (first
    | (refine wpList_build0T 28 q rfl rfl HR.out ?_)
    | (refine wpList_boxT 28 _ q rfl rfl rfl ?_))
  obtain ⟨gb, hgb⟩ : ∃ gb, gb = x1.heap.size := ⟨_, rfl⟩
  generalize hX2 : x1.alloc (.cells q.toArray 28) = x2 at *
  rw [← hgb] at HK1 hl1 ⊢
  clear HR hgb hq hX2
  have HL1 := hide hl1
  clear hl1
  refine wp_region_noPanic ?_
  refine wp_region_held_drew (S := fun W => Below w.heap.size w W) (by kernel_rfl) ?_ (fun hHeld => ?_)
  · exact HB1.out.drew
  refine wpAnyH_take (i := 0) (v := ?_) rfl (by kernel_rfl) (by kernel_rfl) (by kernel_rfl) (fun _ _ _ h => h) (Or.inl ⟨by kernel_rfl, ?_⟩) hHeld ?_
  rotate_left
  · intro W hW; go_simp; first | done | with_reducible rfl | rfl
  try simp only [Act.put, List.getElem_toArray, List.getElem_cons_zero, List.setIfInBounds_toArray, List.set_cons_succ, List.set_cons_zero]
  refine wpAnyH_take (i := 1) (v := ?_) rfl (by kernel_rfl) (by kernel_rfl) (by kernel_rfl) (fun _ _ _ h => h) (Or.inl ⟨by kernel_rfl, ?_⟩) hHeld ?_
  rotate_left
  · intro W hW; go_simp; first | done | with_reducible rfl | rfl
  try simp only [Act.put, List.getElem_toArray, List.getElem_cons_zero, List.getElem_cons_succ, List.setIfInBounds_toArray, List.set_cons_succ, List.set_cons_zero]
  refine wpAnyH_take (i := 4) (v := ?_) rfl (by kernel_rfl) (by kernel_rfl) (by kernel_rfl) (fun _ _ _ h => h) (Or.inl ⟨by kernel_rfl, ?_⟩) hHeld ?_
  rotate_left
  · intro W hW; go_simp; first | done | with_reducible rfl | rfl
  try simp only [Act.put, List.getElem_toArray, List.getElem_cons_zero, List.getElem_cons_succ, List.setIfInBounds_toArray, List.set_cons_succ, List.set_cons_zero]
  refine wpAnyH_take (i := 5) (v := ?_) rfl (by kernel_rfl) (by kernel_rfl) (by kernel_rfl) (fun _ _ _ h => h) (Or.inl ⟨by kernel_rfl, ?_⟩) hHeld ?_
  rotate_left
  · intro W hW; go_simp; first | done | with_reducible rfl | rfl
  try simp only [Act.put, List.getElem_toArray, List.getElem_cons_zero, List.getElem_cons_succ, List.setIfInBounds_toArray, List.set_cons_succ, List.set_cons_zero]
  refine wpAnyH_ready (rs := [2]) (by kernel_rfl) (by simp) ?_
  refine AllReadyH.cons (o := _) rfl (fun K hK => ?_) AllReadyH.nil
  go_simp
  refine hK.out _ _ ?_ (fun hHeld => ?_)
  · exact hHeld.trans ((below_alloc _ _).mono hHeld.size)
  clear hK K
  try simp only [Act.put, List.getElem_toArray, List.getElem_cons_zero, List.getElem_cons_succ, List.setIfInBounds_toArray, List.set_cons_succ, List.set_cons_zero]
  refine wpAnyH_ready (rs := [3]) (by kernel_rfl) (by simp) ?_
  refine AllReadyH.cons (o := _) rfl (fun K hK => ?_) AllReadyH.nil
  go_simp
  refine (pof_any (Sl.later (lit_sl x2 5 (0, 0) (zs := [a1]) (by intro z hz; rw [List.mem_singleton] at hz; rw [hz]; exact HX.out) (by simp)) (Below.refl _ _).drew)).mono ?_
  rintro e x3 ⟨b3, rfl, hp3, hl3, hb⟩
  have hb3 : Below x2.heap.size x2 x3 := ((below_alloc x2 _).drew).trans (hb.mono (below_alloc x2 _).size)
  have HB3 := hide (HB1.out.trans (hb3.mono HB1.out.size))
  have HK3 := hide (HK1.out.later hb3)
  have HT3 := hide hp3
  have c3 := HK3.out.at_.cell (i := 4) (by rw [HK3.out.len]; omega)
  have f3 := HK3.out.at_.frozen 4
  dsimp only
  refine hK.out _ _ HB3.out (fun hHeld => ?_)
  clear hK K hp3 hl3 hb hb3
  try simp only [Act.put, List.getElem_toArray, List.getElem_cons_zero, List.getElem_cons_succ, List.setIfInBounds_toArray, List.set_cons_succ, List.set_cons_zero]
  refine wpAnyH_take (i := 6) (v := (.pointer (some ⟨gb, 4, none⟩))) rfl (by kernel_rfl) (by kernel_rfl) (by kernel_rfl) (fun _ _ _ h => h) (Or.inl ⟨by kernel_rfl, ?_⟩) hHeld ?_
  · intro W hW; go_simp; first | done | with_reducible rfl | rfl
  try simp only [Act.put, List.getElem_toArray, List.getElem_cons_zero, List.getElem_cons_succ, List.setIfInBounds_toArray, List.set_cons_succ, List.set_cons_zero]
  refine wpAnyH_ready (rs := [7]) (by kernel_rfl) (by simp) ?_
  refine AllReadyH.cons (o := _) rfl (fun K hK => ?_) AllReadyH.nil
  go_simp
  have HK4 := hide (HK3.out.put (k := 4) (Sl.own (tb_own HT3.out HXP.out (Nat.zero_le _)) HXP.out.2) HXP.out (by omega))
  have HB4 : Hid (Below w.heap.size w (x3.setCell ⟨gb, 4, none⟩ (.slice (some ⟨b3, 0, none⟩) 256 256))) := Below.but HB3.out HB3.out.size (but_set x3 gb 4 _) (fun i e => by have := HL1.out; omega)
  refine hK.out _ _ HB4.out (fun hHeld => ?_)
  generalize x3.setCell ⟨gb, 4, none⟩ (.slice (some ⟨b3, 0, none⟩) 256 256) = x4 at *
  clear hK K c3 f3 HT3 HK3 HB3 HK1 HB1
  refine wpAnyH_done (by kernel_rfl) ?_ _
  refine NoPanic.normal ?_
  go_simp
  clear hHeld
  go_wp2_with fail
  refine (Duo.new HK4.out HB4.out HB4.out.size HL1.out).mono ?_
  rintro e x5 ⟨gs, rfl, hd, -⟩
  have HD5 := hide hd
  clear hd HK4 HB4
  go_wp2_with fail
  go_loopw [8] (fun i wr => ∃ k : Nat, k ≤ 40 ∧ k ≤ len0 ∧ i = .int .i64 k ∧ Hid (Below x5.heap.size x5 wr)) (fun i _ => 40 - (RowKit.intOf i).toNat)
  case atStart => exact ⟨0, by omega, by omega, rfl, Below.refl _ _⟩
  case round =>
    obtain ⟨k, hk, hkl, rfl, HB⟩ := hrel
    by_cases hlt : k < len0 ∧ k < 40
    · obtain ⟨t1, t2⟩ := hlt
      obtain ⟨b0, o0, rfl, hc0⟩ := HI.out.1.cell (i := k) (by rw [List.length_map, ← HL0.out]; exact t1)
      obtain ⟨z, hz⟩ : ∃ z, z = z0[k]'(by rw [← HL0.out]; exact t1) := ⟨_, rfl⟩
      rw [List.getElem_map, ← hz] at hc0
      have hzb := HI.out.2 z (by rw [hz]; exact List.getElem_mem _)
      have HC0 : Hid (∀ W, Below w.heap.size w W → W.cell? ⟨b0, o0 + k, none⟩ = some (.int .i64 z)) := fun W hB => by rw [hB.cell (p := ⟨b0, o0 + k, none⟩) (cell_lt hc0)]; exact hc0
      have HDr := hide (HD5.out.later HB.out)
      have c0 := HC0.out wr HDr.out.bel
      clear hc0 hz
      by_cases hr : 0 ≤ z ∧ z < 96
      · obtain ⟨no, rfl⟩ := Int.eq_ofNat_of_zero_le hr.1
        have hno : no < 96 := by omega
        go_wp2_with fail
        refine (HDr.out.page rfl hno).mono ?_
        rw [reads_page]
        rintro e y1 ⟨v1, rfl, ho, hpg, hb⟩
        obtain ⟨b1, c1, us1, rfl, hl1, hc1, hd1, ht1, hf1⟩ := own_row ho
        have HB1 := hide (HB.out.trans (hb.mono HB.out.size))
        have HR1 : Hid (Rb y1 b1) := ⟨us1, ht1, fun i hi => ⟨_, by
          rw [getD_at (by rw [hpg.1]; exact hi)]
          exact hpg.2 _ (List.getElem_mem _), hf1 i hi⟩⟩
        have HL1' : Hid (x5.heap.size ≤ b1) := Nat.le_trans HB.out.size hl1
        have c0 := HC0.out y1 (HD5.out.later HB1.out).bel
        have i1 : ¬ (no : Int) < 0 := by omega
        have i2 : (no : Int) ≤ 95 := by omega
        clear ho hf1 hb hl1 ht1 hpg HDr HB hr
        go_wp2_with fail
        go_loopw [75] (fun i wq => ∃ j : Nat, j ≤ 256 ∧ i = .int .i64 j ∧ Hid (Rb wq b1) ∧ Hid (Below x5.heap.size x5 wq)) (fun i _ => 256 - (RowKit.intOf i).toNat)
        case atStart => exact ⟨0, by omega, rfl, HR1, HB1⟩
        case round =>
          clear HR1 HB1
          obtain ⟨j, hj, rfl, HR, HB⟩ := hrel
          by_cases hjl : j < 256
          · obtain ⟨z1, hz1, k1⟩ := HR.out.choose_spec.2 j hjl
            have f1 := HR.out.choose_spec.1.frozen j
            have HRs : Hid (Rb (wr.setCell ⟨b1, j, none⟩ (.int .u8 ((z1 + 1) % 256))) b1) := HR.out.set hjl (by omega)
            have HBs : Hid (Below x5.heap.size x5 (wr.setCell ⟨b1, j, none⟩ (.int .u8 ((z1 + 1) % 256)))) := Below.but HB.out HB.out.size (but_set wr b1 j _) (fun i e => by have := HL1'.out; omega)
            clear HR HB
            go_wp2_with fail
            go_roundw
            case rel => exact ⟨j + 1, by omega, by go_num, HRs, HBs⟩
            case measure => simp [RowKit.intOf]; omega
          · obtain rfl : j = 256 := by omega
            clear HR
            rw [show ((256 : Nat) : Int) = 256 from rfl]
            go_wp2_with fail
            go_roundw
            case rel => exact ⟨k + 1, by omega, by omega, by go_num, HB⟩
            case measure => simp [RowKit.intOf]; omega
      · go_wp2_with fail
        refine (page_out hr).mono ?_
        rintro e y1 ⟨rfl, rfl⟩
        have hzz : z < 0 ∨ (0 ≤ z ∧ 95 < z) := by omega
        clear hr HDr
        rcases hzz with hzz | ⟨hzz, hzy⟩
        all_goals
          go_wp2_with fail
          go_loopw [75] (fun i wq => i = .int .i64 0 ∧ Hid (Below x5.heap.size x5 wq)) (fun i _ => 0)
          case atStart => exact ⟨rfl, HB⟩
          case round =>
            clear HB
            obtain ⟨rfl, HB⟩ := hrel
            go_wp2_with fail
            go_roundw
            case rel => exact ⟨k + 1, by omega, by omega, by go_num, HB⟩
            case measure => simp [RowKit.intOf]; omega
    · have hx : (¬ k < len0) ∨ (k < len0 ∧ ¬ k < 40) := by omega
      have HDr := hide (HD5.out.later HB.out)
      clear HB
      rcases hx with hx | ⟨hx, hx'⟩
      all_goals
        go_wp2_with fail
        refine (HDr.out.page (no := 4) rfl (by omega)).mono ?_
        rw [reads_page, show ((put1 (fun _ => none) 4 (pad [a1]) 4).getD zer) = pad [a1] from rfl]
        rintro e y1 ⟨v1, rfl, ho, -, hb⟩
        obtain ⟨b1, c1, us1, rfl, hl1, hc1, hd1, ht1, hf1⟩ := own_row ho
        have k1 := hf1 0 (by omega)
        rw [HX0.out] at k1
        have HC : Hid (∀ W, Below y1.heap.size y1 W → W.cell? ⟨b1, 0, none⟩ = some (.int .u8 a1)) := fun W hW => by rw [hW.cell (p := ⟨b1, 0, none⟩) (cell_lt k1), k1]
        have HD1 := hide (HDr.out.later hb)
        clear ho hf1 hb hl1 ht1 HDr
        go_wp2_with fail
        refine HD1.out.changes.mono ?_
        rintro e y2 ⟨v2, L, rfl, hL, hs, hb⟩
        rw [reads_chs] at hs
        have hl : L.length = 0 := by
          have := congrArg List.length hs
          rw [say, List.length_map] at this
          exact this
        obtain ⟨p2, n2, c2, rfl, hn2, hm2, Hn2, -⟩ := hL.loose.opens
        obtain rfl : n2 = 0 := by rw [Hn2.out, hl]
        have k2 := HC.out y2 hb
        have HB := hide (HD1.out.later hb).bel
        clear hL hs hb HD1 hl Hn2 HC k1
        go_wp2_with fail
        go_ret
        exact ⟨ret_bool (by simp), HB.out⟩

set_option maxRecDepth 100000 in
theorem lifted (os : Os) (started : os.Started) (H : Type) (enc : TypeId × Value → H) :
    ReturnsInHanded {} Try.checked os 7 .any (Rows.sheetReadsSpec.pre6 enc Try.prog Try.f7 Rows.sheetReadsRow.domain false) (Rows.sheetReadsSpec.post enc Try.prog Try.f7 false true false false) := by
  refine returnsInHanded_of_change (C := Try.checked) own started (by kernel_rfl) Try.func7
    (ChangeSpec.witness6 (enc := enc) (C := Try.checked) false ⟨#[], #[.slice none 0 0, .int .u8 0], []⟩ 8 (by kernel_rfl) (by kernel_rfl) (by kernel_rfl) (by kernel_rfl)) ?_
  intro W base args ds gs before hval0 hW hcnd _
  have hval : ∀ (j : Nat) t v, Try.f7.params[j]? = some t → args[j]? = some v → Value.okWide Try.prog W .any base t v := hval0
  have hW' := hW
  obtain ⟨p, q, hA0, hV, rfl, hfz, hnd⟩ := hW
  have hA : DataW.TrodAll enc Try.prog W 0 (fun _ => true) true Try.f7.params.toList args.toList ds p := hA0
  rw [Try.params7] at hA hval
  obtain ⟨v0, vs0, d0, ds0, p0, q0, hargs, rfl, rfl, h0, r0⟩ := trodAll_cons hA
  obtain ⟨v1, vs1, d1, ds1, p1, q1, rfl, rfl, rfl, h1, r1⟩ := trodAll_cons r0
  obtain ⟨rfl, rfl, rfl⟩ := trodAll_nil r1
  obtain rfl : args = #[v0, v1] := by cases args; simp_all
  obtain ⟨rfl, rfl⟩ := trodVars_none hV
  obtain ⟨a0, len0, cap0, rfl⟩ := okWide_slice Try.underlying48 (hval 0 48 v0 rfl rfl)
  have k0 := h0
  have lt0 : ∀ x ∈ p0, x.block < W.heap.size := by obtain ⟨m, hm⟩ := k0; exact DataW.trod_lt m _ _ _ hm
  obtain ⟨z0, w0⟩ : ∃ zs, Is W (.slice a0 len0 cap0) zs := by
    obtain ⟨fuel, hf⟩ := h0
    obtain ⟨a, len, cap, zs, hcs, hz⟩ := open_is Try.underlying48 Try.underlying3 (by kernel_rfl) hf
    simp [Value.cells] at hcs
    obtain ⟨rfl, rfl, rfl⟩ := hcs
    exact ⟨zs, hz⟩
  obtain ⟨a1, rfl, rfl, rfl, w1⟩ := open_int Try.underlying5 (hval 1 5 v1 rfl rfl) h1
  clear hA0 hval0
  refine (walk a0 len0 cap0 z0 a1 W w0 w1).mono fun e W' ⟨he, bel⟩ => ?_
  subst he
  exact ⟨_, rfl, _, _, _, [], _, [], hW', trodAll_mk1 (shut_bool Try.underlying4 _), (trodAll_cons_mk (Below.trod laidOut (by kernel_rfl) (of_decide_eq_true (by kernel_rfl)) k0 bel lt0) (trodAll_cons_mk (shut_int Try.underlying5 w1) trodAll_mk0)), rfl, bel.frame _, fun h => by cases h⟩

theorem over : Rows.sheetReadsRow.holds Try.pinned (OpenSpec.ofChange Rows.sheetReadsSpec) :=
  OpenClaim.holds_of_wide 7 Try.f7 rfl rfl rfl rfl rfl rfl rfl ⟨rfl, rfl, rfl, rfl, rfl⟩ rfl rfl rfl rfl rfl (by kernel_rfl) Try.func7 (by kernel_rfl)
    (of_decide_eq_true (by kernel_rfl)) (by unfold Func.isWrapper; first | (rw [if_pos (by decide +kernel)]; kernel_rfl) | (rw [if_neg (by decide +kernel)]; exact ⟨rfl, rfl⟩))
    (fun os started H enc _ => lifted os started H enc)

theorem proved : Rows.SheetReadsSaid := over
#print axioms proved
end Go.Proofs.Ythihldepedbppaa.sheetReads
