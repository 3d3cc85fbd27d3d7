/-
  For every slice of ints, every slice of bytes and every int size PageAll returns true: pages (the first 20 numbers, 0 to 95; others tell ErrRange) are written and read each by itself, stand in the sectors that the document says, and a text of size bytes (0 to 300) is written just if it has 256. No condition.
-/
import Derived.Test.YtmaahgoeblhoaaaRows
import Derived.WalkKit
import Derived.ProofKit
import Derived.OpenShut
import Derived.ShutString
import Derived.ChangeOld
import Derived.Below
import Derived.Test.YtmaahgoeblhoaaaPagB
import Derived.Test.YtmaahgoeblhoaaaOpn
namespace Go.Proofs.Ytmaahgoeblhoaaa.pageAll
open Go.ChangeShapes Go.WideShapes Go.ChangeAt Go.RowKit
open Go.ChangeMaps (open_string shut_string)
set_option linter.unusedVariables false

theorem own : ownKnob Try.prog.godebug = none := by kernel_rfl
theorem laidOut : laidOutB Try.prog = true := by kernel_rfl

/-- The law's own array of slices. -/
def Arr (w : World) (b : Nat) (vs : List Value) : Prop := w.heap[b]? = some (.cells vs.toArray 27 (0, 0)) ∧ vs.length = 96

theorem Arr.lt {w : World} {b : Nat} {vs : List Value} (h : Arr w b vs) : b < w.heap.size := blk_lt h.1
theorem Arr.but {w w' : World} {b : Nat} {vs : List Value} {S : Nat → Prop} (h : Arr w b vs) (hb : But S w w') (hs : ¬ S b) : Arr w' b vs := ⟨(hb.block b h.lt hs).trans h.1, h.2⟩
theorem Arr.later {w w' : World} {b : Nat} {vs : List Value} (h : Arr w b vs) (hb : Below w.heap.size w w') : Arr w' b vs := ⟨(hb.block b h.lt).trans h.1, h.2⟩
theorem Arr.cell {w : World} {b : Nat} {vs : List Value} (h : Arr w b vs) {i : Nat} (hi : i < 96) : w.cell? ⟨b, i, none⟩ = some (vs.getD i undef) :=
  cell_blk h.1 (by have := h.2; simp [List.getD, List.getElem?_eq_getElem (show i < vs.length by omega)])
theorem Arr.set {w : World} {b : Nat} {vs : List Value} (h : Arr w b vs) (i : Nat) (v : Value) : Arr (w.setCell ⟨b, i, none⟩ v) b (vs.set i v) :=
  ⟨by rw [heap_setCell_same h.1, List.setIfInBounds_toArray], by rw [List.length_set]; exact h.2⟩
theorem Arr.apart {w : World} {b g bl bm : Nat} {vs : List Value} {d : Dv} (h : Arr w b vs) (hd : DevAt w g bl bm d) : b ≠ g ∧ b ≠ bl ∧ b ≠ bm := by
  obtain ⟨_, _, _, _, _, hd⟩ := hd
  obtain ⟨es, clock, hb, _⟩ := hd.map
  refine ⟨fun e => ?_, fun e => ?_, fun e => ?_⟩
  · have := hd.me; rw [← e, h.1] at this; simp at this
  · have := hd.row; rw [← e, h.1] at this; simp at this
  · have := hb; rw [← e, h.1] at this; simp at this

/-- The array's first n slices read as pages of f. -/
def Pgs (w : World) (vs : List Value) (n : Nat) (f : Nat → List Int) : Prop := ∀ i, i < n → Sl w (vs.getD i undef) (f i)

theorem Pgs.later {w w' : World} {vs : List Value} {n : Nat} {f : Nat → List Int} (h : Pgs w vs n f) (hb : Below w.heap.size w w') : Pgs w' vs n f := fun i hi => (h i hi).later hb

/-- Slices of bytes are not in a block of slices. -/
theorem sl_away {w w' : World} {b : Nat} {vs : List Value} {v : Value} {zs : List Int} (h : Sl w v zs) (ha : Arr w b vs) (hs : ∀ i, i < 96 → ∃ a n c, vs.getD i undef = .slice a n c) (hb : But (· = b) w w') : Sl w' v zs := by
  obtain ⟨a, cap, e, h1, h2, h3, h4⟩ := h
  refine ⟨a, cap, e, h1, h2, h3, fun i hi => ?_⟩
  obtain ⟨b', off, ea, hc⟩ := h4 i hi
  refine ⟨b', off, ea, ?_⟩
  have hn : b' ≠ b := by
    rintro rfl
    have hlt : off + i < 96 := by
      have hl := ha.2
      rcases Nat.lt_or_ge (off + i) 96 with hx | hx
      · exact hx
      · simp [World.cell?, ha.1] at hc
        rw [List.getElem?_eq_none (by omega)] at hc
        cases hc
    rw [ha.cell hlt] at hc
    obtain ⟨_, _, _, e'⟩ := hs _ hlt
    rw [e'] at hc
    cases hc
  rw [hb.cell (p := ⟨b', off + i, none⟩) (cell_lt hc) hn, hc]

/-- Each of the 96 is a slice. -/
def Sls (vs : List Value) : Prop := ∀ i, i < 96 → ∃ a n c, vs.getD i undef = .slice a n c

theorem getD_set (vs : List Value) (i j : Nat) (v : Value) (hi : i < vs.length) : (vs.set i v).getD j undef = if j = i then v else vs.getD j undef := by
  by_cases h : j = i
  · subst h; simp [List.getD, hi]
  · simp [List.getD, h, show ¬ i = j from fun e => h e.symm]

theorem Sls.set {vs : List Value} (h : Sls vs) (hl : vs.length = 96) {i : Nat} (hi : i < 96) (a : Option Addr) (n c : Nat) : Sls (vs.set i (.slice a n c)) := fun j hj => by
  rw [getD_set _ _ _ _ (by omega)]
  split
  · exact ⟨_, _, _, rfl⟩
  · exact h j hj

theorem rep_getD (v : Value) (N i : Nat) (h : i < N) : (List.replicate N v).getD i undef = v := by simp [List.getD, h]

theorem Arr.but_set {w : World} {b i : Nat} {v : Value} : But (· = b) w (w.setCell ⟨b, i, none⟩ v) := (But.refl (· = b) w).setCell (p := ⟨b, i, none⟩) (.inl rfl) v

/-- One more slice laid into the array. -/
theorem Pgs.lay {w : World} {b : Nat} {vs : List Value} {n : Nat} {f f' : Nat → List Int} (h : Pgs w vs n f) (ha : Arr w b vs) (hs : Sls vs) {k n' : Nat} (hk : k < 96) {v : Value} {zs : List Int} (hv : Sl w v zs) (h1 : f' k = zs) (h2 : ∀ i, i < n' → i ≠ k → i < n ∧ f' i = f i) : Pgs (w.setCell ⟨b, k, none⟩ v) (vs.set k v) n' f' := fun i hi => by
  rw [getD_set _ _ _ _ (by rw [ha.2]; exact hk)]
  split
  · rename_i e
    rw [e, h1]
    exact sl_away hv ha hs Arr.but_set
  · rename_i e
    obtain ⟨l1, l2⟩ := h2 i hi e
    rw [l2]
    exact sl_away (h i l1) ha hs Arr.but_set

theorem info96 : (Try.prog.info? 27).map (fun i => (i.zero, i.size)) = some (some (.agg (List.replicate 96 (.slice none 0 0)).toArray), 96) := by kernel_rfl

/-- 'var all [96][]byte'. -/
theorem wpList_alloc96 {w : World} {ops : Array Oper} {rest : List Oper} {o : Oper} {a : Act} {Q : Exit → Act → World → Prop} (n : Nat) (hg : o.guard = none) (hd : o.dst = some n) (hop : o.op = Op.alloc 27)
    (hK : ∀ W vs, Below w.heap.size w W → Arr W w.heap.size vs → Sls vs → wpList Try.prog ops Q rest (a.put (some n) (.pointer (some ⟨w.heap.size, 0, none⟩))) W) : wpList Try.prog ops Q (o :: rest) a w := by
  refine wpList_plain hg fun K' hK' => ?_
  have hz := (zero_of_info info96).1 w
  generalize hv : List.replicate 96 (Value.slice none 0 0) = vs at hz
  have hl : vs.length = 96 := by rw [← hv]; exact List.length_replicate
  have hS : Sls vs := fun i hi => ⟨none, 0, 0, by rw [← hv]; exact rep_getD _ 96 i hi⟩
  have hr : (Instr.alloc 27 true (.tuple #[])).run Try.prog w = .ok (.pointer (some ⟨w.heap.size, 0, none⟩)) (w.alloc (.cells vs.toArray 27)) := by
    simp [Instr.alloc, newVar, newRow, Value.cells, hz, Result.andThen]
  unfold Oper.wp
  simp [execOp, hop, hr, Result.andThen]
  refine hK' _ _ ?_
  rw [hd]
  exact hK _ vs ((Below.refl _ _).alloc (Nat.le_refl _) _) ⟨heap_alloc_last w _, hl⟩ hS

set_option maxRecDepth 100000 in
set_option maxHeartbeats 4000000 in
theorem walk (a0 : Option Addr) (len0 cap0 : Nat) (z0 : List Int) (a1 : Option Addr) (len1 cap1 : Nat) (z1 : List Int) (a2 : Int) (w : World) (w0 : Is w (.slice a0 len0 cap0) z0) (w1 : Sl w (.slice a1 len1 cap1) z1) (w2 : (Lit.int .i64 a2).wf = true) :
    Calls Try.prog 3 #[.slice a0 len0 cap0, .slice a1 len1 cap1, .int .i64 a2] w fun e w' => e = .returned (.bool true) ∧ Below w.heap.size w w' := by
  clear w2
  obtain ⟨i0, hi, hz0, hz1, hz2⟩ := info_parts Try.info5
  have HN : Hid ((madeCells (Value.int IntKind.u8 0).cells (256 * 1)).toList = bv zer) := made_noughts 256
  obtain ⟨hn1, hc1, hm1⟩ := w1.lens
  have HI := hide w0
  have HS := hide w1
  have hl0 : len0 ≤ cap0 ∧ cap0 ≤ 9223372036854775807 ∧ len0 = z0.length := by
    obtain ⟨a, cap, e, h1, h2, -⟩ := w0.1
    simp at e
    obtain ⟨rfl, rfl, rfl⟩ := e
    rw [List.length_map] at h1
    unfold maxLen at h2
    exact ⟨h1, by omega, rfl⟩
  obtain ⟨hq0, hq1, hq2⟩ := hl0
  have HL0 := hide hq2
  have HL1 := hide hn1
  clear w0 w1 hq2 hn1
  by_cases hd : 0 ≤ a2 ∧ a2 ≤ 300 ∧ len1 ≤ 300
  · obtain ⟨sz, rfl⟩ := Int.eq_ofNat_of_zero_le hd.1
    have hn : sz ≤ 300 := by omega
    have hb3 : len1 ≤ 300 := hd.2.2
    clear hd
    have c1 : decide ((sz : Int) < 0) = false := by simp
    have c2 : decide ((300 : Int) < (sz : Int)) = false := by simp; omega
    have c3 : decide ((300 : Int) < (len1 : Int)) = false := by simp; omega
    go_enter Try.func3, Try.ntmps3
    go_wp2_with fail
    refine (begun_any _).mono ?_
    rintro e x1 ⟨rfl, hB1⟩
    go_wp2_with fail
    clear c1 c2 c3
    refine (new_pn hB1 hB1.size 1410 rfl (by omega) (by omega)).mono ?_
    rintro e x2 ⟨g, bl, bm, rfl, h2, -⟩
    have H2 := hide h2
    clear h2 hB1
    go_wp2_with (first
      | (refine wpList_alloc96 9 rfl rfl rfl ?_; intro x3 vs3 hB3 hA3 hS3; have H3 := hide (H2.out.later hB3); have HA3 := hide hA3; have HS3 := hide hS3; have HL3 := hide H2.out.big; clear hB3 hA3 hS3 H2))
    generalize x2.heap.size = ab at *
    go_loopw [10] (fun i wr => ∃ (k : Nat) (vs : List Value), k ≤ 96 ∧ i = .int .i64 k ∧ Hid (Arr wr ab vs) ∧ Hid (Sls vs) ∧ Hid (Pgs wr vs k (fun _ => zer)) ∧ Hid (Pn w.heap.size w wr g bl bm (Dv.new 1410))) (fun i _ => 96 - (RowKit.intOf i).toNat)
    case atStart => exact ⟨0, vs3, by omega, rfl, HA3, HS3, fun i hi => by omega, H3⟩
    case round =>
      obtain ⟨k, vs, hk, rfl, HA, HV, HG, HP⟩ := hrel
      clear HA3 HS3 H3
      by_cases hlt : k < 96
      · go_wp2_with (first
          | (at_make; refine wpList_make_full _ rfl _ _ 23 rfl wr.heap.size 5 i0 (.int .u8 0) 1 Try.underlying23 hi hz0 hz1 _ _ _ _ 256 rfl rfl rfl rfl (by rw [hz2]; omega) (by unfold maxLen; omega) (Nat.le_refl _) ?_; intro W4 ho4 hg4; have HO := hide ho4; have HB4 := hide (below_new hg4); clear ho4 hg4; have HA4 := hide (HA.out.later HB4.out); have hce := HA4.out.cell hlt; have hfr := frozen_blk k HA4.out.1))
        have hK4 : Bk W4 wr.heap.size zer := own_bk (by have := HO.out; rw [HN.out] at this; exact this)
        have HG4 := hide ((HG.out.later HB4.out).lay (f' := fun _ => zer) (n' := k + 1) HA4.out HV.out hlt (hK4.page zer_len zer_bd) rfl (fun i h1 h2 => ⟨by omega, rfl⟩))
        have HA5 := hide (HA4.out.set k (.slice (some ⟨wr.heap.size, 0, none⟩) 256 256))
        have HV5 := hide (HV.out.set HA.out.2 hlt (some ⟨wr.heap.size, 0, none⟩) 256 256)
        have HP5 : Hid (Pn w.heap.size w (W4.setCell ⟨ab, k, none⟩ (.slice (some ⟨wr.heap.size, 0, none⟩) 256 256)) g bl bm (Dv.new 1410)) := by
          have hp := HP.out.later HB4.out
          have hap := HA4.out.apart hp.dev
          have hl := HL3.out
          exact hp.beside (S := (· = ab)) Arr.but_set (fun k e => by omega) (by omega) (by omega) (by omega)
        go_roundw
        case rel => exact ⟨k + 1, _, by omega, by go_num, HA5, HV5, HG4, HP5⟩
        case measure => simp [RowKit.intOf]; omega
      · obtain rfl : k = 96 := by omega
        have HG0 : Hid (Pgs wr vs 96 (fun i => (Dv.new 1410).pr (2 + 4 * i) 4)) := fun i hi => by
          show Sl _ _ ((Dv.new 1410).pr (2 + 4 * i) 4)
          rw [pr_new]
          exact HG.out i hi
        clear HG
        rw [show ((96 : Nat) : Int) = 96 from rfl]
        go_wp2_with fail
        go_loopw [11] (fun i wq => ∃ (k : Nat) (vs : List Value) (d : Dv), k ≤ 20 ∧ k ≤ len0 ∧ i = .int .i64 k ∧ Hid (Arr wq ab vs) ∧ Hid (Sls vs) ∧ Hid (Pgs wq vs 96 (fun i => d.pr (2 + 4 * i) 4)) ∧ Hid (Pn w.heap.size w wq g bl bm d) ∧ Hid (d.n = 1410 ∧ d.fuse = none ∧ d.calls ≤ 4 * k)) (fun i _ => 20 - (RowKit.intOf i).toNat)
        case atStart => exact ⟨0, vs, _, by omega, by omega, rfl, HA, HV, HG0, HP, ⟨rfl, rfl, Nat.le_refl _⟩⟩
        case round =>
          clear HA HV HG0 HP
          obtain ⟨k, vs, d, hk, hkl, rfl, HA, HV, HG, HP, HD⟩ := hrel
          by_cases hlt : k < len0 ∧ k < 20
          · obtain ⟨t1, t2⟩ := hlt
            obtain ⟨b0, o0, rfl, hc0⟩ := HI.out.1.cell (i := k) (by rw [List.length_map, ← HL0.out]; exact t1)
            obtain ⟨z, hz⟩ : ∃ z, z = z0[k]'(by rw [← HL0.out]; exact t1) := ⟨_, rfl⟩
            rw [List.getElem_map, ← hz] at hc0
            have hzb := HI.out.2 z (by rw [hz]; exact List.getElem_mem _)
            have HC0 : Hid (∀ W, Below w.heap.size w W → W.cell? ⟨b0, o0 + k, none⟩ = some (.int .i64 z)) := fun W hB => by rw [hB.cell (p := ⟨b0, o0 + k, none⟩) (cell_lt hc0)]; exact hc0
            clear hc0 hz
            go_wp2_with fail
            refine (pof_any (HS.out.later HP.out.bel)).mono ?_
            rintro e x4 ⟨b, rfl, hb4, hl4, hB4⟩
            obtain ⟨x5, hx5⟩ : ∃ x5, x5 = (x4.setCell ⟨b, 0, none⟩ (.int .u8 (k : Int))).setCell ⟨b, 255, none⟩ (.int .u8 ((k : Int) + 1)) := ⟨_, rfl⟩
            obtain ⟨pz, hpz⟩ : ∃ pz, pz = ((pad z1).set 0 (k : Int)).set 255 ((k : Int) + 1) := ⟨_, rfl⟩
            have k0 := hb4.cell (i := 0) (by rw [pad_len]; omega)
            have f0 := frozen_blk 0 hb4
            have hb4' := hb4.set 0 (k : Int)
            have k1 := hb4'.cell (i := 255) (by rw [List.length_set, pad_len]; omega)
            have f1 := frozen_blk 255 hb4'
            have HK5 : Hid (Bk x5 b pz) := by rw [hx5, hpz]; exact hb4'.set 255 _
            have HZ : Hid (pz.length = 256 ∧ ∀ z ∈ pz, 0 ≤ z ∧ z ≤ 255) := by
              refine ⟨by rw [hpz, List.length_set, List.length_set, pad_len], fun z hz => ?_⟩
              rw [hpz] at hz
              rcases List.mem_or_eq_of_mem_set hz with hz | rfl
              · rcases List.mem_or_eq_of_mem_set hz with hz | rfl
                · exact pad_bd HS.out.bd z hz
                · omega
              · omega
            have hB5 : Below wr.heap.size wr x5 := by
              rw [hx5]
              exact Below.but (Below.but hB4 hB4.size ((But.refl (· = b) x4).setCell (p := ⟨b, 0, none⟩) (.inl rfl) _) (fun k e => by omega)) (by simpa [World.setCell] using hB4.size) ((But.refl (· = b) _).setCell (p := ⟨b, 255, none⟩) (.inl rfl) _) (fun k e => by omega)
            have HA5 := hide (HA.out.later hB5)
            have HG5 := hide (HG.out.later hB5)
            have HP5 := hide (HP.out.later hB5)
            have hc5 := HC0.out x5 HP5.out.bel
            clear hb4 hb4' hl4 hB4 hB5 HA HG HP hpz
            generalize (pad z1).getD 0 0 = oldA at *
            generalize ((pad z1).set 0 (k : Int)).getD 255 0 = oldB at *
            have HX5 := hide hx5
            go_upto_region 17 with fail
            rw [← HX5.out]
            clear hx5 HX5 k0 f0 k1 f1
            by_cases hzr : 0 ≤ z ∧ z < 96
            · obtain ⟨no, rfl⟩ := Int.eq_ofNat_of_zero_le hzr.1
              have hno : no < 96 := by omega
              clear hzr hzb
              go_wp2_with fail
              refine (pwrite_pn HP5.out HD.out.2.1 (by have := HD.out.2.2; omega) no rfl hno (by rw [HD.out.1]; omega) (HK5.out.page HZ.out.1 HZ.out.2) HZ.out.1).mono ?_
              rintro e x6 ⟨rfl, h6, hb6⟩
              have HY6 := hide ((HK5.out.page HZ.out.1 HZ.out.2).beside HP5.out.dev hb6)
              have HA6 := hide (HA5.out.but hb6 (by have := HA5.out.apart HP5.out.dev; omega))
              have HG6 : Hid (Pgs x6 vs 96 (fun i => d.pr (2 + 4 * i) 4)) := fun i hi => (HG5.out i hi).beside HP5.out.dev hb6
              obtain ⟨x7, hx7⟩ : ∃ x7, x7 = x6.setCell ⟨ab, no, none⟩ (.slice (some ⟨b, 0, none⟩) 256 256) := ⟨_, rfl⟩
              have HA7 : Hid (Arr x7 ab (vs.set no (.slice (some ⟨b, 0, none⟩) 256 256))) := by rw [hx7]; exact HA6.out.set no _
              have HV7 := hide (HV.out.set HA6.out.2 hno (some ⟨b, 0, none⟩) 256 256)
              have HG7 : Hid (Pgs x7 (vs.set no (.slice (some ⟨b, 0, none⟩) 256 256)) 96 (fun i => (d.pw (2 + 4 * no) pz 4).pr (2 + 4 * i) 4)) := by
                rw [hx7]
                exact HG6.out.lay HA6.out HV.out hno HY6.out (Dv.pr_same HP5.out.dev.ok HZ.out.1 (by rw [HD.out.1]; omega)) (fun i h1 h2 => ⟨h1, Dv.pr_other HP5.out.dev.ok HZ.out.1 (by rw [HD.out.1]; omega) (by omega)⟩)
              have HP7 : Hid (Pn w.heap.size w x7 g bl bm (d.pw (2 + 4 * no) pz 4)) := by
                rw [hx7]
                have hap := HA6.out.apart h6.dev
                have hl := HL3.out
                exact h6.beside (S := (· = ab)) Arr.but_set (fun k e => by omega) (by omega) (by omega) (by omega)
              have HY7 : Hid (Sl x7 (.slice (some ⟨b, 0, none⟩) 256 256) pz) := by rw [hx7]; exact sl_away HY6.out HA6.out HV.out Arr.but_set
              have HD7 : Hid ((d.pw (2 + 4 * no) pz 4).n = 1410 ∧ (d.pw (2 + 4 * no) pz 4).fuse = none ∧ (d.pw (2 + 4 * no) pz 4).calls ≤ 4 * (k + 1)) := by
                obtain ⟨q1, q2, q3⟩ := HD.out
                exact ⟨by rw [Dv.pw_n, q1], by rw [Dv.pw_fuse, q2]; rfl, by rw [Dv.pw_calls]; omega⟩
              have HE7 : Hid ((d.pw (2 + 4 * no) pz 4).at_ (2 + 4 * no) = Dv.chunk pz 0 ∧ (d.pw (2 + 4 * no) pz 4).at_ (5 + 4 * no) = Dv.chunk pz 3) := by
                have hq := Dv.pw_at HP5.out.dev.ok (p := 2 + 4 * no) HZ.out.1 (k := 4) (by omega) (by rw [HD.out.1]; omega)
                refine ⟨by rw [hq, if_pos (by omega), Nat.sub_self], ?_⟩
                rw [hq, if_pos (by omega)]
                congr 1
                omega
              have hc6 := HC0.out x6 h6.bel
              have hc7 := HC0.out x7 HP7.out.bel
              have k6 := HA6.out.cell hno
              have f6 := frozen_blk no HA6.out.1
              have HX7 := hide hx7
              clear h6 hb6 hc5 HP5 HG5 HA5 HK5 HG6 HA6 HD HV HY6 hx7
              generalize d.pw (2 + 4 * no) pz 4 = d7 at *
              generalize hvs : vs.set no (Value.slice (some ⟨b, 0, none⟩) 256 256) = vs7 at *
              generalize vs.getD no undef = oldC at *
              clear hvs
              go_upto_region 23 with fail
              rw [← HX7.out]
              clear HX7 k6 f6 hc6
              go_wp2_with fail
              refine (read_lit HP7.out.dev (i := 2 + 4 * no) (by omega) (by rw [HD7.out.1]; omega)).mono ?_
              rw [HE7.out.1]
              rintro e x8 ⟨b8, rfl, hx8, -, hB8⟩
              have HP8 := hide (HP7.out.later hB8)
              have HA8 := hide (HA7.out.later hB8)
              have HG8 := hide (HG7.out.later hB8)
              have HY8 := hide (HY7.out.later hB8)
              have HX8 := hide hx8
              have hc8 := HC0.out x8 HP8.out.bel
              clear hx8 hB8 hc7 HP7 HA7 HG7 HY7
              go_wp2_with fail
              refine (read_lit HP8.out.dev (i := 5 + 4 * no) (by omega) (by rw [HD7.out.1]; omega)).mono ?_
              rw [HE7.out.2]
              rintro e x9 ⟨b9, rfl, hx9, -, hB9⟩
              have HP9 := hide (HP8.out.later hB9)
              have HA9 := hide (HA8.out.later hB9)
              have HG9 := hide (HG8.out.later hB9)
              have hY := HY8.out.later hB9
              have hS8 := (HX8.out.later hB9).sl (Dv.chunk_sec HZ.out.1 HZ.out.2 (by omega))
              have hS9 := hx9.sl (Dv.chunk_sec HZ.out.1 HZ.out.2 (by omega))
              have hY0 : Sl x9 (.slice (some ⟨b, 0, none⟩) 64 256) (Dv.chunk pz 0) := hY.head (m := 64) (by rw [HZ.out.1]; omega)
              have hY3 : Sl x9 (.slice (some ⟨b, 192, none⟩) 64 64) (Dv.chunk pz 3) := hY.mid (l := 192) (m := 256) (by omega) (by omega) (by omega)
              clear hx9 hB9 hc8 HP8 HA8 HG8 HY8 HX8 hY
              go_wp2_with fail
              refine wp_region_noPanic ?_
              refine wp_region_held_drew (S := fun W => Below x9.heap.size x9 W) (by kernel_rfl) ?_ (fun hHeld => ?_)
              · exact (Below.refl _ _).drew
              refine wpAnyH_take (i := 0) (v := ?_) rfl (by kernel_rfl) (by kernel_rfl) (by kernel_rfl) (fun _ _ _ h => h) (Or.inl ⟨by kernel_rfl, ?_⟩) hHeld ?_
              rotate_left
              · intro W hW; go_simp; first | done | with_reducible rfl
              try simp only [Act.put, List.getElem_toArray, List.getElem_cons_zero, List.setIfInBounds_toArray, List.set_cons_succ, List.set_cons_zero]
              refine wpAnyH_take (i := 2) (v := ?_) rfl (by kernel_rfl) (by kernel_rfl) (by kernel_rfl) (fun _ _ _ h => h) (Or.inl ⟨by kernel_rfl, ?_⟩) hHeld ?_
              rotate_left
              · intro W hW; go_simp; first | done | with_reducible rfl
              try simp only [Act.put, List.getElem_toArray, List.getElem_cons_zero, List.getElem_cons_succ, List.setIfInBounds_toArray, List.set_cons_succ, List.set_cons_zero]
              refine wpAnyH_take (i := 3) (v := (.slice (some ⟨b, 0, none⟩) 64 256)) rfl (by kernel_rfl) (by kernel_rfl) (by kernel_rfl) (fun _ _ _ h => h) (Or.inl ⟨by kernel_rfl, ?_⟩) hHeld ?_
              · intro W hW; go_simp; first | done | with_reducible rfl
              try simp only [Act.put, List.getElem_toArray, List.getElem_cons_zero, List.getElem_cons_succ, List.setIfInBounds_toArray, List.set_cons_succ, List.set_cons_zero]
              refine wpAnyH_take (i := 1) (v := .string (strOfNums (Dv.chunk pz 0))) rfl (by kernel_rfl) (by kernel_rfl) (by kernel_rfl) (fun _ _ _ h => h) (Or.inl ⟨by kernel_rfl, ?_⟩) hHeld ?_
              · intro W hW; have hcv := (hS8.later hW).conv (P := Try.prog) 23 9 5 Try.underlying23 Try.underlying5 Try.underlying9; go_simp
              try simp only [Act.put, List.getElem_toArray, List.getElem_cons_zero, List.getElem_cons_succ, List.setIfInBounds_toArray, List.set_cons_succ, List.set_cons_zero]
              refine wpAnyH_take (i := 4) (v := .string (strOfNums (Dv.chunk pz 0))) rfl (by kernel_rfl) (by kernel_rfl) (by kernel_rfl) (fun _ _ _ h => h) (Or.inl ⟨by kernel_rfl, ?_⟩) hHeld ?_
              · intro W hW; have hcv := (hY0.later hW).conv (P := Try.prog) 23 9 5 Try.underlying23 Try.underlying5 Try.underlying9; go_simp
              try simp only [Act.put, List.getElem_toArray, List.getElem_cons_zero, List.getElem_cons_succ, List.setIfInBounds_toArray, List.set_cons_succ, List.set_cons_zero]
              refine wpAnyH_take (i := 5) (v := (.bool false)) rfl (by kernel_rfl) (by kernel_rfl) (by kernel_rfl) (fun _ _ _ h => h) (Or.inl ⟨by kernel_rfl, ?_⟩) hHeld ?_
              · intro W hW; go_simp; first | done | with_reducible rfl
              try simp only [Act.put, List.getElem_toArray, List.getElem_cons_zero, List.getElem_cons_succ, List.setIfInBounds_toArray, List.set_cons_succ, List.set_cons_zero]
              refine wpAnyH_take (i := 6) (v := ?_) rfl (by kernel_rfl) (by kernel_rfl) (by kernel_rfl) (fun _ _ _ h => h) (Or.inl ⟨by kernel_rfl, ?_⟩) hHeld ?_
              rotate_left
              · intro W hW; go_simp; first | done | with_reducible rfl
              try simp only [Act.put, List.getElem_toArray, List.getElem_cons_zero, List.getElem_cons_succ, List.setIfInBounds_toArray, List.set_cons_succ, List.set_cons_zero]
              refine wpAnyH_take (i := 7) (v := ?_) rfl (by kernel_rfl) (by kernel_rfl) (by kernel_rfl) (fun _ _ _ h => h) (Or.inl ⟨by kernel_rfl, ?_⟩) hHeld ?_
              rotate_left
              · intro W hW; go_simp; first | done | with_reducible rfl
              try simp only [Act.put, List.getElem_toArray, List.getElem_cons_zero, List.getElem_cons_succ, List.setIfInBounds_toArray, List.set_cons_succ, List.set_cons_zero]
              refine wpAnyH_take (i := 9) (v := ?_) rfl (by kernel_rfl) (by kernel_rfl) (by kernel_rfl) (fun _ _ _ h => h) (Or.inl ⟨by kernel_rfl, ?_⟩) hHeld ?_
              rotate_left
              · intro W hW; go_simp; first | done | with_reducible rfl
              try simp only [Act.put, List.getElem_toArray, List.getElem_cons_zero, List.getElem_cons_succ, List.setIfInBounds_toArray, List.set_cons_succ, List.set_cons_zero]
              refine wpAnyH_take (i := 10) (v := (.slice (some ⟨b, 192, none⟩) 64 64)) rfl (by kernel_rfl) (by kernel_rfl) (by kernel_rfl) (fun _ _ _ h => h) (Or.inl ⟨by kernel_rfl, ?_⟩) hHeld ?_
              · intro W hW; go_simp; first | done | with_reducible rfl
              try simp only [Act.put, List.getElem_toArray, List.getElem_cons_zero, List.getElem_cons_succ, List.setIfInBounds_toArray, List.set_cons_succ, List.set_cons_zero]
              refine wpAnyH_take (i := 8) (v := .string (strOfNums (Dv.chunk pz 3))) rfl (by kernel_rfl) (by kernel_rfl) (by kernel_rfl) (fun _ _ _ h => h) (Or.inl ⟨by kernel_rfl, ?_⟩) hHeld ?_
              · intro W hW; have hcv := (hS9.later hW).conv (P := Try.prog) 23 9 5 Try.underlying23 Try.underlying5 Try.underlying9; go_simp
              try simp only [Act.put, List.getElem_toArray, List.getElem_cons_zero, List.getElem_cons_succ, List.setIfInBounds_toArray, List.set_cons_succ, List.set_cons_zero]
              refine wpAnyH_take (i := 11) (v := .string (strOfNums (Dv.chunk pz 3))) rfl (by kernel_rfl) (by kernel_rfl) (by kernel_rfl) (fun _ _ _ h => h) (Or.inl ⟨by kernel_rfl, ?_⟩) hHeld ?_
              · intro W hW; have hcv := (hY3.later hW).conv (P := Try.prog) 23 9 5 Try.underlying23 Try.underlying5 Try.underlying9; go_simp
              try simp only [Act.put, List.getElem_toArray, List.getElem_cons_zero, List.getElem_cons_succ, List.setIfInBounds_toArray, List.set_cons_succ, List.set_cons_zero]
              refine wpAnyH_take (i := 12) (v := (.bool false)) rfl (by kernel_rfl) (by kernel_rfl) (by kernel_rfl) (fun _ _ _ h => h) (Or.inl ⟨by kernel_rfl, ?_⟩) hHeld ?_
              · intro W hW; go_simp; first | done | with_reducible rfl
              try simp only [Act.put, List.getElem_toArray, List.getElem_cons_zero, List.getElem_cons_succ, List.setIfInBounds_toArray, List.set_cons_succ, List.set_cons_zero]
              refine wpAnyH_take (i := 13) (v := (.bool false)) rfl (by kernel_rfl) (by kernel_rfl) (by kernel_rfl) (fun _ _ _ h => h) (Or.inl ⟨by kernel_rfl, ?_⟩) hHeld ?_
              · intro W hW; go_simp; first | done | with_reducible rfl
              try simp only [Act.put, List.getElem_toArray, List.getElem_cons_zero, List.getElem_cons_succ, List.setIfInBounds_toArray, List.set_cons_succ, List.set_cons_zero]
              refine wpAnyH_done (by kernel_rfl) ?_ _
              refine NoPanic.normal ?_
              go_simp
              have HPa := hide HP9.out.drew
              have HAa := hide (HA9.out.later (Below.refl _ x9).drew)
              have HGa := hide (HG9.out.later (Below.refl _ x9).drew)
              clear HP9 HA9 HG9 hHeld hS8 hS9 hY0 hY3
              go_wp2_with fail
              go_roundw
              case rel => exact ⟨k + 1, _, _, by omega, by omega, by go_num, HAa, HV7, HGa, HPa, HD7⟩
              case measure => simp [RowKit.intOf]; omega
            · go_wp2_with fail
              refine (pwrite_out hzr (HK5.out.page HZ.out.1 HZ.out.2) HZ.out.1).mono ?_
              rintro e x6 ⟨rfl, rfl⟩
              have HD7 : Hid (d.n = 1410 ∧ d.fuse = none ∧ d.calls ≤ 4 * (k + 1)) := by
                obtain ⟨q1, q2, q3⟩ := HD.out
                exact ⟨q1, q2, by omega⟩
              have hzz : z < 0 ∨ (0 ≤ z ∧ ¬ z < 96) := by omega
              clear hzr HD
              rcases hzz with hzz | ⟨hzz, hzy⟩
              all_goals
                go_wp2_with fail
                go_roundw
                case rel => exact ⟨k + 1, _, _, by omega, by omega, by go_num, HA5, HV, HG5, HP5, HD7⟩
                case measure => simp [RowKit.intOf]; omega
          · have hx : (¬ k < len0) ∨ (k < len0 ∧ ¬ k < 20) := by omega
            rcases hx with hx | ⟨hx, hx'⟩
            all_goals
              go_wp2_with fail
              go_loopw [19] (fun i wq => ∃ j : Nat, j ≤ 96 ∧ i = .int .i64 j ∧ Hid (Arr wq ab vs) ∧ Hid (Pgs wq vs 96 (fun i => d.pr (2 + 4 * i) 4)) ∧ Hid (Pn w.heap.size w wq g bl bm d)) (fun i _ => 96 - (RowKit.intOf i).toNat)
              case atStart => exact ⟨0, by omega, rfl, HA, HG, HP⟩
              case round =>
                clear HA HG HP
                obtain ⟨j, hj, rfl, HA, HG, HP⟩ := hrel
                by_cases hjl : j < 96
                · go_wp2_with fail
                  refine (pread_pn HP.out j rfl hjl (by rw [HD.out.1]; omega)).mono ?_
                  rintro e y1 ⟨bx, cx, rfl, hsx, -, hBx⟩
                  have HA1 := hide (HA.out.later hBx)
                  have HG1 := hide (HG.out.later hBx)
                  have HP1 := hide (HP.out.later hBx)
                  have hsv : Sl y1 (vs.getD j undef) (d.pr (2 + 4 * j) 4) := HG1.out j hjl
                  have hca := HA1.out.cell hjl
                  have HCa : Hid (∀ W, Below y1.heap.size y1 W → W.cell? ⟨ab, j, none⟩ = some (vs.getD j undef)) := fun W hW => (HA1.out.later hW).cell hjl
                  obtain ⟨pa, pn, pc, hpv⟩ := HV.out j hjl
                  rw [hpv] at hsv HCa
                  clear hca hpv hBx HA HG HP
                  go_wp2_with fail
                  refine wp_region_noPanic ?_
                  refine wp_region_held_drew (S := fun W => Below y1.heap.size y1 W) (by kernel_rfl) ?_ (fun hHeld => ?_)
                  · exact (Below.refl _ _).drew
                  refine wpAnyH_take (i := 0) (v := ?_) rfl (by kernel_rfl) (by kernel_rfl) (by kernel_rfl) (fun _ _ _ h => h) (Or.inl ⟨by kernel_rfl, ?_⟩) hHeld ?_
                  rotate_left
                  · intro W hW; go_simp; first | done | with_reducible rfl
                  try simp only [Act.put, List.getElem_toArray, List.getElem_cons_zero, List.setIfInBounds_toArray, List.set_cons_succ, List.set_cons_zero]
                  refine wpAnyH_take (i := 1) (v := (.bool false)) rfl (by kernel_rfl) (by kernel_rfl) (by kernel_rfl) (fun _ _ _ h => h) (Or.inl ⟨by kernel_rfl, ?_⟩) hHeld ?_
                  · intro W hW; go_simp; first | done | with_reducible rfl
                  try simp only [Act.put, List.getElem_toArray, List.getElem_cons_zero, List.getElem_cons_succ, List.setIfInBounds_toArray, List.set_cons_succ, List.set_cons_zero]
                  refine wpAnyH_take (i := 2) (v := ?_) rfl (by kernel_rfl) (by kernel_rfl) (by kernel_rfl) (fun _ _ _ h => h) (Or.inl ⟨by kernel_rfl, ?_⟩) hHeld ?_
                  rotate_left
                  · intro W hW; go_simp; first | done | with_reducible rfl
                  try simp only [Act.put, List.getElem_toArray, List.getElem_cons_zero, List.getElem_cons_succ, List.setIfInBounds_toArray, List.set_cons_succ, List.set_cons_zero]
                  refine wpAnyH_take (i := 3) (v := ?_) rfl (by kernel_rfl) (by kernel_rfl) (by kernel_rfl) (fun _ _ _ h => h) (Or.inl ⟨by kernel_rfl, ?_⟩) hHeld ?_
                  rotate_left
                  · intro W hW; go_simp; first | done | with_reducible rfl
                  try simp only [Act.put, List.getElem_toArray, List.getElem_cons_zero, List.getElem_cons_succ, List.setIfInBounds_toArray, List.set_cons_succ, List.set_cons_zero]
                  refine wpAnyH_take (i := 5) (v := ?_) rfl (by kernel_rfl) (by kernel_rfl) (by kernel_rfl) (fun _ _ _ h => h) (Or.inl ⟨by kernel_rfl, ?_⟩) hHeld ?_
                  rotate_left
                  · intro W hW; go_simp; first | done | with_reducible rfl
                  try simp only [Act.put, List.getElem_toArray, List.getElem_cons_zero, List.getElem_cons_succ, List.setIfInBounds_toArray, List.set_cons_succ, List.set_cons_zero]
                  refine wpAnyH_take (i := 4) (v := .string (strOfNums (d.pr (2 + 4 * j) 4))) rfl (by kernel_rfl) (by kernel_rfl) (by kernel_rfl) (fun _ _ _ h => h) (Or.inl ⟨by kernel_rfl, ?_⟩) hHeld ?_
                  · intro W hW; have hcv := (hsx.later hW).conv (P := Try.prog) 23 9 5 Try.underlying23 Try.underlying5 Try.underlying9; go_simp
                  try simp only [Act.put, List.getElem_toArray, List.getElem_cons_zero, List.getElem_cons_succ, List.setIfInBounds_toArray, List.set_cons_succ, List.set_cons_zero]
                  refine wpAnyH_take (i := 6) (v := (.pointer (some ⟨ab, j, none⟩))) rfl (by kernel_rfl) (by kernel_rfl) (by kernel_rfl) (fun _ _ _ h => h) (Or.inl ⟨by kernel_rfl, ?_⟩) hHeld ?_
                  · intro W hW; go_simp; first | done | with_reducible rfl
                  try simp only [Act.put, List.getElem_toArray, List.getElem_cons_zero, List.getElem_cons_succ, List.setIfInBounds_toArray, List.set_cons_succ, List.set_cons_zero]
                  refine wpAnyH_take (i := 7) (v := .slice pa pn pc) rfl (by kernel_rfl) (by kernel_rfl) (by kernel_rfl) (fun _ _ _ h => h) (Or.inl ⟨by kernel_rfl, ?_⟩) hHeld ?_
                  · intro W hW; have c1 := HCa.out W hW; go_simp
                  try simp only [Act.put, List.getElem_toArray, List.getElem_cons_zero, List.getElem_cons_succ, List.setIfInBounds_toArray, List.set_cons_succ, List.set_cons_zero]
                  refine wpAnyH_take (i := 8) (v := .string (strOfNums (d.pr (2 + 4 * j) 4))) rfl (by kernel_rfl) (by kernel_rfl) (by kernel_rfl) (fun _ _ _ h => h) (Or.inl ⟨by kernel_rfl, ?_⟩) hHeld ?_
                  · intro W hW; have hcv := (hsv.later hW).conv (P := Try.prog) 23 9 5 Try.underlying23 Try.underlying5 Try.underlying9; go_simp
                  try simp only [Act.put, List.getElem_toArray, List.getElem_cons_zero, List.getElem_cons_succ, List.setIfInBounds_toArray, List.set_cons_succ, List.set_cons_zero]
                  refine wpAnyH_take (i := 9) (v := (.bool false)) rfl (by kernel_rfl) (by kernel_rfl) (by kernel_rfl) (fun _ _ _ h => h) (Or.inl ⟨by kernel_rfl, ?_⟩) hHeld ?_
                  · intro W hW; go_simp; first | done | with_reducible rfl
                  try simp only [Act.put, List.getElem_toArray, List.getElem_cons_zero, List.getElem_cons_succ, List.setIfInBounds_toArray, List.set_cons_succ, List.set_cons_zero]
                  refine wpAnyH_take (i := 10) (v := (.bool false)) rfl (by kernel_rfl) (by kernel_rfl) (by kernel_rfl) (fun _ _ _ h => h) (Or.inl ⟨by kernel_rfl, ?_⟩) hHeld ?_
                  · intro W hW; go_simp; first | done | with_reducible rfl
                  try simp only [Act.put, List.getElem_toArray, List.getElem_cons_zero, List.getElem_cons_succ, List.setIfInBounds_toArray, List.set_cons_succ, List.set_cons_zero]
                  refine wpAnyH_done (by kernel_rfl) ?_ _
                  refine NoPanic.normal ?_
                  go_simp
                  have HPa := hide HP1.out.drew
                  have HAa := hide (HA1.out.later (Below.refl _ y1).drew)
                  have HGa := hide (HG1.out.later (Below.refl _ y1).drew)
                  clear HP1 HA1 HG1 hHeld hsx hsv HCa
                  go_wp2_with fail
                  go_roundw
                  case rel => exact ⟨j + 1, by omega, by go_num, HAa, HGa, HPa⟩
                  case measure => simp [RowKit.intOf]; omega
                · obtain rfl : j = 96 := by omega
                  rw [show ((96 : Nat) : Int) = 96 from rfl]
                  have HNz : Hid ((madeCells (Value.int IntKind.u8 0).cells (sz * 1)).toList = bv (List.replicate sz 0)) := made_noughts sz
                  go_wp2_with (first
                    | (at_make; refine wpList_make_full _ rfl _ _ 23 rfl wr.heap.size 5 i0 (.int .u8 0) 1 Try.underlying23 hi hz0 hz1 _ _ _ _ sz rfl rfl rfl rfl (by rw [hz2]; omega) (by unfold maxLen; omega) (Nat.le_refl _) ?_; intro W4 ho4 hg4; have HO := hide ho4; have HB4 := hide (below_new hg4); clear ho4 hg4))
                  have hsl : Sl W4 (.slice (some ⟨wr.heap.size, 0, none⟩) sz sz) (List.replicate sz 0) := Sl.own (by have := HO.out; rw [HNz.out] at this; exact this) (fun z hz => by have := (List.mem_replicate.1 hz).2; omega)
                  have HP4 := hide (HP.out.later HB4.out)
                  clear HO HB4 HNz HP HA HG
                  by_cases h256 : sz = 256
                  · refine (pwrite_pn HP4.out HD.out.2.1 (by have := HD.out.2.2; omega) 1 rfl (by omega) (by rw [HD.out.1]; omega) hsl (by rw [List.length_replicate]; exact h256)).mono ?_
                    rintro e W5 ⟨rfl, h5, -⟩
                    have H5 := hide h5.bel
                    have e1 : ((sz : Int) == 256) = true := by simp; omega
                    clear h5 hsl
                    go_wp2_with fail
                    go_ret
                    exact ⟨rfl, H5.out⟩
                  · refine (pwrite_form hsl (by rw [List.length_replicate]; exact h256)).mono ?_
                    rintro e W5 ⟨rfl, rfl⟩
                    have H5 := hide HP4.out.bel
                    have e1 : ((sz : Int) == 256) = false := by simp; omega
                    clear hsl
                    go_wp2_with fail
                    go_ret
                    exact ⟨rfl, H5.out⟩
  · have hc : a2 < 0 ∨ (0 ≤ a2 ∧ 300 < a2) ∨ (0 ≤ a2 ∧ a2 ≤ 300 ∧ 300 < len1) := by omega
    clear hd
    rcases hc with hc | hc | hc
    all_goals
      go_enter Try.func3, Try.ntmps3
      go_wp2_with fail
      refine (begun_any _).mono ?_
      rintro e x1 ⟨rfl, hB1⟩
      go_wp2_with fail
      go_ret
      exact ⟨rfl, hB1⟩

set_option maxRecDepth 100000 in
theorem lifted (os : Os) (started : os.Started) (H : Type) (enc : TypeId × Value → H) :
    ReturnsInHanded {} Try.checked os 3 .any (Rows.pageAllSpec.pre6 enc Try.prog Try.f3 Rows.pageAllRow.domain false) (Rows.pageAllSpec.post enc Try.prog Try.f3 false true false false) := by
  refine returnsInHanded_of_change (C := Try.checked) own started (by kernel_rfl) Try.func3
    (ChangeSpec.witness6 (enc := enc) (C := Try.checked) false ⟨#[], #[.slice none 0 0, .slice none 0 0, .int .i64 0], []⟩ 8 (by kernel_rfl) (by kernel_rfl) (by kernel_rfl) (by kernel_rfl)) ?_
  intro W base args ds gs before hval0 hW hcnd _
  have hval : ∀ (j : Nat) t v, Try.f3.params[j]? = some t → args[j]? = some v → Value.okWide Try.prog W .any base t v := hval0
  have hW' := hW
  obtain ⟨p, q, hA0, hV, rfl, hfz, hnd⟩ := hW
  have hA : DataW.TrodAll enc Try.prog W 0 (fun _ => true) true Try.f3.params.toList args.toList ds p := hA0
  rw [Try.params3] at hA hval
  obtain ⟨v0, vs0, d0, ds0, p0, q0, hargs, rfl, rfl, h0, r0⟩ := trodAll_cons hA
  obtain ⟨v1, vs1, d1, ds1, p1, q1, rfl, rfl, rfl, h1, r1⟩ := trodAll_cons r0
  obtain ⟨v2, vs2, d2, ds2, p2, q2, rfl, rfl, rfl, h2, r2⟩ := trodAll_cons r1
  obtain ⟨rfl, rfl, rfl⟩ := trodAll_nil r2
  obtain rfl : args = #[v0, v1, v2] := by cases args; simp_all
  obtain ⟨rfl, rfl⟩ := trodVars_none hV
  obtain ⟨a0, len0, cap0, rfl⟩ := okWide_slice Try.underlying22 (hval 0 22 v0 rfl rfl)
  have k0 := h0
  have lt0 : ∀ x ∈ p0, x.block < W.heap.size := by obtain ⟨m, hm⟩ := k0; exact DataW.trod_lt m _ _ _ hm
  obtain ⟨z0, w0⟩ : ∃ zs, Is W (.slice a0 len0 cap0) zs := by
    obtain ⟨fuel, hf⟩ := h0
    obtain ⟨a, len, cap, zs, hcs, hz⟩ := open_is Try.underlying22 Try.underlying3 (by kernel_rfl) hf
    simp [Value.cells] at hcs
    obtain ⟨rfl, rfl, rfl⟩ := hcs
    exact ⟨zs, hz⟩
  obtain ⟨a1, len1, cap1, rfl⟩ := okWide_slice Try.underlying23 (hval 1 23 v1 rfl rfl)
  have k1 := h1
  have lt1 : ∀ x ∈ p1, x.block < W.heap.size := by obtain ⟨m, hm⟩ := k1; exact DataW.trod_lt m _ _ _ hm
  obtain ⟨z1, w1⟩ : ∃ zs, Sl W (.slice a1 len1 cap1) zs := by
    obtain ⟨fuel, hf⟩ := h1
    obtain ⟨a, len, cap, zs, hcs, hz⟩ := open_bytes Try.underlying23 Try.underlying5 (by kernel_rfl) hf
    simp [Value.cells] at hcs
    obtain ⟨rfl, rfl, rfl⟩ := hcs
    exact ⟨zs, hz⟩
  obtain ⟨a2, rfl, rfl, rfl, w2⟩ := open_int Try.underlying3 (hval 2 3 v2 rfl rfl) h2
  clear hA0 hval0
  refine (walk a0 len0 cap0 z0 a1 len1 cap1 z1 a2 W w0 w1 w2).mono fun e W' ⟨he, bel⟩ => ?_
  subst he
  exact ⟨_, rfl, _, _, _, [], _, [], hW', trodAll_mk1 (shut_bool Try.underlying4 _), (trodAll_cons_mk (Below.trod laidOut (by kernel_rfl) (of_decide_eq_true (by kernel_rfl)) k0 bel lt0) (trodAll_cons_mk (Below.trod laidOut (by kernel_rfl) (of_decide_eq_true (by kernel_rfl)) k1 bel lt1) (trodAll_cons_mk (shut_int Try.underlying3 w2) trodAll_mk0))), rfl, bel.frame _, fun h => by cases h⟩

theorem over : Rows.pageAllRow.holds Try.pinned (OpenSpec.ofChange Rows.pageAllSpec) :=
  OpenClaim.holds_of_wide 3 Try.f3 rfl rfl rfl rfl rfl rfl rfl ⟨rfl, rfl, rfl, rfl, rfl⟩ rfl rfl rfl rfl rfl (by kernel_rfl) Try.func3 (by kernel_rfl)
    (of_decide_eq_true (by kernel_rfl)) (by unfold Func.isWrapper; first | (rw [if_pos (by decide +kernel)]; kernel_rfl) | (rw [if_neg (by decide +kernel)]; exact ⟨rfl, rfl⟩))
    (fun os started H enc _ => lifted os started H enc)

theorem proved : Rows.PageAllSaid := over
#print axioms proved
end Go.Proofs.Ytmaahgoeblhoaaa.pageAll
