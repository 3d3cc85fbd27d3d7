/-
  For all slices of ints, of bools and of bools, and every int flush DevTwice returns true: what a Crash left, of 16 sectors written at most 30 times and flushed once or not, falls again as it is, whatever is kept. No condition.
-/
import Derived.Test.YtjgdbialapdggaaRows
import Derived.WalkKit
import Derived.ProofKit
import Derived.OpenShut
import Derived.ShutString
import Derived.ChangeOld
import Derived.Below
import Derived.Test.YtjgdbialapdggaaDevB
import Derived.Test.YtjgdbialapdggaaOpn
namespace Go.Proofs.Ytjgdbialapdggaa.devTwice
open Go.ChangeShapes Go.WideShapes Go.ChangeAt Go.RowKit
open Go.ChangeMaps (open_string shut_string)
set_option linter.unusedVariables false

theorem own : ownKnob Try.prog.godebug = none := by kernel_rfl
theorem laidOut : laidOutB Try.prog = true := by kernel_rfl

/-- A device of 16 sectors behind at most m calls. -/
def Tw (B : Nat) (w : World) (g bl m : Nat) : Prop := B ≤ g ∧ B ≤ bl ∧ ∃ bm d, B ≤ bm ∧ DevAt w g bl bm d ∧ d.n = 16 ∧ d.calls ≤ m ∧ d.fuse = none

theorem Tw.later {B : Nat} {w w' : World} {g bl m : Nat} (h : Tw B w g bl m) (hb : Below w.heap.size w w') : Tw B w' g bl m := by
  obtain ⟨h1, h2, bm, d, h3, h4, r⟩ := h
  exact ⟨h1, h2, bm, d, h3, h4.later hb, r⟩

theorem tw_write {B : Nat} {w : World} {g bl m : Nat} (h : Tw B w g bl m) (hB : B ≤ w.heap.size) (hm : m < 1000) {z : Int} {i : Nat} (hz : z = (i : Int)) (hi : i < 16) {v : Value} {zs : List Int} (hv : Sl w v zs) (hl : zs.length ≤ 64) :
    Calls Try.prog 13 #[.pointer (some ⟨g, 0, none⟩), .int .i64 z, v] w fun e w' => e = .returned (.int .i64 0) ∧ Tw B w' g bl (m + 1) ∧ Below B w w' := by
  obtain ⟨h1, h2, bm, d, h3, h4, h5, h6, h7⟩ := h
  refine (write_lit h4 (by simp [Dv.dead, h7]) (by omega) hz (by omega) hv hl).mono ?_
  rintro e w' ⟨rfl, r1, r2⟩
  exact ⟨rfl, ⟨h1, h2, bm, _, h3, r1, by simp [Dv.write, Dv.next, Dv.lay, h5], by simp [Dv.write, Dv.next, Dv.lay]; omega, by simp [Dv.write, Dv.next, Dv.lay, h7]⟩, Below.but (Below.refl _ _) hB r2 (fun k e => by omega)⟩

theorem tw_flush {B : Nat} {w : World} {g bl m : Nat} (h : Tw B w g bl m) (hB : B ≤ w.heap.size) (hm : m < 1000) :
    Calls Try.prog 16 #[.pointer (some ⟨g, 0, none⟩)] w fun e w' => e = .returned (.int .i64 0) ∧ Tw B w' g bl (m + 1) ∧ Below B w w' := by
  obtain ⟨h1, h2, bm, d, h3, h4, h5, h6, h7⟩ := h
  refine (flush_any h4 (by simp [Dv.dead, h7]) (by omega)).mono ?_
  rintro e w' ⟨rfl, bm', r1, r3, r2⟩
  exact ⟨rfl, ⟨h1, h2, bm', _, by omega, r1, by simp [Dv.flush, Dv.next, h5], by simp [Dv.flush, Dv.next]; omega, by simp [Dv.flush, Dv.next, h7]⟩, Below.but (Below.refl _ _) hB r2 (fun k e => by omega)⟩

theorem tw_mono {B : Nat} {w : World} {g bl m m' : Nat} (h : Tw B w g bl m) (hm : m ≤ m') : Tw B w g bl m' := by
  obtain ⟨h1, h2, bm, d, h3, h4, h5, h6, h7⟩ := h
  exact ⟨h1, h2, bm, d, h3, h4, h5, by omega, h7⟩

theorem crash_los (d : Dv) (ks : List Bool) : (d.crash ks).los = [] := by simp [Dv.los, Dv.crash]
theorem crash_twice (d : Dv) (ks ks2 : List Bool) (i : Nat) : ((d.crash ks).crash ks2).at_ i = (d.crash ks).at_ i := by
  show ((d.crash ks).kept ks2 i) = d.kept ks i
  unfold Dv.kept
  split <;> rfl

set_option maxRecDepth 100000 in
set_option maxHeartbeats 8000000 in
theorem walk (a0 : Option Addr) (len0 cap0 : Nat) (z0 : List Int) (a1 : Int) (a2 : Option Addr) (len2 cap2 : Nat) (z2 : List Bool) (a3 : Option Addr) (len3 cap3 : Nat) (z3 : List Bool) (w : World)
    (w0 : Is w (.slice a0 len0 cap0) z0) (w1 : (Lit.int .i64 a1).wf = true) (w2 : Rw w (.slice a2 len2 cap2) (bo z2)) (w3 : Rw w (.slice a3 len3 cap3) (bo z3)) :
    Calls Try.prog 6 #[.slice a0 len0 cap0, .int .i64 a1, .slice a2 len2 cap2, .slice a3 len3 cap3] w fun e w' => e = .returned (.bool true) ∧ Below w.heap.size w w' := by
  clear w1
  obtain ⟨p, n0, c0, e, hn0, hc0, Hn0, HZ⟩ := w0.1.opens
  simp at e
  obtain ⟨rfl, rfl, rfl⟩ := e
  have HZb := hide w0.2
  have H2 := hide w2
  have H3 := hide w3
  clear w0 w2 w3
  go_enter Try.func6, Try.ntmps6
  go_wp2_with fail
  refine (begun_any _).mono ?_
  rintro e x1 ⟨rfl, hB1⟩
  have HB1 := hide hB1
  clear hB1
  go_wp2_with fail
  refine (new_lit _ _ 16 rfl (by omega) (by omega)).mono ?_
  rintro e x2 ⟨g, bl, bm, rfl, h2, hg, hbl, hbm, hB2⟩
  have s1 := HB1.out.size
  have HT2 : Hid (Tw w.heap.size x2 g bl 0) := ⟨by omega, by omega, bm, _, by omega, h2, rfl, Nat.le_refl _, rfl⟩
  have HB2 := hide (HB1.out.trans (hB2.mono HB1.out.size))
  clear h2 hB2 HB1 hg hbl hbm s1
  go_wp2_with fail
  go_loopw [11] (fun i wr => ∃ k : Nat, k ≤ len0 ∧ k ≤ 30 ∧ i = .int .i64 k ∧ Hid (Tw w.heap.size wr g bl (2 * k)) ∧ Hid (Below w.heap.size w wr)) (fun i _ => len0 - (intOf i).toNat)
  case atStart => exact ⟨0, Nat.zero_le _, Nat.zero_le _, rfl, HT2, HB2⟩
  case round =>
    obtain ⟨k, hk0, hk30, rfl, HT, HB⟩ := hrel
    clear HT2 HB2
    by_cases hgo : k < len0 ∧ k < 30
    · obtain ⟨hk, hk2⟩ := hgo
      have hkz : k < z0.length := by have := Hn0.out; simp at this; omega
      obtain ⟨bz, oz, rfl, hcz⟩ := (HZ.out.later HB.out).cell (i := k) (by simpa using hkz)
      obtain ⟨r, hr⟩ : ∃ r, z0[k].tmod 16 = r := ⟨_, rfl⟩
      have hr1 : -15 ≤ r ∧ r ≤ 15 := by rw [← hr]; have := Int.tmod_lt_of_pos z0[k] (show (0 : Int) < 16 by omega); have := Int.lt_tmod_of_pos z0[k] (show (0 : Int) < 16 by omega); omega
      obtain ⟨r1, r2⟩ := hr1
      obtain ⟨j, hj⟩ : ∃ j : Nat, (r + 16) % 16 = (j : Int) := ⟨((r + 16) % 16).toNat, by omega⟩
      have hj16 : j < 16 := by omega
      have hcz' : wr.cell? ⟨bz, oz + k, none⟩ = some (.int .i64 z0[k]) := by rw [hcz]; simp
      have hzb := HZb.out z0[k] (List.getElem_mem hkz)
      generalize z0[k] = z at *
      have Hs := hide HB.out.size
      clear hcz
      by_cases hfl : (k : Int) = a1
      · have hf1 : ((k : Int) == a1) = true := by simp [hfl]
        clear hfl
        go_wp2_with fail
        refine (tw_write (HT.out.later ((Below.refl _ _).alloc (Nat.le_refl _) _)) (Nat.le_trans Hs.out (by simp)) (by omega) (i := j) rfl hj16 (lit_sl _ _ _ (zs := [(k : Int) + 1]) (by intro z hz; simp at hz; omega) (by simp)) (by simp)).mono ?_
        rintro e y ⟨rfl, hT3, hB3⟩
        have HT3 := hide hT3
        have HB3 := hide ((HB.out.alloc Hs.out _).trans hB3)
        clear hT3 hB3 HT HB hr hj r1 r2 hcz' hzb
        go_wp2_with fail
        refine (tw_flush HT3.out HB3.out.size (by omega)).mono ?_
        rintro e y2 ⟨rfl, hT4, hB4⟩
        have HT4 := hide hT4
        have HB4 := hide (HB3.out.trans hB4)
        clear hT4 hB4 HT3 HB3
        go_wp2_with fail
        go_roundw
        case rel => exact ⟨k + 1, by omega, by omega, by simp, HT4, HB4⟩
        case measure => simp [intOf]; omega
      · have hf1 : ((k : Int) == a1) = false := by simp [hfl]
        clear hfl
        go_wp2_with fail
        refine (tw_write (HT.out.later ((Below.refl _ _).alloc (Nat.le_refl _) _)) (Nat.le_trans Hs.out (by simp)) (by omega) (i := j) rfl hj16 (lit_sl _ _ _ (zs := [(k : Int) + 1]) (by intro z hz; simp at hz; omega) (by simp)) (by simp)).mono ?_
        rintro e y ⟨rfl, hT3, hB3⟩
        have HT3 := hide hT3
        have HB3 := hide ((HB.out.alloc Hs.out _).trans hB3)
        clear hT3 hB3 HT HB hr hj r1 r2 hcz' hzb
        go_wp2_with fail
        go_roundw
        case rel => exact ⟨k + 1, by omega, by omega, by simp, tw_mono HT3.out (by omega), HB3⟩
        case measure => simp [intOf]; omega
    · have hout : ¬ k < len0 ∨ (k < len0 ∧ ¬ k < 30) := by omega
      clear hgo
      obtain ⟨-, -, bm3, d, -, hd, hd16, -, -⟩ := HT.out
      have HD := hide hd
      have Hn16 := hide hd16
      clear hd hd16 HT
      rcases hout with hout | ⟨hout1, hout⟩
      all_goals
        go_wp2_with fail
        refine (crash_any HD.out (ks := z2) (H2.out.later HB.out)).mono ?_
        rintro e x4 ⟨g4, bl4, bm4, rfl, h4, -, -, -, hB4⟩
        have HA4 := hide h4
        have HB4 := hide (HB.out.trans (hB4.mono HB.out.size))
        clear h4 hB4 HB HD
        go_wp2_with fail
        refine (crash_any HA4.out (ks := z3) (H3.out.later HB4.out)).mono ?_
        rintro e x5 ⟨g5, bl5, bm5, rfl, h5, -, -, -, hB5⟩
        have HA5 := hide (HA4.out.later hB5)
        have HC5 := hide h5
        have HB5 := hide (HB4.out.trans (hB5.mono HB4.out.size))
        clear h5 hB5 HA4 HB4
        go_wp2_with fail
        go_loopw [14] (fun i wr => ∃ m : Nat, m ≤ 16 ∧ i = .int .i64 m ∧ Hid (DevAt wr g4 bl4 bm4 (d.crash z2)) ∧ Hid (DevAt wr g5 bl5 bm5 ((d.crash z2).crash z3)) ∧ Hid (Below w.heap.size w wr)) (fun i _ => 16 - (intOf i).toNat)
        case atStart => exact ⟨0, Nat.zero_le _, rfl, HA5, HC5, HB5⟩
        case round =>
          obtain ⟨m, hm, rfl, HA, HC, HB⟩ := hrel
          clear HA5 HC5 HB5
          by_cases hm16 : m < 16
          · have HmA : Hid (m < (d.crash z2).n) := by show m < d.n; rw [Hn16.out]; exact hm16
            have HSA := hide (Dv.Ok.at_ HA.out.ok HmA.out)
            go_wp2_with fail
            refine (read_any HA.out HmA.out).mono ?_
            rintro e x6 ⟨b6, rfl, hx6, hb6, hB6⟩
            have HA6 := hide (HA.out.later hB6)
            have HC6 := hide (HC.out.later hB6)
            have HX6 := hide hx6
            have HB6 := hide (HB.out.trans (hB6.mono HB.out.size))
            clear hx6 hb6 hB6 HA HC HB
            go_wp2_with fail
            refine (read_any HC6.out HmA.out).mono ?_
            rw [crash_twice]
            rintro e x7 ⟨b7, rfl, hx7, hb7, hB7⟩
            have HA7 := hide (HA6.out.later hB7)
            have HC7 := hide (HC6.out.later hB7)
            have HB7 := hide (HB6.out.trans (hB7.mono HB6.out.size))
            have cv6 := (Sl.own ((HX6.out.later hB7).own HSA.out (Nat.le_refl _)) HSA.out.2).conv (P := Try.prog) 31 9 5 Try.underlying31 Try.underlying5 Try.underlying9
            have cv7 := (Sl.own (hx7.own HSA.out (Nat.le_refl _)) HSA.out.2).conv (P := Try.prog) 31 9 5 Try.underlying31 Try.underlying5 Try.underlying9
            clear hx7 hb7 hB7 HA6 HC6 HX6 HB6 HSA HmA
            go_wp2_with fail
            go_roundw
            case rel => exact ⟨m + 1, by omega, by simp, HA7, HC7, HB7⟩
            case measure => simp [intOf]; omega
          · obtain rfl : m = 16 := by omega
            clear hm hm16
            go_wp2_with fail
            refine (calls_any HC.out).mono ?_
            rintro e wr ⟨rfl, rfl⟩
            rw [show ((((d.crash z2).crash z3).calls : Nat) : Int) = 0 from rfl]
            go_wp2_with fail
            refine (dead_any HC.out).mono ?_
            rintro e wr ⟨rfl, rfl⟩
            rw [show ((d.crash z2).crash z3).dead = false from rfl]
            go_wp2_with fail
            refine (loose_any HC.out).mono ?_
            rw [crash_los]
            rintro e x8 ⟨lv, rfl, ho8, hB8⟩
            obtain ⟨pl, nl, cl, rfl, hnl, hcl, Hnl, -⟩ := (Rw.own ho8).opens
            obtain rfl : nl = 0 := Hnl.out
            have HB8 := hide (HB.out.trans (hB8.mono HB.out.size))
            clear ho8 hB8
            go_wp2_with fail
            go_ret
            exact ⟨rfl, HB8.out⟩

set_option maxRecDepth 100000 in
theorem lifted (os : Os) (started : os.Started) (H : Type) (enc : TypeId × Value → H) :
    ReturnsInHanded {} Try.checked os 6 .any (Rows.devTwiceSpec.pre6 enc Try.prog Try.f6 Rows.devTwiceRow.domain false) (Rows.devTwiceSpec.post enc Try.prog Try.f6 false true false false) := by
  refine returnsInHanded_of_change (C := Try.checked) own started (by kernel_rfl) Try.func6
    (ChangeSpec.witness6 (enc := enc) (C := Try.checked) false ⟨#[], #[.slice none 0 0, .int .i64 0, .slice none 0 0, .slice none 0 0], []⟩ 8 (by kernel_rfl) (by kernel_rfl) (by kernel_rfl) (by kernel_rfl)) ?_
  intro W base args ds gs before hval0 hW hcnd _
  have hval : ∀ (j : Nat) t v, Try.f6.params[j]? = some t → args[j]? = some v → Value.okWide Try.prog W .any base t v := hval0
  have hW' := hW
  obtain ⟨p, q, hA0, hV, rfl, hfz, hnd⟩ := hW
  have hA : DataW.TrodAll enc Try.prog W 0 (fun _ => true) true Try.f6.params.toList args.toList ds p := hA0
  rw [Try.params6] at hA hval
  obtain ⟨v0, vs0, d0, ds0, p0, q0, hargs, rfl, rfl, h0, r0⟩ := trodAll_cons hA
  obtain ⟨v1, vs1, d1, ds1, p1, q1, rfl, rfl, rfl, h1, r1⟩ := trodAll_cons r0
  obtain ⟨v2, vs2, d2, ds2, p2, q2, rfl, rfl, rfl, h2, r2⟩ := trodAll_cons r1
  obtain ⟨v3, vs3, d3, ds3, p3, q3, rfl, rfl, rfl, h3, r3⟩ := trodAll_cons r2
  obtain ⟨rfl, rfl, rfl⟩ := trodAll_nil r3
  obtain rfl : args = #[v0, v1, v2, v3] := by cases args; simp_all
  obtain ⟨rfl, rfl⟩ := trodVars_none hV
  obtain ⟨a0, len0, cap0, rfl⟩ := okWide_slice Try.underlying46 (hval 0 46 v0 rfl rfl)
  have k0 := h0
  have lt0 : ∀ x ∈ p0, x.block < W.heap.size := by obtain ⟨m, hm⟩ := k0; exact DataW.trod_lt m _ _ _ hm
  obtain ⟨z0, w0⟩ : ∃ zs, Is W (.slice a0 len0 cap0) zs := by
    obtain ⟨fuel, hf⟩ := h0
    obtain ⟨a, len, cap, zs, hcs, hz⟩ := open_is Try.underlying46 Try.underlying3 (by kernel_rfl) hf
    simp [Value.cells] at hcs
    obtain ⟨rfl, rfl, rfl⟩ := hcs
    exact ⟨zs, hz⟩
  obtain ⟨a1, rfl, rfl, rfl, w1⟩ := open_int Try.underlying3 (hval 1 3 v1 rfl rfl) h1
  obtain ⟨a2, len2, cap2, rfl⟩ := okWide_slice Try.underlying28 (hval 2 28 v2 rfl rfl)
  have k2 := h2
  have lt2 : ∀ x ∈ p2, x.block < W.heap.size := by obtain ⟨m, hm⟩ := k2; exact DataW.trod_lt m _ _ _ hm
  obtain ⟨z2, w2⟩ : ∃ zs, Rw W (.slice a2 len2 cap2) (bo zs) := by
    obtain ⟨fuel, hf⟩ := h2
    obtain ⟨a, len, cap, zs, hcs, hz⟩ := open_bools Try.underlying28 Try.underlying4 (by kernel_rfl) hf
    simp [Value.cells] at hcs
    obtain ⟨rfl, rfl, rfl⟩ := hcs
    exact ⟨zs, hz⟩
  obtain ⟨a3, len3, cap3, rfl⟩ := okWide_slice Try.underlying28 (hval 3 28 v3 rfl rfl)
  have k3 := h3
  have lt3 : ∀ x ∈ p3, x.block < W.heap.size := by obtain ⟨m, hm⟩ := k3; exact DataW.trod_lt m _ _ _ hm
  obtain ⟨z3, w3⟩ : ∃ zs, Rw W (.slice a3 len3 cap3) (bo zs) := by
    obtain ⟨fuel, hf⟩ := h3
    obtain ⟨a, len, cap, zs, hcs, hz⟩ := open_bools Try.underlying28 Try.underlying4 (by kernel_rfl) hf
    simp [Value.cells] at hcs
    obtain ⟨rfl, rfl, rfl⟩ := hcs
    exact ⟨zs, hz⟩
  clear hA0 hval0
  refine (walk a0 len0 cap0 z0 a1 a2 len2 cap2 z2 a3 len3 cap3 z3 W w0 w1 w2 w3).mono fun e W' ⟨he, bel⟩ => ?_
  subst he
  exact ⟨_, rfl, _, _, _, [], _, [], hW', trodAll_mk1 (shut_bool Try.underlying4 _), (trodAll_cons_mk (Below.trod laidOut (by kernel_rfl) (of_decide_eq_true (by kernel_rfl)) k0 bel lt0) (trodAll_cons_mk (shut_int Try.underlying3 w1) (trodAll_cons_mk (Below.trod laidOut (by kernel_rfl) (of_decide_eq_true (by kernel_rfl)) k2 bel lt2) (trodAll_cons_mk (Below.trod laidOut (by kernel_rfl) (of_decide_eq_true (by kernel_rfl)) k3 bel lt3) trodAll_mk0)))), rfl, bel.frame _, fun h => by cases h⟩

theorem over : Rows.devTwiceRow.holds Try.pinned (OpenSpec.ofChange Rows.devTwiceSpec) :=
  OpenClaim.holds_of_wide 6 Try.f6 rfl rfl rfl rfl rfl rfl rfl ⟨rfl, rfl, rfl, rfl, rfl⟩ rfl rfl rfl rfl rfl (by kernel_rfl) Try.func6 (by kernel_rfl)
    (of_decide_eq_true (by kernel_rfl)) (by unfold Func.isWrapper; first | (rw [if_pos (by decide +kernel)]; kernel_rfl) | (rw [if_neg (by decide +kernel)]; exact ⟨rfl, rfl⟩))
    (fun os started H enc _ => lifted os started H enc)

theorem proved : Rows.DevTwiceSaid := over
#print axioms proved
end Go.Proofs.Ytjgdbialapdggaa.devTwice
