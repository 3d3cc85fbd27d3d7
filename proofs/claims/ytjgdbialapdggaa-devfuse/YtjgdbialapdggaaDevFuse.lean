/-
  For all ints n and fuse DevFuse returns true: of n calls (0 to 30) a device with a fuse (0 to 40) does just as many as the fuse says, all others tell ErrDown; Calls and Dead say so. No condition.
-/
import Derived.Test.YtjgdbialapdggaaRows
import Derived.WalkKit
import Derived.ProofKit
import Derived.OpenShut
import Derived.ShutString
import Derived.Test.YtjgdbialapdggaaDevB
import Derived.ChangeOld
import Derived.Below
namespace Go.Proofs.Ytjgdbialapdggaa.devFuse
open Go.ChangeShapes Go.WideShapes Go.ChangeAt Go.RowKit
open Go.ChangeMaps (open_string shut_string)
set_option linter.unusedVariables false

theorem own : ownKnob Try.prog.godebug = none := by kernel_rfl

/-- A device with a fuse: m calls done, f more may be. -/
def Fz (B : Nat) (w : World) (g bl m f : Nat) : Prop := B ≤ g ∧ B ≤ bl ∧ ∃ bm d, B ≤ bm ∧ DevAt w g bl bm d ∧ d.n = 4 ∧ d.calls = m ∧ d.fuse = some f

theorem Fz.later {B : Nat} {w w' : World} {g bl m f : Nat} (h : Fz B w g bl m f) (hb : Below w.heap.size w w') : Fz B w' g bl m f := by
  obtain ⟨h1, h2, bm, d, h3, h4, r⟩ := h
  exact ⟨h1, h2, bm, d, h3, h4.later hb, r⟩

theorem fz_write {B : Nat} {w : World} {g bl m f : Nat} (h : Fz B w g bl m (f + 1)) (hB : B ≤ w.heap.size) (hm : m < 1000) {z : Int} {i : Nat} (hz : z = (i : Int)) (hi : i < 4) {v : Value} {zs : List Int} (hv : Sl w v zs) (hl : zs.length ≤ 64) :
    Calls Try.prog 13 #[.pointer (some ⟨g, 0, none⟩), .int .i64 z, v] w fun e w' => e = .returned (.int .i64 0) ∧ Fz B w' g bl (m + 1) f ∧ Below B w w' := by
  obtain ⟨h1, h2, bm, d, h3, h4, h5, h6, h7⟩ := h
  refine (write_lit h4 (by simp [Dv.dead, h7]) (by omega) hz (by omega) hv hl).mono ?_
  rintro e w' ⟨rfl, r1, r2⟩
  exact ⟨rfl, ⟨h1, h2, bm, _, h3, r1, by simp [Dv.write, Dv.next, Dv.lay, h5], by simp [Dv.write, Dv.next, Dv.lay, h6], by simp [Dv.write, Dv.next, Dv.lay, h7]⟩, Below.but (Below.refl _ _) hB r2 (fun k e => by omega)⟩

theorem fz_write_no {B : Nat} {w : World} {g bl m : Nat} (h : Fz B w g bl m 0) (z : Int) (v : Value) :
    Calls Try.prog 13 #[.pointer (some ⟨g, 0, none⟩), .int .i64 z, v] w fun e w' => e = .returned (.int .i64 5) ∧ w' = w := by
  obtain ⟨h1, h2, bm, d, h3, h4, h5, h6, h7⟩ := h
  exact write_dead h4 (by simp [Dv.dead, h7]) z v

theorem fz_flush {B : Nat} {w : World} {g bl m f : Nat} (h : Fz B w g bl m (f + 1)) (hB : B ≤ w.heap.size) (hm : m < 1000) :
    Calls Try.prog 16 #[.pointer (some ⟨g, 0, none⟩)] w fun e w' => e = .returned (.int .i64 0) ∧ Fz B w' g bl (m + 1) f ∧ Below B w w' := by
  obtain ⟨h1, h2, bm, d, h3, h4, h5, h6, h7⟩ := h
  refine (flush_any h4 (by simp [Dv.dead, h7]) (by omega)).mono ?_
  rintro e w' ⟨rfl, bm', r1, r3, r2⟩
  exact ⟨rfl, ⟨h1, h2, bm', _, by omega, r1, by simp [Dv.flush, Dv.next, h5], by simp [Dv.flush, Dv.next, h6], by simp [Dv.flush, Dv.next, h7]⟩, Below.but (Below.refl _ _) hB r2 (fun k e => by omega)⟩

theorem fz_flush_no {B : Nat} {w : World} {g bl m : Nat} (h : Fz B w g bl m 0) :
    Calls Try.prog 16 #[.pointer (some ⟨g, 0, none⟩)] w fun e w' => e = .returned (.int .i64 5) ∧ w' = w := by
  obtain ⟨h1, h2, bm, d, h3, h4, h5, h6, h7⟩ := h
  exact flush_dead h4 (by simp [Dv.dead, h7])

theorem fz_calls {B : Nat} {w : World} {g bl m f : Nat} (h : Fz B w g bl m f) : Calls Try.prog 24 #[.pointer (some ⟨g, 0, none⟩)] w fun e w' => e = .returned (.int .i64 (m : Int)) ∧ w' = w := by
  obtain ⟨h1, h2, bm, d, h3, h4, h5, h6, h7⟩ := h
  rw [← h6]
  exact calls_any h4

theorem fz_dead {B : Nat} {w : World} {g bl m f : Nat} (h : Fz B w g bl m f) : Calls Try.prog 25 #[.pointer (some ⟨g, 0, none⟩)] w fun e w' => e = .returned (.bool (decide (f = 0))) ∧ w' = w := by
  obtain ⟨h1, h2, bm, d, h3, h4, h5, h6, h7⟩ := h
  have : d.dead = decide (f = 0) := by simp [Dv.dead, h7]
  rw [← this]
  exact dead_any h4

set_option maxRecDepth 100000 in
set_option maxHeartbeats 4000000 in
theorem walk (a0 : Int) (a1 : Int) (w0 : (Lit.int .i64 a0).wf = true) (w1 : (Lit.int .i64 a1).wf = true) (w : World) :
    Calls Try.prog 7 #[.int .i64 a0, .int .i64 a1] w fun e w' => e = .returned (.bool true) ∧ Below w.heap.size w w' := by
  clear w0 w1
  by_cases hd : 0 ≤ a0 ∧ a0 ≤ 30 ∧ 0 ≤ a1 ∧ a1 ≤ 40
  · obtain ⟨n, rfl⟩ := Int.eq_ofNat_of_zero_le hd.1
    obtain ⟨f, rfl⟩ := Int.eq_ofNat_of_zero_le hd.2.2.1
    have hn : n ≤ 30 := by omega
    have hf : f ≤ 40 := by omega
    clear hd
    have c1 : decide ((n : Int) < 0) = false := by simp
    have c2 : decide ((30 : Int) < (n : Int)) = false := by simp; omega
    have c3 : decide ((f : Int) < 0) = false := by simp
    have c4 : decide ((40 : Int) < (f : Int)) = false := by simp; omega
    go_enter Try.func7, Try.ntmps7
    go_wp2_with fail
    refine (begun_any _).mono ?_
    rintro e x1 ⟨rfl, hB1⟩
    go_wp2_with fail
    clear c1 c2 c3 c4
    refine (new_lit _ _ 4 rfl (by omega) (by omega)).mono ?_
    rintro e x2 ⟨g, bl, bm, rfl, h2, hg, hbl, hbm, hB2⟩
    have H2 := hide h2
    clear h2
    go_wp2_with fail
    refine (fuse_any H2.out f (by omega)).mono ?_
    rintro e x3 ⟨rfl, h3, hb3⟩
    have s1 := hB1.size
    have s2 := hB2.size
    have HB3 : Hid (Below w.heap.size w x3) := Below.but (hB1.trans (hB2.mono s1)) (by omega) hb3 (fun k e => by omega)
    have HF3 : Hid (Fz w.heap.size x3 g bl 0 f) := ⟨by omega, by omega, bm, _, by omega, h3, by simp [Dv.fused, Dv.dead, Dv.new], by simp [Dv.fused, Dv.dead, Dv.new], by simp [Dv.fused, Dv.dead, Dv.new]⟩
    clear h3 hb3 s1 s2 hB1 hB2 hg hbl hbm H2
    go_wp2_with fail
    go_loopw [7] (fun i wr => ∃ k : Nat, k ≤ n ∧ i = .int .i64 k ∧ Hid (Fz w.heap.size wr g bl (min k f) (f - k)) ∧ Hid (Below w.heap.size w wr)) (fun i _ => n - (intOf i).toNat)
    case atStart => exact ⟨0, Nat.zero_le _, rfl, by simpa using HF3, HB3⟩
    case round =>
      obtain ⟨k, hk, rfl, hF, hB⟩ := hrel
      clear HF3 HB3
      by_cases hkn : k < n
      · by_cases hkf : k < f
        · have HF : Hid (Fz w.heap.size wr g bl k (f - (k + 1) + 1)) := by
            have := hF.out
            rw [Nat.min_eq_left (by omega)] at this
            rw [show f - (k + 1) + 1 = f - k by omega]
            exact this
          clear hF
          have hlt : decide ((k : Int) < (f : Int)) = true := by simp; omega
          have hmn : min (k + 1) f = k + 1 := Nat.min_eq_left (by omega)
          have Hm := hide hmn
          clear hmn
          have Hs := hide hB.out.size
          by_cases h3 : k % 3 = 2
          · have h3' : ((k : Int) % 3 == 2) = true := by simp; omega
            go_wp2_with (first | (refine (fz_flush HF.out Hs.out (by omega)).mono ?_; rintro e y ⟨rfl, hF2, hB2⟩; replace hF2 := hide hF2; replace hB2 := hide hB2))
            go_roundw
            case rel => exact ⟨k + 1, by omega, by simp, by rw [Hm.out]; exact hF2, hB.out.trans hB2.out⟩
            case measure => simp [intOf]; omega
          · have h3' : ((k : Int) % 3 == 2) = false := by simp; omega
            go_wp2_with (first | (refine (fz_write (HF.out.later ((Below.refl _ _).alloc (Nat.le_refl _) _)) (Nat.le_trans Hs.out (by simp)) (by omega) (i := k % 4) (by omega) (by omega) (lit_sl _ _ _ (zs := [(k : Int) + 1]) (by intro z hz; simp at hz; omega) (by simp)) (by simp)).mono ?_; rintro e y ⟨rfl, hF2, hB2⟩; replace hF2 := hide hF2; replace hB2 := hide hB2))
            go_roundw
            case rel => exact ⟨k + 1, by omega, by simp, by rw [Hm.out]; exact hF2, (hB.out.alloc Hs.out _).trans hB2.out⟩
            case measure => simp [intOf]; omega
        · have HF : Hid (Fz w.heap.size wr g bl f 0) := by
            have := hF.out
            rw [Nat.min_eq_right (by omega), show f - k = 0 by omega] at this
            exact this
          clear hF
          have hlt : decide ((k : Int) < (f : Int)) = false := by simp; omega
          have Hs := hide hB.out.size
          have Hf2 : Hid (min (k + 1) f = f ∧ f - (k + 1) = 0) := ⟨Nat.min_eq_right (by omega), by omega⟩
          by_cases h3 : k % 3 = 2
          · have h3' : ((k : Int) % 3 == 2) = true := by simp; omega
            go_wp2_with (first | (refine (fz_flush_no HF.out).mono ?_; rintro e y ⟨rfl, rfl⟩))
            go_roundw
            case rel => exact ⟨k + 1, by omega, by simp, by rw [Hf2.out.1, Hf2.out.2]; exact HF, hB⟩
            case measure => simp [intOf]; omega
          · have h3' : ((k : Int) % 3 == 2) = false := by simp; omega
            go_wp2_with (first | (refine (fz_write_no (HF.out.later ((Below.refl _ _).alloc (Nat.le_refl _) _)) _ _).mono ?_; rintro e y ⟨rfl, rfl⟩))
            go_roundw
            case rel => exact ⟨k + 1, by omega, by simp, by rw [Hf2.out.1, Hf2.out.2]; exact HF.out.later ((Below.refl _ _).alloc (Nat.le_refl _) _), hB.out.alloc Hs.out _⟩
            case measure => simp [intOf]; omega
      · obtain rfl : k = n := by omega
        have Hge : Hid (decide (f - k = 0) = decide ((f : Int) ≤ (k : Int))) := by show _ = _; rw [decide_eq_decide]; omega
        obtain ⟨M, hM⟩ : ∃ M, min k f = M := ⟨_, rfl⟩
        have hmin : (if (f : Int) < (k : Int) then (f : Int) else (k : Int)) = (M : Int) := by rw [← hM]; split <;> omega
        rw [hM] at hF
        clear hM hk hkn
        go_wp2_with fail
        refine (fz_calls hF.out).mono ?_
        rintro e y ⟨rfl, rfl⟩
        go_wp2_with fail
        refine (fz_dead hF.out).mono ?_
        rintro e y ⟨rfl, rfl⟩
        rw [Hge.out]
        go_wp2_with fail
        go_ret
        exact ⟨ret_bool (by simp), hB.out⟩
  · have hc : a0 < 0 ∨ (0 ≤ a0 ∧ 30 < a0) ∨ (0 ≤ a0 ∧ a0 ≤ 30 ∧ a1 < 0) ∨ (0 ≤ a0 ∧ a0 ≤ 30 ∧ 0 ≤ a1 ∧ 40 < a1) := by omega
    clear hd
    rcases hc with hc | hc | hc | hc
    all_goals
      go_enter Try.func7, Try.ntmps7
      go_wp2_with fail
      refine (begun_any _).mono ?_
      rintro e x1 ⟨rfl, hB1⟩
      go_wp2_with fail
      go_ret
      exact ⟨rfl, hB1⟩

set_option maxRecDepth 100000 in
theorem lifted (os : Os) (started : os.Started) (H : Type) (enc : TypeId × Value → H) :
    ReturnsInHanded {} Try.checked os 7 .any (Rows.devFuseSpec.pre6 enc Try.prog Try.f7 Rows.devFuseRow.domain false) (Rows.devFuseSpec.post enc Try.prog Try.f7 false true false false) := by
  refine returnsInHanded_of_change (C := Try.checked) own started (by kernel_rfl) Try.func7
    (ChangeSpec.witness6 (enc := enc) (C := Try.checked) false ⟨#[], #[.int .i64 0, .int .i64 0], []⟩ 8 (by kernel_rfl) (by kernel_rfl) (by kernel_rfl) (by kernel_rfl)) ?_
  intro W base args ds gs before hval0 hW hcnd _
  have hval : ∀ (j : Nat) t v, Try.f7.params[j]? = some t → args[j]? = some v → Value.okWide Try.prog W .any base t v := hval0
  have hW' := hW
  obtain ⟨p, q, hA0, hV, rfl, hfz, hnd⟩ := hW
  have hA : DataW.TrodAll enc Try.prog W 0 (fun _ => true) true Try.f7.params.toList args.toList ds p := hA0
  rw [Try.params7] at hA hval
  obtain ⟨v0, vs0, d0, ds0, p0, q0, hargs, rfl, rfl, h0, r0⟩ := trodAll_cons hA
  obtain ⟨v1, vs1, d1, ds1, p1, q1, rfl, rfl, rfl, h1, r1⟩ := trodAll_cons r0
  obtain ⟨rfl, rfl, rfl⟩ := trodAll_nil r1
  obtain rfl : args = #[v0, v1] := by cases args; simp_all
  obtain ⟨rfl, rfl⟩ := trodVars_none hV
  obtain ⟨a0, rfl, rfl, rfl, w0⟩ := open_int Try.underlying3 (hval 0 3 v0 rfl rfl) h0
  obtain ⟨a1, rfl, rfl, rfl, w1⟩ := open_int Try.underlying3 (hval 1 3 v1 rfl rfl) h1
  clear hA0 hval0
  refine (walk a0 a1 w0 w1 W).mono fun e W' ⟨he, bel⟩ => ?_
  subst he
  exact ⟨_, rfl, _, _, _, [], _, [], hW', trodAll_mk1 (shut_bool Try.underlying4 _), (trodAll_cons_mk (shut_int Try.underlying3 w0) (trodAll_cons_mk (shut_int Try.underlying3 w1) trodAll_mk0)), rfl, bel.frame _, fun h => by cases h⟩

theorem over : Rows.devFuseRow.holds Try.pinned (OpenSpec.ofChange Rows.devFuseSpec) :=
  OpenClaim.holds_of_wide 7 Try.f7 rfl rfl rfl rfl rfl rfl rfl ⟨rfl, rfl, rfl, rfl, rfl⟩ rfl rfl rfl rfl rfl (by kernel_rfl) Try.func7 (by kernel_rfl)
    (of_decide_eq_true (by kernel_rfl)) (by unfold Func.isWrapper; first | (rw [if_pos (by decide +kernel)]; kernel_rfl) | (rw [if_neg (by decide +kernel)]; exact ⟨rfl, rfl⟩))
    (fun os started H enc _ => lifted os started H enc)

theorem proved : Rows.DevFuseSaid :=
  over
#print axioms proved
end Go.Proofs.Ytjgdbialapdggaa.devFuse
