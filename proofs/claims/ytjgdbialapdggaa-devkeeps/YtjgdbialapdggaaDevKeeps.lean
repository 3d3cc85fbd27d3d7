/-
  For every int n and every slice of bools DevKeeps returns true: of n loose sectors (0 to 20) Crash keeps just those, rising, that it is told to keep. No condition.
-/
import Derived.Test.YtjgdbialapdggaaRows
import Derived.WalkKit
import Derived.ProofKit
import Derived.OpenShut
import Derived.ShutString
import Derived.ChangeOld
import Derived.Below
import Derived.Test.YtjgdbialapdggaaDevB
import Derived.Test.YtjgdbialapdggaaOpn
namespace Go.Proofs.Ytjgdbialapdggaa.devKeeps
open Go.ChangeShapes Go.WideShapes Go.ChangeAt Go.RowKit
open Go.ChangeMaps (open_string shut_string)
set_option linter.unusedVariables false

theorem own : ownKnob Try.prog.godebug = none := by kernel_rfl
theorem laidOut : laidOutB Try.prog = true := by kernel_rfl

/-- n sectors written. -/
def kp : Nat → Dv
  | 0 => Dv.new 40
  | k + 1 => (kp k).write (39 - 2 * k) [(k : Int) + 1]

theorem kp_n : ∀ k, (kp k).n = 40
  | 0 => rfl
  | k + 1 => by show (kp k).n = 40; exact kp_n k
theorem kp_calls : ∀ k, (kp k).calls = k
  | 0 => rfl
  | k + 1 => by show (kp k).calls + 1 = k + 1; rw [kp_calls k]
theorem kp_fuse : ∀ k, (kp k).fuse = none
  | 0 => rfl
  | k + 1 => by show (kp k).fuse.map (· - 1) = none; rw [kp_fuse k]; rfl
theorem kp_last : ∀ k i, (kp k).last i = nought
  | 0, _ => rfl
  | k + 1, i => by show (kp k).last i = nought; exact kp_last k i
theorem kp_dead (k : Nat) : (kp k).dead = false := by simp [Dv.dead, kp_fuse]

theorem kp_rank : ∀ n, n ≤ 20 → ∀ i, i < n → (kp n).rank (39 - 2 * i) = n - 1 - i := by decide +kernel
theorem kp_los : ∀ n, n ≤ 20 → (kp n).los.length = n := by decide +kernel
theorem kp_at : ∀ n, n ≤ 20 → ∀ i, i < n → ((kp n).at_ (39 - 2 * i)).getD 0 0 = (i : Int) + 1 := by decide +kernel

theorem kp_kept {n i : Nat} (hn : n ≤ 20) (hi : i < n) (ks : List Bool) {r : Bool} (hr : ks.getD (n - 1 - i) false = r) : (((kp n).crash ks).at_ (39 - 2 * i)).getD 0 0 = if r then (i : Int) + 1 else 0 := by
  show ((kp n).kept ks (39 - 2 * i)).getD 0 0 = _
  unfold Dv.kept
  rw [kp_rank n hn i hi, hr]
  cases r
  · simp only [Bool.false_eq_true, if_false, kp_last]; rfl
  · simp only [if_true]; exact kp_at n hn i hi

theorem crash_los (d : Dv) (ks : List Bool) : (d.crash ks).los = [] := by
  simp [Dv.los, Dv.crash]

set_option maxRecDepth 100000 in
set_option maxHeartbeats 8000000 in
theorem walk (a0 : Int) (a1 : Option Addr) (len1 cap1 : Nat) (z1 : List Bool) (w : World) (w0 : (Lit.int .i64 a0).wf = true) (w1 : Rw w (.slice a1 len1 cap1) (bo z1)) :
    Calls Try.prog 8 #[.int .i64 a0, .slice a1 len1 cap1] w fun e w' => e = .returned (.bool true) ∧ Below w.heap.size w w' := by
  clear w0
  obtain ⟨p, nk, ck, e, hnk, hck, Hnk, HK⟩ := w1.opens
  simp at e
  obtain ⟨rfl, rfl, rfl⟩ := e
  clear w1
  by_cases hd : 0 ≤ a0 ∧ a0 ≤ 20
  · obtain ⟨n, rfl⟩ := Int.eq_ofNat_of_zero_le hd.1
    have hn : n ≤ 20 := by omega
    clear hd
    have c1 : decide ((n : Int) < 0) = false := by simp
    have c2 : decide ((20 : Int) < (n : Int)) = false := by simp; omega
    go_enter Try.func8, Try.ntmps8
    go_wp2_with fail
    refine (begun_any _).mono ?_
    rintro e x1 ⟨rfl, hB1⟩
    have HB1 := hide hB1
    clear hB1
    go_wp2_with fail
    clear c1 c2
    refine (new_lit _ _ 40 rfl (by omega) (by omega)).mono ?_
    rintro e x2 ⟨g, bl, bm, rfl, h2, hg, hbl, hbm, hB2⟩
    have H2 : Hid (DevAt x2 g bl bm (kp 0)) := h2
    have HB2 := hide (HB1.out.trans (hB2.mono HB1.out.size))
    have Hg : Hid (w.heap.size ≤ g ∧ w.heap.size ≤ bm) := ⟨Nat.le_trans HB1.out.size hg, Nat.le_trans HB1.out.size hbm⟩
    clear h2 hB2 HB1 hg hbl hbm
    go_wp2_with fail
    go_loopw [7] (fun i wr => ∃ k : Nat, k ≤ n ∧ i = .int .i64 k ∧ Hid (DevAt wr g bl bm (kp k)) ∧ Hid (Below w.heap.size w wr)) (fun i _ => n - (intOf i).toNat)
    case atStart => exact ⟨0, Nat.zero_le _, rfl, H2, HB2⟩
    case round =>
      obtain ⟨k, hk, rfl, H, HB⟩ := hrel
      clear H2 HB2
      by_cases hkn : k < n
      · have hix : (39 : Int) - 2 * (k : Int) = ((39 - 2 * k : Nat) : Int) := by omega
        have Hn1 : Hid (39 - 2 * k < (kp k).n) := by show _ < _; rw [kp_n]; omega
        have Hc1 : Hid ((kp k).calls < 999999) := by show _ < _; rw [kp_calls]; omega
        have Hs := hide HB.out.size
        go_wp2_with fail
        refine (write_lit (H.out.later ((Below.refl _ _).alloc (Nat.le_refl _) _)) (kp_dead k) Hc1.out (i := 39 - 2 * k) (by omega) Hn1.out (lit_sl _ _ _ (zs := [(k : Int) + 1]) (by intro z hz; simp at hz; omega) (by simp)) (by simp)).mono ?_
        rintro e y ⟨rfl, h3, hb3⟩
        have gg := Hg.out
        have HB3 : Hid (Below w.heap.size w y) := Below.but (HB.out.alloc Hs.out _) (by have := Hs.out; simp; omega) hb3 (fun k e => by omega)
        have H3 := hide h3
        clear h3 hb3 gg HB H hix
        go_wp2_with fail
        go_roundw
        case rel => exact ⟨k + 1, by omega, by simp, H3, HB3⟩
        case measure => simp [intOf]; omega
      · obtain rfl : k = n := by omega
        clear hk hkn
        go_wp2_with fail
        refine (crash_any H.out (ks := z1) (HK.out.later HB.out)).mono ?_
        rintro e x4 ⟨g4, bl4, bm4, rfl, h4, hg4, hbl4, hbm4, hB4⟩
        have H4 := hide (H.out.later hB4)
        have HC4 := hide h4
        have HB4 := hide (HB.out.trans (hB4.mono HB.out.size))
        clear h4 hB4 H HB hg4 hbl4 hbm4
        go_wp2_with fail
        go_loopw [9] (fun i wr => ∃ j : Nat, j ≤ k ∧ i = .int .i64 j ∧ Hid (DevAt wr g bl bm (kp k)) ∧ Hid (DevAt wr g4 bl4 bm4 ((kp k).crash z1)) ∧ Hid (Below w.heap.size w wr)) (fun i _ => k - (intOf i).toNat)
        case atStart => exact ⟨0, Nat.zero_le _, rfl, H4, HC4, HB4⟩
        case round =>
          obtain ⟨j, hj, rfl, H, HC, HB⟩ := hrel
          clear H4 HC4 HB4
          by_cases hjk : j < k
          · have Hn1 : Hid (39 - 2 * j < ((kp k).crash z1).n) := by show _ < (kp k).n; rw [kp_n]; omega
            go_wp2_with fail
            refine (read_lit HC.out (i := 39 - 2 * j) (by omega) Hn1.out).mono ?_
            rintro e x5 ⟨b5, rfl, hx5, hb5, hB5⟩
            have H5 := hide (H.out.later hB5)
            have HC5 := hide (HC.out.later hB5)
            have HB5 := hide (HB.out.trans (hB5.mono HB.out.size))
            have hcl := hx5.cell (Dv.Ok.at_ HC.out.ok Hn1.out) (i := 0) (by omega)
            have hsub : (k : Int) - 1 - (j : Int) = ((k - 1 - j : Nat) : Int) := by omega
            clear hx5 hb5 hB5 H HC HB
            by_cases hq : k - 1 - j < len1
            · have hqb : k - 1 - j < z1.length := by have := Hnk.out; simp [bo] at this; omega
              obtain ⟨bk, ok, rfl, hck1⟩ := (HK.out.later HB5.out).cell (i := k - 1 - j) (by simpa [bo] using hqb)
              have hck2 : x5.cell? ⟨bk, ok + (k - 1 - j), none⟩ = some (.bool z1[k - 1 - j]) := by rw [hck1]; simp [bo]
              have hgd : z1.getD (k - 1 - j) false = z1[k - 1 - j] := by simp [List.getD, List.getElem?_eq_getElem hqb]
              rw [kp_kept hn hjk z1 hgd] at hcl
              clear hck1 hgd
              cases hb : z1[k - 1 - j]
              all_goals
                rw [hb] at hck2 hcl
                simp only [↓reduceIte, Bool.false_eq_true] at hcl
                go_wp2_with fail
                go_roundw
                case rel => exact ⟨j + 1, by omega, by simp, H5, HC5, HB5⟩
                case measure => simp [intOf]; omega
            · have hgd : z1.getD (k - 1 - j) false = false := by
                have := Hnk.out
                simp [bo] at this
                simp [List.getD, List.getElem?_eq_none (show z1.length ≤ k - 1 - j by omega)]
              rw [kp_kept hn hjk z1 hgd] at hcl
              simp only [↓reduceIte, Bool.false_eq_true] at hcl
              clear hgd
              go_wp2_with fail
              go_roundw
              case rel => exact ⟨j + 1, by omega, by simp, H5, HC5, HB5⟩
              case measure => simp [intOf]; omega
          · obtain rfl : j = k := by omega
            clear hj hjk
            go_wp2_with fail
            refine (loose_any HC.out).mono ?_
            rw [crash_los]
            rintro e x6 ⟨lv, rfl, ho6, hB6⟩
            obtain ⟨pl, nl, cl, rfl, hnl, hcl, Hnl, -⟩ := (Rw.own ho6).opens
            obtain rfl : nl = 0 := Hnl.out
            have H6 := hide (H.out.later hB6)
            have HB6 := hide (HB.out.trans (hB6.mono HB.out.size))
            clear ho6 hB6 H HB HC
            go_wp2_with fail
            refine (loose_any H6.out).mono ?_
            rintro e x7 ⟨lv, rfl, ho7, hB7⟩
            obtain ⟨pl7, nl7, cl7, rfl, hnl7, hcl7, Hnl7, -⟩ := (Rw.own ho7).opens
            have HB7 := hide (HB6.out.trans (hB7.mono HB6.out.size))
            have hj7 : nl7 = j := by have := Hnl7.out; rw [li_len, kp_los j hn] at this; exact this
            subst hj7
            clear ho7 hB7
            go_wp2_with fail
            go_ret
            exact ⟨ret_bool (by simp), HB7.out⟩
  · have hc : a0 < 0 ∨ (0 ≤ a0 ∧ 20 < a0) := by omega
    clear hd
    rcases hc with hc | hc
    all_goals
      go_enter Try.func8, Try.ntmps8
      go_wp2_with fail
      refine (begun_any _).mono ?_
      rintro e x1 ⟨rfl, hB1⟩
      go_wp2_with fail
      go_ret
      exact ⟨rfl, hB1⟩

set_option maxRecDepth 100000 in
theorem lifted (os : Os) (started : os.Started) (H : Type) (enc : TypeId × Value → H) :
    ReturnsInHanded {} Try.checked os 8 .any (Rows.devKeepsSpec.pre6 enc Try.prog Try.f8 Rows.devKeepsRow.domain false) (Rows.devKeepsSpec.post enc Try.prog Try.f8 false true false false) := by
  refine returnsInHanded_of_change (C := Try.checked) own started (by kernel_rfl) Try.func8
    (ChangeSpec.witness6 (enc := enc) (C := Try.checked) false ⟨#[], #[.int .i64 0, .slice none 0 0], []⟩ 8 (by kernel_rfl) (by kernel_rfl) (by kernel_rfl) (by kernel_rfl)) ?_
  intro W base args ds gs before hval0 hW hcnd _
  have hval : ∀ (j : Nat) t v, Try.f8.params[j]? = some t → args[j]? = some v → Value.okWide Try.prog W .any base t v := hval0
  have hW' := hW
  obtain ⟨p, q, hA0, hV, rfl, hfz, hnd⟩ := hW
  have hA : DataW.TrodAll enc Try.prog W 0 (fun _ => true) true Try.f8.params.toList args.toList ds p := hA0
  rw [Try.params8] at hA hval
  obtain ⟨v0, vs0, d0, ds0, p0, q0, hargs, rfl, rfl, h0, r0⟩ := trodAll_cons hA
  obtain ⟨v1, vs1, d1, ds1, p1, q1, rfl, rfl, rfl, h1, r1⟩ := trodAll_cons r0
  obtain ⟨rfl, rfl, rfl⟩ := trodAll_nil r1
  obtain rfl : args = #[v0, v1] := by cases args; simp_all
  obtain ⟨rfl, rfl⟩ := trodVars_none hV
  obtain ⟨a0, rfl, rfl, rfl, w0⟩ := open_int Try.underlying3 (hval 0 3 v0 rfl rfl) h0
  obtain ⟨a1, len1, cap1, rfl⟩ := okWide_slice Try.underlying28 (hval 1 28 v1 rfl rfl)
  have k1 := h1
  have lt1 : ∀ x ∈ p1, x.block < W.heap.size := by obtain ⟨m, hm⟩ := k1; exact DataW.trod_lt m _ _ _ hm
  obtain ⟨z1, w1⟩ : ∃ zs, Rw W (.slice a1 len1 cap1) (bo zs) := by
    obtain ⟨fuel, hf⟩ := h1
    obtain ⟨a, len, cap, zs, hcs, hz⟩ := open_bools Try.underlying28 Try.underlying4 (by kernel_rfl) hf
    simp [Value.cells] at hcs
    obtain ⟨rfl, rfl, rfl⟩ := hcs
    exact ⟨zs, hz⟩
  clear hA0 hval0
  refine (walk a0 a1 len1 cap1 z1 W w0 w1).mono fun e W' ⟨he, bel⟩ => ?_
  subst he
  exact ⟨_, rfl, _, _, _, [], _, [], hW', trodAll_mk1 (shut_bool Try.underlying4 _), (trodAll_cons_mk (shut_int Try.underlying3 w0) (trodAll_cons_mk (Below.trod laidOut (by kernel_rfl) (of_decide_eq_true (by kernel_rfl)) k1 bel lt1) trodAll_mk0)), rfl, bel.frame _, fun h => by cases h⟩

theorem over : Rows.devKeepsRow.holds Try.pinned (OpenSpec.ofChange Rows.devKeepsSpec) :=
  OpenClaim.holds_of_wide 8 Try.f8 rfl rfl rfl rfl rfl rfl rfl ⟨rfl, rfl, rfl, rfl, rfl⟩ rfl rfl rfl rfl rfl (by kernel_rfl) Try.func8 (by kernel_rfl)
    (of_decide_eq_true (by kernel_rfl)) (by unfold Func.isWrapper; first | (rw [if_pos (by decide +kernel)]; kernel_rfl) | (rw [if_neg (by decide +kernel)]; exact ⟨rfl, rfl⟩))
    (fun os started H enc _ => lifted os started H enc)

theorem proved : Rows.DevKeepsSaid := over
#print axioms proved
end Go.Proofs.Ytjgdbialapdggaa.devKeeps
