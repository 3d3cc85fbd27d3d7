/-
  For every int n and every slice of ints back AllocAllOf returns true: of n (0 to 40) pages taken the first thirty are 2 to 31 in order, then ErrFull is told; of thirty each that is given back is the next one that is taken. No condition.
-/
import Derived.Test.YtiggannhanfolaaRows
import Derived.WalkKit
import Derived.ProofKit
import Derived.OpenShut
import Derived.ShutString
import Derived.ChangeOld
import Derived.Below
import Derived.Test.YtiggannhanfolaaAllF
import Derived.Test.YtiggannhanfolaaOpn
namespace Go.Proofs.Ytiggannhanfolaa.allocAllOf
open Go.ChangeShapes Go.WideShapes Go.ChangeAt Go.RowKit
open Go.ChangeMaps (open_string shut_string)
set_option linter.unusedVariables false

theorem own : ownKnob Try.prog.godebug = none := by kernel_rfl
theorem laidOut : laidOutB Try.prog = true := by kernel_rfl

/-- What is in use behind n pages that were taken. -/
def Fst (zs : List Int) (n : Nat) : Prop := ∀ k, 2 ≤ k → k < 32 → us zs k = decide (k < n + 2)
theorem fst_zer : Fst zer 0 := fun k h1 h2 => by
  rw [show decide (k < 0 + 2) = false by simpa using h1]
  have : ∀ k : Fin 32, us zer k = false := by decide +kernel
  exact this ⟨k, h2⟩
theorem Fst.more {zs : List Int} {n : Nat} (h : Fst zs n) (hz : Pg zs) (hn : n < 30) : Fst (mark zs (n + 2)) (n + 1) := fun k h1 h2 => by
  rw [us_mark hz (by omega), h k h1 h2, Bool.eq_iff_iff]
  simp
  omega
theorem Fst.full {zs : List Int} {n m : Nat} (h : Fst zs n) (hn : 30 ≤ n) (hm : 30 ≤ m) : Fst zs m := fun k h1 h2 => by
  rw [h k h1 h2, Bool.eq_iff_iff]
  simp
  omega
theorem Fst.count {zs : List Int} {n : Nat} (h : Fst zs n) (hn : n ≤ 30) : nu (us zs) 32 = n := by
  have : ∀ k, k ≤ 32 → nu (us zs) k = min (k - 2) n := by
    intro k
    induction k with
    | zero => intro _; simp [nu]
    | succ k ih =>
      intro hk
      rw [nu_succ, ih (by omega)]
      by_cases h2 : 2 ≤ k
      · rw [h k h2 (by omega), show decide (2 ≤ k) = true by simpa using h2, Bool.true_and]
        by_cases h3 : k < n + 2
        · rw [show decide (k < n + 2) = true by simpa using h3]; simp; omega
        · rw [show decide (k < n + 2) = false by simpa using h3]; simp; omega
      · rw [show decide (2 ≤ k) = false by simpa using h2, Bool.false_and]
        simp
        omega
  rw [this 32 (Nat.le_refl _)]
  omega
theorem Fst.again {zs : List Int} (h : Fst zs 30) (hz : Pg zs) {a : Nat} (ha : a < 2048) : Fst (mark (strike zs a) a) 30 := fun k h1 h2 => by
  rw [us_mark (strike_pg hz ha) ha, us_strike hz ha, h k h1 h2, Bool.eq_iff_iff]
  simp
  omega

theorem which_page (z : Int) : ∃ no : Nat, wrap64 (2 + (wrap64 (z.tmod 30 + 30)).tmod 30) = (no : Int) ∧ 2 ≤ no ∧ no < 32 := by
  have h1 : -30 < z.tmod 30 ∧ z.tmod 30 < 30 := by
    by_cases h : 0 ≤ z
    · rw [Int.tmod_eq_emod_of_nonneg h]
      omega
    · obtain ⟨y, rfl⟩ : ∃ y, z = -y := ⟨-z, by omega⟩
      rw [Int.neg_tmod, Int.tmod_eq_emod_of_nonneg (by omega)]
      omega
  generalize z.tmod 30 = t at *
  have h2 : wrap64 (t + 30) = t + 30 := by unfold wrap64; omega
  rw [h2, Int.tmod_eq_emod_of_nonneg (by omega)]
  have h3 : wrap64 (2 + (t + 30) % 30) = 2 + (t + 30) % 30 := by unfold wrap64; omega
  rw [h3]
  exact ⟨(2 + (t + 30) % 30).toNat, by omega, by omega, by omega⟩
theorem Fst.freed {zs : List Int} (h : Fst zs 30) (hz : Pg zs) {a : Nat} (ha : 2 ≤ a ∧ a < 32) : us zs a = true ∧ us (strike zs a) a = false ∧ ∀ k, 2 ≤ k → k < a → us (strike zs a) k = true := by
  refine ⟨by rw [h a ha.1 ha.2]; simp; omega, by rw [us_strike hz (by omega)]; simp, fun k h1 h2 => ?_⟩
  rw [us_strike hz (by omega), h k h1 (by omega)]
  simp
  omega

/-- A sheet whose first n pages are taken. -/
def At (B : Nat) (w W : World) (g k : Nat) (n : Nat) : Prop := ∃ m f zs, Al B w W g k m f zs ∧ Fst zs n

set_option maxRecDepth 100000 in
set_option maxHeartbeats 4000000 in
theorem walk (a0 : Int) (a1 : Option Addr) (len1 cap1 : Nat) (z1 : List Int) (w : World) (w0 : (Lit.int .i64 a0).wf = true) (w1 : Is w (.slice a1 len1 cap1) z1) :
    Calls Try.prog 6 #[.int .i64 a0, .slice a1 len1 cap1] w fun e w' => e = .returned (.bool true) ∧ Below w.heap.size w w' := by
  have HI := hide w1
  have hl0 : len1 ≤ cap1 ∧ cap1 ≤ 9223372036854775807 ∧ len1 = z1.length := by
    obtain ⟨a, cap, e, h1, h2, -⟩ := w1.1
    simp at e
    obtain ⟨rfl, rfl, rfl⟩ := e
    rw [List.length_map] at h1
    unfold maxLen at h2
    exact ⟨h1, by omega, rfl⟩
  obtain ⟨hq0, hq1, hq2⟩ := hl0
  have HL0 := hide hq2
  clear w0 w1 hq2
  by_cases hr : 0 ≤ a0 ∧ a0 ≤ 40
  · obtain ⟨n, rfl⟩ := Int.eq_ofNat_of_zero_le hr.1
    have hn40 : ¬ (40 : Int) < (n : Int) := by omega
    have hn0 : ¬ (n : Int) < 0 := by omega
    clear hr
    go_enter Try.func6, Try.ntmps6
    go_wp2_with fail
    refine (abegun_any _).mono ?_
    rintro e x1 ⟨rfl, hB1⟩
    have HK1 := hide (Book.new x1 0)
    have HB1 := hide (hB1.trans ((below_alloc x1 (.cells (bkz 0).toArray 28)).mono hB1.size))
    have HR := hide (run_buildB x1)
    have HL1 := hide hB1.size
    generalize hq : bkz 0 = q at *
    clear hB1
    go_wp2_with (first
      | (refine wpList_build0T 28 q rfl rfl HR.out ?_)
      | (refine wpList_boxT 28 _ q rfl rfl rfl ?_))
    refine (Al.new HK1.out HB1.out HB1.out.size HL1.out (zs := zer) rfl zer_pg).mono ?_
    rintro e x2 ⟨gs, rfl, ha, -⟩
    generalize x1.heap.size = gb at *
    have HA : Hid (At w.heap.size w x2 gs gb 0) := ⟨_, _, _, ha, fst_zer⟩
    clear ha HK1 HB1 HR HL1 hq
    go_wp2_with fail
    go_loopw [7] (fun i wr => ∃ k : Nat, k ≤ n ∧ i = .int .i64 k ∧ Hid (At w.heap.size w wr gs gb k)) (fun i _ => n - (RowKit.intOf i).toNat)
    case atStart => exact ⟨0, by omega, rfl, HA⟩
    case round =>
      obtain ⟨k, hk, rfl, HAr⟩ := hrel
      clear HA
      by_cases hlt : k < n
      · by_cases h30 : k < 30
        · have hk30 : ¬ 30 ≤ k := by omega
          go_wp2_with fail
          obtain ⟨m, f, zs, ha, hf⟩ := HAr.out
          refine (ha.takeAt (a := k + 2) (by omega) (by rw [hf _ (by omega) (by omega)]; simp) (fun j h1 h2 => by rw [hf _ h1 (by omega)]; simpa using h2)).mono ?_
          rintro e x3 ⟨rfl, ha', -⟩
          have HA : Hid (At w.heap.size w x3 gs gb (k + 1)) := ⟨_, _, _, ha', hf.more ha.pg h30⟩
          clear ha ha' hf HAr
          have e2 : ((k + 2 : Nat) : Int) = (k : Int) + 2 := by omega
          rw [e2]
          go_wp2_with fail
          go_roundw
          case rel => exact ⟨k + 1, by omega, by go_num, HA⟩
          case measure => simp [RowKit.intOf]; omega
        · have hk30 : 30 ≤ k := by omega
          go_wp2_with fail
          obtain ⟨m, f, zs, ha, hf⟩ := HAr.out
          refine (ha.takeNone (fun j h1 h2 => by rw [hf _ h1 h2]; simp; omega)).mono ?_
          rintro e x3 ⟨rfl, hb⟩
          have HA : Hid (At w.heap.size w x3 gs gb (k + 1)) := ⟨_, _, _, ha.later hb, hf.full hk30 (by omega)⟩
          clear ha hf hb HAr
          go_wp2_with fail
          go_roundw
          case rel => exact ⟨k + 1, by omega, by go_num, HA⟩
          case measure => simp [RowKit.intOf]; omega
      · obtain rfl : k = n := by omega
        by_cases h30 : k < 30
        · go_wp2_with fail
          obtain ⟨m, f, zs, ha, hf⟩ := HAr.out
          refine ha.count.mono ?_
          rw [hf.count (by omega)]
          rintro e x3 ⟨rfl, hb⟩
          have HB := hide (ha.later hb).duo.bel
          clear ha hf hb HAr
          go_wp2_with fail
          go_ret
          exact ⟨rfl, HB.out⟩
        · have HA : Hid (At w.heap.size w wr gs gb 30) := by
            obtain ⟨m, f, zs, ha, hf⟩ := HAr.out
            exact ⟨m, f, zs, ha, hf.full (by omega) (by omega)⟩
          clear HAr
          generalize wr = y0 at *
          go_wp2_with fail
          go_loopw [12] (fun i wr => ∃ j : Nat, j ≤ 20 ∧ j ≤ len1 ∧ i = .int .i64 j ∧ Hid (At w.heap.size w wr gs gb 30)) (fun i _ => 20 - (RowKit.intOf i).toNat)
          case atStart => exact ⟨0, by omega, by omega, rfl, HA⟩
          case round =>
            obtain ⟨j, hj, hjl, rfl, HAr⟩ := hrel
            clear HA
            by_cases hlt : j < len1 ∧ j < 20
            · obtain ⟨t1, t2⟩ := hlt
              obtain ⟨b0, o0, rfl, hc0⟩ := HI.out.1.cell (i := j) (by rw [List.length_map, ← HL0.out]; exact t1)
              obtain ⟨z, hz⟩ : ∃ z, z = z1[j]'(by rw [← HL0.out]; exact t1) := ⟨_, rfl⟩
              rw [List.getElem_map, ← hz] at hc0
              have hzb := HI.out.2 z (by rw [hz]; exact List.getElem_mem _)
              have c0 : wr.cell? ⟨b0, o0 + j, none⟩ = some (.int .i64 z) := by
                obtain ⟨m, f, zs, ha, -⟩ := HAr.out
                rw [ha.duo.bel.cell (p := ⟨b0, o0 + j, none⟩) (cell_lt hc0)]
                exact hc0
              clear hc0 hz
              go_upto_region 20 with fail
              obtain ⟨no, hno, hn2, hn32⟩ := which_page z
              rw [hno]
              clear hno hzb c0
              go_wp2_with fail
              obtain ⟨m, f, zs, ha, hf⟩ := HAr.out
              obtain ⟨g1, g2, g3⟩ := hf.freed ha.pg ⟨hn2, hn32⟩
              have hg := hf.again ha.pg (a := no) (by omega)
              refine (ha.free (no := no) rfl ⟨hn2, hn32⟩ g1).mono ?_
              rintro e x3 ⟨rfl, ha3, -⟩
              have HA3 := hide ha3
              have H2 := hide g2
              have H3 := hide g3
              have HG := hide hg
              clear ha hf g1 g2 g3 hg ha3 HAr
              go_wp2_with fail
              refine (HA3.out.freeNone (no := no) rfl ⟨hn2, hn32⟩ H2.out).mono ?_
              rintro e x4 ⟨rfl, hb⟩
              have HA4 := hide (HA3.out.later hb)
              clear hb HA3
              go_wp2_with fail
              refine (HA4.out.takeAt (a := no) ⟨hn2, hn32⟩ H2.out H3.out).mono ?_
              rintro e x5 ⟨rfl, ha5, -⟩
              have HA : Hid (At w.heap.size w x5 gs gb 30) := ⟨_, _, _, ha5, HG.out⟩
              clear ha5 HA4 H2 H3 HG
              go_wp2_with fail
              go_roundw
              case rel => exact ⟨j + 1, by omega, by omega, by go_num, HA⟩
              case measure => simp [RowKit.intOf]; omega
            · rcases Nat.lt_or_ge j len1 with h1 | h1
              · have h2 : ¬ j < 20 := fun h => hlt ⟨h1, h⟩
                clear hlt
                have HB : Hid (Below w.heap.size w wr) := by
                  obtain ⟨m, f, zs, ha, -⟩ := HAr.out
                  exact ha.duo.bel
                clear HAr
                go_wp2_with fail
                go_ret
                exact ⟨rfl, HB.out⟩
              · have h2 : ¬ j < len1 := by omega
                clear hlt
                have HB : Hid (Below w.heap.size w wr) := by
                  obtain ⟨m, f, zs, ha, -⟩ := HAr.out
                  exact ha.duo.bel
                clear HAr
                go_wp2_with fail
                go_ret
                exact ⟨rfl, HB.out⟩
  · have hx : a0 < 0 ∨ (0 ≤ a0 ∧ 40 < a0) := by omega
    clear hr
    rcases hx with hx | ⟨hx, hy⟩
    all_goals
      go_enter Try.func6, Try.ntmps6
      go_wp2_with fail
      refine (abegun_any _).mono ?_
      rintro e x1 ⟨rfl, hB1⟩
      have HB := hide hB1
      clear hB1
      go_wp2_with fail
      go_ret
      exact ⟨rfl, HB.out⟩

set_option maxRecDepth 100000 in
theorem lifted (os : Os) (started : os.Started) (H : Type) (enc : TypeId × Value → H) :
    ReturnsInHanded {} Try.checked os 6 .any (Rows.allocAllOfSpec.pre6 enc Try.prog Try.f6 Rows.allocAllOfRow.domain false) (Rows.allocAllOfSpec.post enc Try.prog Try.f6 false true false false) := by
  refine returnsInHanded_of_change (C := Try.checked) own started (by kernel_rfl) Try.func6
    (ChangeSpec.witness6 (enc := enc) (C := Try.checked) false ⟨#[], #[.int .i64 0, .slice none 0 0], []⟩ 8 (by kernel_rfl) (by kernel_rfl) (by kernel_rfl) (by kernel_rfl)) ?_
  intro W base args ds gs before hval0 hW hcnd _
  have hval : ∀ (j : Nat) t v, Try.f6.params[j]? = some t → args[j]? = some v → Value.okWide Try.prog W .any base t v := hval0
  have hW' := hW
  obtain ⟨p, q, hA0, hV, rfl, hfz, hnd⟩ := hW
  have hA : DataW.TrodAll enc Try.prog W 0 (fun _ => true) true Try.f6.params.toList args.toList ds p := hA0
  rw [Try.params6] at hA hval
  obtain ⟨v0, vs0, d0, ds0, p0, q0, hargs, rfl, rfl, h0, r0⟩ := trodAll_cons hA
  obtain ⟨v1, vs1, d1, ds1, p1, q1, rfl, rfl, rfl, h1, r1⟩ := trodAll_cons r0
  obtain ⟨rfl, rfl, rfl⟩ := trodAll_nil r1
  obtain rfl : args = #[v0, v1] := by cases args; simp_all
  obtain ⟨rfl, rfl⟩ := trodVars_none hV
  obtain ⟨a0, rfl, rfl, rfl, w0⟩ := open_int Try.underlying3 (hval 0 3 v0 rfl rfl) h0
  obtain ⟨a1, len1, cap1, rfl⟩ := okWide_slice Try.underlying49 (hval 1 49 v1 rfl rfl)
  have k1 := h1
  have lt1 : ∀ x ∈ p1, x.block < W.heap.size := by obtain ⟨m, hm⟩ := k1; exact DataW.trod_lt m _ _ _ hm
  obtain ⟨z1, w1⟩ : ∃ zs, Is W (.slice a1 len1 cap1) zs := by
    obtain ⟨fuel, hf⟩ := h1
    obtain ⟨a, len, cap, zs, hcs, hz⟩ := open_is Try.underlying49 Try.underlying3 (by kernel_rfl) hf
    simp [Value.cells] at hcs
    obtain ⟨rfl, rfl, rfl⟩ := hcs
    exact ⟨zs, hz⟩
  clear hA0 hval0
  refine (walk a0 a1 len1 cap1 z1 W w0 w1).mono fun e W' ⟨he, bel⟩ => ?_
  subst he
  exact ⟨_, rfl, _, _, _, [], _, [], hW', trodAll_mk1 (shut_bool Try.underlying4 _), (trodAll_cons_mk (shut_int Try.underlying3 w0) (trodAll_cons_mk (Below.trod laidOut (by kernel_rfl) (of_decide_eq_true (by kernel_rfl)) k1 bel lt1) trodAll_mk0)), rfl, bel.frame _, fun h => by cases h⟩

theorem over : Rows.allocAllOfRow.holds Try.pinned (OpenSpec.ofChange Rows.allocAllOfSpec) :=
  OpenClaim.holds_of_wide 6 Try.f6 rfl rfl rfl rfl rfl rfl rfl ⟨rfl, rfl, rfl, rfl, rfl⟩ rfl rfl rfl rfl rfl (by kernel_rfl) Try.func6 (by kernel_rfl)
    (of_decide_eq_true (by kernel_rfl)) (by unfold Func.isWrapper; first | (rw [if_pos (by decide +kernel)]; kernel_rfl) | (rw [if_neg (by decide +kernel)]; exact ⟨rfl, rfl⟩))
    (fun os started H enc _ => lifted os started H enc)

theorem proved : Rows.AllocAllOfSaid := over
#print axioms proved
end Go.Proofs.Ytiggannhanfolaa.allocAllOf
