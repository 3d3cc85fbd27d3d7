/-
  For every slice of uint64s and every uint64 x FloatAdd returns true: float.Sum of the floats (the first 20) and one more is the sum of them with that one added, cleaned. No condition.
-/
import Derived.Test.YtnkmfaddgodefabRows
import Derived.WalkKit
import Derived.ProofKit
import Derived.OpenShut
import Derived.ShutString
import Derived.ChangeOld
import Derived.Below
import Derived.Test.YtnkmfaddgodefabFltH
namespace Go.Proofs.Ytnkmfaddgodefab.floatAdd
open Go.ChangeShapes Go.WideShapes Go.ChangeAt Go.RowKit
open Go.ChangeMaps (open_string shut_string)
set_option linter.unusedVariables false

theorem own : ownKnob Try.prog.godebug = none := by kernel_rfl
theorem laidOut : laidOutB Try.prog = true := by kernel_rfl

/-- WHAT THE WALK IS TOLD OF A SLICE OF INTEGERS THAT CAME IN: it is nil; or it leads to a row of 'cap' cells, the numbers 'zs' (the first 'len' are its elements, the rest its spare room), each fitting its kind. -/
def IsRow (k : IntKind) (w : World) (a : Option Addr) (len cap : Nat) (zs : List Int) : Prop :=
  (a = none ∧ len = 0 ∧ cap = 0 ∧ zs = []) ∨
  ∃ x, a = some x ∧ len ≤ cap ∧ cap ≤ maxLen ∧ zs.length = cap ∧ (∀ i, i < zs.length → w.cell? (x.add i) = some (.int k (zs.getD i 0))) ∧ ∀ n ∈ zs, (Lit.int k n).wf = true

/-- A slice of uint64s that came in, as natural numbers. -/
theorem row_u64 {w : World} {a0 : Option Addr} {len0 cap0 : Nat} {z0 : List Int} (w0 : IsRow .u64 w a0 len0 cap0 z0) :
    len0 ≤ cap0 ∧ cap0 ≤ 9223372036854775807 ∧ ∃ L : List Nat, L.length = len0 ∧ (∀ x ∈ L, x < 18446744073709551616) ∧
      ∀ i, i < len0 → ∃ b off, a0 = some ⟨b, off, none⟩ ∧ w.cell? ⟨b, off + i, none⟩ = some (.int .u64 ((L.getD i 0 : Nat) : Int)) := by
  rcases w0 with ⟨rfl, rfl, rfl, rfl⟩ | ⟨x, rfl, hl, hm, hz, hcell, hwz⟩
  · exact ⟨by omega, by omega, [], rfl, by simp, fun i hi => by omega⟩
  · unfold maxLen at hm
    refine ⟨hl, by omega, (z0.take len0).map Int.toNat, by simp; omega, ?_, fun i hi => ?_⟩
    · intro y hy
      simp only [List.mem_map] at hy
      obtain ⟨n, hn, rfl⟩ := hy
      have := bounds_u64 (hwz n (List.mem_of_mem_take hn))
      omega
    · have hc := hcell i (by omega)
      have hc0 := hcell 0 (by omega)
      have hiz : i < z0.length := by omega
      have hb := bounds_u64 (hwz z0[i] (List.getElem_mem hiz))
      have e : (((z0.take len0).map Int.toNat).getD i 0 : Nat) = z0[i].toNat := by
        simp [List.getD, List.getElem?_take_of_lt hi, List.getElem?_eq_getElem hiz]
      rw [e]
      rw [getD_at hiz] at hc
      have e2 : ((z0[i].toNat : Nat) : Int) = z0[i] := by omega
      rw [e2]
      obtain ⟨b, off, spot⟩ := x
      have hspot : spot = none := by simpa [Addr.add] using World.cell?_spot hc0
      subst hspot
      rw [add_plain] at hc
      exact ⟨b, off, rfl, hc⟩

set_option maxRecDepth 100000 in
set_option maxHeartbeats 1000000 in
theorem walk (a0 : Option Addr) (len0 cap0 : Nat) (z0 : List Int) (a1 : Int) (w : World) (w0 : IsRow .u64 w a0 len0 cap0 z0) (w1 : (Lit.int .u64 a1).wf = true) :
    Calls Try.prog 8 #[.slice a0 len0 cap0, .int .u64 a1] w fun e w' => e = .returned (.bool true) ∧ Below w.heap.size w w' := by
  obtain ⟨hl, hm, L, hLn, -, hcell⟩ := row_u64 w0
  obtain ⟨i0, hi, hz0, hz1, hz2⟩ := info_parts Try.infoF
  have HC := hide hcell
  have HLn := hide hLn
  obtain ⟨h0, h1⟩ := bounds_u64 w1
  obtain ⟨Y, rfl⟩ := Int.eq_ofNat_of_zero_le h0
  have hY : Y < 18446744073709551616 := by omega
  clear w0 hcell hLn w1 h0 h1
  by_cases hcmp : 20 < len0
  · have hN0 : 20 ≤ len0 := by omega
    have hNK : 20 ≤ 20 := by omega
    have hdec : decide ((20 : Int) < (len0 : Int)) = true := by simp; omega
    clear hcmp
    go_enter Try.func8, Try.ntmps8
    go_wp2_with fail
    refine (begun_any _).mono ?_
    rintro e x1 ⟨rfl, hb1⟩
    go_wp2_with fail
    go_loopw [6, 7] (fun v i wr => ∃ k : Nat, k ≤ 20 ∧ i = .int .i64 k ∧ Hid (wr.ownsRow w.heap.size 23 1 v k (fv (L.take k))) ∧ Hid (Below w.heap.size w wr)) (fun _ i _ => 20 - (intOf i).toNat)
    case atStart => exact ⟨0, by omega, rfl, by show World.ownsRow _ _ _ _ _ _ _; simpa [fv] using World.ownsRow_nil _ _ _ _, hide hb1⟩
    case round =>
      obtain ⟨k, hk, rfl, HO, HBel⟩ := hrel
      clear hb1
      by_cases hlt : k < 20
      · obtain ⟨b, off, rfl, hcell0⟩ := HC.out k (by omega)
        have hcell : wr.cell? ⟨b, off + k, none⟩ = some (.int .u64 ((L.getD k 0 : Nat) : Int)) := by rw [HBel.out.cell (p := ⟨b, off + k, none⟩) (cell_lt hcell0)]; exact hcell0
        have HT : Hid (fv (L.take (k + 1)) = fv (L.take k) ++ [.float .f64 (L.getD k 0)]) := by
          show _ = _
          have hkl : k < L.length := by rw [HLn.out]; omega
          have e : L.getD k 0 = L[k] := by simp [List.getD, List.getElem?_eq_getElem hkl]
          rw [List.take_succ_eq_append_getElem hkl, fv_app, e]
          rfl
        generalize L.getD k 0 = X at *
        have hbs := HBel.out.size
        have hkn : (fv (L.take k)).length = k := by rw [fv_len, List.length_take, HLn.out]; omega
        clear hcell0
        go_wp2_with fail
        with_reducible refine (of_any X _).mono ?_
        rintro e x ⟨rfl, rfl⟩
        have hbs2 : w.heap.size ≤ x.heap.size := hbs
        go_wp2_with (first
          | (at_builtin; refine wpList_append_own _ rfl _ _ 38 rfl w.heap.size 23 i0 (.float .f64 0) 1 8 Try.underlying38 hi hz0 hz1 hz2 rfl (by decide) _ k _ rfl (HO.out.alloc _) ⟨x.heap.size, 0, none⟩ 1 1 [.float .f64 X] rfl rfl (cell_one_new _ _ _) (by intro q hq; simp at hq; subst hq; rfl) (by unfold maxLen; omega) (by omega) (by simp; omega) ?_)
          | fail)
        intro v' w1 hown' hgrow _
        have HO2 : Hid (w1.ownsRow w.heap.size 23 1 v' (k + 1) (fv (L.take (k + 1)))) := by
          show World.ownsRow _ _ _ _ _ _ _
          rw [HT.out]
          exact hown'
        have HBel2 : Hid (Below w.heap.size w w1) := (HBel.out.alloc hbs2 _).grown hgrow (by simp; omega) (fun j hj => (HO.out.lt j hj).1)
        clear hown' hgrow HO HBel HT
        go_wp2_with fail
        go_roundw
        case rel => exact ⟨k + 1, by omega, by go_num, HO2, HBel2⟩
        case measure => simp [intOf]; omega
      · have hFs := Fs.own HO.out
        have hMl : (L.take k).length ≤ 20 := by simp; omega
        generalize L.take k = M at *
        have hbs := HBel.out.size
        clear HO
        go_wp2_with fail
        with_reducible refine (sum_any _ M _ hFs).mono ?_
        rintro e x2 ⟨rfl, m, rfl⟩
        have hF2 := hFs.later (below_drewN (Below.refl _ _) m)
        have HB2 := hide (below_drewN HBel.out m)
        clear hFs HBel
        generalize hgw : wr.drewN m = x2 at *
        have hbs2 : w.heap.size ≤ x2.heap.size := by rw [← hgw]; exact hbs
        clear hgw
        go_wp2_with (refine wpList_append_fs rfl (.const (.slice none 0 0)) (.tmp 34) 38 rfl x2.heap.size 23 Try.underlying38 Try.infoF _ 0 [] rfl (World.ownsRow_nil _ _ _ _) _ M rfl hF2 (by omega) (Nat.le_refl _) ?_; intro v3 x3 ho3 hg3)
        have hb3 : Below x2.heap.size x2 x3 := below_new hg3
        have hgs := hb3.size
        with_reducible refine (of_any Y _).mono ?_
        rintro e x ⟨rfl, rfl⟩
        go_wp2_with (first
          | (at_builtin; refine wpList_append_own _ rfl _ _ 38 rfl x2.heap.size 23 i0 (.float .f64 0) 1 8 Try.underlying38 hi hz0 hz1 hz2 rfl (by decide) _ (0 + M.length) _ rfl (ho3.alloc _) ⟨x.heap.size, 0, none⟩ 1 1 [.float .f64 Y] rfl rfl (cell_one_new _ _ _) (by intro q hq; simp at hq; subst hq; rfl) (by unfold maxLen; omega) (by omega) (by simp; omega) ?_)
          | fail)
        intro v4 x4 ho4 hg4 _
        have hF4 : Fs x4 v4 (M ++ [Y]) := Fs.own (n := 0 + M.length + 1) (by rw [fv_app]; simpa [show fv [Y] = [Value.float .f64 Y] from rfl] using ho4)
        have hb4 : Below x2.heap.size x2 x4 := (hb3.alloc hgs _).grown hg4 (by simp; omega) (fun j hj => (ho3.lt j hj).1)
        have HB4 := hide (HB2.out.trans (hb4.mono hbs2))
        clear ho3 hg3 ho4 hg4 hb3 hb4 hF2 HB2
        go_wp2_with fail
        with_reducible refine (sum_any _ (M ++ [Y]) _ hF4).mono ?_
        rintro e x5 ⟨rfl, m2, rfl⟩
        have HB5 := hide (below_drewN HB4.out m2)
        rw [Fl.sm_app]
        obtain ⟨r, d, hadd, hcl, hr⟩ := run_add (Fl.sm M) Y 23 (x4.drewN m2)
        rw [drewN_add] at hadd
        have HCL := hide hcl
        have HE : Hid (decide (Fl.ad (Fl.sm M) Y = Fl.cl r) = true) := by show _ = _; rw [hcl]; simp
        clear hcl hF4
        generalize Fl.ad (Fl.sm M) Y = A at *
        generalize Fl.sm M = S at *
        go_wp2_with fail
        with_reducible refine (of_any Y _).mono ?_
        rintro e x ⟨rfl, rfl⟩
        go_wp2_with fail
        with_reducible refine (refClean_any r _ hr).mono ?_
        rintro e x ⟨rfl, rfl⟩
        go_wp2_with fail
        with_reducible refine (eq_any A (Fl.cl r) _).mono ?_
        rintro e x ⟨rfl, rfl⟩
        rw [HE.out]
        go_wp2_with fail
        go_ret
        exact ⟨rfl, below_drewN HB4.out _⟩
  · have hN0 : len0 ≤ len0 := by omega
    have hNK : len0 ≤ 20 := by omega
    have hdec : decide ((20 : Int) < (len0 : Int)) = false := by simp; omega
    clear hcmp
    go_enter Try.func8, Try.ntmps8
    go_wp2_with fail
    refine (begun_any _).mono ?_
    rintro e x1 ⟨rfl, hb1⟩
    go_wp2_with fail
    go_loopw [6, 7] (fun v i wr => ∃ k : Nat, k ≤ len0 ∧ i = .int .i64 k ∧ Hid (wr.ownsRow w.heap.size 23 1 v k (fv (L.take k))) ∧ Hid (Below w.heap.size w wr)) (fun _ i _ => len0 - (intOf i).toNat)
    case atStart => exact ⟨0, by omega, rfl, by show World.ownsRow _ _ _ _ _ _ _; simpa [fv] using World.ownsRow_nil _ _ _ _, hide hb1⟩
    case round =>
      obtain ⟨k, hk, rfl, HO, HBel⟩ := hrel
      clear hb1
      by_cases hlt : k < len0
      · obtain ⟨b, off, rfl, hcell0⟩ := HC.out k (by omega)
        have hcell : wr.cell? ⟨b, off + k, none⟩ = some (.int .u64 ((L.getD k 0 : Nat) : Int)) := by rw [HBel.out.cell (p := ⟨b, off + k, none⟩) (cell_lt hcell0)]; exact hcell0
        have HT : Hid (fv (L.take (k + 1)) = fv (L.take k) ++ [.float .f64 (L.getD k 0)]) := by
          show _ = _
          have hkl : k < L.length := by rw [HLn.out]; omega
          have e : L.getD k 0 = L[k] := by simp [List.getD, List.getElem?_eq_getElem hkl]
          rw [List.take_succ_eq_append_getElem hkl, fv_app, e]
          rfl
        generalize L.getD k 0 = X at *
        have hbs := HBel.out.size
        have hkn : (fv (L.take k)).length = k := by rw [fv_len, List.length_take, HLn.out]; omega
        clear hcell0
        go_wp2_with fail
        with_reducible refine (of_any X _).mono ?_
        rintro e x ⟨rfl, rfl⟩
        have hbs2 : w.heap.size ≤ x.heap.size := hbs
        go_wp2_with (first
          | (at_builtin; refine wpList_append_own _ rfl _ _ 38 rfl w.heap.size 23 i0 (.float .f64 0) 1 8 Try.underlying38 hi hz0 hz1 hz2 rfl (by decide) _ k _ rfl (HO.out.alloc _) ⟨x.heap.size, 0, none⟩ 1 1 [.float .f64 X] rfl rfl (cell_one_new _ _ _) (by intro q hq; simp at hq; subst hq; rfl) (by unfold maxLen; omega) (by omega) (by simp; omega) ?_)
          | fail)
        intro v' w1 hown' hgrow _
        have HO2 : Hid (w1.ownsRow w.heap.size 23 1 v' (k + 1) (fv (L.take (k + 1)))) := by
          show World.ownsRow _ _ _ _ _ _ _
          rw [HT.out]
          exact hown'
        have HBel2 : Hid (Below w.heap.size w w1) := (HBel.out.alloc hbs2 _).grown hgrow (by simp; omega) (fun j hj => (HO.out.lt j hj).1)
        clear hown' hgrow HO HBel HT
        go_wp2_with fail
        go_roundw
        case rel => exact ⟨k + 1, by omega, by go_num, HO2, HBel2⟩
        case measure => simp [intOf]; omega
      · have hFs := Fs.own HO.out
        have hMl : (L.take k).length ≤ 20 := by simp; omega
        generalize L.take k = M at *
        have hbs := HBel.out.size
        clear HO
        go_wp2_with fail
        with_reducible refine (sum_any _ M _ hFs).mono ?_
        rintro e x2 ⟨rfl, m, rfl⟩
        have hF2 := hFs.later (below_drewN (Below.refl _ _) m)
        have HB2 := hide (below_drewN HBel.out m)
        clear hFs HBel
        generalize hgw : wr.drewN m = x2 at *
        have hbs2 : w.heap.size ≤ x2.heap.size := by rw [← hgw]; exact hbs
        clear hgw
        go_wp2_with (refine wpList_append_fs rfl (.const (.slice none 0 0)) (.tmp 34) 38 rfl x2.heap.size 23 Try.underlying38 Try.infoF _ 0 [] rfl (World.ownsRow_nil _ _ _ _) _ M rfl hF2 (by omega) (Nat.le_refl _) ?_; intro v3 x3 ho3 hg3)
        have hb3 : Below x2.heap.size x2 x3 := below_new hg3
        have hgs := hb3.size
        with_reducible refine (of_any Y _).mono ?_
        rintro e x ⟨rfl, rfl⟩
        go_wp2_with (first
          | (at_builtin; refine wpList_append_own _ rfl _ _ 38 rfl x2.heap.size 23 i0 (.float .f64 0) 1 8 Try.underlying38 hi hz0 hz1 hz2 rfl (by decide) _ (0 + M.length) _ rfl (ho3.alloc _) ⟨x.heap.size, 0, none⟩ 1 1 [.float .f64 Y] rfl rfl (cell_one_new _ _ _) (by intro q hq; simp at hq; subst hq; rfl) (by unfold maxLen; omega) (by omega) (by simp; omega) ?_)
          | fail)
        intro v4 x4 ho4 hg4 _
        have hF4 : Fs x4 v4 (M ++ [Y]) := Fs.own (n := 0 + M.length + 1) (by rw [fv_app]; simpa [show fv [Y] = [Value.float .f64 Y] from rfl] using ho4)
        have hb4 : Below x2.heap.size x2 x4 := (hb3.alloc hgs _).grown hg4 (by simp; omega) (fun j hj => (ho3.lt j hj).1)
        have HB4 := hide (HB2.out.trans (hb4.mono hbs2))
        clear ho3 hg3 ho4 hg4 hb3 hb4 hF2 HB2
        go_wp2_with fail
        with_reducible refine (sum_any _ (M ++ [Y]) _ hF4).mono ?_
        rintro e x5 ⟨rfl, m2, rfl⟩
        have HB5 := hide (below_drewN HB4.out m2)
        rw [Fl.sm_app]
        obtain ⟨r, d, hadd, hcl, hr⟩ := run_add (Fl.sm M) Y 23 (x4.drewN m2)
        rw [drewN_add] at hadd
        have HCL := hide hcl
        have HE : Hid (decide (Fl.ad (Fl.sm M) Y = Fl.cl r) = true) := by show _ = _; rw [hcl]; simp
        clear hcl hF4
        generalize Fl.ad (Fl.sm M) Y = A at *
        generalize Fl.sm M = S at *
        go_wp2_with fail
        with_reducible refine (of_any Y _).mono ?_
        rintro e x ⟨rfl, rfl⟩
        go_wp2_with fail
        with_reducible refine (refClean_any r _ hr).mono ?_
        rintro e x ⟨rfl, rfl⟩
        go_wp2_with fail
        with_reducible refine (eq_any A (Fl.cl r) _).mono ?_
        rintro e x ⟨rfl, rfl⟩
        rw [HE.out]
        go_wp2_with fail
        go_ret
        exact ⟨rfl, below_drewN HB4.out _⟩

set_option maxRecDepth 100000 in
theorem lifted (os : Os) (started : os.Started) (H : Type) (enc : TypeId × Value → H) :
    ReturnsInHanded {} Try.checked os 8 .any (Rows.floatAddSpec.pre6 enc Try.prog Try.f8 Rows.floatAddRow.domain false) (Rows.floatAddSpec.post enc Try.prog Try.f8 false true false false) := by
  refine returnsInHanded_of_change (C := Try.checked) own started (by kernel_rfl) Try.func8
    (ChangeSpec.witness6 (enc := enc) (C := Try.checked) false ⟨#[], #[.slice none 0 0, .int .u64 0], []⟩ 8 (by kernel_rfl) (by kernel_rfl) (by kernel_rfl) (by kernel_rfl)) ?_
  intro W base args ds gs before hval0 hW hcnd _
  have hval : ∀ (j : Nat) t v, Try.f8.params[j]? = some t → args[j]? = some v → Value.okWide Try.prog W .any base t v := hval0
  have hW' := hW
  obtain ⟨p, q, hA0, hV, rfl, hfz, hnd⟩ := hW
  have hA : DataW.TrodAll enc Try.prog W 0 (fun _ => true) true Try.f8.params.toList args.toList ds p := hA0
  rw [Try.params8] at hA hval
  obtain ⟨v0, vs0, d0, ds0, p0, q0, hargs, rfl, rfl, h0, r0⟩ := trodAll_cons hA
  obtain ⟨v1, vs1, d1, ds1, p1, q1, rfl, rfl, rfl, h1, r1⟩ := trodAll_cons r0
  obtain ⟨rfl, rfl, rfl⟩ := trodAll_nil r1
  obtain rfl : args = #[v0, v1] := by cases args; simp_all
  obtain ⟨rfl, rfl⟩ := trodVars_none hV
  obtain ⟨a0, len0, cap0, rfl⟩ := okWide_slice Try.underlying37 (hval 0 37 v0 rfl rfl)
  have k0 := h0
  have lt0 : ∀ x ∈ p0, x.block < W.heap.size := by obtain ⟨m, hm⟩ := k0; exact DataW.trod_lt m _ _ _ hm
  obtain ⟨z0, w0⟩ : ∃ zs, IsRow .u64 W a0 len0 cap0 zs := by
    obtain ⟨fuel, hf⟩ := h0
    rcases open_ints Try.underlying37 Try.underlying29 (by kernel_rfl) hf with ⟨hcs, _⟩ | ⟨x, l, c, zs, hcs, _, hl, hm, hz, _, hcell, hwz⟩
    · simp [Value.cells] at hcs
      obtain ⟨rfl, rfl, rfl⟩ := hcs
      exact ⟨[], .inl ⟨rfl, rfl, rfl, rfl⟩⟩
    · simp [Value.cells] at hcs
      obtain ⟨rfl, rfl, rfl⟩ := hcs
      exact ⟨zs, .inr ⟨_, rfl, hl, hm, by simpa using hz, hcell, hwz⟩⟩
  obtain ⟨a1, rfl, rfl, rfl, w1⟩ := open_int Try.underlying29 (hval 1 29 v1 rfl rfl) h1
  clear hA0 hval0
  refine (walk a0 len0 cap0 z0 a1 W w0 w1).mono fun e W' ⟨he, bel⟩ => ?_
  subst he
  exact ⟨_, rfl, _, _, _, [], _, [], hW', trodAll_mk1 (shut_bool Try.underlying4 _), (trodAll_cons_mk (Below.trod laidOut (by kernel_rfl) (of_decide_eq_true (by kernel_rfl)) k0 bel lt0) (trodAll_cons_mk (shut_int Try.underlying29 w1) trodAll_mk0)), rfl, bel.frame _, fun h => by cases h⟩

theorem over : Rows.floatAddRow.holds Try.pinned (OpenSpec.ofChange Rows.floatAddSpec) :=
  OpenClaim.holds_of_wide 8 Try.f8 rfl rfl rfl rfl rfl rfl rfl ⟨rfl, rfl, rfl, rfl, rfl⟩ rfl rfl rfl rfl rfl (by kernel_rfl) Try.func8 (by kernel_rfl)
    (of_decide_eq_true (by kernel_rfl)) (by unfold Func.isWrapper; first | (rw [if_pos (by decide +kernel)]; kernel_rfl) | (rw [if_neg (by decide +kernel)]; exact ⟨rfl, rfl⟩))
    (fun os started H enc _ => lifted os started H enc)

theorem proved : Rows.FloatAddSaid := over
#print axioms proved
end Go.Proofs.Ytnkmfaddgodefab.floatAdd
