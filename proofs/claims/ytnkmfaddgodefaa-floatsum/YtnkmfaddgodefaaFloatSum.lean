/-
  For every slice of uint64s FloatSum returns true: float.Sum of the floats of these bits (the first 40) is what comes of adding them one by one from nought on, cleaned. No condition.
-/
import Derived.Test.YtnkmfaddgodefaaRows
import Derived.WalkKit
import Derived.ProofKit
import Derived.OpenShut
import Derived.ShutString
import Derived.ChangeOld
import Derived.Below
import Derived.Test.YtnkmfaddgodefaaFltQ
namespace Go.Proofs.Ytnkmfaddgodefaa.floatSum
open Go.ChangeShapes Go.WideShapes Go.ChangeAt Go.RowKit
open Go.ChangeMaps (open_string shut_string)
set_option linter.unusedVariables false

theorem own : ownKnob Try.prog.godebug = none := by kernel_rfl
theorem laidOut : laidOutB Try.prog = true := by kernel_rfl

/-- WHAT THE WALK IS TOLD OF A SLICE OF INTEGERS THAT CAME IN: it is nil; or it leads to a row of 'cap' cells, the numbers 'zs' (the first 'len' are its elements, the rest its spare room), each fitting its kind. -/
def IsRow (k : IntKind) (w : World) (a : Option Addr) (len cap : Nat) (zs : List Int) : Prop :=
  (a = none ∧ len = 0 ∧ cap = 0 ∧ zs = []) ∨
  ∃ x, a = some x ∧ len ≤ cap ∧ cap ≤ maxLen ∧ zs.length = cap ∧ (∀ i, i < zs.length → w.cell? (x.add i) = some (.int k (zs.getD i 0))) ∧ ∀ n ∈ zs, (Lit.int k n).wf = true

/-- A slice of uint64s that came in, as natural numbers. -/
theorem row_u64 {w : World} {a0 : Option Addr} {len0 cap0 : Nat} {z0 : List Int} (w0 : IsRow .u64 w a0 len0 cap0 z0) :
    len0 ≤ cap0 ∧ cap0 ≤ 9223372036854775807 ∧ ∃ L : List Nat, L.length = len0 ∧ (∀ x ∈ L, x < 18446744073709551616) ∧
      ∀ i, i < len0 → ∃ b off, a0 = some ⟨b, off, none⟩ ∧ w.cell? ⟨b, off + i, none⟩ = some (.int .u64 ((L.getD i 0 : Nat) : Int)) := by
  rcases w0 with ⟨rfl, rfl, rfl, rfl⟩ | ⟨x, rfl, hl, hm, hz, hcell, hwz⟩
  · exact ⟨by omega, by omega, [], rfl, by simp, fun i hi => by omega⟩
  · unfold maxLen at hm
    refine ⟨hl, by omega, (z0.take len0).map Int.toNat, by simp; omega, ?_, fun i hi => ?_⟩
    · intro y hy
      simp only [List.mem_map] at hy
      obtain ⟨n, hn, rfl⟩ := hy
      have := bounds_u64 (hwz n (List.mem_of_mem_take hn))
      omega
    · have hc := hcell i (by omega)
      have hc0 := hcell 0 (by omega)
      have hiz : i < z0.length := by omega
      have hb := bounds_u64 (hwz z0[i] (List.getElem_mem hiz))
      have e : (((z0.take len0).map Int.toNat).getD i 0 : Nat) = z0[i].toNat := by
        simp [List.getD, List.getElem?_take_of_lt hi, List.getElem?_eq_getElem hiz]
      rw [e]
      rw [getD_at hiz] at hc
      have e2 : ((z0[i].toNat : Nat) : Int) = z0[i] := by omega
      rw [e2]
      obtain ⟨b, off, spot⟩ := x
      have hspot : spot = none := by simpa [Addr.add] using World.cell?_spot hc0
      subst hspot
      rw [add_plain] at hc
      exact ⟨b, off, rfl, hc⟩

set_option maxRecDepth 100000 in
set_option maxHeartbeats 1000000 in
theorem walk (a0 : Option Addr) (len0 cap0 : Nat) (z0 : List Int) (w : World) (w0 : IsRow .u64 w a0 len0 cap0 z0) :
    Calls Try.prog 7 #[.slice a0 len0 cap0] w fun e w' => e = .returned (.bool true) ∧ Below w.heap.size w w' := by
  obtain ⟨hl, hm, L, hLn, -, hcell⟩ := row_u64 w0
  obtain ⟨i0, hi, hz0, hz1, hz2⟩ := info_parts Try.infoF
  have HC := hide hcell
  have HLn := hide hLn
  clear w0 hcell hLn
  by_cases hcmp : 40 < len0
  · have hN0 : 40 ≤ len0 := by omega
    have hNK : 40 ≤ 40 := by omega
    have hdec : decide ((40 : Int) < (len0 : Int)) = true := by simp; omega
    clear hcmp
    go_enter Try.func7, Try.ntmps7
    go_wp2_with fail
    refine (begun_any _).mono ?_
    rintro e x1 ⟨rfl, hb1⟩
    go_wp2_with fail
    go_loopw [4, 5] (fun v i wr => ∃ k : Nat, k ≤ 40 ∧ i = .int .i64 k ∧ Hid (wr.ownsRow w.heap.size 24 1 v k (fv (L.take k))) ∧ Hid (Below w.heap.size w wr)) (fun _ i _ => 40 - (intOf i).toNat)
    case atStart => exact ⟨0, by omega, rfl, by show World.ownsRow _ _ _ _ _ _ _; simpa [fv] using World.ownsRow_nil _ _ _ _, hide hb1⟩
    case round =>
      obtain ⟨k, hk, rfl, HO, HBel⟩ := hrel
      clear hb1
      by_cases hlt : k < 40
      · obtain ⟨b, off, rfl, hcell0⟩ := HC.out k (by omega)
        have hcell : wr.cell? ⟨b, off + k, none⟩ = some (.int .u64 ((L.getD k 0 : Nat) : Int)) := by rw [HBel.out.cell (p := ⟨b, off + k, none⟩) (cell_lt hcell0)]; exact hcell0
        have HT : Hid (fv (L.take (k + 1)) = fv (L.take k) ++ [.float .f64 (L.getD k 0)]) := by
          show _ = _
          have hkl : k < L.length := by rw [HLn.out]; omega
          have e : L.getD k 0 = L[k] := by simp [List.getD, List.getElem?_eq_getElem hkl]
          rw [List.take_succ_eq_append_getElem hkl, fv_app, e]
          rfl
        generalize L.getD k 0 = X at *
        have hbs := HBel.out.size
        have hkn : (fv (L.take k)).length = k := by rw [fv_len, List.length_take, HLn.out]; omega
        clear hcell0
        go_wp2_with fail
        with_reducible refine (of_any X _).mono ?_
        rintro e x ⟨rfl, rfl⟩
        have hbs2 : w.heap.size ≤ x.heap.size := hbs
        go_wp2_with (first
          | (at_builtin; refine wpList_append_own _ rfl _ _ 39 rfl w.heap.size 24 i0 (.float .f64 0) 1 8 Try.underlying39 hi hz0 hz1 hz2 rfl (by decide) _ k _ rfl (HO.out.alloc _) ⟨x.heap.size, 0, none⟩ 1 1 [.float .f64 X] rfl rfl (cell_one_new _ _ _) (by intro q hq; simp at hq; subst hq; rfl) (by unfold maxLen; omega) (by omega) (by simp; omega) ?_)
          | fail)
        intro v' w1 hown' hgrow _
        have HO2 : Hid (w1.ownsRow w.heap.size 24 1 v' (k + 1) (fv (L.take (k + 1)))) := by
          show World.ownsRow _ _ _ _ _ _ _
          rw [HT.out]
          exact hown'
        have HBel2 : Hid (Below w.heap.size w w1) := (HBel.out.alloc hbs2 _).grown hgrow (by simp; omega) (fun j hj => (HO.out.lt j hj).1)
        clear hown' hgrow HO HBel HT
        go_wp2_with fail
        go_roundw
        case rel => exact ⟨k + 1, by omega, by go_num, HO2, HBel2⟩
        case measure => simp [intOf]; omega
      · have hFs := Fs.own HO.out
        generalize L.take k = M at *
        clear HO
        go_wp2_with fail
        with_reducible refine (sum_any _ M _ hFs).mono ?_
        rintro e x2 ⟨rfl, m, rfl⟩
        go_wp2_with fail
        with_reducible refine (refAdd_any _ M _ (hFs.later (below_drewN (Below.refl _ _) m))).mono ?_
        rintro e x3 ⟨rfl, m2, rfl⟩
        go_wp2_with fail
        with_reducible refine (eq_any (Fl.sm M) (Fl.sm M) _).mono ?_
        rintro e x ⟨rfl, rfl⟩
        rw [show decide (Fl.sm M = Fl.sm M) = true by simp]
        go_wp2_with fail
        go_ret
        exact ⟨rfl, below_drewN HBel.out _⟩
  · have hN0 : len0 ≤ len0 := by omega
    have hNK : len0 ≤ 40 := by omega
    have hdec : decide ((40 : Int) < (len0 : Int)) = false := by simp; omega
    clear hcmp
    go_enter Try.func7, Try.ntmps7
    go_wp2_with fail
    refine (begun_any _).mono ?_
    rintro e x1 ⟨rfl, hb1⟩
    go_wp2_with fail
    go_loopw [4, 5] (fun v i wr => ∃ k : Nat, k ≤ len0 ∧ i = .int .i64 k ∧ Hid (wr.ownsRow w.heap.size 24 1 v k (fv (L.take k))) ∧ Hid (Below w.heap.size w wr)) (fun _ i _ => len0 - (intOf i).toNat)
    case atStart => exact ⟨0, by omega, rfl, by show World.ownsRow _ _ _ _ _ _ _; simpa [fv] using World.ownsRow_nil _ _ _ _, hide hb1⟩
    case round =>
      obtain ⟨k, hk, rfl, HO, HBel⟩ := hrel
      clear hb1
      by_cases hlt : k < len0
      · obtain ⟨b, off, rfl, hcell0⟩ := HC.out k (by omega)
        have hcell : wr.cell? ⟨b, off + k, none⟩ = some (.int .u64 ((L.getD k 0 : Nat) : Int)) := by rw [HBel.out.cell (p := ⟨b, off + k, none⟩) (cell_lt hcell0)]; exact hcell0
        have HT : Hid (fv (L.take (k + 1)) = fv (L.take k) ++ [.float .f64 (L.getD k 0)]) := by
          show _ = _
          have hkl : k < L.length := by rw [HLn.out]; omega
          have e : L.getD k 0 = L[k] := by simp [List.getD, List.getElem?_eq_getElem hkl]
          rw [List.take_succ_eq_append_getElem hkl, fv_app, e]
          rfl
        generalize L.getD k 0 = X at *
        have hbs := HBel.out.size
        have hkn : (fv (L.take k)).length = k := by rw [fv_len, List.length_take, HLn.out]; omega
        clear hcell0
        go_wp2_with fail
        with_reducible refine (of_any X _).mono ?_
        rintro e x ⟨rfl, rfl⟩
        have hbs2 : w.heap.size ≤ x.heap.size := hbs
        go_wp2_with (first
          | (at_builtin; refine wpList_append_own _ rfl _ _ 39 rfl w.heap.size 24 i0 (.float .f64 0) 1 8 Try.underlying39 hi hz0 hz1 hz2 rfl (by decide) _ k _ rfl (HO.out.alloc _) ⟨x.heap.size, 0, none⟩ 1 1 [.float .f64 X] rfl rfl (cell_one_new _ _ _) (by intro q hq; simp at hq; subst hq; rfl) (by unfold maxLen; omega) (by omega) (by simp; omega) ?_)
          | fail)
        intro v' w1 hown' hgrow _
        have HO2 : Hid (w1.ownsRow w.heap.size 24 1 v' (k + 1) (fv (L.take (k + 1)))) := by
          show World.ownsRow _ _ _ _ _ _ _
          rw [HT.out]
          exact hown'
        have HBel2 : Hid (Below w.heap.size w w1) := (HBel.out.alloc hbs2 _).grown hgrow (by simp; omega) (fun j hj => (HO.out.lt j hj).1)
        clear hown' hgrow HO HBel HT
        go_wp2_with fail
        go_roundw
        case rel => exact ⟨k + 1, by omega, by go_num, HO2, HBel2⟩
        case measure => simp [intOf]; omega
      · have hFs := Fs.own HO.out
        generalize L.take k = M at *
        clear HO
        go_wp2_with fail
        with_reducible refine (sum_any _ M _ hFs).mono ?_
        rintro e x2 ⟨rfl, m, rfl⟩
        go_wp2_with fail
        with_reducible refine (refAdd_any _ M _ (hFs.later (below_drewN (Below.refl _ _) m))).mono ?_
        rintro e x3 ⟨rfl, m2, rfl⟩
        go_wp2_with fail
        with_reducible refine (eq_any (Fl.sm M) (Fl.sm M) _).mono ?_
        rintro e x ⟨rfl, rfl⟩
        rw [show decide (Fl.sm M = Fl.sm M) = true by simp]
        go_wp2_with fail
        go_ret
        exact ⟨rfl, below_drewN HBel.out _⟩

set_option maxRecDepth 100000 in
theorem lifted (os : Os) (started : os.Started) (H : Type) (enc : TypeId × Value → H) :
    ReturnsInHanded {} Try.checked os 7 .any (Rows.floatSumSpec.pre6 enc Try.prog Try.f7 Rows.floatSumRow.domain false) (Rows.floatSumSpec.post enc Try.prog Try.f7 false true false false) := by
  refine returnsInHanded_of_change (C := Try.checked) own started (by kernel_rfl) Try.func7
    (ChangeSpec.witness6 (enc := enc) (C := Try.checked) false ⟨#[], #[.slice none 0 0], []⟩ 8 (by kernel_rfl) (by kernel_rfl) (by kernel_rfl) (by kernel_rfl)) ?_
  intro W base args ds gs before hval0 hW hcnd _
  have hval : ∀ (j : Nat) t v, Try.f7.params[j]? = some t → args[j]? = some v → Value.okWide Try.prog W .any base t v := hval0
  have hW' := hW
  obtain ⟨p, q, hA0, hV, rfl, hfz, hnd⟩ := hW
  have hA : DataW.TrodAll enc Try.prog W 0 (fun _ => true) true Try.f7.params.toList args.toList ds p := hA0
  rw [Try.params7] at hA hval
  obtain ⟨v0, vs0, d0, ds0, p0, q0, hargs, rfl, rfl, h0, r0⟩ := trodAll_cons hA
  obtain ⟨rfl, rfl, rfl⟩ := trodAll_nil r0
  obtain rfl : args = #[v0] := by cases args; simp_all
  obtain ⟨rfl, rfl⟩ := trodVars_none hV
  obtain ⟨a0, len0, cap0, rfl⟩ := okWide_slice Try.underlying38 (hval 0 38 v0 rfl rfl)
  have k0 := h0
  have lt0 : ∀ x ∈ p0, x.block < W.heap.size := by obtain ⟨m, hm⟩ := k0; exact DataW.trod_lt m _ _ _ hm
  obtain ⟨z0, w0⟩ : ∃ zs, IsRow .u64 W a0 len0 cap0 zs := by
    obtain ⟨fuel, hf⟩ := h0
    rcases open_ints Try.underlying38 Try.underlying22 (by kernel_rfl) hf with ⟨hcs, _⟩ | ⟨x, l, c, zs, hcs, _, hl, hm, hz, _, hcell, hwz⟩
    · simp [Value.cells] at hcs
      obtain ⟨rfl, rfl, rfl⟩ := hcs
      exact ⟨[], .inl ⟨rfl, rfl, rfl, rfl⟩⟩
    · simp [Value.cells] at hcs
      obtain ⟨rfl, rfl, rfl⟩ := hcs
      exact ⟨zs, .inr ⟨_, rfl, hl, hm, by simpa using hz, hcell, hwz⟩⟩
  clear hA0 hval0
  refine (walk a0 len0 cap0 z0 W w0).mono fun e W' ⟨he, bel⟩ => ?_
  subst he
  exact ⟨_, rfl, _, _, _, [], _, [], hW', trodAll_mk1 (shut_bool Try.underlying4 _), (trodAll_cons_mk (Below.trod laidOut (by kernel_rfl) (of_decide_eq_true (by kernel_rfl)) k0 bel lt0) trodAll_mk0), rfl, bel.frame _, fun h => by cases h⟩

theorem over : Rows.floatSumRow.holds Try.pinned (OpenSpec.ofChange Rows.floatSumSpec) :=
  OpenClaim.holds_of_wide 7 Try.f7 rfl rfl rfl rfl rfl rfl rfl ⟨rfl, rfl, rfl, rfl, rfl⟩ rfl rfl rfl rfl rfl (by kernel_rfl) Try.func7 (by kernel_rfl)
    (of_decide_eq_true (by kernel_rfl)) (by unfold Func.isWrapper; first | (rw [if_pos (by decide +kernel)]; kernel_rfl) | (rw [if_neg (by decide +kernel)]; exact ⟨rfl, rfl⟩))
    (fun os started H enc _ => lifted os started H enc)

theorem proved : Rows.FloatSumSaid := over
#print axioms proved
end Go.Proofs.Ytnkmfaddgodefaa.floatSum
