/-
  For all bytes b DatumAny returns true: of b (40 bytes) datum.Get says what the document says: the value at its beginning, how many bytes, or the error. No condition.
-/
import Derived.Test.YtdooocbkhncmdaaRows
import Derived.WalkKit
import Derived.ProofKit
import Derived.OpenShut
import Derived.ShutString
import Derived.ChangeOld
import Derived.Below
import Derived.Test.YtdooocbkhncmdaaDatB
import Derived.Test.YtdooocbkhncmdaaDatS
namespace Go.Proofs.Ytdooocbkhncmdaa.datumAny
open Go.ChangeShapes Go.WideShapes Go.ChangeAt Go.RowKit
open Go.ChangeMaps (open_string shut_string)
set_option linter.unusedVariables false

theorem own : ownKnob Try.prog.godebug = none := by kernel_rfl
theorem laidOut : laidOutB Try.prog = true := by kernel_rfl

/-- WHAT THE WALK IS TOLD OF A SLICE OF INTEGERS THAT CAME IN: it is nil; or it leads to a row of 'cap' cells, the numbers 'zs' (the first 'len' are its elements, the rest its spare room), each fitting its kind. -/
def IsRow (k : IntKind) (w : World) (a : Option Addr) (len cap : Nat) (zs : List Int) : Prop :=
  (a = none ∧ len = 0 ∧ cap = 0 ∧ zs = []) ∨
  ∃ x, a = some x ∧ len ≤ cap ∧ cap ≤ maxLen ∧ zs.length = cap ∧ (∀ i, i < zs.length → w.cell? (x.add i) = some (.int k (zs.getD i 0))) ∧ ∀ n ∈ zs, (Lit.int k n).wf = true

theorem row_sl {w : World} {a : Option Addr} {len cap : Nat} {zs : List Int} (h : IsRow .u8 w a len cap zs) : Sl w (.slice a len cap) (zs.take len) := by
  rcases h with ⟨rfl, rfl, rfl, rfl⟩ | ⟨x, rfl, hl, hm, hz, hcell, hwz⟩
  · exact Sl.nil _
  · have hlen : (zs.take len).length = len := by simp; omega
    refine ⟨some x, cap, by rw [hlen], by rw [hlen]; omega, hm, fun z hz' => bounds_u8 (hwz z (List.mem_of_mem_take hz')), fun i hi => ?_⟩
    rw [hlen] at hi
    have hc := hcell i (by omega)
    have hc0 := hcell 0 (by omega)
    obtain ⟨b, off, spot⟩ := x
    have hspot : spot = none := by simpa [Addr.add] using World.cell?_spot hc0
    subst hspot
    rw [add_plain] at hc
    exact ⟨b, off, rfl, by rw [hc]; simp [List.getD, List.getElem?_take_of_lt hi]⟩

theorem and3 {a b c r : Prop} (h : a ∧ b ∧ c) (k : r) : a ∧ b ∧ c ∧ r := ⟨h.1, h.2.1, h.2.2, k⟩

theorem fo_lt {zs : List Int} (h : ∀ z ∈ zs, 0 ≤ z ∧ z ≤ 255) : (Fl.fo zs).1 < 18446744073709551616 := by
  unfold Fl.fo
  split
  · rename_i hl
    have h1 := Fl.bn_lt zs h
    rw [hl] at h1
    split
    · exact Fl.cl_bd (Fl.un_lt _ (by omega))
    · simp
  · simp

theorem get_lt {zs : List Int} (h : ∀ z ∈ zs, 0 ≤ z ∧ z ≤ 255) : (Dt.get zs).2.1 < 18446744073709551616 := by
  unfold Dt.get
  split
  · simp
  · split
    · simp
    · simp only
      unfold Dt.con
      split
      · simp
      · split
        · split
          · simp
          · split
            · simp
            · exact fo_lt (fun z hz => h z (List.mem_of_mem_drop (List.mem_of_mem_take hz)))
        · split
          · split
            · simp
            · split <;> simp
          · simp

theorem refGetVal_at {v : Value} {zs : List Int} {w : World} {k : Int} {x : Nat} {s : List Int} {n e : Int} (h : Sl w v zs) (he : Dt.get zs = (k, x, s, n, e)) :
    Calls Try.prog 20 #[v] w fun r w' => r = .returned (.tuple #[.agg #[.int .i64 k, .float .f64 x, .string (strOfNums s)], .int .i64 n, .int .i64 e]) ∧ Below w.heap.size w w' := by
  have := refGetVal_any v zs w h
  rw [he] at this
  exact this

set_option maxRecDepth 100000 in
set_option maxHeartbeats 2000000 in
theorem walk (a0 : Option Addr) (len0 cap0 : Nat) (z0 : List Int) (w : World) (w0 : IsRow .u8 w a0 len0 cap0 z0) :
    Calls Try.prog 4 #[.slice a0 len0 cap0] w fun e w' => e = .returned (.bool true) ∧ Below w.heap.size w w' := by
  have S0 := hide (row_sl w0)
  clear w0
  have hsf := st_float
  go_enter Try.func4, Try.ntmps4
  go_wp2_with fail
  refine (begun_any _).mono ?_
  rintro e x1 ⟨rfl, hb1⟩
  go_wp2_with fail
  refine (short_any _ _ 40 _ (S0.out.later hb1)).mono ?_
  rintro e x2 ⟨vr, rfl, hR, rfl⟩
  generalize (z0.take len0).take 40 = zs at *
  have hlt := get_lt hR.bd
  obtain ⟨A, B, C, D, E, hE⟩ : ∃ A B C D E, Dt.get zs = (A, B, C, D, E) := ⟨_, _, _, _, _, rfl⟩
  rw [hE] at hlt
  simp only at hlt
  have HE := hide hE
  clear hE S0
  go_wp2_with fail
  refine (dget_at hR HE.out).mono ?_
  rintro e x3 ⟨rfl, hb3⟩
  have hBw := hb1.trans (hb3.mono hb1.size)
  have hR3 := hR.later hb3
  clear hR hb1 hb3
  go_wp2_with fail
  generalize hW : World.alloc _ _ = W0
  have hB0 : Below x3.heap.size x3 W0 := by rw [← hW]; exact (Below.refl _ _).alloc (Nat.le_refl _) _
  have hbx : ∀ w', Below W0.heap.size W0 w' → _ := fun w' hb => box_cells (w := x3) (w' := w') (by rw [hW]; exact hb)
  have HBX := hide hbx
  have hR4 := hR3.later hB0
  replace hBw := hBw.trans (hB0.mono hBw.size)
  clear hW hB0 hbx hR3
  refine (refGetVal_at hR4 HE.out).mono ?_
  rintro e x4 ⟨rfl, hb4⟩
  generalize strOfNums C = S at *
  clear hR4
  obtain ⟨c0, c1, c2⟩ := HBX.out _ hb4
  generalize hX : x4.alloc (Obj.cells #[Value.int IntKind.i64 A, Value.float FloatKind.f64 B, Value.string S] 27) = X
  have hBX : Below W0.heap.size W0 X := by rw [← hX]; exact hb4.alloc hb4.size _
  have HA : Hid (∀ w', Below X.heap.size X w' → _) := fun w' hb => and3 (HBX.out w' (hBX.trans (hb.mono hBX.size))) (box_cells (w := x4) (w' := w') (by rw [hX]; exact hb))
  replace hBw := hBw.trans (hBX.mono hBw.size)
  have hB : Below X.heap.size X X := Below.refl _ _
  clear hb4 HBX c0 c1 c2
  obtain ⟨c0, c1, c2, d0, d1, d2⟩ := HA.out _ hB
  have HRF := hide (Dt.eq_refl A B S)
  go_wp2_with fail
  with_reducible refine (refEq_any A B S A B S _ hlt hlt).mono ?_
  rintro e x ⟨rfl, hb⟩
  rw [HRF.out]
  replace hB := hB.trans (hb.mono hB.size)
  clear hb c0 c1 c2 d0 d1 d2
  obtain ⟨c0, c1, c2, d0, d1, d2⟩ := HA.out _ hB
  go_wp2_with fail
  with_reducible refine (eq_any B B _).mono ?_
  rintro e x ⟨rfl, rfl⟩
  rw [show decide (B = B) = true by simp]
  go_wp2_with fail
  go_ret
  exact ⟨rfl, hBw.trans (hB.mono hBw.size)⟩

set_option maxRecDepth 100000 in
theorem lifted (os : Os) (started : os.Started) (H : Type) (enc : TypeId × Value → H) :
    ReturnsInHanded {} Try.checked os 4 .any (Rows.datumAnySpec.pre6 enc Try.prog Try.f4 Rows.datumAnyRow.domain false) (Rows.datumAnySpec.post enc Try.prog Try.f4 false true false false) := by
  refine returnsInHanded_of_change (C := Try.checked) own started (by kernel_rfl) Try.func4
    (ChangeSpec.witness6 (enc := enc) (C := Try.checked) false ⟨#[], #[.slice none 0 0], []⟩ 8 (by kernel_rfl) (by kernel_rfl) (by kernel_rfl) (by kernel_rfl)) ?_
  intro W base args ds gs before hval0 hW hcnd _
  have hval : ∀ (j : Nat) t v, Try.f4.params[j]? = some t → args[j]? = some v → Value.okWide Try.prog W .any base t v := hval0
  have hW' := hW
  obtain ⟨p, q, hA0, hV, rfl, hfz, hnd⟩ := hW
  have hA : DataW.TrodAll enc Try.prog W 0 (fun _ => true) true Try.f4.params.toList args.toList ds p := hA0
  rw [Try.params4] at hA hval
  obtain ⟨v0, vs0, d0, ds0, p0, q0, hargs, rfl, rfl, h0, r0⟩ := trodAll_cons hA
  obtain ⟨rfl, rfl, rfl⟩ := trodAll_nil r0
  obtain rfl : args = #[v0] := by cases args; simp_all
  obtain ⟨rfl, rfl⟩ := trodVars_none hV
  obtain ⟨a0, len0, cap0, rfl⟩ := okWide_slice Try.underlying23 (hval 0 23 v0 rfl rfl)
  have k0 := h0
  have lt0 : ∀ x ∈ p0, x.block < W.heap.size := by obtain ⟨m, hm⟩ := k0; exact DataW.trod_lt m _ _ _ hm
  obtain ⟨z0, w0⟩ : ∃ zs, IsRow .u8 W a0 len0 cap0 zs := by
    obtain ⟨fuel, hf⟩ := h0
    rcases open_ints Try.underlying23 Try.underlying5 (by kernel_rfl) hf with ⟨hcs, _⟩ | ⟨x, l, c, zs, hcs, _, hl, hm, hz, _, hcell, hwz⟩
    · simp [Value.cells] at hcs
      obtain ⟨rfl, rfl, rfl⟩ := hcs
      exact ⟨[], .inl ⟨rfl, rfl, rfl, rfl⟩⟩
    · simp [Value.cells] at hcs
      obtain ⟨rfl, rfl, rfl⟩ := hcs
      exact ⟨zs, .inr ⟨_, rfl, hl, hm, by simpa using hz, hcell, hwz⟩⟩
  clear hA0 hval0
  refine (walk a0 len0 cap0 z0 W w0).mono fun e W' ⟨he, bel⟩ => ?_
  subst he
  exact ⟨_, rfl, _, _, _, [], _, [], hW', trodAll_mk1 (shut_bool Try.underlying4 _), (trodAll_cons_mk (Below.trod laidOut (by kernel_rfl) (of_decide_eq_true (by kernel_rfl)) k0 bel lt0) trodAll_mk0), rfl, bel.frame _, fun h => by cases h⟩

theorem over : Rows.datumAnyRow.holds Try.pinned (OpenSpec.ofChange Rows.datumAnySpec) :=
  OpenClaim.holds_of_wide 4 Try.f4 rfl rfl rfl rfl rfl rfl rfl ⟨rfl, rfl, rfl, rfl, rfl⟩ rfl rfl rfl rfl rfl (by kernel_rfl) Try.func4 (by kernel_rfl)
    (of_decide_eq_true (by kernel_rfl)) (by unfold Func.isWrapper; first | (rw [if_pos (by decide +kernel)]; kernel_rfl) | (rw [if_neg (by decide +kernel)]; exact ⟨rfl, rfl⟩))
    (fun os started H enc _ => lifted os started H enc)

theorem proved : Rows.DatumAnySaid := over
#print axioms proved
end Go.Proofs.Ytdooocbkhncmdaa.datumAny
