/-
  For every byte x AllocRoot returns true: a book whose page 1 has the fifth byte x begins the tree at x if it is 0 or 2 to 31; else Root tells 0 and ErrRange. No condition.
-/
import Derived.Test.YtiggannhanfolaaRows
import Derived.WalkKit
import Derived.ProofKit
import Derived.OpenShut
import Derived.ShutString
import Derived.ChangeOld
import Derived.Below
import Derived.Test.YtiggannhanfolaaAllF
import Derived.Test.YtiggannhanfolaaOrd
import Derived.Test.YtiggannhanfolaaOrw
import Derived.Test.YtiggannhanfolaaOpn
namespace Go.Proofs.Ytiggannhanfolaa.allocRoot
open Go.ChangeShapes Go.WideShapes Go.ChangeAt Go.RowKit
open Go.ChangeMaps (open_string shut_string)
set_option linter.unusedVariables false

theorem own : ownKnob Try.prog.godebug = none := by kernel_rfl
theorem laidOut : laidOutB Try.prog = true := by kernel_rfl

set_option maxRecDepth 100000 in
set_option maxHeartbeats 4000000 in
theorem walk (a0 : Int) (w : World) (w0 : (Lit.int .u8 a0).wf = true) :
    Calls Try.prog 7 #[.int .u8 a0] w fun e w' => e = .returned (.bool true) ∧ Below w.heap.size w w' := by
  have hz : 0 ≤ a0 ∧ a0 ≤ 255 := bounds_u8 w0
  have HX := hide hz
  obtain ⟨i0, hi, hz0, hz1, hz2⟩ := info_parts Try.info5
  have hmk := fun (w : World) => run_make (P := Try.prog) w 25 5 i0 (.int .u8 0) Try.underlying25 hi hz0 .i64 .i64 256 256 (by omega) (by omega) (by rw [hz2]; omega) (by omega)
  clear w0 hz
  go_enter Try.func7, Try.ntmps7
  go_wp2_with fail
  refine (abegun_any _).mono ?_
  rintro e x1 ⟨rfl, hB1⟩
  have HB1 := hide hB1
  have hl1 := hB1.size
  have HR := hide (run_buildB x1)
  have hT : Tb (x1.alloc (.cells (bkz 0).toArray 28)) 28 x1.heap.size (bkz 0) := Tb.new _ _ _
  have HT := hide hT
  have HA := hide (below_alloc x1 (.cells (bkz 0).toArray 28))
  clear hB1 hT
  generalize hq : bkz 0 = q at *
  go_wp2_with (first
    | (refine wpList_build0T 28 q rfl rfl HR.out ?_)
    | (refine wpList_boxT 28 _ q rfl rfl rfl ?_))
  obtain ⟨gb, hgb⟩ : ∃ gb, gb = x1.heap.size := ⟨_, rfl⟩
  rw [← hgb] at HT hl1 ⊢
  have HL := hide hl1
  have HB2 := hide (HB1.out.trans (HA.out.mono HB1.out.size))
  generalize x1.alloc (.cells q.toArray 28) = x2 at *
  clear HB1 HA HR hgb hl1
  subst hq
  refine wp_region_noPanic ?_
  refine wp_region_P 5 (fun X => Below w.heap.size w X) (by kernel_rfl) HB2.out.drew (fun hHeld => ?_)
  have HT3 : Hid (Tb x2.drew 28 gb (bkz 0)) := HT.out
  clear HT HB2
  generalize x2.drew = x3 at *
  refine wpAnyP_takeU (i := 0) (v := ?_) rfl (by kernel_rfl) (by kernel_rfl) (by kernel_rfl) (by decide) (fun _ _ _ h => h) (Or.inl ⟨by kernel_rfl, ?_⟩) hHeld ?_
  rotate_left
  · intro W hW; clear hW; go_simp; first | done | with_reducible rfl | rfl
  try simp only [Act.put, List.getElem_toArray, List.getElem_cons_zero, List.setIfInBounds_toArray, List.set_cons_succ, List.set_cons_zero]
  refine wpAnyP_takeU (i := 2) (v := ?_) rfl (by kernel_rfl) (by kernel_rfl) (by kernel_rfl) (by decide) (fun _ _ _ h => h) (Or.inl ⟨by kernel_rfl, ?_⟩) hHeld ?_
  rotate_left
  · intro W hW; clear hW; go_simp; first | done | with_reducible rfl | rfl
  try simp only [Act.put, List.getElem_toArray, List.getElem_cons_zero, List.getElem_cons_succ, List.setIfInBounds_toArray, List.set_cons_succ, List.set_cons_zero]
  refine wpAnyP_takeU (i := 3) (v := ?_) rfl (by kernel_rfl) (by kernel_rfl) (by kernel_rfl) (by decide) (fun _ _ _ h => h) (Or.inl ⟨by kernel_rfl, ?_⟩) hHeld ?_
  rotate_left
  · intro W hW; clear hW; go_simp; first | done | with_reducible rfl | rfl
  try simp only [Act.put, List.getElem_toArray, List.getElem_cons_zero, List.getElem_cons_succ, List.setIfInBounds_toArray, List.set_cons_succ, List.set_cons_zero]
  refine wpAnyP_ready (rs := [1]) (by kernel_rfl) (by simp) ?_
  refine AllReadyP.cons (o := _) rfl (fun K hK => ?_) AllReadyP.nil
  rw [if_pos (by kernel_rfl)]
  go_simp
  have hA := made_tb x3
  have hb := below_alloc x3 (.cells (madeCells #[Value.int IntKind.u8 0] 256) 5)
  have hT4 := HT3.out.later hb
  have hK1 := B1.make hT4 hA zer_pg (base := w.heap.size) ⟨HL.out, hHeld.size⟩
  have hB4 := hHeld.trans (hb.mono hHeld.size)
  have hB5 := Tb.butBelow hB4 hB4.size 1 (.slice (some ⟨x3.heap.size, 0, none⟩) 256 256) HL.out
  have c4 := hT4.cell (i := 1) (by rw [bkz_len]; omega)
  have f4 := hT4.frozen 1
  refine hK.out _ _ hB4 ?_
  clear hK K hA hb hT4 HT3 hHeld
  generalize x3.alloc (.cells (madeCells #[Value.int IntKind.u8 0] 256) 5) = x4 at *
  generalize x3.heap.size = b at *
  try simp only [Act.put, List.getElem_toArray, List.getElem_cons_zero, List.getElem_cons_succ, List.setIfInBounds_toArray, List.set_cons_succ, List.set_cons_zero]
  have hHeld := hB4
  refine wpAnyP_takeU (i := 4) (v := (.pointer (some ⟨gb, 1, none⟩))) rfl (by kernel_rfl) (by kernel_rfl) (by kernel_rfl) (by decide) (fun _ _ _ h => h) (Or.inl ⟨by kernel_rfl, ?_⟩) hHeld ?_
  · intro W hW; clear hW; go_simp; first | done | with_reducible rfl | rfl
  try simp only [Act.put, List.getElem_toArray, List.getElem_cons_zero, List.getElem_cons_succ, List.setIfInBounds_toArray, List.set_cons_succ, List.set_cons_zero]
  refine wpAnyP_ready (rs := [5]) (by kernel_rfl) (by simp) ?_
  refine AllReadyP.late (o := _) rfl (by kernel_rfl) (fun K hK => ?_)
  rw [if_pos (by kernel_rfl)]
  go_simp
  refine hK.out _ _ ?_
  have HK1 := hide hK1
  have HB5 := hide hB5
  clear hK K c4 f4 hK1 hB5 hB4 hHeld
  generalize x4.setCell ⟨gb, 1, none⟩ (.slice (some ⟨b, 0, none⟩) 256 256) = x5 at *
  refine wpAnyP_done (by kernel_rfl) ?_ _
  refine NoPanic.normal ?_
  go_simp
  obtain ⟨k0, f0⟩ := HK1.out.ptr
  obtain ⟨k1, f1⟩ := HK1.out.cell (i := 4) (by omega)
  go_upto_region 7 with fail
  have HK2 := hide (HK1.out.seti 4 HX.out)
  have HB6 := hide (HK1.out.but HB5.out HB5.out.size 4 (.int .u8 a0))
  clear HK1 k0 f0 k1 f1 HB5
  generalize x5.setCell ⟨b, 4, none⟩ (.int .u8 a0) = x6 at *
  have h4 : (zer.set 4 a0).getD 4 0 = a0 := rfl
  have hx : 0 ≤ a0 ∧ a0 ≤ 255 := HX.out
  have hcs : a0 = 0 ∨ a0 = 1 ∨ (2 ≤ a0 ∧ a0 ≤ 31) ∨ 32 ≤ a0 := by omega
  rcases hcs with rfl | rfl | ⟨q1, q2⟩ | q1
  · go_wp2_with fail
    refine (root_any HK2.out.book.src (book1 _) h4).mono ?_
    rw [show mb 0 = true from rfl]
    rintro e x7 ⟨rfl, hb⟩
    have HB := hide (HB6.out.trans (hb.mono HB6.out.size))
    clear hb
    go_wp2_with fail
    go_ret
    exact ⟨rfl, HB.out⟩
  · go_wp2_with fail
    refine (root_any HK2.out.book.src (book1 _) h4).mono ?_
    rw [show mb 1 = false from rfl]
    rintro e x7 ⟨rfl, hb⟩
    have HB := hide (HB6.out.trans (hb.mono HB6.out.size))
    clear hb
    go_wp2_with fail
    go_ret
    exact ⟨rfl, HB.out⟩
  · have hm : mb a0 = true := by simp [mb]; omega
    have hn0 : (a0 == 0) = false := by simp; omega
    go_wp2_with fail
    refine (root_any HK2.out.book.src (book1 _) h4).mono ?_
    rw [hm]
    rintro e x7 ⟨rfl, hb⟩
    have HB := hide (HB6.out.trans (hb.mono HB6.out.size))
    clear hb hm
    go_wp2_with fail
    go_ret
    exact ⟨rfl, HB.out⟩
  · have hm : mb a0 = false := by simp [mb]; omega
    have hn0 : (a0 == 0) = false := by simp; omega
    have hn2 : 2 ≤ a0 := by omega
    have hn3 : ¬ a0 ≤ 31 := by omega
    go_wp2_with fail
    refine (root_any HK2.out.book.src (book1 _) h4).mono ?_
    rw [hm]
    rintro e x7 ⟨rfl, hb⟩
    have HB := hide (HB6.out.trans (hb.mono HB6.out.size))
    clear hb hm
    go_wp2_with fail
    go_ret
    exact ⟨rfl, HB.out⟩

set_option maxRecDepth 100000 in
theorem lifted (os : Os) (started : os.Started) (H : Type) (enc : TypeId × Value → H) :
    ReturnsInHanded {} Try.checked os 7 .any (Rows.allocRootSpec.pre6 enc Try.prog Try.f7 Rows.allocRootRow.domain false) (Rows.allocRootSpec.post enc Try.prog Try.f7 false true false false) := by
  refine returnsInHanded_of_change (C := Try.checked) own started (by kernel_rfl) Try.func7
    (ChangeSpec.witness6 (enc := enc) (C := Try.checked) false ⟨#[], #[.int .u8 0], []⟩ 8 (by kernel_rfl) (by kernel_rfl) (by kernel_rfl) (by kernel_rfl)) ?_
  intro W base args ds gs before hval0 hW hcnd _
  have hval : ∀ (j : Nat) t v, Try.f7.params[j]? = some t → args[j]? = some v → Value.okWide Try.prog W .any base t v := hval0
  have hW' := hW
  obtain ⟨p, q, hA0, hV, rfl, hfz, hnd⟩ := hW
  have hA : DataW.TrodAll enc Try.prog W 0 (fun _ => true) true Try.f7.params.toList args.toList ds p := hA0
  rw [Try.params7] at hA hval
  obtain ⟨v0, vs0, d0, ds0, p0, q0, hargs, rfl, rfl, h0, r0⟩ := trodAll_cons hA
  obtain ⟨rfl, rfl, rfl⟩ := trodAll_nil r0
  obtain rfl : args = #[v0] := by cases args; simp_all
  obtain ⟨rfl, rfl⟩ := trodVars_none hV
  obtain ⟨a0, rfl, rfl, rfl, w0⟩ := open_int Try.underlying5 (hval 0 5 v0 rfl rfl) h0
  clear hA0 hval0
  refine (walk a0 W w0).mono fun e W' ⟨he, bel⟩ => ?_
  subst he
  exact ⟨_, rfl, _, _, _, [], _, [], hW', trodAll_mk1 (shut_bool Try.underlying4 _), (trodAll_cons_mk (shut_int Try.underlying5 w0) trodAll_mk0), rfl, bel.frame _, fun h => by cases h⟩

theorem over : Rows.allocRootRow.holds Try.pinned (OpenSpec.ofChange Rows.allocRootSpec) :=
  OpenClaim.holds_of_wide 7 Try.f7 rfl rfl rfl rfl rfl rfl rfl ⟨rfl, rfl, rfl, rfl, rfl⟩ rfl rfl rfl rfl rfl (by kernel_rfl) Try.func7 (by kernel_rfl)
    (of_decide_eq_true (by kernel_rfl)) (by unfold Func.isWrapper; first | (rw [if_pos (by decide +kernel)]; kernel_rfl) | (rw [if_neg (by decide +kernel)]; exact ⟨rfl, rfl⟩))
    (fun os started H enc _ => lifted os started H enc)

theorem proved : Rows.AllocRootSaid := over
#print axioms proved
end Go.Proofs.Ytiggannhanfolaa.allocRoot
