/-
  For every byte x SheetOwn returns true: what is handed to Set, what Page, Must and Changes tell is nobody else's: the page stays as it was set. No condition.
-/
import Derived.Test.YthihldepedbppaaRows
import Derived.WalkKit
import Derived.ProofKit
import Derived.OpenShut
import Derived.ShutString
import Derived.ChangeOld
import Derived.Below
import Derived.Test.YthihldepedbppaaShtI
namespace Go.Proofs.Ythihldepedbppaa.sheetOwn
open Go.ChangeShapes Go.WideShapes Go.ChangeAt Go.RowKit
open Go.ChangeMaps (open_string shut_string)
set_option linter.unusedVariables false

theorem own : ownKnob Try.prog.godebug = none := by kernel_rfl
theorem laidOut : laidOutB Try.prog = true := by kernel_rfl

set_option maxRecDepth 100000 in
set_option maxHeartbeats 4000000 in
theorem walk (a0 : Int) (w : World) (w0 : (Lit.int .u8 a0).wf = true) :
    Calls Try.prog 4 #[.int .u8 a0] w fun e w' => e = .returned (.bool true) ∧ Below w.heap.size w w' := by
  have hz : 0 ≤ a0 ∧ a0 ≤ 255 := bounds_u8 w0
  have HA := hide hz
  clear w0 hz
  have HP : Hid (Pg (pad [a0])) := pad_pg (by intro z hz; rw [List.mem_singleton] at hz; rw [hz]; exact HA.out)
  have HP0 : Hid ((pad [a0]).getD 0 0 = a0) := rfl
  go_enter Try.func4, Try.ntmps4
  go_wp2_with fail
  refine (begun_any _).mono ?_
  rintro e x1 ⟨rfl, hB1⟩
  have HK1 := hide (Book.new x1 0)
  have HB1 := hide (hB1.trans ((below_alloc x1 (.cells (bkz 0).toArray 28)).mono hB1.size))
  have HR := hide (run_buildB x1)
  have hl1 := hB1.size
  generalize hq : bkz 0 = q at *
  clear hB1
  go_wp2_with (first
    | (refine wpList_build0T 28 q rfl rfl HR.out ?_)
    | (refine wpList_boxT 28 _ q rfl rfl rfl ?_))
  obtain ⟨gb, hgb⟩ : ∃ gb, gb = x1.heap.size := ⟨_, rfl⟩
  rw [← hgb] at HK1 hl1 ⊢
  refine (Duo.new HK1.out HB1.out HB1.out.size hl1).mono ?_
  rintro e x2 ⟨gs, rfl, hd, -⟩
  have HD := hide hd
  clear hd HK1 HB1 HR hl1 hgb hq
  go_wp2_with fail
  refine (pof_any (lit_sl _ _ _ (zs := [a0]) (by intro z hz; rw [List.mem_singleton] at hz; rw [hz]; exact HA.out) (by simp))).mono ?_
  rintro e x3 ⟨b3, rfl, hp3, hl3, hb⟩
  have hb3 : Below x2.heap.size x2 x3 := (below_alloc _ _).trans (hb.mono (below_alloc x2 _).size)
  have HD3 := hide (HD.out.later hb3)
  have HT3 := hide hp3
  have HL3 : Hid (w.heap.size ≤ b3) := by
    have h1 := HD.out.big
    have h2 := (below_alloc x2 (.cells #[.int .u8 a0] 5)).size
    show _ ≤ _
    exact Nat.le_trans h1 (Nat.le_trans h2 hl3)
  clear hp3 hl3 hb hb3 HD
  go_wp2_with fail
  refine (HD3.out.set (no := 3) rfl (by omega) (Sl.own (tb_own HT3.out HP.out (Nat.zero_le _)) HP.out.2) HP.out).mono ?_
  rintro e x4 ⟨rfl, hd4, hb4, -⟩
  have HD4 := hide hd4
  have HT4 : Hid (Tb x4 5 b3 (bv (pad [a0]))) := by
    obtain ⟨vs, hs⟩ := HD3.out.sheet
    exact HT3.out.but hb4 (Ne.symm (hs.at_.apart HT3.out (by decide)))
  have c4 := HT4.out.cell (i := 0) (by rw [bv_len, pad_len]; omega)
  have f4 := HT4.out.frozen 0
  have e4 : (bv (pad [a0])).getD 0 undef = .int .u8 a0 := rfl
  rw [e4] at c4
  clear hd4 hb4 e4 HD3 HT3
  have HDs := fun (z : Int) => HD4.out.off (but_set x4 b3 0 (.int .u8 z)) HT4.out HL3.out
  have HDS := hide HDs
  clear HDs
  go_upto_region 8 with fail
  have HD5 := hide (HDS.out ((a0 + 1) % 256))
  generalize x4.setCell ⟨b3, 0, none⟩ (.int .u8 ((a0 + 1) % 256)) = x5 at *
  clear HDS HD4 HT4 c4 f4 HL3
  go_wp2_with fail
  refine (HD5.out.page (no := 3) rfl (by omega)).mono ?_
  rw [show orE (put1 (fun _ => none) 3 (pad [a0])) (bookF 0 fun _ => none) 3 = some (pad [a0]) from rfl]
  rintro e x6 ⟨v6, rfl, ho6, -, hb6⟩
  obtain ⟨b6, c6, us6, rfl, hl6, hc6, hd6, ht6, hf6⟩ := own_row ho6
  have k6 := hf6 0 (by omega)
  rw [HP0.out] at k6
  have f6 := ht6.frozen 0
  have HT6 := hide ht6
  have HB6 := hide hb6
  have HL6 := hide hl6
  have HBs : Hid (∀ z : Int, Below x5.heap.size x5 (x6.setCell ⟨b6, 0, none⟩ (.int .u8 z))) := fun z => Below.but HB6.out HB6.out.size (but_set x6 b6 0 _) (fun i e => by have := HL6.out; omega)
  clear ho6 hf6 hb6 hl6 ht6
  go_upto_region 10 with fail
  have HB7 := hide (HBs.out ((a0 + 2) % 256))
  generalize x6.setCell ⟨b6, 0, none⟩ (.int .u8 ((a0 + 2) % 256)) = x7 at *
  clear HBs HB6 HL6 HT6 k6 f6
  have HD7 := hide (HD5.out.later HB7.out)
  clear HD5 HB7
  go_wp2_with fail
  refine HD7.out.changes.mono ?_
  rintro e x8 ⟨v8, L, rfl, hL, -, hb8⟩
  have HI8 := hide hL.loose
  have HB8 := hide hb8
  clear hL hb8
  go_wp2_with fail
  obtain ⟨p8, n8, c8, rfl, hn8, hm8, Hn8, HG8⟩ := HI8.out.opens
  clear HI8
  go_loopw [9] (fun i wr => ∃ k : Nat, k ≤ n8 ∧ i = .int .i64 k ∧ Hid (Igb wr x7.heap.size (.slice p8 n8 c8) L) ∧ Hid (Below x7.heap.size x7 wr)) (fun i _ => n8 - (RowKit.intOf i).toNat)
  case atStart => exact ⟨0, by omega, rfl, HG8, HB8⟩
  case round =>
    obtain ⟨k, hk, rfl, HG, HB⟩ := hrel
    by_cases hlt : k < n8
    · obtain ⟨g, x, rfl, hx, q1, q2⟩ := HG.out.at_ hlt
      obtain ⟨r1, r2, r3, ⟨us, r4⟩, z, hbz, r5⟩ := HG.out.2 x hx
      have r6 := r4.frozen 0
      have HGs : Hid (∀ z' : Int, 0 ≤ z' ∧ z' ≤ 255 → Igb (wr.setCell ⟨x.b, 0, none⟩ (.int .u8 z')) x7.heap.size (.slice (some ⟨g, 0, none⟩) n8 c8) L ∧ Below x7.heap.size x7 (wr.setCell ⟨x.b, 0, none⟩ (.int .u8 z'))) := fun z' hz' =>
        ⟨HG.out.set r4 r5 hz', Below.but HB.out HB.out.size (but_set wr x.b 0 _) (fun i e => by omega)⟩
      clear q1 r1 r4 hx HG HB
      generalize x.b = xb at *
      generalize x.c = xc0 at *
      go_wp2_with fail
      have HG2 := hide (HGs.out ((z + 3) % 256) (by omega)).1
      have HB2 := hide (HGs.out ((z + 3) % 256) (by omega)).2
      clear HGs r5 r6 q2
      go_roundw
      case rel => exact ⟨k + 1, by omega, by go_num, HG2, HB2⟩
      case measure => simp [RowKit.intOf]; omega
    · obtain rfl : k = n8 := by omega
      have HDr := hide (HD7.out.later HB.out)
      clear HG HB HD7 HG8 HB8
      go_wp2_with fail
      refine (HDr.out.must (no := 3) rfl (by omega) (zs := pad [a0]) rfl).mono ?_
      rintro e y1 ⟨v1, rfl, ho1, -, hb1⟩
      obtain ⟨b1, c1, us1, rfl, hl1, hc1, hd1, ht1, hf1⟩ := own_row ho1
      have k1 := hf1 0 (by omega)
      rw [HP0.out] at k1
      have f1 := ht1.frozen 0
      have HDs : Hid (∀ z : Int, Duo w.heap.size w (y1.setCell ⟨b1, 0, none⟩ (.int .u8 z)) gs gb 0 (put1 (fun _ => none) 3 (pad [a0])) (fun _ => none)) := fun z =>
        HDr.out.later (Below.but hb1 hb1.size (but_set y1 b1 0 _) (fun i e => by omega))
      clear ho1 hf1 hb1 hl1 ht1 HDr
      go_upto_region 17 with fail
      have HD2 := hide (HDs.out ((a0 + 4) % 256))
      generalize y1.setCell ⟨b1, 0, none⟩ (.int .u8 ((a0 + 4) % 256)) = y2 at *
      clear HDs k1 f1
      go_wp2_with fail
      refine (HD2.out.page (no := 3) rfl (by omega)).mono ?_
      rw [show orE (put1 (fun _ => none) 3 (pad [a0])) (bookF 0 fun _ => none) 3 = some (pad [a0]) from rfl]
      rintro e y3 ⟨v3, rfl, ho3, -, hb3⟩
      obtain ⟨b3', c3, us3, rfl, hl3, hc3, hd3, ht3, hf3⟩ := own_row ho3
      have k3 := hf3 0 (by omega)
      rw [HP0.out] at k3
      have HB3 := hide (HD2.out.later hb3).bel
      clear ho3 hf3 hb3 hl3 ht3 HD2
      go_wp2_with fail
      go_ret
      exact ⟨ret_bool (by simp), HB3.out⟩

set_option maxRecDepth 100000 in
theorem lifted (os : Os) (started : os.Started) (H : Type) (enc : TypeId × Value → H) :
    ReturnsInHanded {} Try.checked os 4 .any (Rows.sheetOwnSpec.pre6 enc Try.prog Try.f4 Rows.sheetOwnRow.domain false) (Rows.sheetOwnSpec.post enc Try.prog Try.f4 false true false false) := by
  refine returnsInHanded_of_change (C := Try.checked) own started (by kernel_rfl) Try.func4
    (ChangeSpec.witness6 (enc := enc) (C := Try.checked) false ⟨#[], #[.int .u8 0], []⟩ 8 (by kernel_rfl) (by kernel_rfl) (by kernel_rfl) (by kernel_rfl)) ?_
  intro W base args ds gs before hval0 hW hcnd _
  have hval : ∀ (j : Nat) t v, Try.f4.params[j]? = some t → args[j]? = some v → Value.okWide Try.prog W .any base t v := hval0
  have hW' := hW
  obtain ⟨p, q, hA0, hV, rfl, hfz, hnd⟩ := hW
  have hA : DataW.TrodAll enc Try.prog W 0 (fun _ => true) true Try.f4.params.toList args.toList ds p := hA0
  rw [Try.params4] at hA hval
  obtain ⟨v0, vs0, d0, ds0, p0, q0, hargs, rfl, rfl, h0, r0⟩ := trodAll_cons hA
  obtain ⟨rfl, rfl, rfl⟩ := trodAll_nil r0
  obtain rfl : args = #[v0] := by cases args; simp_all
  obtain ⟨rfl, rfl⟩ := trodVars_none hV
  obtain ⟨a0, rfl, rfl, rfl, w0⟩ := open_int Try.underlying5 (hval 0 5 v0 rfl rfl) h0
  clear hA0 hval0
  refine (walk a0 W w0).mono fun e W' ⟨he, bel⟩ => ?_
  subst he
  exact ⟨_, rfl, _, _, _, [], _, [], hW', trodAll_mk1 (shut_bool Try.underlying4 _), (trodAll_cons_mk (shut_int Try.underlying5 w0) trodAll_mk0), rfl, bel.frame _, fun h => by cases h⟩

theorem over : Rows.sheetOwnRow.holds Try.pinned (OpenSpec.ofChange Rows.sheetOwnSpec) :=
  OpenClaim.holds_of_wide 4 Try.f4 rfl rfl rfl rfl rfl rfl rfl ⟨rfl, rfl, rfl, rfl, rfl⟩ rfl rfl rfl rfl rfl (by kernel_rfl) Try.func4 (by kernel_rfl)
    (of_decide_eq_true (by kernel_rfl)) (by unfold Func.isWrapper; first | (rw [if_pos (by decide +kernel)]; kernel_rfl) | (rw [if_neg (by decide +kernel)]; exact ⟨rfl, rfl⟩))
    (fun os started H enc _ => lifted os started H enc)

theorem proved : Rows.SheetOwnSaid := over
#print axioms proved
end Go.Proofs.Ythihldepedbppaa.sheetOwn
