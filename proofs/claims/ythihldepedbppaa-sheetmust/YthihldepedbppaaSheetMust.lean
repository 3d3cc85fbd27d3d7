/-
  For all ints no (-2 to 97) and bad (0 to 95) and every byte x SheetMust returns true: a sheet above a sheet above pages of which one can't be read: Must tells the page of 256 bytes, or breaks with ErrRange or ErrDown; above nothing it breaks with ErrDown, and what is set there is a change. No condition.
-/
import Derived.Test.YthihldepedbppaaRows
import Derived.WalkKit
import Derived.ProofKit
import Derived.OpenShut
import Derived.ShutString
import Derived.ChangeOld
import Derived.Below
import Derived.Test.YthihldepedbppaaShtI
import Derived.Test.YthihldepedbppaaOrw
namespace Go.Proofs.Ythihldepedbppaa.sheetMust
open Go.ChangeShapes Go.WideShapes Go.ChangeAt Go.RowKit
open Go.ChangeMaps (open_string shut_string)
set_option linter.unusedVariables false

theorem own : ownKnob Try.prog.godebug = none := by kernel_rfl
theorem laidOut : laidOutB Try.prog = true := by kernel_rfl

theorem but_none {w w' : World} (h : But (fun _ => False) w w') : Below w.heap.size w w' := h.below (Nat.le_refl _) (fun _ _ h => h)
theorem enters_m1 (cap : Array Value) (w : World) : (callFunc 19 cap).run Try.prog w = .ok (.enter 19 cap) w := by kernel_rfl
theorem enters_m2 (cap : Array Value) (w : World) : (callFunc 20 cap).run Try.prog w = .ok (.enter 20 cap) w := by kernel_rfl

set_option maxHeartbeats 1000000 in
theorem m2_any (p : Addr) {g : Nat} {m : Nat → Option (List Int)} {vs : List Value} (w : World) (hp : Var p (.pointer (some ⟨g, 0, none⟩)) w) (h : Sheet w g .nilIface (fun _ => none) vs) :
    Calls Try.prog 20 #[.pointer (some p)] w fun e w' => e = .panicked [pan (fault 5)] ∧ But (fun _ => False) w w' ∧ True := by
  have hc := hp.1
  have HH := hide h
  clear h hp
  go_enter Try.func20, Try.ntmps20
  go_wp2_with fail
  refine (must_down (no := 5) HH.out (f := fun _ => none) (.inl ⟨rfl, fun _ => rfl⟩) (by omega) rfl).mono ?_
  rintro e x ⟨rfl, hb⟩
  exact ⟨rfl, rfl, But.of hb, trivial⟩

theorem try_m2 (p : Addr) {g : Nat} {vs : List Value} (w : World) (hp : Var p (.pointer (some ⟨g, 0, none⟩)) w) (h : Sheet w g .nilIface (fun _ => none) vs) :
    Calls Try.prog 18 #[.func (.func 20) #[] #[.pointer (some p)]] w fun e w' => e = .returned (.int .i64 5) ∧ Below w.heap.size w w' := by
  refine (try_fault 5 20 #[.pointer (some p)] w (fun _ => False) (fun _ => True) (enters_m2 _) (fun h => h) (fun _ _ _ _ => trivial) (m2_any p (m := fun _ => none) _ (hp.alloc _) (h.later (below_alloc _ _)))).mono ?_
  rintro e w' ⟨rfl, hb, -⟩
  exact ⟨rfl, but_none hb⟩

set_option maxHeartbeats 1000000 in
/-- The page is there. -/
theorem m1_ok (p q r : Addr) {g : Nat} {u : Value} {m f : Nat → Option (List Int)} {vs : List Value} {old : Value} (w : World) (hp : Var p (.pointer (some ⟨g, 0, none⟩)) w) {no : Nat} (hno : no < 96) (hq : Var q (.int .i64 (no : Int)) w) (hr : Var r old w) (h : Sheet w g u m vs) (hs : Src w u f) {zs : List Int} (hz : orE m f no = some zs) :
    Calls Try.prog 19 #[.pointer (some p), .pointer (some q), .pointer (some r)] w fun e w' => e = .returned (.tuple #[]) ∧ But (· = r.block) w w' ∧ ∃ b c, Var r (.slice (some ⟨b, 0, none⟩) 256 c) w' ∧ 256 ≤ c ∧ c ≤ 9223372036854775807 := by
  have c1 := hp.1
  have c2 := hq.1
  have HR := hide hr
  have HH := hide h
  have HS := hide hs
  clear hp hq hr h hs
  go_enter Try.func19, Try.ntmps19
  go_wp2_with fail
  refine (must_any HH.out HS.out no hno hz).mono ?_
  rintro e x ⟨v, rfl, ho, -, hb⟩
  obtain ⟨b, c, us, rfl, -, hc1, hc2, -, -⟩ := own_row ho
  have hv := HR.out.below HR.out.lt _ _ hb
  have e1 := hv.1
  have e2 := hv.2
  have HE : Hid (But (· = r.block) w (x.setCell r (.slice (some ⟨b, 0, none⟩) 256 c)) ∧ Var r (.slice (some ⟨b, 0, none⟩) 256 c) (x.setCell r (.slice (some ⟨b, 0, none⟩) 256 c))) :=
    ⟨(But.of (S := (· = r.block)) hb).setCell (p := r) (.inl rfl) _, hv.set _⟩
  clear c1 c2 HR HH HS ho hb hv
  go_wp2_with fail
  go_end0
  exact ⟨rfl, HE.out.1, b, c, HE.out.2, hc1, hc2⟩

set_option maxHeartbeats 1000000 in
/-- The page can't be read. -/
theorem m1_down (p q r : Addr) {g : Nat} {u : Value} {m f : Nat → Option (List Int)} {vs : List Value} (w : World) (hp : Var p (.pointer (some ⟨g, 0, none⟩)) w) {no : Nat} (hno : no < 96) (hq : Var q (.int .i64 (no : Int)) w) (h : Sheet w g u m vs) (hs : Src w u f) (hz : orE m f no = none) :
    Calls Try.prog 19 #[.pointer (some p), .pointer (some q), .pointer (some r)] w fun e w' => e = .panicked [pan (fault 5)] ∧ But (· = r.block) w w' ∧ True := by
  have c1 := hp.1
  have c2 := hq.1
  have HH := hide h
  have HS := hide hs
  clear hp hq h hs
  go_enter Try.func19, Try.ntmps19
  go_wp2_with fail
  refine (must_down HH.out HS.out no hno hz).mono ?_
  rintro e x ⟨rfl, hb⟩
  exact ⟨rfl, rfl, But.of hb, trivial⟩

set_option maxHeartbeats 1000000 in
/-- There is no such page. -/
theorem m1_out (p q r : Addr) {g : Nat} (w : World) (hp : Var p (.pointer (some ⟨g, 0, none⟩)) w) {z : Int} (hz : ¬ (0 ≤ z ∧ z < 96)) (hq : Var q (.int .i64 z) w) :
    Calls Try.prog 19 #[.pointer (some p), .pointer (some q), .pointer (some r)] w fun e w' => e = .panicked [pan (fault 3)] ∧ But (· = r.block) w w' ∧ True := by
  have c1 := hp.1
  have c2 := hq.1
  clear hp hq
  go_enter Try.func19, Try.ntmps19
  go_wp2_with fail
  refine (must_out hz).mono ?_
  rintro e x ⟨rfl, rfl⟩
  exact ⟨rfl, rfl, But.refl _ _, trivial⟩

/-- What Must breaks with. -/
def mwant (z bad : Int) : Int := if z < 0 ∨ 95 < z then 3 else if bad ≠ 0 ∧ z = bad then 5 else 0

theorem try_m1 (p q r : Addr) {g g1 gb : Nat} {bad z : Int} {vs us ks : List Value} {old : Value} (w : World) (hp : Var p (.pointer (some ⟨g, 0, none⟩)) w) (hq : Var q (.int .i64 z) w) (hr : Var r old w)
    (h : Sheet w g (.iface 30 (.pointer (some ⟨g1, 0, none⟩))) (fun _ => none) vs) (h1 : Sheet w g1 (.iface 25 (.pointer (some ⟨gb, 0, none⟩))) (fun _ => none) us) (hb : Book w gb bad (fun _ => none) ks) :
    Calls Try.prog 18 #[.func (.func 19) #[] #[.pointer (some p), .pointer (some q), .pointer (some r)]] w fun e w' =>
      e = .returned (.int .i64 (mwant z bad)) ∧ But (· = r.block) w w' ∧ (mwant z bad = 0 → ∃ b c, Var r (.slice (some ⟨b, 0, none⟩) 256 c) w' ∧ 256 ≤ c ∧ c ≤ 9223372036854775807) := by
  have hrl := hr.lt
  have hS : ¬ w.heap.size = r.block := by omega
  have hl := below_alloc w (.cells #[.int .i64 0] 34)
  by_cases h0 : z < 0 ∨ 95 < z
  · rw [mwant, if_pos h0]
    refine (try_fault 3 19 _ w (· = r.block) (fun _ => True) (enters_m1 _) hS (fun _ _ _ _ => trivial) (m1_out p q r _ (hp.alloc _) (by omega) (hq.alloc _))).mono ?_
    rintro e w' ⟨rfl, hb, -⟩
    exact ⟨rfl, hb, fun h => by omega⟩
  · obtain ⟨no, rfl⟩ := Int.eq_ofNat_of_zero_le (show 0 ≤ z by omega)
    have hno : no < 96 := by omega
    by_cases h5 : bad ≠ 0 ∧ (no : Int) = bad
    · rw [mwant, if_neg h0, if_pos h5]
      refine (try_fault 5 19 _ w (· = r.block) (fun _ => True) (enters_m1 _) hS (fun _ _ _ _ => trivial) (m1_down p q r _ (hp.alloc _) hno (hq.alloc _) (h.later hl) ((h1.later hl).src (hb.later hl).src) (by simp [orE, bookF, h5]))).mono ?_
      rintro e w' ⟨rfl, hb, -⟩
      exact ⟨rfl, hb, fun h => by omega⟩
    · rw [mwant, if_neg h0, if_neg h5]
      refine (try_back 19 _ w (· = r.block) (fun W => ∃ b c, Var r (.slice (some ⟨b, 0, none⟩) 256 c) W ∧ 256 ≤ c ∧ c ≤ 9223372036854775807) (enters_m1 _) hS (fun a b hab ⟨b1, c1, hv, h2⟩ => ⟨b1, c1, hv.below hrl _ _ hab, h2⟩)
        (m1_ok p q r _ (hp.alloc _) hno (hq.alloc _) (hr.alloc _) (h.later hl) ((h1.later hl).src (hb.later hl).src) (zs := zer) (by simp only [orE, bookF, if_neg h5]; rfl))).mono ?_
      rintro e w' ⟨rfl, hb, hF⟩
      exact ⟨rfl, hb, fun _ => hF⟩

theorem new_iface {W : World} {p : Value} {T : TypeId} :
    Calls Try.prog 11 #[.iface T p] W fun e W' => ∃ g, e = .returned (.pointer (some ⟨g, 0, none⟩)) ∧ g = W.heap.size ∧ Sheet W' g (.iface T p) (fun _ => none) (shz (.iface T p)) ∧ Below W.heap.size W W' := by
  refine (new_any T p W).mono ?_
  rintro e W' ⟨rfl, h1, h2⟩
  exact ⟨_, rfl, rfl, h1, h2⟩

set_option maxRecDepth 100000 in
set_option maxHeartbeats 4000000 in
theorem walk (a0 : Int) (a1 : Int) (a2 : Int) (w : World) (w0 : (Lit.int .i64 a0).wf = true) (w1 : (Lit.int .i64 a1).wf = true) (w2 : (Lit.int .u8 a2).wf = true) :
    Calls Try.prog 5 #[.int .i64 a0, .int .i64 a1, .int .u8 a2] w fun e w' => e = .returned (.bool true) ∧ Below w.heap.size w w' := by
  have hx : 0 ≤ a2 ∧ a2 ≤ 255 := bounds_u8 w2
  have HX := hide hx
  have HXP : Hid (Pg (pad [a2])) := pad_pg (by intro z hz; rw [List.mem_singleton] at hz; rw [hz]; exact HX.out)
  clear w0 w1 w2 hx
  have HV0 := hide (Var.new w (.int .i64 a0) 3)
  have HB0 := hide (below_alloc w (.cells #[.int .i64 a0] 3))
  by_cases hr : 0 ≤ a1 ∧ a1 ≤ 95 ∧ -2 ≤ a0 ∧ a0 ≤ 97
  · obtain ⟨r1, r2, r3, r4⟩ := hr
    go_enter Try.func5, Try.ntmps5
    go_wp2_with fail
    obtain ⟨p0, hp0⟩ : ∃ p0, p0 = w.heap.size := ⟨_, rfl⟩
    generalize hX0 : w.alloc (.cells #[.int .i64 a0] 3) = x0 at *
    rw [← hp0] at HV0 ⊢
    have HP0 : Hid (w.heap.size ≤ p0) := by show _ ≤ _; omega
    clear hX0 hp0
    refine (begun_any _).mono ?_
    rintro e x1 ⟨rfl, hb⟩
    have HV1 := hide (HV0.out.below HV0.out.lt _ _ hb)
    have HB1 := hide (HB0.out.trans (hb.mono HB0.out.size))
    have c1 := HV1.out.1
    clear hb HV0 HB0
    go_upto_region 6 with fail
    have HK1 := hide (Book.new x1 a1)
    have HB2 := hide (HB1.out.trans ((below_alloc x1 (.cells (bkz a1).toArray 28)).mono HB1.out.size))
    have HV2 := hide (HV1.out.alloc (.cells (bkz a1).toArray 28))
    have HR := hide (run_buildBad a1 x1)
    generalize hq : bkz a1 = q at *
    clear HV1 HB1 c1
    go_wp2_with (first
      | (refine wpList_buildT 28 1 (.tmp 31) q rfl rfl (.int .i64 a1) rfl HR.out ?_)
      | (refine wpList_boxT 28 _ q rfl rfl rfl ?_))
    obtain ⟨gb, hgb⟩ : ∃ gb, gb = x1.heap.size := ⟨_, rfl⟩
    generalize hX2 : x1.alloc (.cells q.toArray 28) = x2 at *
    rw [← hgb] at HK1 ⊢
    clear HR hgb hq hX2
    refine new_iface.mono ?_
    rintro e x3 ⟨g1, rfl, -, hs, hb⟩
    have HK3 := hide (HK1.out.later hb)
    have HV3 := hide (HV2.out.below HV2.out.lt _ _ hb)
    have HB3 := hide (HB2.out.trans (hb.mono HB2.out.size))
    have HS3 := hide hs
    clear hb hs HK1 HV2 HB2
    go_wp2_with fail
    refine new_iface.mono ?_
    rintro e x4 ⟨g2, rfl, -, hs, hb⟩
    have HK4 := hide (HK3.out.later hb)
    have HV4 := hide (HV3.out.below HV3.out.lt _ _ hb)
    have HB4 := hide (HB3.out.trans (hb.mono HB3.out.size))
    have HS4 := hide (HS3.out.later hb)
    have HT4 := hide hs
    clear hb hs HK3 HV3 HB3 HS3
    go_upto_region 8 with fail
    have hb5 : Below x4.heap.size x4 ((x4.alloc (.cells #[.pointer (some ⟨g2, 0, none⟩)] 30)).alloc (.cells #[.slice none 0 0] 22)) := ((Below.refl _ _).alloc (Nat.le_refl _) _).alloc (by simp) _
    have HK5 := hide (HK4.out.later hb5)
    have HQ5 := hide (HV4.out.below HV4.out.lt _ _ hb5)
    have HB5 := hide (HB4.out.trans (hb5.mono HB4.out.size))
    have HS5 := hide (HS4.out.later hb5)
    have HT5 := hide (HT4.out.later hb5)
    have HP5 := hide ((Var.new x4 (.pointer (some ⟨g2, 0, none⟩)) 30).alloc (.cells #[.slice none 0 0] 22))
    have HR5 := hide (Var.new (x4.alloc (.cells #[.pointer (some ⟨g2, 0, none⟩)] 30)) (.slice none 0 0) 22)
    obtain ⟨p8, hp8⟩ : ∃ p8, p8 = x4.heap.size := ⟨_, rfl⟩
    have hsz : (x4.alloc (.cells #[.pointer (some ⟨g2, 0, none⟩)] 30)).heap.size = p8 + 1 := by rw [World.size_alloc, hp8]
    rw [hsz] at HR5
    rw [← hp8] at HP5 ⊢
    have hl8 : w.heap.size ≤ p8 := by rw [hp8]; exact HB4.out.size
    have hl0 : p0 < p8 := by rw [hp8]; exact HV4.out.lt
    generalize (x4.alloc (.cells #[.pointer (some ⟨g2, 0, none⟩)] 30)).alloc (.cells #[.slice none 0 0] 22) = x5 at *
    clear hb5 hp8 hsz HK4 HV4 HB4 HS4 HT4
    have HL8 := hide hl8
    have HL0 := hide hl0
    clear hl8 hl0
    go_wp2_with fail
    refine (try_m1 ⟨p8, 0, none⟩ ⟨p0, 0, none⟩ ⟨p8 + 1, 0, none⟩ _ HP5.out HQ5.out HR5.out HT5.out HS5.out HK5.out).mono ?_
    rintro e x6 ⟨rfl, hb6, hF⟩
    have HQ6 : Hid (Var ⟨p0, 0, none⟩ (.int .i64 a0) x6) := HQ5.out.but hb6 (by have := HL0.out; show ¬ p0 = p8 + 1; omega)
    have HB6 : Hid (Below w.heap.size w x6) := Below.but HB5.out HB5.out.size hb6 (fun k e => by have := HL8.out; simp only at e; omega)
    clear hb6 HK5 HQ5 HB5 HS5 HT5 HP5 HR5
    have cq := HQ6.out.1
    have hcases : (a0 < 0 ∧ mwant a0 a1 = 3) ∨ (0 ≤ a0 ∧ 95 < a0 ∧ mwant a0 a1 = 3) ∨ (0 ≤ a0 ∧ a0 ≤ 95 ∧ a1 ≠ 0 ∧ a0 = a1 ∧ mwant a0 a1 = 5) ∨ (0 ≤ a0 ∧ a0 ≤ 95 ∧ a1 = 0 ∧ mwant a0 a1 = 0) ∨ (0 ≤ a0 ∧ a0 ≤ 95 ∧ a1 ≠ 0 ∧ a0 ≠ a1 ∧ mwant a0 a1 = 0) := by
      unfold mwant
      by_cases h0 : a0 < 0
      · exact .inl ⟨h0, if_pos (.inl h0)⟩
      · by_cases h9 : 95 < a0
        · exact .inr (.inl ⟨by omega, h9, if_pos (.inr h9)⟩)
        · rw [if_neg (by omega)]
          by_cases hb : a1 = 0
          · exact .inr (.inr (.inr (.inl ⟨by omega, by omega, hb, if_neg fun h => h.1 hb⟩)))
          · by_cases he : a0 = a1
            · exact .inr (.inr (.inl ⟨by omega, by omega, hb, he, if_pos ⟨hb, he⟩⟩))
            · exact .inr (.inr (.inr (.inr ⟨by omega, by omega, hb, he, if_neg fun h => he h.2⟩)))
    clear r1 r2 r3 r4
    rcases hcases with ⟨h1, hm⟩ | ⟨h1, h2, hm⟩ | ⟨h1, h2, h3, h4, hm⟩ | ⟨h1, h2, h3, hm⟩ | ⟨h1, h2, h3, h4, hm⟩
    case' inl =>
      rw [hm]
      clear hF hm
      go_upto_region 16 with fail
    case' inr.inl =>
      rw [hm]
      clear hF hm
      go_upto_region 16 with fail
    case' inr.inr.inl =>
      rw [hm]
      have d1 : (a1 != 0) = true := by simpa using h3
      clear hF hm
      go_upto_region 16 with fail
    case' inr.inr.inr.inl =>
      obtain ⟨b, c, hv, q1, q2⟩ := hF hm
      have cv := hv.1
      rw [hm]
      clear hF hm hv
      go_upto_region 16 with fail
    case' inr.inr.inr.inr =>
      obtain ⟨b, c, hv, q1, q2⟩ := hF hm
      have cv := hv.1
      have d1 : (a1 != 0) = true := by simpa using h3
      rw [hm]
      clear hF hm hv
      go_upto_region 16 with fail
    all_goals
      go_wp2_with fail
      refine (new_none _).mono ?_
      rintro e x7 ⟨rfl, hs7, hb7⟩
      have HB7 := hide (HB6.out.trans (hb7.mono HB6.out.size))
      have HS7 := hide hs7
      have HG7 : Hid (w.heap.size ≤ x6.heap.size ∧ x6.heap.size < x7.heap.size) := ⟨HB6.out.size, hs7.at_.lt⟩
      clear hs7 hb7 HB6 HQ6 cq
      generalize x6.heap.size = gt at *
      go_upto_region 17 with fail
      have hb8 : Below x7.heap.size x7 (x7.alloc (.cells #[.pointer (some ⟨gt, 0, none⟩)] 30)) := below_alloc _ _
      have HB8 := hide (HB7.out.trans (hb8.mono HB7.out.size))
      have HS8 := hide (HS7.out.later hb8)
      have HV8 := hide (Var.new x7 (.pointer (some ⟨gt, 0, none⟩)) 30)
      generalize x7.alloc (.cells #[.pointer (some ⟨gt, 0, none⟩)] 30) = x8 at *
      have HG8 := hide HG7.out.2
      have HG9 := hide HG7.out.1
      clear hb8 HB7 HS7 HG7
      generalize x7.heap.size = pt at *
      go_wp2_with fail
      refine (try_m2 ⟨pt, 0, none⟩ _ HV8.out HS8.out).mono ?_
      rintro e x9 ⟨rfl, hb9⟩
      have HB9 := hide (HB8.out.trans (hb9.mono HB8.out.size))
      have HS9 := hide (HS8.out.later hb9)
      have HV9 := hide (HV8.out.below HV8.out.lt _ _ hb9)
      clear hb9 HB8 HS8 HV8
      go_upto_region 18 with fail
      refine wp_region_noPanic ?_
      refine wp_region_held_drew (S := fun W => But (· = gt) x9 W) (by kernel_rfl) ?_ (fun hHeld => ?_)
      · exact But.of (Below.refl _ _).drew
      have hpt : ¬ pt = gt := by have := HG8.out; omega
      refine wpAnyH_take (i := 0) (v := ?_) rfl (by kernel_rfl) (by kernel_rfl) (by kernel_rfl) (fun _ _ _ h => h) (Or.inl ⟨by kernel_rfl, ?_⟩) hHeld ?_
      rotate_left
      · intro W hW; go_simp; first | done | with_reducible rfl | rfl
      try simp only [Act.put, List.getElem_toArray, List.getElem_cons_zero, List.setIfInBounds_toArray, List.set_cons_succ, List.set_cons_zero]
      refine wpAnyH_take (i := 1) (v := (.bool true)) rfl (by kernel_rfl) (by kernel_rfl) (by kernel_rfl) (fun _ _ _ h => h) (Or.inl ⟨by kernel_rfl, ?_⟩) hHeld ?_
      · intro W hW; go_simp; first | done | with_reducible rfl | rfl
      try simp only [Act.put, List.getElem_toArray, List.getElem_cons_zero, List.getElem_cons_succ, List.setIfInBounds_toArray, List.set_cons_succ, List.set_cons_zero]
      refine wpAnyH_take (i := 2) (v := ?_) rfl (by kernel_rfl) (by kernel_rfl) (by kernel_rfl) (fun _ _ _ h => h) (Or.inl ⟨by kernel_rfl, ?_⟩) hHeld ?_
      rotate_left
      · intro W hW; go_simp; first | done | with_reducible rfl | rfl
      try simp only [Act.put, List.getElem_toArray, List.getElem_cons_zero, List.getElem_cons_succ, List.setIfInBounds_toArray, List.set_cons_succ, List.set_cons_zero]
      refine wpAnyH_take (i := 3) (v := .pointer (some ⟨gt, 0, none⟩)) rfl (by kernel_rfl) (by kernel_rfl) (by kernel_rfl) (fun _ _ _ h => h) (Or.inl ⟨by kernel_rfl, ?_⟩) hHeld ?_
      · intro W hW; have cc := (HV9.out.but hW hpt).1; clear hW; go_simp; first | done | with_reducible rfl | rfl
      try simp only [Act.put, List.getElem_toArray, List.getElem_cons_zero, List.getElem_cons_succ, List.setIfInBounds_toArray, List.set_cons_succ, List.set_cons_zero]
      refine wpAnyH_take (i := 4) (v := ?_) rfl (by kernel_rfl) (by kernel_rfl) (by kernel_rfl) (fun _ _ _ h => h) (Or.inl ⟨by kernel_rfl, ?_⟩) hHeld ?_
      rotate_left
      · intro W hW; go_simp; first | done | with_reducible rfl | rfl
      try simp only [Act.put, List.getElem_toArray, List.getElem_cons_zero, List.getElem_cons_succ, List.setIfInBounds_toArray, List.set_cons_succ, List.set_cons_zero]
      refine wpAnyH_ready (rs := [5]) (by kernel_rfl) (by simp) ?_
      refine AllReadyH.cons (o := _) rfl (fun K hK => ?_) AllReadyH.nil
      go_simp
      refine hK.out _ _ ?_ (fun hHeld => ?_)
      · exact hHeld.trans (But.of (below_alloc _ _))
      clear hK K
      try simp only [Act.put, List.getElem_toArray, List.getElem_cons_zero, List.getElem_cons_succ, List.setIfInBounds_toArray, List.set_cons_succ, List.set_cons_zero]
      refine wpAnyH_ready (rs := [6]) (by kernel_rfl) (by simp) ?_
      refine AllReadyH.cons (o := _) rfl (fun K hK => ?_) AllReadyH.nil
      go_simp
      refine (pof_any (Sl.later (lit_sl x9 5 (0, 0) (zs := [a2]) (by intro z hz; rw [List.mem_singleton] at hz; rw [hz]; exact HX.out) (by simp)) (Below.refl _ _).drew)).mono ?_
      rintro e y1 ⟨b3, rfl, hp3, -, hb⟩
      have hb3 : Below x9.heap.size x9 y1 := ((below_alloc x9 _).drew).trans (hb.mono (below_alloc x9 _).size)
      have HSa := hide (HS9.out.later hb3)
      have HTa := hide hp3
      have HBa := hide (HB9.out.trans (hb3.mono HB9.out.size))
      dsimp only
      refine hK.out _ _ (But.of hb3) (fun hHeld => ?_)
      clear hK K hp3 hb hb3
      try simp only [Act.put, List.getElem_toArray, List.getElem_cons_zero, List.getElem_cons_succ, List.setIfInBounds_toArray, List.set_cons_succ, List.set_cons_zero]
      refine wpAnyH_ready (rs := [7]) (by kernel_rfl) (by simp) ?_
      refine AllReadyH.cons (o := _) rfl (fun K hK => ?_) AllReadyH.nil
      go_simp
      refine (set_lit HSa.out (no := 5) rfl (by omega) (Sl.own (tb_own HTa.out HXP.out (Nat.zero_le _)) HXP.out.2) HXP.out).mono ?_
      rintro e y2 ⟨rfl, vs2, hs2, hb2⟩
      have HSb := hide hs2
      have HBb : Hid (Below w.heap.size w y2) := Below.but HBa.out HBa.out.size hb2 (fun k e => by have := HG9.out; omega)
      dsimp only
      refine hK.out _ _ (hHeld.trans (hb2.mono fun k _ e => e)) (fun hHeld => ?_)
      clear hK K hs2 hb2 HSa HTa HBa
      try simp only [Act.put, List.getElem_toArray, List.getElem_cons_zero, List.getElem_cons_succ, List.setIfInBounds_toArray, List.set_cons_succ, List.set_cons_zero]
      refine wpAnyH_take (i := 8) (v := (.bool true)) rfl (by kernel_rfl) (by kernel_rfl) (by kernel_rfl) (fun _ _ _ h => h) (Or.inl ⟨by kernel_rfl, ?_⟩) hHeld ?_
      · intro W hW; go_simp; first | done | with_reducible rfl | rfl
      try simp only [Act.put, List.getElem_toArray, List.getElem_cons_zero, List.getElem_cons_succ, List.setIfInBounds_toArray, List.set_cons_succ, List.set_cons_zero]
      refine wpAnyH_take (i := 9) (v := (.bool true)) rfl (by kernel_rfl) (by kernel_rfl) (by kernel_rfl) (fun _ _ _ h => h) (Or.inl ⟨by kernel_rfl, ?_⟩) hHeld ?_
      · intro W hW; go_simp; first | done | with_reducible rfl | rfl
      try simp only [Act.put, List.getElem_toArray, List.getElem_cons_zero, List.getElem_cons_succ, List.setIfInBounds_toArray, List.set_cons_succ, List.set_cons_zero]
      refine wpAnyH_take (i := 10) (v := ?_) rfl (by kernel_rfl) (by kernel_rfl) (by kernel_rfl) (fun _ _ _ h => h) (Or.inl ⟨by kernel_rfl, ?_⟩) hHeld ?_
      rotate_left
      · intro W hW; go_simp; first | done | with_reducible rfl | rfl
      try simp only [Act.put, List.getElem_toArray, List.getElem_cons_zero, List.getElem_cons_succ, List.setIfInBounds_toArray, List.set_cons_succ, List.set_cons_zero]
      refine wpAnyH_take (i := 11) (v := .pointer (some ⟨gt, 0, none⟩)) rfl (by kernel_rfl) (by kernel_rfl) (by kernel_rfl) (fun _ _ _ h => h) (Or.inl ⟨by kernel_rfl, ?_⟩) hHeld ?_
      · intro W hW; have cc := (HV9.out.but hW hpt).1; clear hW; go_simp; first | done | with_reducible rfl | rfl
      try simp only [Act.put, List.getElem_toArray, List.getElem_cons_zero, List.getElem_cons_succ, List.setIfInBounds_toArray, List.set_cons_succ, List.set_cons_zero]
      refine wpAnyH_ready (rs := [12]) (by kernel_rfl) (by simp) ?_
      refine AllReadyH.cons (o := _) rfl (fun K hK => ?_) AllReadyH.nil
      go_simp
      refine (changes_any HSb.out (f := fun _ => none) (.inl ⟨rfl, fun _ => rfl⟩)).mono ?_
      rintro e y3 ⟨v3, L, rfl, hL, hs, hb⟩
      have hl : L.length = 1 := by
        have := congrArg List.length hs
        rw [say, List.length_map] at this
        rw [this, chs_one (k := 5) (by omega) fun i hi hn => by simp [chOf, put1_other _ hn]]
        rfl
      obtain ⟨pL, nL, cL, rfl, hnL, hmL, HnL, -⟩ := hL.loose.opens
      obtain rfl : nL = 1 := by rw [HnL.out, hl]
      have HBc := hide (HBb.out.trans (hb.mono HBb.out.size))
      dsimp only
      refine hK.out _ _ (hHeld.trans (But.of hb)) (fun hHeld => ?_)
      clear hK K hs hb hL hl HnL HSb HBb
      try simp only [Act.put, List.getElem_toArray, List.getElem_cons_zero, List.getElem_cons_succ, List.setIfInBounds_toArray, List.set_cons_succ, List.set_cons_zero]
      refine wpAnyH_take (i := 13) (v := (.int .i64 1)) rfl (by kernel_rfl) (by kernel_rfl) (by kernel_rfl) (fun _ _ _ h => h) (Or.inl ⟨by kernel_rfl, ?_⟩) hHeld ?_
      · intro W hW; go_simp; first | done | with_reducible rfl | rfl
      try simp only [Act.put, List.getElem_toArray, List.getElem_cons_zero, List.getElem_cons_succ, List.setIfInBounds_toArray, List.set_cons_succ, List.set_cons_zero]
      refine wpAnyH_take (i := 14) (v := (.bool true)) rfl (by kernel_rfl) (by kernel_rfl) (by kernel_rfl) (fun _ _ _ h => h) (Or.inl ⟨by kernel_rfl, ?_⟩) hHeld ?_
      · intro W hW; go_simp; first | done | with_reducible rfl | rfl
      try simp only [Act.put, List.getElem_toArray, List.getElem_cons_zero, List.getElem_cons_succ, List.setIfInBounds_toArray, List.set_cons_succ, List.set_cons_zero]
      refine wpAnyH_take (i := 15) (v := (.bool true)) rfl (by kernel_rfl) (by kernel_rfl) (by kernel_rfl) (fun _ _ _ h => h) (Or.inl ⟨by kernel_rfl, ?_⟩) hHeld ?_
      · intro W hW; go_simp; first | done | with_reducible rfl | rfl
      try simp only [Act.put, List.getElem_toArray, List.getElem_cons_zero, List.getElem_cons_succ, List.setIfInBounds_toArray, List.set_cons_succ, List.set_cons_zero]
      refine wpAnyH_take (i := 16) (v := ?_) rfl (by kernel_rfl) (by kernel_rfl) (by kernel_rfl) (fun _ _ _ h => h) (Or.inl ⟨by kernel_rfl, ?_⟩) hHeld ?_
      rotate_left
      · intro W hW; go_simp; first | done | with_reducible rfl | rfl
      try simp only [Act.put, List.getElem_toArray, List.getElem_cons_zero, List.getElem_cons_succ, List.setIfInBounds_toArray, List.set_cons_succ, List.set_cons_zero]
      refine wpAnyH_done (by kernel_rfl) ?_ _
      refine NoPanic.normal ?_
      go_simp
      clear hHeld
      go_wp2_with fail
      go_ret
      exact ⟨rfl, HBc.out⟩
  · have hc : a1 < 0 ∨ (0 ≤ a1 ∧ 95 < a1) ∨ (0 ≤ a1 ∧ a1 ≤ 95 ∧ a0 < -2) ∨ (0 ≤ a1 ∧ a1 ≤ 95 ∧ -2 ≤ a0 ∧ 97 < a0) := by omega
    clear hr
    rcases hc with hc | hc | hc | hc
    all_goals
      go_enter Try.func5, Try.ntmps5
      go_wp2_with fail
      obtain ⟨p0, hp0⟩ : ∃ p0, p0 = w.heap.size := ⟨_, rfl⟩
      generalize hX0 : w.alloc (.cells #[.int .i64 a0] 3) = x0 at *
      rw [← hp0] at HV0 ⊢
      clear hX0 hp0
      refine (begun_any _).mono ?_
      rintro e x1 ⟨rfl, hb⟩
      have cq := (HV0.out.below HV0.out.lt _ _ hb).1
      have HB1 := hide (HB0.out.trans (hb.mono HB0.out.size))
      clear hb HV0 HB0
      go_wp2_with fail
      go_ret
      exact ⟨rfl, HB1.out⟩

set_option maxRecDepth 100000 in
theorem lifted (os : Os) (started : os.Started) (H : Type) (enc : TypeId × Value → H) :
    ReturnsInHanded {} Try.checked os 5 .any (Rows.sheetMustSpec.pre6 enc Try.prog Try.f5 Rows.sheetMustRow.domain false) (Rows.sheetMustSpec.post enc Try.prog Try.f5 false true false false) := by
  refine returnsInHanded_of_change (C := Try.checked) own started (by kernel_rfl) Try.func5
    (ChangeSpec.witness6 (enc := enc) (C := Try.checked) false ⟨#[], #[.int .i64 0, .int .i64 0, .int .u8 0], []⟩ 8 (by kernel_rfl) (by kernel_rfl) (by kernel_rfl) (by kernel_rfl)) ?_
  intro W base args ds gs before hval0 hW hcnd _
  have hval : ∀ (j : Nat) t v, Try.f5.params[j]? = some t → args[j]? = some v → Value.okWide Try.prog W .any base t v := hval0
  have hW' := hW
  obtain ⟨p, q, hA0, hV, rfl, hfz, hnd⟩ := hW
  have hA : DataW.TrodAll enc Try.prog W 0 (fun _ => true) true Try.f5.params.toList args.toList ds p := hA0
  rw [Try.params5] at hA hval
  obtain ⟨v0, vs0, d0, ds0, p0, q0, hargs, rfl, rfl, h0, r0⟩ := trodAll_cons hA
  obtain ⟨v1, vs1, d1, ds1, p1, q1, rfl, rfl, rfl, h1, r1⟩ := trodAll_cons r0
  obtain ⟨v2, vs2, d2, ds2, p2, q2, rfl, rfl, rfl, h2, r2⟩ := trodAll_cons r1
  obtain ⟨rfl, rfl, rfl⟩ := trodAll_nil r2
  obtain rfl : args = #[v0, v1, v2] := by cases args; simp_all
  obtain ⟨rfl, rfl⟩ := trodVars_none hV
  obtain ⟨a0, rfl, rfl, rfl, w0⟩ := open_int Try.underlying3 (hval 0 3 v0 rfl rfl) h0
  obtain ⟨a1, rfl, rfl, rfl, w1⟩ := open_int Try.underlying3 (hval 1 3 v1 rfl rfl) h1
  obtain ⟨a2, rfl, rfl, rfl, w2⟩ := open_int Try.underlying5 (hval 2 5 v2 rfl rfl) h2
  clear hA0 hval0
  refine (walk a0 a1 a2 W w0 w1 w2).mono fun e W' ⟨he, bel⟩ => ?_
  subst he
  exact ⟨_, rfl, _, _, _, [], _, [], hW', trodAll_mk1 (shut_bool Try.underlying4 _), (trodAll_cons_mk (shut_int Try.underlying3 w0) (trodAll_cons_mk (shut_int Try.underlying3 w1) (trodAll_cons_mk (shut_int Try.underlying5 w2) trodAll_mk0))), rfl, bel.frame _, fun h => by cases h⟩

theorem over : Rows.sheetMustRow.holds Try.pinned (OpenSpec.ofChange Rows.sheetMustSpec) :=
  OpenClaim.holds_of_wide 5 Try.f5 rfl rfl rfl rfl rfl rfl rfl ⟨rfl, rfl, rfl, rfl, rfl⟩ rfl rfl rfl rfl rfl (by kernel_rfl) Try.func5 (by kernel_rfl)
    (of_decide_eq_true (by kernel_rfl)) (by unfold Func.isWrapper; first | (rw [if_pos (by decide +kernel)]; kernel_rfl) | (rw [if_neg (by decide +kernel)]; exact ⟨rfl, rfl⟩))
    (fun os started H enc _ => lifted os started H enc)

theorem proved : Rows.SheetMustSaid := over
#print axioms proved
end Go.Proofs.Ythihldepedbppaa.sheetMust
