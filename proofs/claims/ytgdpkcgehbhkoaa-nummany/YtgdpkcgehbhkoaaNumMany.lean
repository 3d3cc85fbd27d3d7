/-
  For every slice of int64s NumMany returns true: numbers that num.Put wrote one behind the other (the first 40) are read one by one by num.Get. No condition.
-/
import Derived.Test.YtgdpkcgehbhkoaaRows
import Derived.WalkKit
import Derived.ProofKit
import Derived.OpenShut
import Derived.ShutString
import Derived.ChangeOld
import Derived.Below
import Derived.Test.YtgdpkcgehbhkoaaNumM
namespace Go.Proofs.Ytgdpkcgehbhkoaa.numMany
open Go.ChangeShapes Go.WideShapes Go.ChangeAt Go.RowKit
open Go.ChangeMaps (open_string shut_string)
set_option linter.unusedVariables false

theorem own : ownKnob Try.prog.godebug = none := by kernel_rfl
theorem laidOut : laidOutB Try.prog = true := by kernel_rfl

/-- WHAT THE WALK IS TOLD OF A SLICE OF INTEGERS THAT CAME IN: it is nil; or it leads to a row of 'cap' cells, the numbers 'zs' (the first 'len' are its elements, the rest its spare room), each fitting its kind. -/
def IsRow (k : IntKind) (w : World) (a : Option Addr) (len cap : Nat) (zs : List Int) : Prop :=
  (a = none ∧ len = 0 ∧ cap = 0 ∧ zs = []) ∨
  ∃ x, a = some x ∧ len ≤ cap ∧ cap ≤ maxLen ∧ zs.length = cap ∧ (∀ i, i < zs.length → w.cell? (x.add i) = some (.int k (zs.getD i 0))) ∧ ∀ n ∈ zs, (Lit.int k n).wf = true

set_option maxRecDepth 100000 in
set_option maxHeartbeats 2000000 in
theorem walk (a0 : Option Addr) (len0 cap0 : Nat) (z0 : List Int) (w : World) (w0 : IsRow .i64 w a0 len0 cap0 z0) :
    Calls Try.prog 4 #[.slice a0 len0 cap0] w fun e w' => e = .returned (.bool true) ∧ Below w.heap.size w w' := by
  have hfacts : len0 ≤ cap0 ∧ cap0 ≤ 9223372036854775807 ∧ len0 ≤ z0.length ∧ (∀ n ∈ z0, -9223372036854775808 ≤ n ∧ n ≤ 9223372036854775807) ∧
      ∀ i, i < len0 → ∃ b off, a0 = some ⟨b, off, none⟩ ∧ w.cell? ⟨b, off + i, none⟩ = some (.int .i64 (z0.getD i 0)) := by
    rcases w0 with ⟨rfl, rfl, rfl, rfl⟩ | ⟨x, rfl, hl, hm, hz, hcell, hwz⟩
    · exact ⟨by omega, by omega, by simp, by simp, fun i hi => by omega⟩
    · unfold maxLen at hm
      refine ⟨hl, by omega, by omega, fun n hn => bounds_i64 (hwz n hn), fun i hi => ?_⟩
      have hc := hcell i (by omega)
      have hc0 := hcell 0 (by omega)
      obtain ⟨b, off, spot⟩ := x
      have hspot : spot = none := by simpa [Addr.add] using World.cell?_spot hc0
      subst hspot
      rw [add_plain] at hc
      exact ⟨b, off, rfl, hc⟩
  clear w0
  obtain ⟨hl, hm, hz, hbd, hcell⟩ := hfacts
  have HC := hide hcell
  have HBD := hide hbd
  clear hcell hbd
  by_cases h40 : 40 < len0
  · have HLn : Hid ((z0.take 40).length = 40) := by show _ = _; simp; omega
    have HLb : Hid (∀ n ∈ z0.take 40, -9223372036854775808 ≤ n ∧ n ≤ 9223372036854775807) := fun n hn => HBD.out n (List.mem_of_mem_take hn)
    have HLg : Hid (∀ k, k < 40 → (z0.take 40).getD k 0 = z0.getD k 0) := fun k hk => by simp [List.getD, List.getElem?_take_of_lt hk]
    have h40 : 40 ≤ 40 ∧ 40 ≤ len0 := by omega
    obtain ⟨hN40, hNl⟩ := h40
    have hdec : decide ((40 : Int) < (len0 : Int)) = true := by simp; omega
    generalize hL : z0.take 40 = L at *
    clear hL
    go_enter Try.func4, Try.ntmps4
    go_wp2_with fail
    refine (begun_any _).mono ?_
    rintro e w1 ⟨rfl, hb1⟩
    go_wp2_with fail
    go_loopw [4, 5] (fun v i wr => ∃ k : Nat, k ≤ 40 ∧ i = .int .i64 k ∧ Sl wr v (cat (L.take k)) ∧ Below w.heap.size w wr) (fun _ i _ => 40 - (intOf i).toNat)
    case atStart => exact ⟨0, by omega, rfl, by simpa [cat] using Sl.nil _, hb1⟩
    case round =>
      obtain ⟨k, hk, rfl, hsl, hbel⟩ := hrel
      clear hb1
      by_cases hlt : k < 40
      · obtain ⟨b, off, rfl, hcell0⟩ := HC.out k (by omega)
        have hcell : wr.cell? ⟨b, off + k, none⟩ = some (.int .i64 (z0.getD k 0)) := by rw [hbel.cell (p := ⟨b, off + k, none⟩) (cell_lt hcell0)]; exact hcell0
        have hkl : k < L.length := by rw [HLn.out]; exact hlt
        have hvb := HLb.out (L.getD k 0) (by rw [getD_at hkl]; exact List.getElem_mem hkl)
        have HS := hide (cat_snoc L k hkl)
        have hcl := cat_len (L.take k)
        have hcl2 : (L.take k).length ≤ k := List.length_take_le _ _
        have HB2 := hide (cat_bd (L.take (k + 1)) (fun n hn => HLb.out n (List.mem_of_mem_take hn)))
        rw [HLg.out k hlt] at hvb HS
        generalize z0.getD k 0 = x at *
        obtain ⟨hx0, hx1⟩ := hvb
        have HSL := hide hsl
        clear hsl hcell0 hkl
        go_wp2_with fail
        refine (put_any _ _ x _ HSL.out (by omega) hx0 hx1).mono ?_
        rintro e w2 ⟨v2, rfl, ho2, hb2⟩
        have hsl2 : Sl w2 v2 (cat (L.take (k + 1))) := by rw [HS.out] at HB2 ⊢; exact Sl.own ho2 HB2.out
        have hbel2 := hbel.trans (hb2.mono hbel.size)
        clear ho2 hb2
        go_wp2_with fail
        go_roundw
        case rel => exact ⟨k + 1, by omega, by go_num, hsl2, hbel2⟩
        case measure => simp [intOf]; omega
      · have hkN : 40 ≤ k := by omega
        have hsl' : Sl wr u4 (cat (L.drop 0)) := by rw [List.take_of_length_le (by rw [HLn.out]; omega)] at hsl; simpa using hsl
        clear hsl
        go_wp2_with fail
        go_loop [4, 6] (fun v i => ∃ k : Nat, k ≤ 40 ∧ i = .int .i64 k ∧ Sl wr v (cat (L.drop k))) (fun _ i => 40 - (intOf i).toNat)
        case atStart => exact ⟨0, by omega, rfl, hsl'⟩
        case round =>
          obtain ⟨j, hj, rfl, hsl⟩ := hrel
          clear hsl'
          by_cases hlt : j < 40
          · obtain ⟨b, off, rfl, hcell0⟩ := HC.out j (by omega)
            have hcell : wr.cell? ⟨b, off + j, none⟩ = some (.int .i64 (z0.getD j 0)) := by rw [hbel.cell (p := ⟨b, off + j, none⟩) (cell_lt hcell0)]; exact hcell0
            have hjl : j < L.length := by rw [HLn.out]; exact hlt
            have hvb := HLb.out (L.getD j 0) (by rw [getD_at hjl]; exact List.getElem_mem hjl)
            have HS := hide (cat_drop L j hjl)
            rw [HLg.out j hlt] at hvb HS
            generalize z0.getD j 0 = x at *
            have HG := hide (Nm.get_num x hvb.1 hvb.2 (cat (L.drop (j + 1))))
            have hnl := Nm.num_len x
            rw [HS.out] at hsl
            obtain ⟨p, n, cp, rfl, hlc, hcm, Hn, HSL⟩ := hsl.opens
            have hDn : (Nm.num x).length ≤ n := by rw [Hn.out]; simp
            have hR := HSL.out.rest (l := (Nm.num x).length) (by simp) _ rfl
            rw [List.drop_left] at hR
            have HR := hide hR
            clear hR hcell0 hjl HS hvb hsl
            generalize (Nm.num x).length = D at *
            have hne : (x != x) = false := by simp
            go_wp2_with fail
            refine (get_at HSL.out HG.out).mono ?_
            rintro e w3 ⟨rfl, rfl⟩
            by_cases hcd : cp = D
            · subst hcd
              have HR2 : Hid (Sl w3 (.slice p 0 0) (cat (L.drop (j + 1)))) := by
                show Sl _ _ _
                have := HR.out
                rw [if_pos rfl, Nat.sub_self, show n - cp = 0 by omega] at this
                exact this
              clear HR
              go_wp2_with fail
              go_round
              case rel => exact ⟨j + 1, by omega, by go_num, HR2.out⟩
              case measure => simp [intOf]; omega
            · have HR2 : Hid (Sl w3 (.slice (Option.map (fun x : Addr => x.add D) p) (n - D) (cp - D)) (cat (L.drop (j + 1)))) := by
                show Sl _ _ _
                have := HR.out
                rw [if_neg hcd] at this
                exact this
              clear HR
              go_wp2_with fail
              go_round
              case rel => exact ⟨j + 1, by omega, by go_num, HR2.out⟩
              case measure => simp [intOf]; omega
          · have hjN : 40 ≤ j := by omega
            have hnil : cat (L.drop j) = [] := by rw [List.drop_eq_nil_of_le (by rw [HLn.out]; omega)]; rfl
            rw [hnil] at hsl
            obtain ⟨p, cp, rfl, hlc, hcm, -, -⟩ := hsl
            clear hnil
            go_wp2_with fail
            go_ret
            exact ⟨rfl, hbel⟩
  · have HLn : Hid ((z0.take len0).length = len0) := by show _ = _; simp; omega
    have HLb : Hid (∀ n ∈ z0.take len0, -9223372036854775808 ≤ n ∧ n ≤ 9223372036854775807) := fun n hn => HBD.out n (List.mem_of_mem_take hn)
    have HLg : Hid (∀ k, k < len0 → (z0.take len0).getD k 0 = z0.getD k 0) := fun k hk => by simp [List.getD, List.getElem?_take_of_lt hk]
    have hlen0 : len0 ≤ 40 ∧ len0 ≤ len0 := by omega
    obtain ⟨hN40, hNl⟩ := hlen0
    have hdec : decide ((40 : Int) < (len0 : Int)) = false := by simp; omega
    generalize hL : z0.take len0 = L at *
    clear hL
    go_enter Try.func4, Try.ntmps4
    go_wp2_with fail
    refine (begun_any _).mono ?_
    rintro e w1 ⟨rfl, hb1⟩
    go_wp2_with fail
    go_loopw [4, 5] (fun v i wr => ∃ k : Nat, k ≤ len0 ∧ i = .int .i64 k ∧ Sl wr v (cat (L.take k)) ∧ Below w.heap.size w wr) (fun _ i _ => len0 - (intOf i).toNat)
    case atStart => exact ⟨0, by omega, rfl, by simpa [cat] using Sl.nil _, hb1⟩
    case round =>
      obtain ⟨k, hk, rfl, hsl, hbel⟩ := hrel
      clear hb1
      by_cases hlt : k < len0
      · obtain ⟨b, off, rfl, hcell0⟩ := HC.out k (by omega)
        have hcell : wr.cell? ⟨b, off + k, none⟩ = some (.int .i64 (z0.getD k 0)) := by rw [hbel.cell (p := ⟨b, off + k, none⟩) (cell_lt hcell0)]; exact hcell0
        have hkl : k < L.length := by rw [HLn.out]; exact hlt
        have hvb := HLb.out (L.getD k 0) (by rw [getD_at hkl]; exact List.getElem_mem hkl)
        have HS := hide (cat_snoc L k hkl)
        have hcl := cat_len (L.take k)
        have hcl2 : (L.take k).length ≤ k := List.length_take_le _ _
        have HB2 := hide (cat_bd (L.take (k + 1)) (fun n hn => HLb.out n (List.mem_of_mem_take hn)))
        rw [HLg.out k hlt] at hvb HS
        generalize z0.getD k 0 = x at *
        obtain ⟨hx0, hx1⟩ := hvb
        have HSL := hide hsl
        clear hsl hcell0 hkl
        go_wp2_with fail
        refine (put_any _ _ x _ HSL.out (by omega) hx0 hx1).mono ?_
        rintro e w2 ⟨v2, rfl, ho2, hb2⟩
        have hsl2 : Sl w2 v2 (cat (L.take (k + 1))) := by rw [HS.out] at HB2 ⊢; exact Sl.own ho2 HB2.out
        have hbel2 := hbel.trans (hb2.mono hbel.size)
        clear ho2 hb2
        go_wp2_with fail
        go_roundw
        case rel => exact ⟨k + 1, by omega, by go_num, hsl2, hbel2⟩
        case measure => simp [intOf]; omega
      · have hkN : len0 ≤ k := by omega
        have hsl' : Sl wr u4 (cat (L.drop 0)) := by rw [List.take_of_length_le (by rw [HLn.out]; omega)] at hsl; simpa using hsl
        clear hsl
        go_wp2_with fail
        go_loop [4, 6] (fun v i => ∃ k : Nat, k ≤ len0 ∧ i = .int .i64 k ∧ Sl wr v (cat (L.drop k))) (fun _ i => len0 - (intOf i).toNat)
        case atStart => exact ⟨0, by omega, rfl, hsl'⟩
        case round =>
          obtain ⟨j, hj, rfl, hsl⟩ := hrel
          clear hsl'
          by_cases hlt : j < len0
          · obtain ⟨b, off, rfl, hcell0⟩ := HC.out j (by omega)
            have hcell : wr.cell? ⟨b, off + j, none⟩ = some (.int .i64 (z0.getD j 0)) := by rw [hbel.cell (p := ⟨b, off + j, none⟩) (cell_lt hcell0)]; exact hcell0
            have hjl : j < L.length := by rw [HLn.out]; exact hlt
            have hvb := HLb.out (L.getD j 0) (by rw [getD_at hjl]; exact List.getElem_mem hjl)
            have HS := hide (cat_drop L j hjl)
            rw [HLg.out j hlt] at hvb HS
            generalize z0.getD j 0 = x at *
            have HG := hide (Nm.get_num x hvb.1 hvb.2 (cat (L.drop (j + 1))))
            have hnl := Nm.num_len x
            rw [HS.out] at hsl
            obtain ⟨p, n, cp, rfl, hlc, hcm, Hn, HSL⟩ := hsl.opens
            have hDn : (Nm.num x).length ≤ n := by rw [Hn.out]; simp
            have hR := HSL.out.rest (l := (Nm.num x).length) (by simp) _ rfl
            rw [List.drop_left] at hR
            have HR := hide hR
            clear hR hcell0 hjl HS hvb hsl
            generalize (Nm.num x).length = D at *
            have hne : (x != x) = false := by simp
            go_wp2_with fail
            refine (get_at HSL.out HG.out).mono ?_
            rintro e w3 ⟨rfl, rfl⟩
            by_cases hcd : cp = D
            · subst hcd
              have HR2 : Hid (Sl w3 (.slice p 0 0) (cat (L.drop (j + 1)))) := by
                show Sl _ _ _
                have := HR.out
                rw [if_pos rfl, Nat.sub_self, show n - cp = 0 by omega] at this
                exact this
              clear HR
              go_wp2_with fail
              go_round
              case rel => exact ⟨j + 1, by omega, by go_num, HR2.out⟩
              case measure => simp [intOf]; omega
            · have HR2 : Hid (Sl w3 (.slice (Option.map (fun x : Addr => x.add D) p) (n - D) (cp - D)) (cat (L.drop (j + 1)))) := by
                show Sl _ _ _
                have := HR.out
                rw [if_neg hcd] at this
                exact this
              clear HR
              go_wp2_with fail
              go_round
              case rel => exact ⟨j + 1, by omega, by go_num, HR2.out⟩
              case measure => simp [intOf]; omega
          · have hjN : len0 ≤ j := by omega
            have hnil : cat (L.drop j) = [] := by rw [List.drop_eq_nil_of_le (by rw [HLn.out]; omega)]; rfl
            rw [hnil] at hsl
            obtain ⟨p, cp, rfl, hlc, hcm, -, -⟩ := hsl
            clear hnil
            go_wp2_with fail
            go_ret
            exact ⟨rfl, hbel⟩

set_option maxRecDepth 100000 in
theorem lifted (os : Os) (started : os.Started) (H : Type) (enc : TypeId × Value → H) :
    ReturnsInHanded {} Try.checked os 4 .any (Rows.numManySpec.pre6 enc Try.prog Try.f4 Rows.numManyRow.domain false) (Rows.numManySpec.post enc Try.prog Try.f4 false true false false) := by
  refine returnsInHanded_of_change (C := Try.checked) own started (by kernel_rfl) Try.func4
    (ChangeSpec.witness6 (enc := enc) (C := Try.checked) false ⟨#[], #[.slice none 0 0], []⟩ 8 (by kernel_rfl) (by kernel_rfl) (by kernel_rfl) (by kernel_rfl)) ?_
  intro W base args ds gs before hval0 hW hcnd _
  have hval : ∀ (j : Nat) t v, Try.f4.params[j]? = some t → args[j]? = some v → Value.okWide Try.prog W .any base t v := hval0
  have hW' := hW
  obtain ⟨p, q, hA0, hV, rfl, hfz, hnd⟩ := hW
  have hA : DataW.TrodAll enc Try.prog W 0 (fun _ => true) true Try.f4.params.toList args.toList ds p := hA0
  rw [Try.params4] at hA hval
  obtain ⟨v0, vs0, d0, ds0, p0, q0, hargs, rfl, rfl, h0, r0⟩ := trodAll_cons hA
  obtain ⟨rfl, rfl, rfl⟩ := trodAll_nil r0
  obtain rfl : args = #[v0] := by cases args; simp_all
  obtain ⟨rfl, rfl⟩ := trodVars_none hV
  obtain ⟨a0, len0, cap0, rfl⟩ := okWide_slice Try.underlying36 (hval 0 36 v0 rfl rfl)
  have k0 := h0
  have lt0 : ∀ x ∈ p0, x.block < W.heap.size := by obtain ⟨m, hm⟩ := k0; exact DataW.trod_lt m _ _ _ hm
  obtain ⟨z0, w0⟩ : ∃ zs, IsRow .i64 W a0 len0 cap0 zs := by
    obtain ⟨fuel, hf⟩ := h0
    rcases open_ints Try.underlying36 Try.underlying2 (by kernel_rfl) hf with ⟨hcs, _⟩ | ⟨x, l, c, zs, hcs, _, hl, hm, hz, _, hcell, hwz⟩
    · simp [Value.cells] at hcs
      obtain ⟨rfl, rfl, rfl⟩ := hcs
      exact ⟨[], .inl ⟨rfl, rfl, rfl, rfl⟩⟩
    · simp [Value.cells] at hcs
      obtain ⟨rfl, rfl, rfl⟩ := hcs
      exact ⟨zs, .inr ⟨_, rfl, hl, hm, by simpa using hz, hcell, hwz⟩⟩
  clear hA0 hval0
  refine (walk a0 len0 cap0 z0 W w0).mono fun e W' ⟨he, bel⟩ => ?_
  subst he
  exact ⟨_, rfl, _, _, _, [], _, [], hW', trodAll_mk1 (shut_bool Try.underlying4 _), (trodAll_cons_mk (Below.trod laidOut (by kernel_rfl) (of_decide_eq_true (by kernel_rfl)) k0 bel lt0) trodAll_mk0), rfl, bel.frame _, fun h => by cases h⟩

theorem over : Rows.numManyRow.holds Try.pinned (OpenSpec.ofChange Rows.numManySpec) :=
  OpenClaim.holds_of_wide 4 Try.f4 rfl rfl rfl rfl rfl rfl rfl ⟨rfl, rfl, rfl, rfl, rfl⟩ rfl rfl rfl rfl rfl (by kernel_rfl) Try.func4 (by kernel_rfl)
    (of_decide_eq_true (by kernel_rfl)) (by unfold Func.isWrapper; first | (rw [if_pos (by decide +kernel)]; kernel_rfl) | (rw [if_neg (by decide +kernel)]; exact ⟨rfl, rfl⟩))
    (fun os started H enc _ => lifted os started H enc)

theorem proved : Rows.NumManySaid := over
#print axioms proved
end Go.Proofs.Ytgdpkcgehbhkoaa.numMany
