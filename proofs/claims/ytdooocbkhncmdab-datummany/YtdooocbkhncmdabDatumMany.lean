/-
  For every slice of values DatumMany returns true: those that may be (of the first 20), written one behind the other by datum.Put, are read one by one by datum.Get. No condition.
-/
import Derived.Test.YtdooocbkhncmdabRows
import Derived.WalkKit
import Derived.ProofKit
import Derived.OpenShut
import Derived.ShutString
import Derived.ChangeOld
import Derived.Below
import Derived.Test.YtdooocbkhncmdabDatM
namespace Go.Proofs.Ytdooocbkhncmdab.datumMany
open Go.ChangeShapes Go.WideShapes Go.ChangeAt Go.RowKit
open Go.ChangeMaps (open_string shut_string)
set_option linter.unusedVariables false

theorem own : ownKnob Try.prog.godebug = none := by kernel_rfl
theorem laidOut : laidOutB Try.prog = true := by kernel_rfl

/-- WHAT THE WALK IS TOLD OF A SLICE OF INTEGERS THAT CAME IN: it is nil; or it leads to a row of 'cap' cells, the numbers 'zs' (the first 'len' are its elements, the rest its spare room), each fitting its kind. -/
def IsRow (k : IntKind) (w : World) (a : Option Addr) (len cap : Nat) (zs : List Int) : Prop :=
  (a = none ∧ len = 0 ∧ cap = 0 ∧ zs = []) ∨
  ∃ x, a = some x ∧ len ≤ cap ∧ cap ≤ maxLen ∧ zs.length = cap ∧ (∀ i, i < zs.length → w.cell? (x.add i) = some (.int k (zs.getD i 0))) ∧ ∀ n ∈ zs, (Lit.int k n).wf = true

theorem and3 {a b c r : Prop} (h : a ∧ b ∧ c) (k : r) : a ∧ b ∧ c ∧ r := ⟨h.1, h.2.1, h.2.2, k⟩

set_option maxRecDepth 100000 in
set_option maxHeartbeats 4000000 in
theorem walk (a0 : Option Addr) (len0 cap0 : Nat) (L : List (Int × Nat × ByteArray)) (w : World) (w0 : Vs w (.slice a0 len0 cap0) L) :
    Calls Try.prog 3 #[.slice a0 len0 cap0] w fun e w' => e = .returned (.bool true) ∧ Below w.heap.size w w' := by
  obtain ⟨a, cap, e, hl, hm, hok, hc⟩ := w0
  simp only [Value.slice.injEq] at e
  obtain ⟨rfl, rfl, rfl⟩ := e
  unfold maxLen at hm
  have HC := hide hc
  have HOK := hide hok
  clear hc hok
  obtain ⟨i0, hi, hz0, hz1, hz2⟩ := info_parts Try.info27
  have hsf := st_float
  go_enter Try.func3, Try.ntmps3
  go_wp2_with fail
  refine (begun_any _).mono ?_
  rintro e x1 ⟨rfl, hb1⟩
  go_wp2_with fail
  go_loopw [4, 5, 6] (fun vb vm i wr => ∃ k : Nat, k ≤ L.length ∧ k ≤ 20 ∧ i = .int .i64 k ∧ Hid (wr.ownsRow x1.heap.size 5 1 vb (cat (kept L k)).length (bv (cat (kept L k)))) ∧ Hid (wr.ownsRow x1.heap.size 27 3 vm (kept L k).length (vv (kept L k))) ∧ Hid (Below x1.heap.size x1 wr)) (fun _ _ i _ => 20 - (intOf i).toNat)
  case atStart => exact ⟨0, Nat.zero_le _, by omega, rfl, World.ownsRow_nil _ _ _ _, World.ownsRow_nil _ _ _ _, Below.refl _ _⟩
  case round =>
    obtain ⟨k, hk, hk20, rfl, HOb, HOm, HBel⟩ := hrel
    by_cases hboth : k < L.length ∧ k < 20
    · obtain ⟨hlt, h20⟩ := hboth
      · obtain ⟨q, hq⟩ : ∃ q, L[k]? = some q := ⟨_, List.getElem?_eq_getElem hlt⟩
        have hBw := hb1.trans (HBel.out.mono hb1.size)
        have hqok := HOK.out q (List.mem_of_getElem? hq)
        have HKY := hide (kept_yes hq)
        have HKN := hide (kept_no hq)
        have HKS := hide (may_small (q := q))
        have HKO := hide (kept_ok HOK.out (k + 1))
        have hkl := kept_len L k
        have hcl := cat_len (kept_ok HOK.out k)
        have HCB := hide (cat_bd (kept_ok HOK.out k))
        obtain ⟨b, off, rfl, g0, g1, g2⟩ := HC.out k q hq
        have c0 : wr.cell? ⟨b, off + k * 3, none⟩ = some (.int .i64 q.1) := by rw [hBw.cell (p := ⟨b, off + k * 3, none⟩) (cell_lt g0), g0]
        have c1 : wr.cell? ⟨b, off + k * 3 + 1, none⟩ = some (.float .f64 q.2.1) := by rw [Nat.add_assoc, hBw.cell (p := ⟨b, off + (k * 3 + 1), none⟩) (cell_lt g1), g1]
        have c2 : wr.cell? ⟨b, off + k * 3 + 2, none⟩ = some (.string q.2.2) := by rw [Nat.add_assoc, hBw.cell (p := ⟨b, off + (k * 3 + 2), none⟩) (cell_lt g2), g2]
        clear g0 g1 g2 hq HC HOK
        obtain ⟨Kd, X, s⟩ := q
        unfold okv at hqok
        simp only at hqok c0 c1 c2 HKS
        obtain ⟨q0, q1, q2, q3⟩ := hqok
        unfold maxLen at q3
        by_cases h25 : 25 < s.size
        · have hkp : kp (Kd, X, s) = false := by
            cases h : kp (Kd, X, s)
            · rfl
            · have := HKS.out h; omega
          have HKN' := hide (HKN.out hkp)
          clear HKN HKY HKS hkp
          go_wp2_with fail
          go_roundw
          case rel => exact ⟨k + 1, hlt, h20, by go_num, by rw [HKN'.out]; exact HOb.out.alloc _, by rw [HKN'.out]; exact HOm.out.alloc _, HBel.out.alloc HBel.out.size _⟩
          case measure => simp [intOf]; omega
        · have hsm : s.size ≤ maxLen := by unfold maxLen; omega
          generalize hW : wr.alloc (Obj.cells #[Value.int IntKind.i64 Kd, Value.float FloatKind.f64 X, Value.string s] 27) = W0
          have hB0 : Below wr.heap.size wr W0 := by rw [← hW]; exact (Below.refl _ _).alloc (Nat.le_refl _) _
          have HA : Hid (∀ w', Below W0.heap.size W0 w' → _) := fun w' hb => box_cells (w := wr) (w' := w') (by rw [hW]; exact hb)
          have hB : Below W0.heap.size W0 W0 := Below.refl _ _
          obtain ⟨d0, d1, d2⟩ := HA.out _ hB
          cases hm2 : Dt.may Kd X s
          · have HM := hide hm2
            have HKN' := hide (HKN.out hm2)
            clear HKN HKY HKS hm2
            go_wp2_with fail
            with_reducible refine (refMay_any Kd X s _ hsm q2).mono ?_
            rintro e x ⟨rfl, hb⟩
            rw [HM.out]
            have hB1 := hB0.trans (hb.mono hB0.size)
            clear hb
            go_wp2_with fail
            go_roundw
            case rel => exact ⟨k + 1, hlt, h20, by go_num, by rw [HKN'.out]; exact own_below HOb.out hB1, by rw [HKN'.out]; exact own_below HOm.out hB1, HBel.out.trans (hB1.mono HBel.out.size)⟩
            case measure => simp [intOf]; omega
          · have HM := hide hm2
            have HKY' := hide (HKY.out hm2)
            clear HKN HKY HKS hm2
            go_wp2_with fail
            with_reducible refine (refMay_any Kd X s _ hsm q2).mono ?_
            rintro e x ⟨rfl, hb⟩
            rw [HM.out]
            have hB1 := hB0.trans (hb.mono hB0.size)
            clear d0 d1 d2
            obtain ⟨d0, d1, d2⟩ := HA.out _ hb
            have ho1 := own_below HOm.out hB1
            have HO1b := hide (own_below HOb.out hB1)
            have hbx := HBel.out.trans (hB1.mono HBel.out.size)
            have hxs := hbx.size
            go_wp2_with (first
              | (at_builtin; refine wpList_append_own _ rfl _ _ 22 rfl x1.heap.size 27 i0 (.agg #[.int .i64 0, .float .f64 0, .string ⟨#[]⟩]) 3 32 Try.underlying22 hi hz0 hz1 hz2 rfl (by decide) _ _ _ rfl (ho1.alloc _) ⟨x.heap.size, 0, none⟩ 1 1 (vc (Kd, X, s)) rfl rfl (new_vc x (Kd, X, s) _) (vc_one _) (by unfold maxLen; omega) (by omega) (by simp; omega) ?_)
              | fail)
            intro v2 w2 ho2 hg2 _
            have hne : some wr.heap.size ≠ u5.ownBlock := fun h => by have := (HOm.out.lt _ h.symm).2; omega
            obtain ⟨y0, y1, y2⟩ := HA.out _ (hb.alloc hb.size (Obj.cells #[Value.int IntKind.i64 Kd, Value.float FloatKind.f64 X, Value.string s] 27))
            replace y0 := hg2.cell y0 hne
            replace y1 := hg2.cell y1 hne
            replace y2 := hg2.cell y2 hne
            have hob2 := (HO1b.out.alloc _).kept hg2 (own_ne HO1b.out ho1 (by decide))
            have hb2 : Below x1.heap.size x1 w2 := (hbx.alloc hxs _).grown hg2 (by simp; omega) (fun j hj => (ho1.lt j hj).1)
            have hsl2 : Sl w2 u4 (cat (kept L k)) := Sl.own hob2 HCB.out
            have HO2 : Hid (w2.ownsRow x1.heap.size 27 3 v2 (kept L (k + 1)).length (vv (kept L (k + 1)))) := by
              show World.ownsRow _ _ _ _ _ _ _
              rw [HKY'.out, vv_app, List.length_append]
              simpa [vv] using ho2
            have hs2 := hb2.size
            clear ho2 hg2 hob2 hbx ho1 d0 d1 d2 hb hB hB0 hB1 HO1b HA hW
            go_wp2_with fail
            refine (dput_any u4 (cat (kept L k)) Kd X s _ hsl2 (by omega) q0 q1 q2).mono ?_
            rintro e w3 ⟨v3, rfl, ho3, hb3⟩
            have HO3 : Hid (w3.ownsRow x1.heap.size 5 1 v3 (cat (kept L (k + 1))).length (bv (cat (kept L (k + 1))))) := by
              show World.ownsRow _ _ _ _ _ _ _
              rw [HKY'.out, cat_app, cat_one, List.length_append]
              exact own_mono ho3 hs2
            have HO4 := hide (own_below HO2.out hb3)
            have hb4 := hb2.trans (hb3.mono hs2)
            clear ho3 hb3 hsl2 HO2
            go_wp2_with fail
            go_roundw
            case rel => exact ⟨k + 1, hlt, h20, by go_num, HO3, HO4, hb4⟩
            case measure => simp [intOf]; omega
    · have hor : ¬ k < L.length ∨ (k < L.length ∧ ¬ k < 20) := by omega
      have HFO := hide (kept_ok HOK.out k)
      have hFl := kept_len L k
      have HVs := hide (Vs.own HOm.out (fun q hq => (HFO.out q hq).1))
      have HSb : Hid (Sl wr u4 (cat ((kept L k).drop 0))) := Sl.own HOb.out (cat_bd HFO.out)
      have hBw := hb1.trans (HBel.out.mono hb1.size)
      generalize kept L k = F at *
      clear HOb HOm HBel hboth HC HOK hb1
      obtain ⟨p, cpm, e5, hlm, hcm, -, hcell⟩ := HVs.out
      subst e5
      unfold maxLen at hcm
      have HCL := hide hcell
      clear hcell HVs
      generalize hn : F.length = n at *
      have Hn := hide hn
      clear hn
      rcases hor with hend | ⟨hend, hend2⟩
      all_goals
        go_wp2_with fail
        go_loopw [4, 8] (fun vb i wz => ∃ j : Nat, j ≤ n ∧ i = .int .i64 j ∧ Hid (Sl wz vb (cat (F.drop j))) ∧ Hid (Below wr.heap.size wr wz)) (fun _ i _ => n - (intOf i).toNat)
        case atStart => exact ⟨0, Nat.zero_le _, rfl, HSb, Below.refl _ _⟩
        case round =>
          obtain ⟨j, hj, rfl, HS, HBz⟩ := hrel
          clear HSb
          by_cases hjn : j < n
          · obtain ⟨q, hq⟩ : ∃ q, F[j]? = some q := ⟨_, List.getElem?_eq_getElem (by rw [Hn.out]; exact hjn)⟩
            have hqo := HFO.out q (List.mem_of_getElem? hq)
            have HD : Hid (cat (F.drop j) = Dt.put q.1 q.2.1 q.2.2 ++ cat (F.drop (j + 1))) := by
              show _ = _
              rw [List.drop_eq_getElem_cons (by rw [Hn.out]; exact hjn), cat_cons]
              have : F[j]'(by rw [Hn.out]; exact hjn) = q := by
                have := List.getElem?_eq_getElem (l := F) (i := j) (by rw [Hn.out]; exact hjn)
                rw [hq] at this
                exact (Option.some.inj this).symm
              rw [this]
            obtain ⟨b, off, rfl, g0, g1, g2⟩ := HCL.out j q hq
            have hpl := (Dt.put_len (k := q.1) (x := q.2.1) (s := q.2.2))
            have hqs := may_small hqo.2
            obtain ⟨Kd, X, s⟩ := q
            obtain ⟨⟨q0, q1, q2, q3⟩, qk⟩ := hqo
            unfold kp at qk
            simp only at q0 q1 q2 q3 qk HD g0 g1 g2 hpl hqs
            have HG := hide (Dt.get_put q2 qk (cat (F.drop (j + 1))))
            have hSS := HS.out
            rw [HD.out] at hSS
            obtain ⟨pb, nb, cb, rfl, hnb, hcb, Hnb, HSb⟩ := hSS.opens
            have hDn : (Dt.put Kd X s).length ≤ nb := by rw [Hnb.out]; simp
            have hR := HSb.out.rest (l := (Dt.put Kd X s).length) (by simp) _ rfl
            rw [List.drop_left] at hR
            have HR := hide hR
            clear hR hSS HS HD hq qk q3
            generalize (Dt.put Kd X s).length = D at *
            go_wp2_with fail
            refine (dget_at HSb.out HG.out).mono ?_
            rintro e y ⟨rfl, hby⟩
            rw [sb_back]
            have hBy := HBz.out.trans (hby.mono HBz.out.size)
            have HRy := hide (HR.out.later hby)
            clear HR HSb HG hby HBz
            generalize hZ : y.alloc (Obj.cells #[Value.int IntKind.i64 Kd, Value.float FloatKind.f64 X, Value.string s] 27) = Z
            have hbZ := (Below.refl y.heap.size y).alloc (Nat.le_refl _) (Obj.cells #[Value.int IntKind.i64 Kd, Value.float FloatKind.f64 X, Value.string s] 27)
            rw [hZ] at hbZ
            have hBZ := hBy.trans (hbZ.mono hBy.size)
            have HRz := hide (HRy.out.later hbZ)
            have HM3 : Hid (∀ w', Below Z.heap.size Z w' → w'.cell? ⟨b, off + j * 3, none⟩ = some (.int .i64 Kd) ∧ w'.cell? ⟨b, off + j * 3 + 1, none⟩ = some (.float .f64 X) ∧ w'.cell? ⟨b, off + j * 3 + 2, none⟩ = some (.string s)) := by
              intro w' hb
              have hB' := hBZ.trans (hb.mono hBZ.size)
              refine ⟨?_, ?_, ?_⟩
              · rw [hB'.cell (p := ⟨b, off + j * 3, none⟩) (cell_lt g0), g0]
              · rw [Nat.add_assoc, hB'.cell (p := ⟨b, off + (j * 3 + 1), none⟩) (cell_lt g1), g1]
              · rw [Nat.add_assoc, hB'.cell (p := ⟨b, off + (j * 3 + 2), none⟩) (cell_lt g2), g2]
            have HA : Hid (∀ w', Below Z.heap.size Z w' → _) := fun w' hb => and3 (HM3.out w' hb) (box_cells (w := y) (w' := w') (by rw [hZ]; exact hb))
            have hB : Below Z.heap.size Z Z := Below.refl _ _
            have HRF := hide (Dt.eq_refl Kd X s)
            clear HM3 g0 g1 g2 HRy hbZ hBy
            go_wp2_with fail
            refine wp_region_noPanic ?_
            refine wp_region_held_drew (S := fun W => Below Z.heap.size Z W) (by kernel_rfl) ?_ (fun hHeld => ?_)
            · exact (Below.refl _ _).drew
            refine wpAnyH_take (i := 0) (v := ?_) rfl (by kernel_rfl) (by kernel_rfl) (by kernel_rfl) (fun _ _ _ h => h) (Or.inl ⟨by kernel_rfl, ?_⟩) hHeld ?_
            rotate_left
            · intro W hW; go_simp; first | done | with_reducible rfl
            try simp only [Act.put]
            refine wpAnyH_take (i := 1) (v := .bool false) rfl (by kernel_rfl) (by kernel_rfl) (by kernel_rfl) (fun _ _ _ h => h) (Or.inl ⟨by kernel_rfl, ?_⟩) hHeld ?_
            · intro W hW; go_simp; first | done | with_reducible rfl
            try simp only [Act.put]
            refine wpAnyH_take (i := 2) (v := ?_) rfl (by kernel_rfl) (by kernel_rfl) (by kernel_rfl) (fun _ _ _ h => h) (Or.inl ⟨by kernel_rfl, ?_⟩) hHeld ?_
            rotate_left
            · intro W hW; go_simp; first | done | with_reducible rfl
            try simp only [Act.put]
            refine wpAnyH_take (i := 3) (v := .agg #[.int .i64 Kd, .float .f64 X, .string s]) rfl (by kernel_rfl) (by kernel_rfl) (by kernel_rfl) (fun _ _ _ h => h) (Or.inl ⟨by kernel_rfl, ?_⟩) hHeld ?_
            · intro W hW; have hq := HA.out W (hB.trans (Below.mono hW hB.size)); obtain ⟨c0, c1, c2, d0, d1, d2⟩ := hq; clear hW; go_simp; first | done | with_reducible rfl
            try simp only [Act.put]
            refine wpAnyH_take (i := 4) (v := ?_) rfl (by kernel_rfl) (by kernel_rfl) (by kernel_rfl) (fun _ _ _ h => h) (Or.inl ⟨by kernel_rfl, ?_⟩) hHeld ?_
            rotate_left
            · intro W hW; go_simp; first | done | with_reducible rfl
            try simp only [Act.put]
            refine wpAnyH_take (i := 5) (v := ?_) rfl (by kernel_rfl) (by kernel_rfl) (by kernel_rfl) (fun _ _ _ h => h) (Or.inl ⟨by kernel_rfl, ?_⟩) hHeld ?_
            rotate_left
            · intro W hW; go_simp; first | done | with_reducible rfl
            try simp only [Act.put]
            refine wpAnyH_take (i := 6) (v := .pointer (some ⟨b, off + j * 3, none⟩)) rfl (by kernel_rfl) (by kernel_rfl) (by kernel_rfl) (fun _ _ _ h => h) (Or.inl ⟨by kernel_rfl, ?_⟩) hHeld ?_
            · intro W hW; go_simp; first | done | with_reducible rfl
            try simp only [Act.put]
            refine wpAnyH_take (i := 7) (v := .agg #[.int .i64 Kd, .float .f64 X, .string s]) rfl (by kernel_rfl) (by kernel_rfl) (by kernel_rfl) (fun _ _ _ h => h) (Or.inl ⟨by kernel_rfl, ?_⟩) hHeld ?_
            · intro W hW; have hq := HA.out W (hB.trans (Below.mono hW hB.size)); obtain ⟨c0, c1, c2, d0, d1, d2⟩ := hq; clear hW; go_simp; first | done | with_reducible rfl
            try simp only [Act.put]
            refine wpAnyH_ready (rs := [8]) (by kernel_rfl) (by simp) ?_
            refine AllReadyH.cons (o := _) rfl (fun K hK => ?_) AllReadyH.nil
            go_simp
            refine (refEq_any Kd X s Kd X s _ q2 q2).mono ?_
            rintro e xc ⟨rfl, hb4⟩
            rw [HRF.out]
            dsimp only
            refine hK.out _ _ ?_ (fun hHeld => ?_)
            · exact hHeld.trans (hb4.mono hHeld.size)
            clear hK K
            try simp only [Act.put]
            refine held_mono (S' := fun W => Below xc.heap.size xc W) (fun W h => hHeld.trans (h.mono hHeld.size)) _ _ _ _ ?_
            replace hB := hB.trans (hHeld.mono hB.size)
            clear hHeld hb4
            have hHeld : Below xc.heap.size xc xc := Below.refl _ _
            refine wpAnyH_take (i := 9) (v := .bool false) rfl (by kernel_rfl) (by kernel_rfl) (by kernel_rfl) (fun _ _ _ h => h) (Or.inl ⟨by kernel_rfl, ?_⟩) hHeld ?_
            · intro W hW; go_simp; first | done | with_reducible rfl
            try simp only [Act.put]
            refine wpAnyH_take (i := 10) (v := .bool false) rfl (by kernel_rfl) (by kernel_rfl) (by kernel_rfl) (fun _ _ _ h => h) (Or.inl ⟨by kernel_rfl, ?_⟩) hHeld ?_
            · intro W hW; go_simp; first | done | with_reducible rfl
            try simp only [Act.put]
            refine wpAnyH_done (by kernel_rfl) ?_ _
            refine NoPanic.normal ?_
            clear hHeld
            go_simp
            have HRc := hide (HRz.out.later hB)
            have hBc := hBZ.trans (hB.mono hBZ.size)
            clear HRz hBZ hB HA HRF hZ
            by_cases hcd : cb = D
            · subst hcd
              have HR2 : Hid (Sl xc (.slice pb 0 0) (cat (F.drop (j + 1)))) := by
                show Sl _ _ _
                have := HRc.out
                rw [if_pos rfl, Nat.sub_self, show nb - cb = 0 by omega] at this
                exact this
              clear HRc
              go_wp2_with fail
              go_roundw
              case rel => exact ⟨j + 1, by omega, by go_num, HR2, hBc⟩
              case measure => simp [intOf]; omega
            · have HR2 : Hid (Sl xc (.slice (Option.map (fun x : Addr => x.add D) pb) (nb - D) (cb - D)) (cat (F.drop (j + 1)))) := by
                show Sl _ _ _
                have := HRc.out
                rw [if_neg hcd] at this
                exact this
              clear HRc
              go_wp2_with fail
              go_roundw
              case rel => exact ⟨j + 1, by omega, by go_num, HR2, hBc⟩
              case measure => simp [intOf]; omega
          · have hnil : cat (F.drop j) = [] := by rw [List.drop_eq_nil_of_le (by rw [Hn.out]; omega)]; rfl
            have hSS := HS.out
            rw [hnil] at hSS
            obtain ⟨pb, cb, rfl, hlb, hcb, -, -⟩ := hSS
            clear hnil HS
            go_wp2_with fail
            go_ret
            exact ⟨rfl, hBw.trans (HBz.out.mono hBw.size)⟩

set_option maxRecDepth 100000 in
theorem lifted (os : Os) (started : os.Started) (H : Type) (enc : TypeId × Value → H) :
    ReturnsInHanded {} Try.checked os 3 .any (Rows.datumManySpec.pre6 enc Try.prog Try.f3 Rows.datumManyRow.domain false) (Rows.datumManySpec.post enc Try.prog Try.f3 false true false false) := by
  refine returnsInHanded_of_change (C := Try.checked) own started (by kernel_rfl) Try.func3
    (ChangeSpec.witness6 (enc := enc) (C := Try.checked) false ⟨#[], #[.slice none 0 0], []⟩ 8 (by kernel_rfl) (by kernel_rfl) (by kernel_rfl) (by kernel_rfl)) ?_
  intro W base args ds gs before hval0 hW hcnd _
  have hval : ∀ (j : Nat) t v, Try.f3.params[j]? = some t → args[j]? = some v → Value.okWide Try.prog W .any base t v := hval0
  have hW' := hW
  obtain ⟨p, q, hA0, hV, rfl, hfz, hnd⟩ := hW
  have hA : DataW.TrodAll enc Try.prog W 0 (fun _ => true) true Try.f3.params.toList args.toList ds p := hA0
  rw [Try.params3] at hA hval
  obtain ⟨v0, vs0, d0, ds0, p0, q0, hargs, rfl, rfl, h0, r0⟩ := trodAll_cons hA
  obtain ⟨rfl, rfl, rfl⟩ := trodAll_nil r0
  obtain rfl : args = #[v0] := by cases args; simp_all
  obtain ⟨rfl, rfl⟩ := trodVars_none hV
  obtain ⟨a0, len0, cap0, rfl⟩ := okWide_slice Try.underlying22 (hval 0 22 v0 rfl rfl)
  have k0 := h0
  have lt0 : ∀ x ∈ p0, x.block < W.heap.size := by obtain ⟨m, hm⟩ := k0; exact DataW.trod_lt m _ _ _ hm
  obtain ⟨z0, w0⟩ : ∃ L, Vs W (.slice a0 len0 cap0) L := by
    obtain ⟨fuel, hf⟩ := h0
    obtain ⟨a, len, cap, L, hcs, hL⟩ := open_vals Try.underlying22 Try.underlying27 (by kernel_rfl) rfl rfl rfl (by kernel_rfl) (by kernel_rfl) (by kernel_rfl) (by kernel_rfl) (by kernel_rfl) (by kernel_rfl) hf
    simp [Value.cells] at hcs
    obtain ⟨rfl, rfl, rfl⟩ := hcs
    exact ⟨L, hL⟩
  clear hA0 hval0
  refine (walk a0 len0 cap0 z0 W w0).mono fun e W' ⟨he, bel⟩ => ?_
  subst he
  exact ⟨_, rfl, _, _, _, [], _, [], hW', trodAll_mk1 (shut_bool Try.underlying4 _), (trodAll_cons_mk (Below.trod laidOut (by kernel_rfl) (of_decide_eq_true (by kernel_rfl)) k0 bel lt0) trodAll_mk0), rfl, bel.frame _, fun h => by cases h⟩

theorem over : Rows.datumManyRow.holds Try.pinned (OpenSpec.ofChange Rows.datumManySpec) :=
  OpenClaim.holds_of_wide 3 Try.f3 rfl rfl rfl rfl rfl rfl rfl ⟨rfl, rfl, rfl, rfl, rfl⟩ rfl rfl rfl rfl rfl (by kernel_rfl) Try.func3 (by kernel_rfl)
    (of_decide_eq_true (by kernel_rfl)) (by unfold Func.isWrapper; first | (rw [if_pos (by decide +kernel)]; kernel_rfl) | (rw [if_neg (by decide +kernel)]; exact ⟨rfl, rfl⟩))
    (fun os started H enc _ => lifted os started H enc)

theorem proved : Rows.DatumManySaid := over
#print axioms proved
end Go.Proofs.Ytdooocbkhncmdab.datumMany
