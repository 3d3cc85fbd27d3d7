/-
  Contract of package dev: Crash.
-/
import Derived.Test.YtiaicpdbobgkoaaDoorDevF
import Derived.Test.YtiaicpdbobgkoaaDoorDevL
import Derived.Test.YtiaicpdbobgkoaaDoorRw
namespace Go.Proofs.YtiaicpdbobgkoaaDoor
open Go.RowKit Go.Maps

/-- The k first of the loose ones are as they are kept. -/
def part (d : Dv) (ks : List Bool) (k i : Nat) : List Int := if (d.loose i).isSome && decide (d.rank i < k) then d.kept ks i else d.last i

theorem part_zero (d : Dv) (ks : List Bool) (i : Nat) : part d ks 0 i = d.last i := by simp [part]

theorem part_sec {d : Dv} (ok : d.Ok) (ks : List Bool) (k : Nat) {i : Nat} (hi : i < d.n) : Sec (part d ks k i) := by
  unfold part
  split
  · exact Dv.kept_sec ok ks hi
  · exact ok.sec i hi

theorem part_end {d : Dv} (ok : d.Ok) (ks : List Bool) (i : Nat) : part d ks d.los.length i = d.kept ks i := by
  unfold part
  cases hl : d.loose i with
  | none =>
    have : d.at_ i = d.last i := by simp [Dv.at_, hl]
    simp [Dv.kept, this]
  | some s =>
    obtain ⟨h, -⟩ := Dv.rank_lt d ok (i := i) (by rw [hl]; rfl)
    simp [h]

theorem part_step {d : Dv} (ok : d.Ok) (ks : List Bool) {k : Nat} (hk : k < d.los.length) (j : Nat) : part d ks (k + 1) j = if j = d.los[k] then d.kept ks j else part d ks k j := by
  have hr := Dv.los_rank d hk
  have hm := (Dv.mem_los ok d.los[k]).1 (List.getElem_mem hk)
  by_cases e : j = d.los[k]
  · subst e
    simp [part, hm, hr]
  · simp only [part, e, if_false]
    cases hl : d.loose j with
    | none => simp
    | some s =>
      obtain ⟨h, h2⟩ := Dv.rank_lt d ok (i := j) (by rw [hl]; rfl)
      have : d.rank j ≠ k := by rintro rfl; exact e h2.symm
      have h3 : (d.rank j < k + 1) = (d.rank j < k) := by apply propext; omega
      simp [h3]

theorem part_yes {d : Dv} (ok : d.Ok) {ks : List Bool} {k : Nat} (hk : k < d.los.length) (h : ks.getD k false = true) (j : Nat) : part d ks (k + 1) j = if j = d.los[k] then d.at_ d.los[k] else part d ks k j := by
  rw [part_step ok ks hk j]
  by_cases e : j = d.los[k]
  · simp only [e, if_true, Dv.kept, Dv.los_rank d hk, h]
  · simp only [e, if_false]

theorem part_no {d : Dv} (ok : d.Ok) {ks : List Bool} {k : Nat} (hk : k < d.los.length) (h : ks.getD k false = false) (j : Nat) : part d ks (k + 1) j = part d ks k j := by
  rw [part_step ok ks hk j]
  by_cases e : j = d.los[k]
  · have h' : ks[k]?.getD false = false := by simpa [List.getD] using h
    subst e
    simp [Dv.kept, part, Dv.los_rank d hk, h']
  · simp only [e, if_false]

/-- A device made of a row, its row turned. -/
theorem DevIn.turn {w wr : World} {g bl bm n cap : Nat} {f f' : Nat → List Int} {D : DataW (List Int)} {fu : Bool} {le : Int} {cur : Array Value} (h : DevIn w g bl bm (ofRow n f) cap D fu le cur) (hb : But (· = bl) w wr) (hr : RowAt wr bl n cap f') (hs : ∀ i, i < n → Sec (f' i)) : DevAt wr g bl bm (ofRow n f') := by
  have hap := DevAt.apart ⟨cap, D, fu, le, cur, h⟩
  obtain ⟨cur', hc', hz'⟩ := hr.cur
  refine ⟨cap, D, fu, le, cur', by rw [hb.block g (blk_lt h.me) hap.1]; exact h.me, h.fuse, hc', hr.room, hr.big, hz', hr.last, ?_, h.lo, ⟨h.ok.pos, h.ok.most, hs, h.ok.los, h.ok.few, h.ok.fu⟩⟩
  obtain ⟨es, clock, hm, r⟩ := h.map
  exact ⟨es, clock, by rw [hb.block bm (blk_lt hm) (fun e => hap.2.2 e.symm), hm], r⟩

theorem ofRow_ok {d : Dv} (ok : d.Ok) : (ofRow d.n d.last).Ok := ⟨ok.pos, ok.most, ok.sec, fun i s e => (by cases e), by simp [ofRow], fun k e => (by cases e)⟩

set_option maxHeartbeats 2000000 in
set_option maxRecDepth 100000 in
theorem crash_any {w : World} {g bl bm : Nat} {d : Dv} (h : DevAt w g bl bm d) {v : Value} {ks : List Bool} (hv : Rw w v (bo ks)) :
    Calls Tryd.prog 13 #[.pointer (some ⟨g, 0, none⟩), v] w fun e w' => ∃ g' bl' bm', e = .returned (.pointer (some ⟨g', 0, none⟩)) ∧ DevAt w' g' bl' bm' (d.crash ks) ∧ w.heap.size ≤ g' ∧ w.heap.size ≤ bl' ∧ w.heap.size ≤ bm' ∧ Below w.heap.size w w' := by
  have HA := hide h
  have hlts := hide h.lts
  have Hok := hide h.ok
  obtain ⟨cap, D, fu, le, cur, h⟩ := h
  have c0 := h.cells.1
  have H := hide h
  have hmost := h.ok.most
  have hpos := h.ok.pos
  have HF : Hid (∀ i, i < d.n → (d.last i).length = 64) := fun i hi => (h.ok.sec i hi).1
  obtain ⟨pk, nk, ck, rfl, hnk, hck, Hnk, HK⟩ := hv.opens
  clear h hv
  go_enter Tryd.func13, Tryd.ntmps13
  go_wp2_with (first
    | (with_reducible refine (clone_any H.out.rowAt HF.out hpos hmost).mono ?_; rintro e W1 ⟨bl', cap', rfl, h1, hl1, hB1⟩)
    | (with_reducible refine (of_any h1 (ofRow_ok Hok.out)).mono ?_; rintro e W2 ⟨g', bm', rfl, h2, hg2, hm2, hB2⟩)
    | (refine (loose_any (HA.out.later (hB1.trans (hB2.mono hB1.size)))).mono ?_; rintro e W3 ⟨lv, rfl, ho3, hB3⟩; obtain ⟨pl, nl, cl, rfl, hnl, hcl, Hnl, HL⟩ := (Rw.own ho3).opens))
  obtain ⟨cap2, D2, fu2, le2, cur2, h2'⟩ := h2
  have H2 := hide h2'
  have hB02 := hide (hB1.trans (hB2.mono hB1.size))
  have hB03 := hide (hB02.out.trans (hB3.mono hB02.out.size))
  have hbl' : bl' < W2.heap.size := blk_lt h2'.row
  have Hl := hide (Nat.le_trans hl1 (Nat.le_refl bl'))
  have hg' : g' < W2.heap.size := blk_lt h2'.me
  have H3 := hide (h2'.but (S := fun _ => False) (.of hB3) id id id)
  go_loopw [19] (fun kv wr => ∃ k : Nat, k ≤ nl ∧ kv = .int .i64 k ∧ Hid (But (· = bl') W3 wr) ∧ Hid (RowAt wr bl' d.n cap2 (part d ks k)))
    (fun kv _ => nl - (intOf kv).toNat)
  case atStart => exact ⟨0, Nat.zero_le _, rfl, But.refl _ _, H3.out.rowAt.congr fun i _ => part_zero d ks i⟩
  case round =>
    obtain ⟨k, hk, rfl, hbw, hrow⟩ := hrel
    by_cases hkn : k < nl
    · have hkl : k < d.los.length := by have := Hnl.out; rw [li_len] at this; omega
      have hmi := (Dv.mem_los Hok.out d.los[k]).1 (List.getElem_mem hkl)
      obtain ⟨s, hsi⟩ := Option.isSome_iff_exists.1 hmi
      obtain ⟨hi, hss⟩ := Hok.out.los _ s hsi
      have hla : d.at_ d.los[k] = s := by simp [Dv.at_, hsi]
      have HL' : Hid (d.los[k] = d.los[k]) := rfl
      have Hhl := hide hkl
      have Hy := hide (part_yes Hok.out (ks := ks) hkl)
      have Hno := hide (part_no Hok.out (ks := ks) hkl)
      obtain ⟨bq, oq, rfl, hcq⟩ := (Rw.own (own_but ho3 hbw.out (fun k hk e => by omega))).cell (i := k) (by rw [li_len]; exact hkl)
      have hcq' : wr.cell? ⟨bq, oq + k, none⟩ = some (.int .i64 (d.los[k] : Int)) := by rw [hcq]; simp only [li, List.getElem_map]; rfl
      have hBw : Hid (Below w.heap.size w wr) := Below.but hB03.out hB03.out.size hbw.out (fun k e => by have := Hl.out; omega)
      generalize hgi : d.los[k] = i at *
      clear hcq hmi
      have Hsi := hide hsi
      have Hla := hide hla
      clear hsi hla hgi
      by_cases hkk : k < nk
      · have hkb : k < ks.length := by have := Hnk.out; simp [bo] at this; omega
        obtain ⟨bk, ok, rfl, hck1⟩ := (HK.out.later hBw.out).cell (i := k) (by simpa [bo] using hkb)
        have hck2 : wr.cell? ⟨bk, ok + k, none⟩ = some (.bool ks[k]) := by rw [hck1]; simp [bo]
        have hgd : ks.getD k false = ks[k] := by simp [List.getD, List.getElem?_eq_getElem hkb]
        have Hgd := hide hgd
        clear hck1 hgd
        cases hb : ks[k]
        · rw [hb] at hck2 Hgd
          have Hn2 := hide (Hno.out Hgd.out)
          go_wp2_with fail
          go_roundw
          case rel => exact ⟨k + 1, by omega, by simp, hbw, hrow.out.congr fun j _ => Hn2.out j⟩
          case measure => simp [intOf]; omega
        · rw [hb] at hck2 Hgd
          have Hy2 := hide (Hy.out Hgd.out)
          go_wp2_with fail
          have hbls : bl' < W3.heap.size := Nat.lt_of_lt_of_le hbl' hB3.size
          have hwr := hbw.out.size
          have h1s := hB1.size
          have h2s := hB2.size
          have h3s := hB3.size
          have hl3 := hlts.out
          have hl1' := Hl.out
          have hne : ∀ W, But (· = bl') wr W → W.cell? ⟨g', 0, none⟩ = some (.slice (some ⟨bl', 0, none⟩) d.n cap2) ∧ W.cell? ⟨g, 1, none⟩ = some (.map (some bm)) ∧ W.ownsMap Tryd.prog 3 rd64 bm d.n D := fun W hW =>
            ⟨by rw [hW.cell (p := ⟨g', 0, none⟩) (by show g' < _; omega) (DevAt.apart ⟨_, _, _, _, _, H2.out⟩).1, hbw.out.cell (p := ⟨g', 0, none⟩) (by show g' < _; omega) (DevAt.apart ⟨_, _, _, _, _, H2.out⟩).1]; exact H3.out.cells.1,
             by rw [hW.cell (p := ⟨g, 1, none⟩) (by show g < _; omega) (by show ¬ g = bl'; omega), hBw.out.cell (p := ⟨g, 1, none⟩) hl3.1]; exact H.out.cells.2.1, by
              obtain ⟨es, clock, hm, r⟩ := H.out.map
              exact ⟨es, clock, by rw [hW.block bm (by omega) (by omega), hBw.out.block bm hl3.2.2, hm], r⟩⟩
          refine wp_region_noPanic ?_
          refine wp_region_held_drew (S := fun W => But (· = bl') wr W) (by kernel_rfl) ?_ (fun hHeld => ?_)
          · exact (But.refl _ _).drew
          refine wpAnyH_take (i := 0) (v := ?_) rfl (by kernel_rfl) (by kernel_rfl) (by kernel_rfl) (fun _ _ _ h => h) (Or.inl ⟨by kernel_rfl, ?_⟩) hHeld ?_
          rotate_left
          · intro W hW; go_simp; first | done | with_reducible rfl
          try simp only [Act.put, List.getElem_toArray, List.getElem_cons_zero, List.setIfInBounds_toArray, List.set_cons_succ, List.set_cons_zero]
          refine wpAnyH_take (i := 1) (v := ?_) rfl (by kernel_rfl) (by kernel_rfl) (by kernel_rfl) (fun _ _ _ h => h) (Or.inl ⟨by kernel_rfl, ?_⟩) hHeld ?_
          rotate_left
          · intro W hW; go_simp; first | done | with_reducible rfl
          try simp only [Act.put, List.getElem_toArray, List.getElem_cons_zero, List.getElem_cons_succ, List.setIfInBounds_toArray, List.set_cons_succ, List.set_cons_zero]
          refine wpAnyH_take (i := 2) (v := ?_) rfl (by kernel_rfl) (by kernel_rfl) (by kernel_rfl) (fun _ _ _ h => h) (Or.inl ⟨by kernel_rfl, ?_⟩) hHeld ?_
          rotate_left
          · intro W hW; go_simp; first | done | with_reducible rfl
          try simp only [Act.put, List.getElem_toArray, List.getElem_cons_zero, List.getElem_cons_succ, List.setIfInBounds_toArray, List.set_cons_succ, List.set_cons_zero]
          refine wpAnyH_take (i := 3) (v := .slice (some ⟨bl', 0, none⟩) d.n cap2) rfl (by kernel_rfl) (by kernel_rfl) (by kernel_rfl) (fun _ _ _ h => h) (Or.inl ⟨by kernel_rfl, ?_⟩) hHeld ?_
          · intro W hW; obtain ⟨c1, -, -⟩ := hne W hW; go_simp
          try simp only [Act.put, List.getElem_toArray, List.getElem_cons_zero, List.getElem_cons_succ, List.setIfInBounds_toArray, List.set_cons_succ, List.set_cons_zero]
          refine wpAnyH_take (i := 4) (v := ?_) rfl (by kernel_rfl) (by kernel_rfl) (by kernel_rfl) (fun _ _ _ h => h) (Or.inl ⟨by kernel_rfl, ?_⟩) hHeld ?_
          rotate_left
          · intro W hW; go_simp; first | done | with_reducible rfl
          try simp only [Act.put, List.getElem_toArray, List.getElem_cons_zero, List.getElem_cons_succ, List.setIfInBounds_toArray, List.set_cons_succ, List.set_cons_zero]
          refine wpAnyH_take (i := 5) (v := ?_) rfl (by kernel_rfl) (by kernel_rfl) (by kernel_rfl) (fun _ _ _ h => h) (Or.inl ⟨by kernel_rfl, ?_⟩) hHeld ?_
          rotate_left
          · intro W hW; go_simp; first | done | with_reducible rfl
          try simp only [Act.put, List.getElem_toArray, List.getElem_cons_zero, List.getElem_cons_succ, List.setIfInBounds_toArray, List.set_cons_succ, List.set_cons_zero]
          refine wpAnyH_take (i := 6) (v := ?_) rfl (by kernel_rfl) (by kernel_rfl) (by kernel_rfl) (fun _ _ _ h => h) (Or.inl ⟨by kernel_rfl, ?_⟩) hHeld ?_
          rotate_left
          · intro W hW; go_simp; first | done | with_reducible rfl
          try simp only [Act.put, List.getElem_toArray, List.getElem_cons_zero, List.getElem_cons_succ, List.setIfInBounds_toArray, List.set_cons_succ, List.set_cons_zero]
          refine wpAnyH_take (i := 7) (v := ?_) rfl (by kernel_rfl) (by kernel_rfl) (by kernel_rfl) (fun _ _ _ h => h) (Or.inl ⟨by kernel_rfl, ?_⟩) hHeld ?_
          rotate_left
          · intro W hW; go_simp; first | done | with_reducible rfl
          try simp only [Act.put, List.getElem_toArray, List.getElem_cons_zero, List.getElem_cons_succ, List.setIfInBounds_toArray, List.set_cons_succ, List.set_cons_zero]
          refine wpAnyH_take (i := 8) (v := .map (some bm)) rfl (by kernel_rfl) (by kernel_rfl) (by kernel_rfl) (fun _ _ _ h => h) (Or.inl ⟨by kernel_rfl, ?_⟩) hHeld ?_
          · intro W hW; obtain ⟨-, c1, -⟩ := hne W hW; go_simp
          try simp only [Act.put, List.getElem_toArray, List.getElem_cons_zero, List.getElem_cons_succ, List.setIfInBounds_toArray, List.set_cons_succ, List.set_cons_zero]
          refine wpAnyH_take (i := 9) (v := ?_) rfl (by kernel_rfl) (by kernel_rfl) (by kernel_rfl) (fun _ _ _ h => h) (Or.inl ⟨by kernel_rfl, ?_⟩) hHeld ?_
          rotate_left
          · intro W hW; go_simp; first | done | with_reducible rfl
          try simp only [Act.put, List.getElem_toArray, List.getElem_cons_zero, List.getElem_cons_succ, List.setIfInBounds_toArray, List.set_cons_succ, List.set_cons_zero]
          refine wpAnyH_take (i := 10) (v := .agg (cs s)) rfl (by kernel_rfl) (by kernel_rfl) (by kernel_rfl) (fun _ _ _ h => h) (Or.inl ⟨by kernel_rfl, ?_⟩) hHeld ?_
          · intro W hW; have c1 := look64 (hne W hW).2.2 H.out.lo i (by omega) Hsi.out; go_simp
          try simp only [Act.put, List.getElem_toArray, List.getElem_cons_zero, List.getElem_cons_succ, List.setIfInBounds_toArray, List.set_cons_succ, List.set_cons_zero]
          refine wpAnyH_take (i := 11) (v := .pointer (some ⟨bl', i * 64, none⟩)) rfl (by kernel_rfl) (by kernel_rfl) (by kernel_rfl) (fun _ _ _ h => h) (Or.inl ⟨by kernel_rfl, ?_⟩) hHeld ?_
          · intro W hW; go_simp
          try simp only [Act.put, List.getElem_toArray, List.getElem_cons_zero, List.getElem_cons_succ, List.setIfInBounds_toArray, List.set_cons_succ, List.set_cons_zero]
          refine wpAnyH_ready (rs := [12]) (by kernel_rfl) (by simp) ?_
          refine AllReadyH.cons (o := _) rfl (fun K hK => ?_) AllReadyH.nil
          rw [if_pos (by kernel_rfl)]
          have hth : wr.drew.there bl' (i * 64) (cs s).size := by rw [cs_size hss]; exact hrow.out.there hi
          refine wp_store_mid 58 (.tmp 45) (.tmp 44) rfl bl' (i * 64) (cs s) (by kernel_rfl) (by kernel_rfl) hth (by rw [size64, cs_size hss]) (cs_one s) ?_
          rw [cs_list]
          have hb5 : But (· = bl') wr (wr.drew.setCells bl' (i * 64) (bv s)) := But.cells (S := (· = bl')) rfl _ _ _ _ (But.refl _ _).drew
          have hrow5 : RowAt (wr.drew.setCells bl' (i * 64) (bv s)) bl' d.n cap2 _ := RowAt.store (w := wr.drew) (hrow.out.but (S := fun _ => False) (But.refl _ _).drew id) (fun j hj => (part_sec Hok.out ks k hj).1) hi hss
          generalize wr.drew.setCells bl' (i * 64) (bv s) = W5 at hb5 hrow5 ⊢
          refine hK.out _ _ hb5 (fun hHeld => ?_)
          clear hK K hne
          refine wpAnyH_done (by kernel_rfl) ?_ _
          refine NoPanic.normal ?_
          try simp only [Act.put, List.getElem_toArray, List.getElem_cons_zero, List.getElem_cons_succ]
          go_wp2_with fail
          go_roundw
          case rel => exact ⟨k + 1, by omega, by simp, hbw.out.trans hb5, hrow5.congr fun j _ => by rw [Hy2.out j, Hla.out]⟩
          case measure => simp [intOf]; omega
      · have Hgd : Hid (ks.getD k false = false) := by
          have := Hnk.out
          simp [bo] at this
          show ks.getD k false = false
          simp [List.getD, List.getElem?_eq_none (show ks.length ≤ k by omega)]
        have Hn2 := hide (Hno.out Hgd.out)
        go_wp2_with fail
        go_roundw
        case rel => exact ⟨k + 1, by omega, by simp, hbw, hrow.out.congr fun j _ => Hn2.out j⟩
        case measure => simp [intOf]; omega
    · obtain rfl : k = nl := by omega
      go_wp2_with fail
      go_ret
      have hnl' := Hnl.out
      rw [li_len] at hnl'
      have hwr := hbw.out.size
      have hB2s := hB2.size
      have hB1s := hB1.size
      refine ⟨g', bl', bm', rfl, ?_, by omega, Hl.out, by omega, Below.but hB03.out hB03.out.size hbw.out (fun k e => by have := Hl.out; omega)⟩
      exact H3.out.turn hbw.out (hrow.out.congr (f' := d.kept ks) fun i _ => by rw [hnl']; exact (part_end Hok.out ks i).symm) (fun i hi => Dv.kept_sec Hok.out ks hi)

theorem crash_nil (w : World) (v : Value) : Calls Tryd.prog 13 #[.pointer none, v] w fun e w' => e = .returned (.pointer none) ∧ w' = w := by
  go_enter Tryd.func13, Tryd.ntmps13
  go_wp2_with fail
  go_ret
  exact ⟨rfl, rfl⟩

end Go.Proofs.YtiaicpdbobgkoaaDoor
