/-
  Contracts of the law's own device: crashes.
-/
import Derived.Test.YtjgdbialapdggaaRefW
namespace Go.Proofs.Ytjgdbialapdggaa
open Go.RowKit Go.Maps

theorem rank_succ (d : Dv) (i : Nat) : d.rank (i + 1) = d.rank i + if (d.loose i).isSome then 1 else 0 := by
  unfold Dv.rank
  rw [List.range_succ, List.filter_append, List.length_append]
  cases h : (d.loose i).isSome <;> simp [h]

theorem rank_le (d : Dv) (i : Nat) : d.rank i ≤ i := by
  unfold Dv.rank
  have := List.length_filter_le (fun j => (d.loose j).isSome) (List.range i)
  simpa using this

section
variable {w : World} {q bn bs bo : Nat} {F : Nat → Prop} {d : Dv}

set_option maxRecDepth 100000 in
set_option maxHeartbeats 8000000 in
theorem crashes_any (h : RefAt w q bn bs bo F d) {v : Value} {ks : List Bool} (hv : Rw w v (ks.map Value.bool)) (hF : 0 < ks.length → ∀ b, F b → ∀ p n cp, v = .slice (some p) n cp → p.block ≠ b) :
    Calls Try.prog 18 #[.pointer (some ⟨q, 0, none⟩), v] w fun e w' => e = .returned (.tuple #[]) ∧ RefAt w' q bn bs bo F (d.crash ks) ∧ But (fun k => k = q ∨ k = bn ∨ k = bs ∨ k = bo) w w' := by
  have H : Hid (RefIn w q bn bs bo F d.n d.at_ d.last (fun i => (d.loose i).isSome) d.calls (fz d.fuse)) := h
  obtain ⟨cn, cf, co, c0, -, -, -, -, k0, k1, k2, m0, m1, m2⟩ := H.out.cells
  have hm := H.out.most
  obtain ⟨pk, nk, ck, rfl, hnk, hck, Hnk, HK⟩ := hv.opens
  have HF := hide hF
  clear h hv hF
  go_enter Try.func18, Try.ntmps18
  go_wp2_with fail
  go_loopw [4, 11] (fun kv iv wr => ∃ i : Nat, i ≤ d.n ∧ kv = .int .i64 (d.rank i : Nat) ∧ iv = .int .i64 i ∧ Hid (RefIn wr q bn bs bo F d.n (fun j => if j < i then d.kept ks j else d.at_ j) (fun j => if j < i then d.kept ks j else d.last j) (fun j => if j < i then false else (d.loose j).isSome) d.calls (fz d.fuse)) ∧ Hid (But (fun k => k = q ∨ k = bn ∨ k = bs ∨ k = bo) w wr)) (fun _ iv _ => d.n - (RowKit.intOf iv).toNat)
  case atStart => exact ⟨0, Nat.zero_le _, rfl, rfl, H.out.congr (fun _ _ => by simp) (fun _ _ => by simp) (fun _ _ => by simp), But.refl _ _⟩
  case round =>
    obtain ⟨i, hk, rfl, rfl, HR, HB⟩ := hrel
    have hrle := rank_le d i
    clear c0
    by_cases hi : i < d.n
    · obtain ⟨en, es, eo, e0, e1, e2, -, -, j0, j1, j2, p0, p1, p2⟩ := HR.out.cells
      have hloi := HR.out.loo i hi
      simp only [Nat.lt_irrefl, if_false] at hloi
      cases hl : d.loose i with
      | none =>
        rw [hl] at hloi
        have Hrk : Hid (d.rank (i + 1) = d.rank i) := by show _ = _; rw [rank_succ, hl]; simp
        have Hkp : Hid (d.kept ks i = d.at_ i ∧ d.at_ i = d.last i) := by
          have e : d.at_ i = d.last i := by simp [Dv.at_, hl]
          exact ⟨by simp [Dv.kept, e], e⟩
        have Hl := hide hl
        clear hl
        go_wp2_with fail
        go_roundw
        case rel =>
          refine ⟨i + 1, by omega, by rw [Hrk.out], by simp, HR.out.congr (fun j _ => ?_) (fun j _ => ?_) (fun j _ => ?_), HB⟩
          · by_cases e : j = i
            · subst e; simp [Hkp.out.1]
            · have : (j < i + 1) = (j < i) := by apply propext; omega
              simp [this]
          · by_cases e : j = i
            · subst e; simp [Hkp.out.1, Hkp.out.2]
            · have : (j < i + 1) = (j < i) := by apply propext; omega
              simp [this]
          · by_cases e : j = i
            · subst e; simp [Hl.out]
            · have : (j < i + 1) = (j < i) := by apply propext; omega
              simp [this]
        case measure => simp [RowKit.intOf]; omega
      | some s =>
        rw [hl] at hloi
        have Hrk : Hid (d.rank (i + 1) = d.rank i + 1) := by show _ = _; rw [rank_succ, hl]; simp
        have hne1 : 0 < ks.length → ∀ b, F b → ∀ p n cp, Value.slice pk nk ck = .slice (some p) n cp → p.block ≠ b := HF.out
        have HKr : Hid (Rw wr (.slice pk nk ck) (ks.map Value.bool)) := by
          obtain ⟨a, cap, e, h1, h2, h3⟩ := HK.out
          refine ⟨a, cap, e, h1, h2, fun j hj => ?_⟩
          obtain ⟨b, off, ea, hc⟩ := h3 j hj
          refine ⟨b, off, ea, ?_⟩
          have hnb : ∀ x, F x → b ≠ x := fun x hx => hne1 (by simp at hj; omega) x hx ⟨b, off, none⟩ nk ck (by simp at e; rw [e.1, ea])
          have hin := H.out.inF
          rw [HB.out.cell (p := ⟨b, off + j, none⟩) (cell_lt hc) (by rintro (e | e | e | e); exact hnb q hin.1 e; exact hnb bn hin.2.1 e; exact hnb bs hin.2.2.1 e; exact hnb bo hin.2.2.2 e)]
          exact hc
        clear hne1 hl
        by_cases hkk : d.rank i < nk
        · have hkb : d.rank i < ks.length := by have := Hnk.out; simp at this; omega
          obtain ⟨bk, ok, rfl, hck1⟩ := HKr.out.cell (i := d.rank i) (by simpa using hkb)
          have hck2 : wr.cell? ⟨bk, ok + d.rank i, none⟩ = some (.bool ks[d.rank i]) := by rw [hck1]; simp
          have hgd : ks.getD (d.rank i) false = ks[d.rank i] := by simp [List.getD, List.getElem?_eq_getElem hkb]
          clear hck1
          cases hb : ks[d.rank i]
          · rw [hb] at hck2 hgd
            have Hkp : Hid (d.kept ks i = d.last i) := by show _ = _; simp only [Dv.kept, hgd]; rfl
            clear hgd hb
            generalize d.rank i = r at *
            go_wp2_with fail
            have HR8 := hide (HR.out.congr (nw' := fun j => if j < i then d.kept ks j else d.at_ j) (sf' := fun j => if j < i + 1 then d.kept ks j else d.last j) (lo' := fun j => if j < i then false else (d.loose j).isSome) (fun _ _ => rfl) (fun j _ => by
              by_cases e : j = i
              · subst e; simp [Hkp.out]
              · have : (j < i + 1) = (j < i) := by apply propext; omega
                simp [this]) (fun _ _ => rfl))
            have HB8 := HB
            generalize wr = W8 at *
            clear HR HB
            have hls8 := HR8.out.lts
            obtain ⟨en, es, eo, e0, e1, e2, -, -, j0, j1, j2, p0, p1, p2⟩ := HR8.out.cells
            obtain ⟨vs, hvs, hxs⟩ := HR8.out.safe i hi
            obtain ⟨vn, hvn, -⟩ := HR8.out.now i hi
            have hfn := (HR8.out.free i).2.1
            have h3 := HR8.out.setNow hi hxs
            have hlo := h3.loo i hi
            have hfo := (h3.free i).2.2.2
            have h4 := (h3.setLoo hi false).drew
            obtain ⟨b1, cap1, rfl, -⟩ := hxs
            have Hne : Hid (∀ W, But (fun _ => False) W8 W → W.cell? ⟨q, 0, none⟩ = some (.slice (some ⟨bn, 0, none⟩) d.n en) ∧ W.cell? ⟨q, 1, none⟩ = some (.slice (some ⟨bs, 0, none⟩) d.n es) ∧ W.cell? ⟨q, 2, none⟩ = some (.slice (some ⟨bo, 0, none⟩) d.n eo) ∧ W.cell? ⟨bs, i, none⟩ = some (.slice (some ⟨b1, 0, none⟩) 64 cap1)) := fun W hW =>
              ⟨by rw [hW.cell (p := ⟨q, 0, none⟩) hls8.1 id, e0], by rw [hW.cell (p := ⟨q, 1, none⟩) hls8.1 id, e1], by rw [hW.cell (p := ⟨q, 2, none⟩) hls8.1 id, e2], by rw [hW.cell (p := ⟨bs, i, none⟩) hls8.2.2.1 id, hvs]⟩
            have Hh4 := hide h4
            clear h3 h4 e0 e1 e2
            refine wp_region_noPanic ?_
            refine wp_region_P 18 (fun W => But (fun _ => False) W8 W) (by kernel_rfl) (But.refl _ _).drew (fun hHeld => ?_)
            refine wpAnyP_takeU (i := 0) (v := ?_) rfl (by kernel_rfl) (by kernel_rfl) (by kernel_rfl) (by decide) (fun _ _ _ h => h) (Or.inl ⟨by kernel_rfl, ?_⟩) hHeld ?_
            rotate_left
            · intro W hW; clear hW; go_simp; first | done | with_reducible rfl
            try simp only [Act.put, List.getElem_toArray, List.getElem_cons_zero, List.setIfInBounds_toArray, List.set_cons_succ, List.set_cons_zero]
            refine wpAnyP_takeU (i := 1) (v := ?_) rfl (by kernel_rfl) (by kernel_rfl) (by kernel_rfl) (by decide) (fun _ _ _ h => h) (Or.inl ⟨by kernel_rfl, ?_⟩) hHeld ?_
            rotate_left
            · intro W hW; clear hW; go_simp; first | done | with_reducible rfl
            try simp only [Act.put, List.getElem_toArray, List.getElem_cons_zero, List.getElem_cons_succ, List.setIfInBounds_toArray, List.set_cons_succ, List.set_cons_zero]
            refine wpAnyP_takeU (i := 2) (v := ?_) rfl (by kernel_rfl) (by kernel_rfl) (by kernel_rfl) (by decide) (fun _ _ _ h => h) (Or.inl ⟨by kernel_rfl, ?_⟩) hHeld ?_
            rotate_left
            · intro W hW; clear hW; go_simp; first | done | with_reducible rfl
            try simp only [Act.put, List.getElem_toArray, List.getElem_cons_zero, List.getElem_cons_succ, List.setIfInBounds_toArray, List.set_cons_succ, List.set_cons_zero]
            refine wpAnyP_take (i := 3) (v := .slice (some ⟨bn, 0, none⟩) d.n en) rfl (by kernel_rfl) (by kernel_rfl) (by kernel_rfl) (by kernel_rfl) (by kernel_rfl) (by decide) (fun _ _ _ h => h) (Or.inl ⟨by kernel_rfl, ?_⟩) hHeld ?_
            · intro W hW; obtain ⟨g0, -, -, -⟩ := Hne.out W hW; go_simp; first | done | with_reducible rfl
            try simp only [Act.put, List.getElem_toArray, List.getElem_cons_zero, List.getElem_cons_succ, List.setIfInBounds_toArray, List.set_cons_succ, List.set_cons_zero]
            refine wpAnyP_takeU (i := 4) (v := ?_) rfl (by kernel_rfl) (by kernel_rfl) (by kernel_rfl) (by decide) (fun _ _ _ h => h) (Or.inl ⟨by kernel_rfl, ?_⟩) hHeld ?_
            rotate_left
            · intro W hW; clear hW; go_simp; first | done | with_reducible rfl
            try simp only [Act.put, List.getElem_toArray, List.getElem_cons_zero, List.getElem_cons_succ, List.setIfInBounds_toArray, List.set_cons_succ, List.set_cons_zero]
            refine wpAnyP_takeU (i := 5) (v := ?_) rfl (by kernel_rfl) (by kernel_rfl) (by kernel_rfl) (by decide) (fun _ _ _ h => h) (Or.inl ⟨by kernel_rfl, ?_⟩) hHeld ?_
            rotate_left
            · intro W hW; clear hW; go_simp; first | done | with_reducible rfl
            try simp only [Act.put, List.getElem_toArray, List.getElem_cons_zero, List.getElem_cons_succ, List.setIfInBounds_toArray, List.set_cons_succ, List.set_cons_zero]
            refine wpAnyP_takeU (i := 6) (v := ?_) rfl (by kernel_rfl) (by kernel_rfl) (by kernel_rfl) (by decide) (fun _ _ _ h => h) (Or.inl ⟨by kernel_rfl, ?_⟩) hHeld ?_
            rotate_left
            · intro W hW; clear hW; go_simp; first | done | with_reducible rfl
            try simp only [Act.put, List.getElem_toArray, List.getElem_cons_zero, List.getElem_cons_succ, List.setIfInBounds_toArray, List.set_cons_succ, List.set_cons_zero]
            refine wpAnyP_takeU (i := 7) (v := ?_) rfl (by kernel_rfl) (by kernel_rfl) (by kernel_rfl) (by decide) (fun _ _ _ h => h) (Or.inl ⟨by kernel_rfl, ?_⟩) hHeld ?_
            rotate_left
            · intro W hW; clear hW; go_simp; first | done | with_reducible rfl
            try simp only [Act.put, List.getElem_toArray, List.getElem_cons_zero, List.getElem_cons_succ, List.setIfInBounds_toArray, List.set_cons_succ, List.set_cons_zero]
            refine wpAnyP_take (i := 8) (v := .slice (some ⟨bo, 0, none⟩) d.n eo) rfl (by kernel_rfl) (by kernel_rfl) (by kernel_rfl) (by kernel_rfl) (by kernel_rfl) (by decide) (fun _ _ _ h => h) (Or.inl ⟨by kernel_rfl, ?_⟩) hHeld ?_
            · intro W hW; obtain ⟨-, -, g2, -⟩ := Hne.out W hW; go_simp; first | done | with_reducible rfl
            try simp only [Act.put, List.getElem_toArray, List.getElem_cons_zero, List.getElem_cons_succ, List.setIfInBounds_toArray, List.set_cons_succ, List.set_cons_zero]
            refine wpAnyP_takeU (i := 9) (v := ?_) rfl (by kernel_rfl) (by kernel_rfl) (by kernel_rfl) (by decide) (fun _ _ _ h => h) (Or.inl ⟨by kernel_rfl, ?_⟩) hHeld ?_
            rotate_left
            · intro W hW; clear hW; go_simp; first | done | with_reducible rfl
            try simp only [Act.put, List.getElem_toArray, List.getElem_cons_zero, List.getElem_cons_succ, List.setIfInBounds_toArray, List.set_cons_succ, List.set_cons_zero]
            refine wpAnyP_takeU (i := 10) (v := ?_) rfl (by kernel_rfl) (by kernel_rfl) (by kernel_rfl) (by decide) (fun _ _ _ h => h) (Or.inl ⟨by kernel_rfl, ?_⟩) hHeld ?_
            rotate_left
            · intro W hW; clear hW; go_simp; first | done | with_reducible rfl
            try simp only [Act.put, List.getElem_toArray, List.getElem_cons_zero, List.getElem_cons_succ, List.setIfInBounds_toArray, List.set_cons_succ, List.set_cons_zero]
            refine wpAnyP_takeU (i := 11) (v := ?_) rfl (by kernel_rfl) (by kernel_rfl) (by kernel_rfl) (by decide) (fun _ _ _ h => h) (Or.inl ⟨by kernel_rfl, ?_⟩) hHeld ?_
            rotate_left
            · intro W hW; clear hW; go_simp; first | done | with_reducible rfl
            try simp only [Act.put, List.getElem_toArray, List.getElem_cons_zero, List.getElem_cons_succ, List.setIfInBounds_toArray, List.set_cons_succ, List.set_cons_zero]
            refine wpAnyP_takeU (i := 12) (v := ?_) rfl (by kernel_rfl) (by kernel_rfl) (by kernel_rfl) (by decide) (fun _ _ _ h => h) (Or.inl ⟨by kernel_rfl, ?_⟩) hHeld ?_
            rotate_left
            · intro W hW; clear hW; go_simp; first | done | with_reducible rfl
            try simp only [Act.put, List.getElem_toArray, List.getElem_cons_zero, List.getElem_cons_succ, List.setIfInBounds_toArray, List.set_cons_succ, List.set_cons_zero]
            refine wpAnyP_take (i := 13) (v := .slice (some ⟨bs, 0, none⟩) d.n es) rfl (by kernel_rfl) (by kernel_rfl) (by kernel_rfl) (by kernel_rfl) (by kernel_rfl) (by decide) (fun _ _ _ h => h) (Or.inl ⟨by kernel_rfl, ?_⟩) hHeld ?_
            · intro W hW; obtain ⟨-, g1, -, -⟩ := Hne.out W hW; go_simp; first | done | with_reducible rfl
            try simp only [Act.put, List.getElem_toArray, List.getElem_cons_zero, List.getElem_cons_succ, List.setIfInBounds_toArray, List.set_cons_succ, List.set_cons_zero]
            refine wpAnyP_takeU (i := 14) (v := ?_) rfl (by kernel_rfl) (by kernel_rfl) (by kernel_rfl) (by decide) (fun _ _ _ h => h) (Or.inl ⟨by kernel_rfl, ?_⟩) hHeld ?_
            rotate_left
            · intro W hW; clear hW; go_simp; first | done | with_reducible rfl
            try simp only [Act.put, List.getElem_toArray, List.getElem_cons_zero, List.getElem_cons_succ, List.setIfInBounds_toArray, List.set_cons_succ, List.set_cons_zero]
            refine wpAnyP_takeU (i := 15) (v := .pointer (some ⟨bs, i, none⟩)) rfl (by kernel_rfl) (by kernel_rfl) (by kernel_rfl) (by decide) (fun _ _ _ h => h) (Or.inl ⟨by kernel_rfl, ?_⟩) hHeld ?_
            · intro W hW; clear hW; go_simp; first | done | with_reducible rfl
            try simp only [Act.put, List.getElem_toArray, List.getElem_cons_zero, List.getElem_cons_succ, List.setIfInBounds_toArray, List.set_cons_succ, List.set_cons_zero]
            refine wpAnyP_take (i := 16) (v := .slice (some ⟨b1, 0, none⟩) 64 cap1) rfl (by kernel_rfl) (by kernel_rfl) (by kernel_rfl) (by kernel_rfl) (by kernel_rfl) (by decide) (fun _ _ _ h => h) (Or.inl ⟨by kernel_rfl, ?_⟩) hHeld ?_
            · intro W hW; obtain ⟨-, -, -, g3⟩ := Hne.out W hW; go_simp; first | done | with_reducible rfl
            try simp only [Act.put, List.getElem_toArray, List.getElem_cons_zero, List.getElem_cons_succ, List.setIfInBounds_toArray, List.set_cons_succ, List.set_cons_zero]
            refine wpAnyP_takeU (i := 17) (v := .pointer (some ⟨bn, i, none⟩)) rfl (by kernel_rfl) (by kernel_rfl) (by kernel_rfl) (by decide) (fun _ _ _ h => h) (Or.inl ⟨by kernel_rfl, ?_⟩) hHeld ?_
            · intro W hW; clear hW; go_simp; first | done | with_reducible rfl
            try simp only [Act.put, List.getElem_toArray, List.getElem_cons_zero, List.getElem_cons_succ, List.setIfInBounds_toArray, List.set_cons_succ, List.set_cons_zero]
            refine wpAnyP_ready (rs := [18]) (by kernel_rfl) (by simp) ?_
            refine AllReadyP.late (o := _) rfl (by kernel_rfl) (fun K hK => ?_)
            rw [if_pos (by kernel_rfl)]
            go_simp
            refine hK.out _ _ ?_
            clear hK K
            try simp only [Act.put, List.getElem_toArray, List.getElem_cons_zero, List.getElem_cons_succ]
            refine wpAnyP_ready (rs := [19]) (by kernel_rfl) (by simp) ?_
            refine AllReadyP.late (o := _) rfl (by kernel_rfl) (fun K hK => ?_)
            rw [if_pos (by kernel_rfl)]
            go_simp
            refine hK.out _ _ ?_
            clear hK K
            try simp only [Act.put, List.getElem_toArray, List.getElem_cons_zero, List.getElem_cons_succ, List.setIfInBounds_toArray, List.set_cons_succ, List.set_cons_zero]
            refine wpAnyP_ready (rs := [20]) (by kernel_rfl) (by simp) ?_
            refine AllReadyP.late (o := _) rfl (by kernel_rfl) (fun K hK => ?_)
            rw [if_pos (by kernel_rfl)]
            go_simp
            refine hK.out _ _ ?_
            clear hK K
            try simp only [Act.put, List.getElem_toArray, List.getElem_cons_zero, List.getElem_cons_succ]
            refine wpAnyP_done (by kernel_rfl) ?_ _
            refine NoPanic.normal ?_
            have HB4 := hide (((HB8.out.trans ((But.one W8 bn i (.slice (some ⟨b1, 0, none⟩) 64 cap1)).mono fun k _ e => .inr (.inl e))).trans ((But.one _ bo i (.bool false)).mono fun k _ e => .inr (.inr (.inr e)))).drew)
            clear Hne hHeld HR8 HB8 hvn hvs hlo hfn hfo
            go_wp2_with fail
            go_roundw
            case rel =>
              refine ⟨i + 1, by omega, by rw [Hrk.out]; simp, by simp, Hh4.out.congr (fun j _ => ?_) (fun j _ => ?_) (fun j _ => ?_), HB4⟩
              · by_cases e : j = i
                · subst e; simp [Hkp.out]
                · have : (j < i + 1) = (j < i) := by apply propext; omega
                  simp [e, this]
              · by_cases e : j = i
                · subst e; simp [Hkp.out]
                · have : (j < i + 1) = (j < i) := by apply propext; omega
                  simp [this]
              · by_cases e : j = i
                · subst e; simp
                · have : (j < i + 1) = (j < i) := by apply propext; omega
                  simp [e, this]
            case measure => simp [RowKit.intOf]; omega
          · rw [hb] at hck2 hgd
            have Hkp : Hid (d.kept ks i = d.at_ i) := by show _ = _; simp only [Dv.kept, hgd]; rfl
            have Hkat : Hid True := trivial
            clear hgd hb
            generalize d.rank i = r at *
            go_wp2_with fail
            have hls6 := HR.out.lts
            obtain ⟨en, es, eo, e0, e1, e2, -, -, j0, j1, j2, p0, p1, p2⟩ := HR.out.cells
            obtain ⟨vn, hvn, hxn⟩ := HR.out.now i hi
            obtain ⟨vs, hvs, -⟩ := HR.out.safe i hi
            have hfs := (HR.out.free i).2.2.1
            have h3 := (HR.out.setSafe hi hxn).drew
            obtain ⟨b1, cap1, rfl, -⟩ := hxn
            have Hne : Hid (∀ W, But (fun _ => False) wr W → W.cell? ⟨q, 0, none⟩ = some (.slice (some ⟨bn, 0, none⟩) d.n en) ∧ W.cell? ⟨q, 1, none⟩ = some (.slice (some ⟨bs, 0, none⟩) d.n es) ∧ W.cell? ⟨bn, i, none⟩ = some (.slice (some ⟨b1, 0, none⟩) 64 cap1)) := fun W hW =>
              ⟨by rw [hW.cell (p := ⟨q, 0, none⟩) hls6.1 id, e0], by rw [hW.cell (p := ⟨q, 1, none⟩) hls6.1 id, e1], by rw [hW.cell (p := ⟨bn, i, none⟩) hls6.2.1 id, hvn]⟩
            have Hh3 := hide h3
            clear h3 e0 e1 e2
            refine wp_region_noPanic ?_
            refine wp_region_P 13 (fun W => But (fun _ => False) wr W) (by kernel_rfl) (But.refl _ _).drew (fun hHeld => ?_)
            refine wpAnyP_takeU (i := 0) (v := ?_) rfl (by kernel_rfl) (by kernel_rfl) (by kernel_rfl) (by decide) (fun _ _ _ h => h) (Or.inl ⟨by kernel_rfl, ?_⟩) hHeld ?_
            rotate_left
            · intro W hW; clear hW; go_simp; first | done | with_reducible rfl
            try simp only [Act.put, List.getElem_toArray, List.getElem_cons_zero, List.setIfInBounds_toArray, List.set_cons_succ, List.set_cons_zero]
            refine wpAnyP_takeU (i := 1) (v := ?_) rfl (by kernel_rfl) (by kernel_rfl) (by kernel_rfl) (by decide) (fun _ _ _ h => h) (Or.inl ⟨by kernel_rfl, ?_⟩) hHeld ?_
            rotate_left
            · intro W hW; clear hW; go_simp; first | done | with_reducible rfl
            try simp only [Act.put, List.getElem_toArray, List.getElem_cons_zero, List.getElem_cons_succ, List.setIfInBounds_toArray, List.set_cons_succ, List.set_cons_zero]
            refine wpAnyP_takeU (i := 2) (v := ?_) rfl (by kernel_rfl) (by kernel_rfl) (by kernel_rfl) (by decide) (fun _ _ _ h => h) (Or.inl ⟨by kernel_rfl, ?_⟩) hHeld ?_
            rotate_left
            · intro W hW; clear hW; go_simp; first | done | with_reducible rfl
            try simp only [Act.put, List.getElem_toArray, List.getElem_cons_zero, List.getElem_cons_succ, List.setIfInBounds_toArray, List.set_cons_succ, List.set_cons_zero]
            refine wpAnyP_take (i := 3) (v := .slice (some ⟨bs, 0, none⟩) d.n es) rfl (by kernel_rfl) (by kernel_rfl) (by kernel_rfl) (by kernel_rfl) (by kernel_rfl) (by decide) (fun _ _ _ h => h) (Or.inl ⟨by kernel_rfl, ?_⟩) hHeld ?_
            · intro W hW; obtain ⟨-, g1, -⟩ := Hne.out W hW; go_simp; first | done | with_reducible rfl
            try simp only [Act.put, List.getElem_toArray, List.getElem_cons_zero, List.getElem_cons_succ, List.setIfInBounds_toArray, List.set_cons_succ, List.set_cons_zero]
            refine wpAnyP_takeU (i := 4) (v := ?_) rfl (by kernel_rfl) (by kernel_rfl) (by kernel_rfl) (by decide) (fun _ _ _ h => h) (Or.inl ⟨by kernel_rfl, ?_⟩) hHeld ?_
            rotate_left
            · intro W hW; clear hW; go_simp; first | done | with_reducible rfl
            try simp only [Act.put, List.getElem_toArray, List.getElem_cons_zero, List.getElem_cons_succ, List.setIfInBounds_toArray, List.set_cons_succ, List.set_cons_zero]
            refine wpAnyP_takeU (i := 5) (v := ?_) rfl (by kernel_rfl) (by kernel_rfl) (by kernel_rfl) (by decide) (fun _ _ _ h => h) (Or.inl ⟨by kernel_rfl, ?_⟩) hHeld ?_
            rotate_left
            · intro W hW; clear hW; go_simp; first | done | with_reducible rfl
            try simp only [Act.put, List.getElem_toArray, List.getElem_cons_zero, List.getElem_cons_succ, List.setIfInBounds_toArray, List.set_cons_succ, List.set_cons_zero]
            refine wpAnyP_takeU (i := 6) (v := ?_) rfl (by kernel_rfl) (by kernel_rfl) (by kernel_rfl) (by decide) (fun _ _ _ h => h) (Or.inl ⟨by kernel_rfl, ?_⟩) hHeld ?_
            rotate_left
            · intro W hW; clear hW; go_simp; first | done | with_reducible rfl
            try simp only [Act.put, List.getElem_toArray, List.getElem_cons_zero, List.getElem_cons_succ, List.setIfInBounds_toArray, List.set_cons_succ, List.set_cons_zero]
            refine wpAnyP_takeU (i := 7) (v := ?_) rfl (by kernel_rfl) (by kernel_rfl) (by kernel_rfl) (by decide) (fun _ _ _ h => h) (Or.inl ⟨by kernel_rfl, ?_⟩) hHeld ?_
            rotate_left
            · intro W hW; clear hW; go_simp; first | done | with_reducible rfl
            try simp only [Act.put, List.getElem_toArray, List.getElem_cons_zero, List.getElem_cons_succ, List.setIfInBounds_toArray, List.set_cons_succ, List.set_cons_zero]
            refine wpAnyP_take (i := 8) (v := .slice (some ⟨bn, 0, none⟩) d.n en) rfl (by kernel_rfl) (by kernel_rfl) (by kernel_rfl) (by kernel_rfl) (by kernel_rfl) (by decide) (fun _ _ _ h => h) (Or.inl ⟨by kernel_rfl, ?_⟩) hHeld ?_
            · intro W hW; obtain ⟨g0, -, -⟩ := Hne.out W hW; go_simp; first | done | with_reducible rfl
            try simp only [Act.put, List.getElem_toArray, List.getElem_cons_zero, List.getElem_cons_succ, List.setIfInBounds_toArray, List.set_cons_succ, List.set_cons_zero]
            refine wpAnyP_takeU (i := 9) (v := ?_) rfl (by kernel_rfl) (by kernel_rfl) (by kernel_rfl) (by decide) (fun _ _ _ h => h) (Or.inl ⟨by kernel_rfl, ?_⟩) hHeld ?_
            rotate_left
            · intro W hW; clear hW; go_simp; first | done | with_reducible rfl
            try simp only [Act.put, List.getElem_toArray, List.getElem_cons_zero, List.getElem_cons_succ, List.setIfInBounds_toArray, List.set_cons_succ, List.set_cons_zero]
            refine wpAnyP_takeU (i := 10) (v := .pointer (some ⟨bn, i, none⟩)) rfl (by kernel_rfl) (by kernel_rfl) (by kernel_rfl) (by decide) (fun _ _ _ h => h) (Or.inl ⟨by kernel_rfl, ?_⟩) hHeld ?_
            · intro W hW; clear hW; go_simp; first | done | with_reducible rfl
            try simp only [Act.put, List.getElem_toArray, List.getElem_cons_zero, List.getElem_cons_succ, List.setIfInBounds_toArray, List.set_cons_succ, List.set_cons_zero]
            refine wpAnyP_take (i := 11) (v := .slice (some ⟨b1, 0, none⟩) 64 cap1) rfl (by kernel_rfl) (by kernel_rfl) (by kernel_rfl) (by kernel_rfl) (by kernel_rfl) (by decide) (fun _ _ _ h => h) (Or.inl ⟨by kernel_rfl, ?_⟩) hHeld ?_
            · intro W hW; obtain ⟨-, -, g3⟩ := Hne.out W hW; go_simp; first | done | with_reducible rfl
            try simp only [Act.put, List.getElem_toArray, List.getElem_cons_zero, List.getElem_cons_succ, List.setIfInBounds_toArray, List.set_cons_succ, List.set_cons_zero]
            refine wpAnyP_takeU (i := 12) (v := .pointer (some ⟨bs, i, none⟩)) rfl (by kernel_rfl) (by kernel_rfl) (by kernel_rfl) (by decide) (fun _ _ _ h => h) (Or.inl ⟨by kernel_rfl, ?_⟩) hHeld ?_
            · intro W hW; clear hW; go_simp; first | done | with_reducible rfl
            try simp only [Act.put, List.getElem_toArray, List.getElem_cons_zero, List.getElem_cons_succ, List.setIfInBounds_toArray, List.set_cons_succ, List.set_cons_zero]
            refine wpAnyP_ready (rs := [13]) (by kernel_rfl) (by simp) ?_
            refine AllReadyP.late (o := _) rfl (by kernel_rfl) (fun K hK => ?_)
            rw [if_pos (by kernel_rfl)]
            go_simp
            refine hK.out _ _ ?_
            clear hK K
            try simp only [Act.put, List.getElem_toArray, List.getElem_cons_zero, List.getElem_cons_succ]
            refine wpAnyP_done (by kernel_rfl) ?_ _
            refine NoPanic.normal ?_
            have HR8 := hide (Hh3.out.congr (nw' := fun j => if j < i then d.kept ks j else d.at_ j) (sf' := fun j => if j < i + 1 then d.kept ks j else d.last j) (lo' := fun j => if j < i then false else (d.loose j).isSome) (fun _ _ => rfl) (fun j _ => by
              by_cases e : j = i
              · subst e; simp [Hkp.out]
              · have : (j < i + 1) = (j < i) := by apply propext; omega
                simp [e, this]) (fun _ _ => rfl))
            have HB8 := hide ((HB.out.trans ((But.one wr bs i (.slice (some ⟨b1, 0, none⟩) 64 cap1)).mono fun k _ e => .inr (.inr (.inl e)))).drew)
            generalize (wr.setCell ⟨bs, i, none⟩ (.slice (some ⟨b1, 0, none⟩) 64 cap1)).drew = W8 at *
            clear Hne Hh3 hHeld HR HB hvn hvs hfs hls6 j0 j1 j2 p0 p1 p2
            go_wp2_with fail
            have hls8 := HR8.out.lts
            obtain ⟨en, es, eo, e0, e1, e2, -, -, j0, j1, j2, p0, p1, p2⟩ := HR8.out.cells
            obtain ⟨vs, hvs, hxs⟩ := HR8.out.safe i hi
            obtain ⟨vn, hvn, -⟩ := HR8.out.now i hi
            have hfn := (HR8.out.free i).2.1
            have h3 := HR8.out.setNow hi hxs
            have hlo := h3.loo i hi
            have hfo := (h3.free i).2.2.2
            have h4 := (h3.setLoo hi false).drew
            obtain ⟨b1, cap1, rfl, -⟩ := hxs
            have Hne : Hid (∀ W, But (fun _ => False) W8 W → W.cell? ⟨q, 0, none⟩ = some (.slice (some ⟨bn, 0, none⟩) d.n en) ∧ W.cell? ⟨q, 1, none⟩ = some (.slice (some ⟨bs, 0, none⟩) d.n es) ∧ W.cell? ⟨q, 2, none⟩ = some (.slice (some ⟨bo, 0, none⟩) d.n eo) ∧ W.cell? ⟨bs, i, none⟩ = some (.slice (some ⟨b1, 0, none⟩) 64 cap1)) := fun W hW =>
              ⟨by rw [hW.cell (p := ⟨q, 0, none⟩) hls8.1 id, e0], by rw [hW.cell (p := ⟨q, 1, none⟩) hls8.1 id, e1], by rw [hW.cell (p := ⟨q, 2, none⟩) hls8.1 id, e2], by rw [hW.cell (p := ⟨bs, i, none⟩) hls8.2.2.1 id, hvs]⟩
            have Hh4 := hide h4
            clear h3 h4 e0 e1 e2
            refine wp_region_noPanic ?_
            refine wp_region_P 18 (fun W => But (fun _ => False) W8 W) (by kernel_rfl) (But.refl _ _).drew (fun hHeld => ?_)
            refine wpAnyP_takeU (i := 0) (v := ?_) rfl (by kernel_rfl) (by kernel_rfl) (by kernel_rfl) (by decide) (fun _ _ _ h => h) (Or.inl ⟨by kernel_rfl, ?_⟩) hHeld ?_
            rotate_left
            · intro W hW; clear hW; go_simp; first | done | with_reducible rfl
            try simp only [Act.put, List.getElem_toArray, List.getElem_cons_zero, List.setIfInBounds_toArray, List.set_cons_succ, List.set_cons_zero]
            refine wpAnyP_takeU (i := 1) (v := ?_) rfl (by kernel_rfl) (by kernel_rfl) (by kernel_rfl) (by decide) (fun _ _ _ h => h) (Or.inl ⟨by kernel_rfl, ?_⟩) hHeld ?_
            rotate_left
            · intro W hW; clear hW; go_simp; first | done | with_reducible rfl
            try simp only [Act.put, List.getElem_toArray, List.getElem_cons_zero, List.getElem_cons_succ, List.setIfInBounds_toArray, List.set_cons_succ, List.set_cons_zero]
            refine wpAnyP_takeU (i := 2) (v := ?_) rfl (by kernel_rfl) (by kernel_rfl) (by kernel_rfl) (by decide) (fun _ _ _ h => h) (Or.inl ⟨by kernel_rfl, ?_⟩) hHeld ?_
            rotate_left
            · intro W hW; clear hW; go_simp; first | done | with_reducible rfl
            try simp only [Act.put, List.getElem_toArray, List.getElem_cons_zero, List.getElem_cons_succ, List.setIfInBounds_toArray, List.set_cons_succ, List.set_cons_zero]
            refine wpAnyP_take (i := 3) (v := .slice (some ⟨bn, 0, none⟩) d.n en) rfl (by kernel_rfl) (by kernel_rfl) (by kernel_rfl) (by kernel_rfl) (by kernel_rfl) (by decide) (fun _ _ _ h => h) (Or.inl ⟨by kernel_rfl, ?_⟩) hHeld ?_
            · intro W hW; obtain ⟨g0, -, -, -⟩ := Hne.out W hW; go_simp; first | done | with_reducible rfl
            try simp only [Act.put, List.getElem_toArray, List.getElem_cons_zero, List.getElem_cons_succ, List.setIfInBounds_toArray, List.set_cons_succ, List.set_cons_zero]
            refine wpAnyP_takeU (i := 4) (v := ?_) rfl (by kernel_rfl) (by kernel_rfl) (by kernel_rfl) (by decide) (fun _ _ _ h => h) (Or.inl ⟨by kernel_rfl, ?_⟩) hHeld ?_
            rotate_left
            · intro W hW; clear hW; go_simp; first | done | with_reducible rfl
            try simp only [Act.put, List.getElem_toArray, List.getElem_cons_zero, List.getElem_cons_succ, List.setIfInBounds_toArray, List.set_cons_succ, List.set_cons_zero]
            refine wpAnyP_takeU (i := 5) (v := ?_) rfl (by kernel_rfl) (by kernel_rfl) (by kernel_rfl) (by decide) (fun _ _ _ h => h) (Or.inl ⟨by kernel_rfl, ?_⟩) hHeld ?_
            rotate_left
            · intro W hW; clear hW; go_simp; first | done | with_reducible rfl
            try simp only [Act.put, List.getElem_toArray, List.getElem_cons_zero, List.getElem_cons_succ, List.setIfInBounds_toArray, List.set_cons_succ, List.set_cons_zero]
            refine wpAnyP_takeU (i := 6) (v := ?_) rfl (by kernel_rfl) (by kernel_rfl) (by kernel_rfl) (by decide) (fun _ _ _ h => h) (Or.inl ⟨by kernel_rfl, ?_⟩) hHeld ?_
            rotate_left
            · intro W hW; clear hW; go_simp; first | done | with_reducible rfl
            try simp only [Act.put, List.getElem_toArray, List.getElem_cons_zero, List.getElem_cons_succ, List.setIfInBounds_toArray, List.set_cons_succ, List.set_cons_zero]
            refine wpAnyP_takeU (i := 7) (v := ?_) rfl (by kernel_rfl) (by kernel_rfl) (by kernel_rfl) (by decide) (fun _ _ _ h => h) (Or.inl ⟨by kernel_rfl, ?_⟩) hHeld ?_
            rotate_left
            · intro W hW; clear hW; go_simp; first | done | with_reducible rfl
            try simp only [Act.put, List.getElem_toArray, List.getElem_cons_zero, List.getElem_cons_succ, List.setIfInBounds_toArray, List.set_cons_succ, List.set_cons_zero]
            refine wpAnyP_take (i := 8) (v := .slice (some ⟨bo, 0, none⟩) d.n eo) rfl (by kernel_rfl) (by kernel_rfl) (by kernel_rfl) (by kernel_rfl) (by kernel_rfl) (by decide) (fun _ _ _ h => h) (Or.inl ⟨by kernel_rfl, ?_⟩) hHeld ?_
            · intro W hW; obtain ⟨-, -, g2, -⟩ := Hne.out W hW; go_simp; first | done | with_reducible rfl
            try simp only [Act.put, List.getElem_toArray, List.getElem_cons_zero, List.getElem_cons_succ, List.setIfInBounds_toArray, List.set_cons_succ, List.set_cons_zero]
            refine wpAnyP_takeU (i := 9) (v := ?_) rfl (by kernel_rfl) (by kernel_rfl) (by kernel_rfl) (by decide) (fun _ _ _ h => h) (Or.inl ⟨by kernel_rfl, ?_⟩) hHeld ?_
            rotate_left
            · intro W hW; clear hW; go_simp; first | done | with_reducible rfl
            try simp only [Act.put, List.getElem_toArray, List.getElem_cons_zero, List.getElem_cons_succ, List.setIfInBounds_toArray, List.set_cons_succ, List.set_cons_zero]
            refine wpAnyP_takeU (i := 10) (v := ?_) rfl (by kernel_rfl) (by kernel_rfl) (by kernel_rfl) (by decide) (fun _ _ _ h => h) (Or.inl ⟨by kernel_rfl, ?_⟩) hHeld ?_
            rotate_left
            · intro W hW; clear hW; go_simp; first | done | with_reducible rfl
            try simp only [Act.put, List.getElem_toArray, List.getElem_cons_zero, List.getElem_cons_succ, List.setIfInBounds_toArray, List.set_cons_succ, List.set_cons_zero]
            refine wpAnyP_takeU (i := 11) (v := ?_) rfl (by kernel_rfl) (by kernel_rfl) (by kernel_rfl) (by decide) (fun _ _ _ h => h) (Or.inl ⟨by kernel_rfl, ?_⟩) hHeld ?_
            rotate_left
            · intro W hW; clear hW; go_simp; first | done | with_reducible rfl
            try simp only [Act.put, List.getElem_toArray, List.getElem_cons_zero, List.getElem_cons_succ, List.setIfInBounds_toArray, List.set_cons_succ, List.set_cons_zero]
            refine wpAnyP_takeU (i := 12) (v := ?_) rfl (by kernel_rfl) (by kernel_rfl) (by kernel_rfl) (by decide) (fun _ _ _ h => h) (Or.inl ⟨by kernel_rfl, ?_⟩) hHeld ?_
            rotate_left
            · intro W hW; clear hW; go_simp; first | done | with_reducible rfl
            try simp only [Act.put, List.getElem_toArray, List.getElem_cons_zero, List.getElem_cons_succ, List.setIfInBounds_toArray, List.set_cons_succ, List.set_cons_zero]
            refine wpAnyP_take (i := 13) (v := .slice (some ⟨bs, 0, none⟩) d.n es) rfl (by kernel_rfl) (by kernel_rfl) (by kernel_rfl) (by kernel_rfl) (by kernel_rfl) (by decide) (fun _ _ _ h => h) (Or.inl ⟨by kernel_rfl, ?_⟩) hHeld ?_
            · intro W hW; obtain ⟨-, g1, -, -⟩ := Hne.out W hW; go_simp; first | done | with_reducible rfl
            try simp only [Act.put, List.getElem_toArray, List.getElem_cons_zero, List.getElem_cons_succ, List.setIfInBounds_toArray, List.set_cons_succ, List.set_cons_zero]
            refine wpAnyP_takeU (i := 14) (v := ?_) rfl (by kernel_rfl) (by kernel_rfl) (by kernel_rfl) (by decide) (fun _ _ _ h => h) (Or.inl ⟨by kernel_rfl, ?_⟩) hHeld ?_
            rotate_left
            · intro W hW; clear hW; go_simp; first | done | with_reducible rfl
            try simp only [Act.put, List.getElem_toArray, List.getElem_cons_zero, List.getElem_cons_succ, List.setIfInBounds_toArray, List.set_cons_succ, List.set_cons_zero]
            refine wpAnyP_takeU (i := 15) (v := .pointer (some ⟨bs, i, none⟩)) rfl (by kernel_rfl) (by kernel_rfl) (by kernel_rfl) (by decide) (fun _ _ _ h => h) (Or.inl ⟨by kernel_rfl, ?_⟩) hHeld ?_
            · intro W hW; clear hW; go_simp; first | done | with_reducible rfl
            try simp only [Act.put, List.getElem_toArray, List.getElem_cons_zero, List.getElem_cons_succ, List.setIfInBounds_toArray, List.set_cons_succ, List.set_cons_zero]
            refine wpAnyP_take (i := 16) (v := .slice (some ⟨b1, 0, none⟩) 64 cap1) rfl (by kernel_rfl) (by kernel_rfl) (by kernel_rfl) (by kernel_rfl) (by kernel_rfl) (by decide) (fun _ _ _ h => h) (Or.inl ⟨by kernel_rfl, ?_⟩) hHeld ?_
            · intro W hW; obtain ⟨-, -, -, g3⟩ := Hne.out W hW; go_simp; first | done | with_reducible rfl
            try simp only [Act.put, List.getElem_toArray, List.getElem_cons_zero, List.getElem_cons_succ, List.setIfInBounds_toArray, List.set_cons_succ, List.set_cons_zero]
            refine wpAnyP_takeU (i := 17) (v := .pointer (some ⟨bn, i, none⟩)) rfl (by kernel_rfl) (by kernel_rfl) (by kernel_rfl) (by decide) (fun _ _ _ h => h) (Or.inl ⟨by kernel_rfl, ?_⟩) hHeld ?_
            · intro W hW; clear hW; go_simp; first | done | with_reducible rfl
            try simp only [Act.put, List.getElem_toArray, List.getElem_cons_zero, List.getElem_cons_succ, List.setIfInBounds_toArray, List.set_cons_succ, List.set_cons_zero]
            refine wpAnyP_ready (rs := [18]) (by kernel_rfl) (by simp) ?_
            refine AllReadyP.late (o := _) rfl (by kernel_rfl) (fun K hK => ?_)
            rw [if_pos (by kernel_rfl)]
            go_simp
            refine hK.out _ _ ?_
            clear hK K
            try simp only [Act.put, List.getElem_toArray, List.getElem_cons_zero, List.getElem_cons_succ]
            refine wpAnyP_ready (rs := [19]) (by kernel_rfl) (by simp) ?_
            refine AllReadyP.late (o := _) rfl (by kernel_rfl) (fun K hK => ?_)
            rw [if_pos (by kernel_rfl)]
            go_simp
            refine hK.out _ _ ?_
            clear hK K
            try simp only [Act.put, List.getElem_toArray, List.getElem_cons_zero, List.getElem_cons_succ, List.setIfInBounds_toArray, List.set_cons_succ, List.set_cons_zero]
            refine wpAnyP_ready (rs := [20]) (by kernel_rfl) (by simp) ?_
            refine AllReadyP.late (o := _) rfl (by kernel_rfl) (fun K hK => ?_)
            rw [if_pos (by kernel_rfl)]
            go_simp
            refine hK.out _ _ ?_
            clear hK K
            try simp only [Act.put, List.getElem_toArray, List.getElem_cons_zero, List.getElem_cons_succ]
            refine wpAnyP_done (by kernel_rfl) ?_ _
            refine NoPanic.normal ?_
            have HB4 := hide (((HB8.out.trans ((But.one W8 bn i (.slice (some ⟨b1, 0, none⟩) 64 cap1)).mono fun k _ e => .inr (.inl e))).trans ((But.one _ bo i (.bool false)).mono fun k _ e => .inr (.inr (.inr e)))).drew)
            clear Hne hHeld HR8 HB8 hvn hvs hlo hfn hfo
            go_wp2_with fail
            go_roundw
            case rel =>
              refine ⟨i + 1, by omega, by rw [Hrk.out]; simp, by simp, Hh4.out.congr (fun j _ => ?_) (fun j _ => ?_) (fun j _ => ?_), HB4⟩
              · by_cases e : j = i
                · subst e; simp [Hkp.out]
                · have : (j < i + 1) = (j < i) := by apply propext; omega
                  simp [e, this]
              · by_cases e : j = i
                · subst e; simp [Hkp.out]
                · have : (j < i + 1) = (j < i) := by apply propext; omega
                  simp [this]
              · by_cases e : j = i
                · subst e; simp
                · have : (j < i + 1) = (j < i) := by apply propext; omega
                  simp [e, this]
            case measure => simp [RowKit.intOf]; omega
        · have hgd : ks.getD (d.rank i) false = false := by
            have := Hnk.out
            simp at this
            simp [List.getD, List.getElem?_eq_none (show ks.length ≤ d.rank i by omega)]
          have Hkp : Hid (d.kept ks i = d.last i) := by show _ = _; simp only [Dv.kept, hgd]; rfl
          clear hgd
          generalize d.rank i = r at *
          go_wp2_with fail
          have HR8 := hide (HR.out.congr (nw' := fun j => if j < i then d.kept ks j else d.at_ j) (sf' := fun j => if j < i + 1 then d.kept ks j else d.last j) (lo' := fun j => if j < i then false else (d.loose j).isSome) (fun _ _ => rfl) (fun j _ => by
            by_cases e : j = i
            · subst e; simp [Hkp.out]
            · have : (j < i + 1) = (j < i) := by apply propext; omega
              simp [this]) (fun _ _ => rfl))
          have HB8 := HB
          generalize wr = W8 at *
          clear HR HB
          have hls8 := HR8.out.lts
          obtain ⟨en, es, eo, e0, e1, e2, -, -, j0, j1, j2, p0, p1, p2⟩ := HR8.out.cells
          obtain ⟨vs, hvs, hxs⟩ := HR8.out.safe i hi
          obtain ⟨vn, hvn, -⟩ := HR8.out.now i hi
          have hfn := (HR8.out.free i).2.1
          have h3 := HR8.out.setNow hi hxs
          have hlo := h3.loo i hi
          have hfo := (h3.free i).2.2.2
          have h4 := (h3.setLoo hi false).drew
          obtain ⟨b1, cap1, rfl, -⟩ := hxs
          have Hne : Hid (∀ W, But (fun _ => False) W8 W → W.cell? ⟨q, 0, none⟩ = some (.slice (some ⟨bn, 0, none⟩) d.n en) ∧ W.cell? ⟨q, 1, none⟩ = some (.slice (some ⟨bs, 0, none⟩) d.n es) ∧ W.cell? ⟨q, 2, none⟩ = some (.slice (some ⟨bo, 0, none⟩) d.n eo) ∧ W.cell? ⟨bs, i, none⟩ = some (.slice (some ⟨b1, 0, none⟩) 64 cap1)) := fun W hW =>
            ⟨by rw [hW.cell (p := ⟨q, 0, none⟩) hls8.1 id, e0], by rw [hW.cell (p := ⟨q, 1, none⟩) hls8.1 id, e1], by rw [hW.cell (p := ⟨q, 2, none⟩) hls8.1 id, e2], by rw [hW.cell (p := ⟨bs, i, none⟩) hls8.2.2.1 id, hvs]⟩
          have Hh4 := hide h4
          clear h3 h4 e0 e1 e2
          refine wp_region_noPanic ?_
          refine wp_region_P 18 (fun W => But (fun _ => False) W8 W) (by kernel_rfl) (But.refl _ _).drew (fun hHeld => ?_)
          refine wpAnyP_takeU (i := 0) (v := ?_) rfl (by kernel_rfl) (by kernel_rfl) (by kernel_rfl) (by decide) (fun _ _ _ h => h) (Or.inl ⟨by kernel_rfl, ?_⟩) hHeld ?_
          rotate_left
          · intro W hW; clear hW; go_simp; first | done | with_reducible rfl
          try simp only [Act.put, List.getElem_toArray, List.getElem_cons_zero, List.setIfInBounds_toArray, List.set_cons_succ, List.set_cons_zero]
          refine wpAnyP_takeU (i := 1) (v := ?_) rfl (by kernel_rfl) (by kernel_rfl) (by kernel_rfl) (by decide) (fun _ _ _ h => h) (Or.inl ⟨by kernel_rfl, ?_⟩) hHeld ?_
          rotate_left
          · intro W hW; clear hW; go_simp; first | done | with_reducible rfl
          try simp only [Act.put, List.getElem_toArray, List.getElem_cons_zero, List.getElem_cons_succ, List.setIfInBounds_toArray, List.set_cons_succ, List.set_cons_zero]
          refine wpAnyP_takeU (i := 2) (v := ?_) rfl (by kernel_rfl) (by kernel_rfl) (by kernel_rfl) (by decide) (fun _ _ _ h => h) (Or.inl ⟨by kernel_rfl, ?_⟩) hHeld ?_
          rotate_left
          · intro W hW; clear hW; go_simp; first | done | with_reducible rfl
          try simp only [Act.put, List.getElem_toArray, List.getElem_cons_zero, List.getElem_cons_succ, List.setIfInBounds_toArray, List.set_cons_succ, List.set_cons_zero]
          refine wpAnyP_take (i := 3) (v := .slice (some ⟨bn, 0, none⟩) d.n en) rfl (by kernel_rfl) (by kernel_rfl) (by kernel_rfl) (by kernel_rfl) (by kernel_rfl) (by decide) (fun _ _ _ h => h) (Or.inl ⟨by kernel_rfl, ?_⟩) hHeld ?_
          · intro W hW; obtain ⟨g0, -, -, -⟩ := Hne.out W hW; go_simp; first | done | with_reducible rfl
          try simp only [Act.put, List.getElem_toArray, List.getElem_cons_zero, List.getElem_cons_succ, List.setIfInBounds_toArray, List.set_cons_succ, List.set_cons_zero]
          refine wpAnyP_takeU (i := 4) (v := ?_) rfl (by kernel_rfl) (by kernel_rfl) (by kernel_rfl) (by decide) (fun _ _ _ h => h) (Or.inl ⟨by kernel_rfl, ?_⟩) hHeld ?_
          rotate_left
          · intro W hW; clear hW; go_simp; first | done | with_reducible rfl
          try simp only [Act.put, List.getElem_toArray, List.getElem_cons_zero, List.getElem_cons_succ, List.setIfInBounds_toArray, List.set_cons_succ, List.set_cons_zero]
          refine wpAnyP_takeU (i := 5) (v := ?_) rfl (by kernel_rfl) (by kernel_rfl) (by kernel_rfl) (by decide) (fun _ _ _ h => h) (Or.inl ⟨by kernel_rfl, ?_⟩) hHeld ?_
          rotate_left
          · intro W hW; clear hW; go_simp; first | done | with_reducible rfl
          try simp only [Act.put, List.getElem_toArray, List.getElem_cons_zero, List.getElem_cons_succ, List.setIfInBounds_toArray, List.set_cons_succ, List.set_cons_zero]
          refine wpAnyP_takeU (i := 6) (v := ?_) rfl (by kernel_rfl) (by kernel_rfl) (by kernel_rfl) (by decide) (fun _ _ _ h => h) (Or.inl ⟨by kernel_rfl, ?_⟩) hHeld ?_
          rotate_left
          · intro W hW; clear hW; go_simp; first | done | with_reducible rfl
          try simp only [Act.put, List.getElem_toArray, List.getElem_cons_zero, List.getElem_cons_succ, List.setIfInBounds_toArray, List.set_cons_succ, List.set_cons_zero]
          refine wpAnyP_takeU (i := 7) (v := ?_) rfl (by kernel_rfl) (by kernel_rfl) (by kernel_rfl) (by decide) (fun _ _ _ h => h) (Or.inl ⟨by kernel_rfl, ?_⟩) hHeld ?_
          rotate_left
          · intro W hW; clear hW; go_simp; first | done | with_reducible rfl
          try simp only [Act.put, List.getElem_toArray, List.getElem_cons_zero, List.getElem_cons_succ, List.setIfInBounds_toArray, List.set_cons_succ, List.set_cons_zero]
          refine wpAnyP_take (i := 8) (v := .slice (some ⟨bo, 0, none⟩) d.n eo) rfl (by kernel_rfl) (by kernel_rfl) (by kernel_rfl) (by kernel_rfl) (by kernel_rfl) (by decide) (fun _ _ _ h => h) (Or.inl ⟨by kernel_rfl, ?_⟩) hHeld ?_
          · intro W hW; obtain ⟨-, -, g2, -⟩ := Hne.out W hW; go_simp; first | done | with_reducible rfl
          try simp only [Act.put, List.getElem_toArray, List.getElem_cons_zero, List.getElem_cons_succ, List.setIfInBounds_toArray, List.set_cons_succ, List.set_cons_zero]
          refine wpAnyP_takeU (i := 9) (v := ?_) rfl (by kernel_rfl) (by kernel_rfl) (by kernel_rfl) (by decide) (fun _ _ _ h => h) (Or.inl ⟨by kernel_rfl, ?_⟩) hHeld ?_
          rotate_left
          · intro W hW; clear hW; go_simp; first | done | with_reducible rfl
          try simp only [Act.put, List.getElem_toArray, List.getElem_cons_zero, List.getElem_cons_succ, List.setIfInBounds_toArray, List.set_cons_succ, List.set_cons_zero]
          refine wpAnyP_takeU (i := 10) (v := ?_) rfl (by kernel_rfl) (by kernel_rfl) (by kernel_rfl) (by decide) (fun _ _ _ h => h) (Or.inl ⟨by kernel_rfl, ?_⟩) hHeld ?_
          rotate_left
          · intro W hW; clear hW; go_simp; first | done | with_reducible rfl
          try simp only [Act.put, List.getElem_toArray, List.getElem_cons_zero, List.getElem_cons_succ, List.setIfInBounds_toArray, List.set_cons_succ, List.set_cons_zero]
          refine wpAnyP_takeU (i := 11) (v := ?_) rfl (by kernel_rfl) (by kernel_rfl) (by kernel_rfl) (by decide) (fun _ _ _ h => h) (Or.inl ⟨by kernel_rfl, ?_⟩) hHeld ?_
          rotate_left
          · intro W hW; clear hW; go_simp; first | done | with_reducible rfl
          try simp only [Act.put, List.getElem_toArray, List.getElem_cons_zero, List.getElem_cons_succ, List.setIfInBounds_toArray, List.set_cons_succ, List.set_cons_zero]
          refine wpAnyP_takeU (i := 12) (v := ?_) rfl (by kernel_rfl) (by kernel_rfl) (by kernel_rfl) (by decide) (fun _ _ _ h => h) (Or.inl ⟨by kernel_rfl, ?_⟩) hHeld ?_
          rotate_left
          · intro W hW; clear hW; go_simp; first | done | with_reducible rfl
          try simp only [Act.put, List.getElem_toArray, List.getElem_cons_zero, List.getElem_cons_succ, List.setIfInBounds_toArray, List.set_cons_succ, List.set_cons_zero]
          refine wpAnyP_take (i := 13) (v := .slice (some ⟨bs, 0, none⟩) d.n es) rfl (by kernel_rfl) (by kernel_rfl) (by kernel_rfl) (by kernel_rfl) (by kernel_rfl) (by decide) (fun _ _ _ h => h) (Or.inl ⟨by kernel_rfl, ?_⟩) hHeld ?_
          · intro W hW; obtain ⟨-, g1, -, -⟩ := Hne.out W hW; go_simp; first | done | with_reducible rfl
          try simp only [Act.put, List.getElem_toArray, List.getElem_cons_zero, List.getElem_cons_succ, List.setIfInBounds_toArray, List.set_cons_succ, List.set_cons_zero]
          refine wpAnyP_takeU (i := 14) (v := ?_) rfl (by kernel_rfl) (by kernel_rfl) (by kernel_rfl) (by decide) (fun _ _ _ h => h) (Or.inl ⟨by kernel_rfl, ?_⟩) hHeld ?_
          rotate_left
          · intro W hW; clear hW; go_simp; first | done | with_reducible rfl
          try simp only [Act.put, List.getElem_toArray, List.getElem_cons_zero, List.getElem_cons_succ, List.setIfInBounds_toArray, List.set_cons_succ, List.set_cons_zero]
          refine wpAnyP_takeU (i := 15) (v := .pointer (some ⟨bs, i, none⟩)) rfl (by kernel_rfl) (by kernel_rfl) (by kernel_rfl) (by decide) (fun _ _ _ h => h) (Or.inl ⟨by kernel_rfl, ?_⟩) hHeld ?_
          · intro W hW; clear hW; go_simp; first | done | with_reducible rfl
          try simp only [Act.put, List.getElem_toArray, List.getElem_cons_zero, List.getElem_cons_succ, List.setIfInBounds_toArray, List.set_cons_succ, List.set_cons_zero]
          refine wpAnyP_take (i := 16) (v := .slice (some ⟨b1, 0, none⟩) 64 cap1) rfl (by kernel_rfl) (by kernel_rfl) (by kernel_rfl) (by kernel_rfl) (by kernel_rfl) (by decide) (fun _ _ _ h => h) (Or.inl ⟨by kernel_rfl, ?_⟩) hHeld ?_
          · intro W hW; obtain ⟨-, -, -, g3⟩ := Hne.out W hW; go_simp; first | done | with_reducible rfl
          try simp only [Act.put, List.getElem_toArray, List.getElem_cons_zero, List.getElem_cons_succ, List.setIfInBounds_toArray, List.set_cons_succ, List.set_cons_zero]
          refine wpAnyP_takeU (i := 17) (v := .pointer (some ⟨bn, i, none⟩)) rfl (by kernel_rfl) (by kernel_rfl) (by kernel_rfl) (by decide) (fun _ _ _ h => h) (Or.inl ⟨by kernel_rfl, ?_⟩) hHeld ?_
          · intro W hW; clear hW; go_simp; first | done | with_reducible rfl
          try simp only [Act.put, List.getElem_toArray, List.getElem_cons_zero, List.getElem_cons_succ, List.setIfInBounds_toArray, List.set_cons_succ, List.set_cons_zero]
          refine wpAnyP_ready (rs := [18]) (by kernel_rfl) (by simp) ?_
          refine AllReadyP.late (o := _) rfl (by kernel_rfl) (fun K hK => ?_)
          rw [if_pos (by kernel_rfl)]
          go_simp
          refine hK.out _ _ ?_
          clear hK K
          try simp only [Act.put, List.getElem_toArray, List.getElem_cons_zero, List.getElem_cons_succ]
          refine wpAnyP_ready (rs := [19]) (by kernel_rfl) (by simp) ?_
          refine AllReadyP.late (o := _) rfl (by kernel_rfl) (fun K hK => ?_)
          rw [if_pos (by kernel_rfl)]
          go_simp
          refine hK.out _ _ ?_
          clear hK K
          try simp only [Act.put, List.getElem_toArray, List.getElem_cons_zero, List.getElem_cons_succ, List.setIfInBounds_toArray, List.set_cons_succ, List.set_cons_zero]
          refine wpAnyP_ready (rs := [20]) (by kernel_rfl) (by simp) ?_
          refine AllReadyP.late (o := _) rfl (by kernel_rfl) (fun K hK => ?_)
          rw [if_pos (by kernel_rfl)]
          go_simp
          refine hK.out _ _ ?_
          clear hK K
          try simp only [Act.put, List.getElem_toArray, List.getElem_cons_zero, List.getElem_cons_succ]
          refine wpAnyP_done (by kernel_rfl) ?_ _
          refine NoPanic.normal ?_
          have HB4 := hide (((HB8.out.trans ((But.one W8 bn i (.slice (some ⟨b1, 0, none⟩) 64 cap1)).mono fun k _ e => .inr (.inl e))).trans ((But.one _ bo i (.bool false)).mono fun k _ e => .inr (.inr (.inr e)))).drew)
          clear Hne hHeld HR8 HB8 hvn hvs hlo hfn hfo
          go_wp2_with fail
          go_roundw
          case rel =>
            refine ⟨i + 1, by omega, by rw [Hrk.out]; simp, by simp, Hh4.out.congr (fun j _ => ?_) (fun j _ => ?_) (fun j _ => ?_), HB4⟩
            · by_cases e : j = i
              · subst e; simp [Hkp.out]
              · have : (j < i + 1) = (j < i) := by apply propext; omega
                simp [e, this]
            · by_cases e : j = i
              · subst e; simp [Hkp.out]
              · have : (j < i + 1) = (j < i) := by apply propext; omega
                simp [this]
            · by_cases e : j = i
              · subst e; simp
              · have : (j < i + 1) = (j < i) := by apply propext; omega
                simp [e, this]
          case measure => simp [RowKit.intOf]; omega
    · obtain rfl : i = d.n := by omega
      obtain ⟨_, _, _, -, -, -, c3, c4, -⟩ := HR.out.cells
      have f3 := (HR.out.free 3).1
      have f4 := (HR.out.free 4).1
      have H6 := hide ((HR.out.setCalls 0 (by omega)).setFuse (-1))
      go_wp2_with fail
      go_end0
      refine ⟨rfl, ?_, (HB.out.trans ((But.one wr q 3 (.int .i64 0)).mono fun k _ e => .inl e)).trans ((But.one _ q 4 (.int .i64 (-1))).mono fun k _ e => .inl e)⟩
      exact H6.out.congr (fun j hj => by simp [hj]; rfl) (fun j hj => by simp [hj]; rfl) (fun j hj => by simp [hj]; rfl)

end
end Go.Proofs.Ytjgdbialapdggaa
