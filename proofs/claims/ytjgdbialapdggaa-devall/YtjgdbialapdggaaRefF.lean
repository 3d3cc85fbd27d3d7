/-
  Contracts of the law's own device: flushes.
-/
import Derived.Test.YtjgdbialapdggaaRefW
namespace Go.Proofs.Ytjgdbialapdggaa
open Go.RowKit Go.Maps

section
variable {w : World} {q bn bs bo : Nat} {F : Nat → Prop} {n : Nat} {nw sf : Nat → List Int} {lo : Nat → Bool} {calls : Nat} {fu : Int}

set_option maxRecDepth 100000 in
set_option maxHeartbeats 4000000 in
theorem flushes_any (h : RefIn w q bn bs bo F n nw sf lo calls fu) (hc : calls < 999999) (hf : -1 ≤ fu) (hf2 : fu ≤ 9223372036854775807) :
    Calls Try.prog 15 #[.pointer (some ⟨q, 0, none⟩)] w fun e w' => e = .returned (.tuple #[]) ∧ RefIn w' q bn bs bo F n nw nw (fun _ => false) (calls + 1) (dn fu) ∧ But (fun k => k = q ∨ k = bs ∨ k = bo) w w' := by
  obtain ⟨cn, cf, co, c0, -, -, -, -, k0, k1, k2, m0, m1, m2⟩ := h.cells
  have hm := h.most
  have H := hide h
  clear h
  go_enter Try.func15, Try.ntmps15
  go_wp2_with fail
  go_loopw [8] (fun iv wr => ∃ k : Nat, k ≤ n ∧ iv = .int .i64 k ∧ Hid (RefIn wr q bn bs bo F n nw (fun j => if j < k then nw j else sf j) (fun j => if j < k then false else lo j) calls fu) ∧ Hid (But (fun k => k = q ∨ k = bs ∨ k = bo) w wr)) (fun iv _ => n - (RowKit.intOf iv).toNat)
  case atStart => exact ⟨0, Nat.zero_le _, rfl, H.out.congr (fun _ _ => rfl) (fun _ _ => by simp) (fun _ _ => by simp), But.refl _ _⟩
  case round =>
    obtain ⟨k, hk, rfl, HR, HB⟩ := hrel
    clear c0
    by_cases hkn : k < n
    · obtain ⟨dn', df, dO, e0, e1, e2, -, -, j0, j1, j2, p0, p1, p2⟩ := HR.out.cells
      obtain ⟨vi, hvi, hxi⟩ := HR.out.now k hkn
      obtain ⟨vs, hvs, -⟩ := HR.out.safe k hkn
      have hfs := (HR.out.free k).2.2.1
      have h3 := HR.out.setSafe hkn hxi
      have hlo := h3.loo k hkn
      have hfo := (h3.free k).2.2.2
      have h4 := (h3.setLoo hkn false).drew
      have hls := HR.out.lts
      obtain ⟨b1, cap1, rfl, -⟩ := hxi
      have hne : ∀ W, But (fun _ => False) wr W → W.cell? ⟨q, 0, none⟩ = some (.slice (some ⟨bn, 0, none⟩) n dn') ∧ W.cell? ⟨q, 1, none⟩ = some (.slice (some ⟨bs, 0, none⟩) n df) ∧ W.cell? ⟨q, 2, none⟩ = some (.slice (some ⟨bo, 0, none⟩) n dO) ∧ W.cell? ⟨bn, k, none⟩ = some (.slice (some ⟨b1, 0, none⟩) 64 cap1) := fun W hW =>
        ⟨by rw [hW.cell (p := ⟨q, 0, none⟩) hls.1 id, e0], by rw [hW.cell (p := ⟨q, 1, none⟩) hls.1 id, e1], by rw [hW.cell (p := ⟨q, 2, none⟩) hls.1 id, e2], by rw [hW.cell (p := ⟨bn, k, none⟩) hls.2.1 id, hvi]⟩
      have Hne := hide hne
      have Hh3 := hide h3
      have Hh4 := hide h4
      clear hne h3 h4 e0 e1 e2
      go_wp2_with fail
      refine wp_region_noPanic ?_
      refine wp_region_P 18 (fun W => But (fun _ => False) wr W) (by kernel_rfl) (But.refl _ _).drew (fun hHeld => ?_)
      refine wpAnyP_takeU (i := 0) (v := ?_) rfl (by kernel_rfl) (by kernel_rfl) (by kernel_rfl) (by decide) (fun _ _ _ h => h) (Or.inl ⟨by kernel_rfl, ?_⟩) hHeld ?_
      rotate_left
      · intro W hW; clear hW; go_simp; first | done | with_reducible rfl
      try simp only [Act.put, List.getElem_toArray, List.getElem_cons_zero, List.setIfInBounds_toArray, List.set_cons_succ, List.set_cons_zero]
      refine wpAnyP_takeU (i := 1) (v := ?_) rfl (by kernel_rfl) (by kernel_rfl) (by kernel_rfl) (by decide) (fun _ _ _ h => h) (Or.inl ⟨by kernel_rfl, ?_⟩) hHeld ?_
      rotate_left
      · intro W hW; clear hW; go_simp; first | done | with_reducible rfl
      try simp only [Act.put, List.getElem_toArray, List.getElem_cons_zero, List.getElem_cons_succ, List.setIfInBounds_toArray, List.set_cons_succ, List.set_cons_zero]
      refine wpAnyP_takeU (i := 2) (v := ?_) rfl (by kernel_rfl) (by kernel_rfl) (by kernel_rfl) (by decide) (fun _ _ _ h => h) (Or.inl ⟨by kernel_rfl, ?_⟩) hHeld ?_
      rotate_left
      · intro W hW; clear hW; go_simp; first | done | with_reducible rfl
      try simp only [Act.put, List.getElem_toArray, List.getElem_cons_zero, List.getElem_cons_succ, List.setIfInBounds_toArray, List.set_cons_succ, List.set_cons_zero]
      refine wpAnyP_take (i := 3) (v := .slice (some ⟨bs, 0, none⟩) n df) rfl (by kernel_rfl) (by kernel_rfl) (by kernel_rfl) (by kernel_rfl) (by kernel_rfl) (by decide) (fun _ _ _ h => h) (Or.inl ⟨by kernel_rfl, ?_⟩) hHeld ?_
      · intro W hW; obtain ⟨-, g1, -, -⟩ := Hne.out W hW; go_simp; first | done | with_reducible rfl
      try simp only [Act.put, List.getElem_toArray, List.getElem_cons_zero, List.getElem_cons_succ, List.setIfInBounds_toArray, List.set_cons_succ, List.set_cons_zero]
      refine wpAnyP_takeU (i := 4) (v := ?_) rfl (by kernel_rfl) (by kernel_rfl) (by kernel_rfl) (by decide) (fun _ _ _ h => h) (Or.inl ⟨by kernel_rfl, ?_⟩) hHeld ?_
      rotate_left
      · intro W hW; clear hW; go_simp; first | done | with_reducible rfl
      try simp only [Act.put, List.getElem_toArray, List.getElem_cons_zero, List.getElem_cons_succ, List.setIfInBounds_toArray, List.set_cons_succ, List.set_cons_zero]
      refine wpAnyP_takeU (i := 5) (v := ?_) rfl (by kernel_rfl) (by kernel_rfl) (by kernel_rfl) (by decide) (fun _ _ _ h => h) (Or.inl ⟨by kernel_rfl, ?_⟩) hHeld ?_
      rotate_left
      · intro W hW; clear hW; go_simp; first | done | with_reducible rfl
      try simp only [Act.put, List.getElem_toArray, List.getElem_cons_zero, List.getElem_cons_succ, List.setIfInBounds_toArray, List.set_cons_succ, List.set_cons_zero]
      refine wpAnyP_takeU (i := 6) (v := ?_) rfl (by kernel_rfl) (by kernel_rfl) (by kernel_rfl) (by decide) (fun _ _ _ h => h) (Or.inl ⟨by kernel_rfl, ?_⟩) hHeld ?_
      rotate_left
      · intro W hW; clear hW; go_simp; first | done | with_reducible rfl
      try simp only [Act.put, List.getElem_toArray, List.getElem_cons_zero, List.getElem_cons_succ, List.setIfInBounds_toArray, List.set_cons_succ, List.set_cons_zero]
      refine wpAnyP_takeU (i := 7) (v := ?_) rfl (by kernel_rfl) (by kernel_rfl) (by kernel_rfl) (by decide) (fun _ _ _ h => h) (Or.inl ⟨by kernel_rfl, ?_⟩) hHeld ?_
      rotate_left
      · intro W hW; clear hW; go_simp; first | done | with_reducible rfl
      try simp only [Act.put, List.getElem_toArray, List.getElem_cons_zero, List.getElem_cons_succ, List.setIfInBounds_toArray, List.set_cons_succ, List.set_cons_zero]
      refine wpAnyP_take (i := 8) (v := .slice (some ⟨bo, 0, none⟩) n dO) rfl (by kernel_rfl) (by kernel_rfl) (by kernel_rfl) (by kernel_rfl) (by kernel_rfl) (by decide) (fun _ _ _ h => h) (Or.inl ⟨by kernel_rfl, ?_⟩) hHeld ?_
      · intro W hW; obtain ⟨-, -, g2, -⟩ := Hne.out W hW; go_simp; first | done | with_reducible rfl
      try simp only [Act.put, List.getElem_toArray, List.getElem_cons_zero, List.getElem_cons_succ, List.setIfInBounds_toArray, List.set_cons_succ, List.set_cons_zero]
      refine wpAnyP_takeU (i := 9) (v := ?_) rfl (by kernel_rfl) (by kernel_rfl) (by kernel_rfl) (by decide) (fun _ _ _ h => h) (Or.inl ⟨by kernel_rfl, ?_⟩) hHeld ?_
      rotate_left
      · intro W hW; clear hW; go_simp; first | done | with_reducible rfl
      try simp only [Act.put, List.getElem_toArray, List.getElem_cons_zero, List.getElem_cons_succ, List.setIfInBounds_toArray, List.set_cons_succ, List.set_cons_zero]
      refine wpAnyP_takeU (i := 10) (v := ?_) rfl (by kernel_rfl) (by kernel_rfl) (by kernel_rfl) (by decide) (fun _ _ _ h => h) (Or.inl ⟨by kernel_rfl, ?_⟩) hHeld ?_
      rotate_left
      · intro W hW; clear hW; go_simp; first | done | with_reducible rfl
      try simp only [Act.put, List.getElem_toArray, List.getElem_cons_zero, List.getElem_cons_succ, List.setIfInBounds_toArray, List.set_cons_succ, List.set_cons_zero]
      refine wpAnyP_takeU (i := 11) (v := ?_) rfl (by kernel_rfl) (by kernel_rfl) (by kernel_rfl) (by decide) (fun _ _ _ h => h) (Or.inl ⟨by kernel_rfl, ?_⟩) hHeld ?_
      rotate_left
      · intro W hW; clear hW; go_simp; first | done | with_reducible rfl
      try simp only [Act.put, List.getElem_toArray, List.getElem_cons_zero, List.getElem_cons_succ, List.setIfInBounds_toArray, List.set_cons_succ, List.set_cons_zero]
      refine wpAnyP_takeU (i := 12) (v := ?_) rfl (by kernel_rfl) (by kernel_rfl) (by kernel_rfl) (by decide) (fun _ _ _ h => h) (Or.inl ⟨by kernel_rfl, ?_⟩) hHeld ?_
      rotate_left
      · intro W hW; clear hW; go_simp; first | done | with_reducible rfl
      try simp only [Act.put, List.getElem_toArray, List.getElem_cons_zero, List.getElem_cons_succ, List.setIfInBounds_toArray, List.set_cons_succ, List.set_cons_zero]
      refine wpAnyP_take (i := 13) (v := .slice (some ⟨bn, 0, none⟩) n dn') rfl (by kernel_rfl) (by kernel_rfl) (by kernel_rfl) (by kernel_rfl) (by kernel_rfl) (by decide) (fun _ _ _ h => h) (Or.inl ⟨by kernel_rfl, ?_⟩) hHeld ?_
      · intro W hW; obtain ⟨g0, -, -, -⟩ := Hne.out W hW; go_simp; first | done | with_reducible rfl
      try simp only [Act.put, List.getElem_toArray, List.getElem_cons_zero, List.getElem_cons_succ, List.setIfInBounds_toArray, List.set_cons_succ, List.set_cons_zero]
      refine wpAnyP_takeU (i := 14) (v := ?_) rfl (by kernel_rfl) (by kernel_rfl) (by kernel_rfl) (by decide) (fun _ _ _ h => h) (Or.inl ⟨by kernel_rfl, ?_⟩) hHeld ?_
      rotate_left
      · intro W hW; clear hW; go_simp; first | done | with_reducible rfl
      try simp only [Act.put, List.getElem_toArray, List.getElem_cons_zero, List.getElem_cons_succ, List.setIfInBounds_toArray, List.set_cons_succ, List.set_cons_zero]
      refine wpAnyP_takeU (i := 15) (v := .pointer (some ⟨bn, k, none⟩)) rfl (by kernel_rfl) (by kernel_rfl) (by kernel_rfl) (by decide) (fun _ _ _ h => h) (Or.inl ⟨by kernel_rfl, ?_⟩) hHeld ?_
      · intro W hW; clear hW; go_simp; first | done | with_reducible rfl
      try simp only [Act.put, List.getElem_toArray, List.getElem_cons_zero, List.getElem_cons_succ, List.setIfInBounds_toArray, List.set_cons_succ, List.set_cons_zero]
      refine wpAnyP_take (i := 16) (v := .slice (some ⟨b1, 0, none⟩) 64 cap1) rfl (by kernel_rfl) (by kernel_rfl) (by kernel_rfl) (by kernel_rfl) (by kernel_rfl) (by decide) (fun _ _ _ h => h) (Or.inl ⟨by kernel_rfl, ?_⟩) hHeld ?_
      · intro W hW; obtain ⟨-, -, -, g3⟩ := Hne.out W hW; go_simp; first | done | with_reducible rfl
      try simp only [Act.put, List.getElem_toArray, List.getElem_cons_zero, List.getElem_cons_succ, List.setIfInBounds_toArray, List.set_cons_succ, List.set_cons_zero]
      refine wpAnyP_takeU (i := 17) (v := .pointer (some ⟨bs, k, none⟩)) rfl (by kernel_rfl) (by kernel_rfl) (by kernel_rfl) (by decide) (fun _ _ _ h => h) (Or.inl ⟨by kernel_rfl, ?_⟩) hHeld ?_
      · intro W hW; clear hW; go_simp; first | done | with_reducible rfl
      try simp only [Act.put, List.getElem_toArray, List.getElem_cons_zero, List.getElem_cons_succ, List.setIfInBounds_toArray, List.set_cons_succ, List.set_cons_zero]
      refine wpAnyP_ready (rs := [18]) (by kernel_rfl) (by simp) ?_
      refine AllReadyP.late (o := _) rfl (by kernel_rfl) (fun K hK => ?_)
      rw [if_pos (by kernel_rfl)]
      go_simp
      refine hK.out _ _ ?_
      clear hK K
      try simp only [Act.put, List.getElem_toArray, List.getElem_cons_zero, List.getElem_cons_succ]
      refine wpAnyP_ready (rs := [19]) (by kernel_rfl) (by simp) ?_
      refine AllReadyP.late (o := _) rfl (by kernel_rfl) (fun K hK => ?_)
      rw [if_pos (by kernel_rfl)]
      go_simp
      refine hK.out _ _ ?_
      clear hK K
      try simp only [Act.put, List.getElem_toArray, List.getElem_cons_zero, List.getElem_cons_succ, List.setIfInBounds_toArray, List.set_cons_succ, List.set_cons_zero]
      refine wpAnyP_ready (rs := [20]) (by kernel_rfl) (by simp) ?_
      refine AllReadyP.late (o := _) rfl (by kernel_rfl) (fun K hK => ?_)
      rw [if_pos (by kernel_rfl)]
      go_simp
      refine hK.out _ _ ?_
      clear hK K
      try simp only [Act.put, List.getElem_toArray, List.getElem_cons_zero, List.getElem_cons_succ]
      refine wpAnyP_done (by kernel_rfl) ?_ _
      refine NoPanic.normal ?_
      have HB4 := hide (((HB.out.trans ((But.one wr bs k (.slice (some ⟨b1, 0, none⟩) 64 cap1)).mono fun k _ e => .inr (.inl e))).trans ((But.one _ bo k (.bool false)).mono fun k _ e => .inr (.inr e))).drew)
      clear Hne Hh3 hHeld HR HB hvi hvs hlo hfs hfo
      go_wp2_with fail
      go_roundw
      case rel =>
        refine ⟨k + 1, by omega, by simp, Hh4.out.congr (fun _ _ => rfl) (fun j _ => ?_) (fun j _ => ?_), HB4⟩
        · by_cases e : j = k
          · subst e; simp
          · have : (j < k + 1) = (j < k) := by apply propext; omega
            simp [e, this]
        · by_cases e : j = k
          · subst e; simp
          · have : (j < k + 1) = (j < k) := by apply propext; omega
            simp [e, this]
      case measure => simp [RowKit.intOf]; omega
    · obtain rfl : k = n := by omega
      have HR2 := hide (HR.out.congr (nw' := nw) (sf' := nw) (lo' := fun _ => false) (fun _ _ => rfl) (fun j hj => by simp [hj]) (fun j hj => by simp [hj]))
      clear HR hk hkn
      go_wp2_with (first | (refine (next_any HR2.out hc hf hf2).mono ?_; rintro e W6 ⟨rfl, h6, hb6⟩))
      go_end0
      exact ⟨rfl, h6, HB.out.trans (hb6.mono fun k _ e => .inl e)⟩

end
end Go.Proofs.Ytjgdbialapdggaa
