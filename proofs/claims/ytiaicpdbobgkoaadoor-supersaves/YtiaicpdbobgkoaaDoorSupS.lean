/-
  Contracts of super's Make, Open's errors, Save.
-/
import Derived.Test.YtiaicpdbobgkoaaDoorSupO
import Derived.Great.BuildSlice
namespace Go.Proofs.YtiaicpdbobgkoaaDoor
open Go.RowKit Go.Maps
set_option linter.unusedVariables false

theorem open_out {w : World} {g bl bm : Nat} {d : Dv} (h : DevAt w g bl bm d) {z : Int} (hz : ¬ (0 ≤ z ∧ z < (d.n : Int) - 1)) :
    Calls Tryd.prog 12 #[.pointer (some ⟨g, 0, none⟩), .int .i64 z] w fun e w' => e = .returned (.tuple #[.pointer none, .int .i64 3]) ∧ w' = w := by
  have H := hide h
  have hgb : (decide (0 ≤ z) && decide (z < (d.n : Int) - 1)) = false := by simp; omega
  clear h hz
  go_enter Tryd.func12, Tryd.ntmps12
  go_wp2_with (first | (with_reducible refine (shas_any H.out _).mono ?_; rintro e w ⟨rfl, rfl⟩; rw [hgb]))
  go_ret2
  exact ⟨rfl, rfl⟩

theorem open_nil (w : World) : Calls Tryd.prog 12 #[.pointer none, .int .i64 0] w fun e w' => e = .returned (.tuple #[.pointer none, .int .i64 3]) ∧ w' = w := by
  go_enter Tryd.func12, Tryd.ntmps12
  go_wp2_with (first | (with_reducible refine (shas_nil _).mono ?_; rintro e w ⟨rfl, rfl⟩))
  go_ret2
  exact ⟨rfl, rfl⟩

theorem make_long (w : World) (u z : Value) {v : Value} {zs : List Int} (hv : Sl w v zs) (hl : 40 < zs.length) :
    Calls Tryd.prog 9 #[u, z, v] w fun e w' => e = .returned (.tuple #[.pointer none, .int .i64 1]) ∧ w' = w := by
  obtain ⟨p, n, cp, rfl, hnc, hcp, Hn, -⟩ := hv.opens
  have hn : 40 < n := by rw [Hn.out]; exact hl
  clear hv hl
  go_enter Tryd.func9, Tryd.ntmps9
  go_wp2_with fail
  go_ret2
  exact ⟨rfl, rfl⟩

theorem make_out {w : World} {g bl bm : Nat} {d : Dv} (h : DevAt w g bl bm d) {z : Int} (hz : ¬ (0 ≤ z ∧ z < (d.n : Int) - 1)) {v : Value} {zs : List Int} (hv : Sl w v zs) (hl : zs.length ≤ 40) :
    Calls Tryd.prog 9 #[.pointer (some ⟨g, 0, none⟩), .int .i64 z, v] w fun e w' => e = .returned (.tuple #[.pointer none, .int .i64 3]) ∧ w' = w := by
  obtain ⟨p, n, cp, rfl, hnc, hcp, Hn, -⟩ := hv.opens
  have hn : n ≤ 40 := by rw [Hn.out]; exact hl
  have H := hide h
  have hgb : (decide (0 ≤ z) && decide (z < (d.n : Int) - 1)) = false := by simp; omega
  clear h hz hv hl
  go_enter Tryd.func9, Tryd.ntmps9
  go_wp2_with (first | (with_reducible refine (shas_any H.out _).mono ?_; rintro e w ⟨rfl, rfl⟩; rw [hgb]))
  go_ret2
  exact ⟨rfl, rfl⟩

theorem save_long {w : World} {sb : Nat} {v : Value} {zs : List Int} (hv : Sl w v zs) (hl : 40 < zs.length) :
    Calls Tryd.prog 11 #[.pointer (some ⟨sb, 0, none⟩), v] w fun e w' => e = .returned (.int .i64 1) ∧ w' = w := by
  obtain ⟨p, n, cp, rfl, hnc, hcp, Hn, -⟩ := hv.opens
  have hn : 40 < n := by rw [Hn.out]; exact hl
  clear hv hl
  go_enter Tryd.func11, Tryd.ntmps11
  go_wp2_with fail
  go_ret
  exact ⟨rfl, rfl⟩

/-- A device without a fuse: both sectors are laid. -/
def mk2 (d : Dv) (at_ : Nat) (zs : List Int) : Dv := ((d.write at_ (Sp.pk 1 zs)).write (at_ + 1) (Sp.pk 1 zs)).flush
theorem lay2 {d : Dv} (hd : d.fuse = none) (at_ : Nat) (zs : List Int) : layF (Sp.pk 1 zs) [at_, at_ + 1] d = (true, mk2 d at_ zs) := by
  simp [layF, Dv.dead, Dv.write, Dv.next, Dv.lay, hd, mk2]

set_option maxRecDepth 100000 in
set_option maxHeartbeats 1000000 in
theorem make_any {w : World} {g bl bm at_ : Nat} {d : Dv} (h : DevAt w g bl bm d) (ht : Tab w) (hd : d.fuse = none) (hc : d.calls < 900000) (ha : at_ + 1 < d.n) {v : Value} {zs : List Int} (hv : Sl w v zs) (hl : zs.length ≤ 40) :
    Calls Tryd.prog 9 #[.pointer (some ⟨g, 0, none⟩), .int .i64 (at_ : Int), v] w fun e w' => ∃ sb bm', e = .returned (.tuple #[.pointer (some ⟨sb, 0, none⟩), .int .i64 0]) ∧
      Su w' sb g at_ 0 1 zs ∧ DevAt w' g bl bm' (mk2 d at_ zs) ∧ (bm' = bm ∨ w.heap.size ≤ bm') ∧ w.heap.size ≤ sb ∧ But (Dvs g bl bm) w w' := by
  have hbd := hide hv.bd
  have hf : Hid (Sp.Fits 1 zs) := ⟨by omega, by omega, hl, hv.bd⟩
  have hcv := hv.conv (P := Tryd.prog) 30 9 5 Tryd.underlying30 Tryd.underlying5 Tryd.underlying9
  obtain ⟨p, n, cp, rfl, hnc, hcp, Hn, -⟩ := hv.opens
  have hn : n ≤ 40 := by rw [Hn.out]; exact hl
  have hmost := h.ok.most
  have H := hide h
  have HT := hide ht
  have HE := hide (lay2 hd at_ zs)
  have hgb : (decide (0 ≤ (at_ : Int)) && decide ((at_ : Int) < (d.n : Int) - 1)) = true := by simp; omega
  clear h hv hl ht hd
  go_enter Tryd.func9, Tryd.ntmps9
  go_wp2_with (first | (with_reducible refine (shas_any H.out _).mono ?_; rintro e w ⟨rfl, rfl⟩; rw [hgb]))
  have hBa : Below w.heap.size w (w.alloc (Obj.cells #[Value.pointer (some ⟨g, 0, none⟩), Value.int IntKind.i64 (at_ : Int), Value.int IntKind.i64 0, Value.int IntKind.i64 1, Value.string (strOfNums zs)] 53)) := (Below.refl _ _).alloc (Nat.le_refl _) _
  have hUa : Su (w.alloc (Obj.cells #[Value.pointer (some ⟨g, 0, none⟩), Value.int IntKind.i64 (at_ : Int), Value.int IntKind.i64 0, Value.int IntKind.i64 1, Value.string (strOfNums zs)] 53)) w.heap.size g at_ 0 1 zs := heap_alloc_last w _
  have hsa : (w.alloc (Obj.cells #[Value.pointer (some ⟨g, 0, none⟩), Value.int IntKind.i64 (at_ : Int), Value.int IntKind.i64 0, Value.int IntKind.i64 1, Value.string (strOfNums zs)] 53)).heap.size = w.heap.size + 1 := by simp
  generalize w.alloc (Obj.cells #[Value.pointer (some ⟨g, 0, none⟩), Value.int IntKind.i64 (at_ : Int), Value.int IntKind.i64 0, Value.int IntKind.i64 1, Value.string (strOfNums zs)] 53) = W1 at *
  have hBb : Below W1.heap.size W1 (W1.alloc (Obj.cells #[Value.int IntKind.i64 (at_ : Int), Value.int IntKind.i64 ((at_ : Int) + 1)] 3)) := (Below.refl _ _).alloc (Nat.le_refl _) _
  have hNb : Ns (W1.alloc (Obj.cells #[Value.int IntKind.i64 (at_ : Int), Value.int IntKind.i64 ((at_ : Int) + 1)] 3)) W1.heap.size [at_, at_ + 1] := heap_alloc_last W1 _
  generalize W1.alloc (Obj.cells #[Value.int IntKind.i64 (at_ : Int), Value.int IntKind.i64 ((at_ : Int) + 1)] 3) = W2 at *
  rw [hsa] at hNb
  have hB2 : Below w.heap.size w W2 := hBa.trans (hBb.mono hBa.size)
  have hD2 := H.out.later hB2
  have hU2 := hUa.later hBb
  have hap := hU2.dev hD2
  refine (lay_any hD2 (HT.out.later hB2) hf.out hNb (fun i hi => by simp at hi; rcases hi with rfl | rfl <;> omega) (Nat.le_refl 2) hc).mono ?_
  rw [HE.out]
  rintro e W3 ⟨rfl, bm', hD3, hm3, hb3⟩
  have HB3 : Hid (But (Dvs g bl bm) w W3) := (But.of hB2).trans hb3
  have HD3 := hide hD3
  have HU3 : Hid (Su W3 w.heap.size g at_ 0 1 zs) := hU2.but hb3 (by unfold Dvs; omega)
  have HM3 : Hid (bm' = bm ∨ w.heap.size ≤ bm') := hm3.imp id fun h => Nat.le_trans hB2.size h
  clear hBa hUa hsa hBb hNb hB2 hD2 hU2 hap hD3 hm3 hb3
  show _
  rw [show erD (true, mk2 d at_ zs).1 = 0 from rfl]
  go_wp2_with fail
  go_ret2
  exact ⟨_, bm', rfl, HU3.out, HD3.out, HM3.out, Nat.le_refl _, HB3.out⟩

/-- What a Save leaves. -/
def sv (d : Dv) (at_ now t : Nat) (zs : List Int) : Bool × Dv := layF (Sp.pk (t + 1) zs) [at_ + 1 - now] d

set_option maxRecDepth 100000 in
set_option maxHeartbeats 1000000 in
theorem save_any {w : World} {sb g bl bm at_ now t : Nat} {d : Dv} {zs0 : List Int} (h : DevAt w g bl bm d) (hs : Su w sb g at_ now t zs0) (ht : Tab w) (hc : d.calls < 900000) (ha : at_ + 1 < d.n) (hnow : now ≤ 1) (htt : t < 1000000) {v : Value} {zs : List Int} (hv : Sl w v zs) (hl : zs.length ≤ 40) :
    Calls Tryd.prog 11 #[.pointer (some ⟨sb, 0, none⟩), v] w fun e w' => e = .returned (.int .i64 (erD (sv d at_ now t zs).1)) ∧ ∃ bm', DevAt w' g bl bm' (sv d at_ now t zs).2 ∧ (bm' = bm ∨ w.heap.size ≤ bm') ∧
      ((sv d at_ now t zs).1 = true ∧ Su w' sb g at_ (1 - now) (t + 1) zs ∨ (sv d at_ now t zs).1 = false ∧ Su w' sb g at_ now t zs0) ∧ But (fun k => Dvs g bl bm k ∨ k = sb) w w' := by
  have hf : Hid (Sp.Fits (t + 1) zs) := ⟨by omega, by omega, hl, hv.bd⟩
  have HV : Hid (∀ W, Below w.heap.size w W → (convert 30 9 v).run Tryd.prog W = .ok (.string (strOfNums zs)) W) := fun W hW => (hv.later hW).conv (P := Tryd.prog) 30 9 5 Tryd.underlying30 Tryd.underlying5 Tryd.underlying9
  obtain ⟨p, n, cp, rfl, hnc, hcp, Hn, -⟩ := hv.opens
  have hn : n ≤ 40 := by rw [Hn.out]; exact hl
  have hmost := h.ok.most
  have H := hide h
  have HT := hide ht
  have HS := hide hs
  have HC : Hid (∀ W, Below w.heap.size w W → Su W sb g at_ now t zs0) := fun W hW => hs.later hW
  have hsw := hs.lt
  have hap := hs.dev h
  have hw1 : IntKind.i64.wrap ((t : Int) + 1) = (t : Int) + 1 := by rw [IntKind.wrap_i64]; omega
  clear h hv hl ht hs
  go_enter Tryd.func11, Tryd.ntmps11
  go_wp2_with fail
  refine wp_region_noPanic ?_
  refine wp_region_held_drew (S := fun W => Below w.heap.size w W) (by kernel_rfl) ?_ (fun hHeld => ?_)
  · exact (Below.refl _ _).drew
  refine wpAnyH_take (i := 0) (v := ?_) rfl (by kernel_rfl) (by kernel_rfl) (by kernel_rfl) (fun _ _ _ h => h) (Or.inl ⟨by kernel_rfl, ?_⟩) hHeld ?_
  rotate_left
  · intro W hW; go_simp; first | done | with_reducible rfl
  try simp only [Act.put, List.getElem_toArray, List.getElem_cons_zero, List.setIfInBounds_toArray, List.set_cons_succ, List.set_cons_zero]
  refine wpAnyH_take (i := 1) (v := ?_) rfl (by kernel_rfl) (by kernel_rfl) (by kernel_rfl) (fun _ _ _ h => h) (Or.inl ⟨by kernel_rfl, ?_⟩) hHeld ?_
  rotate_left
  · intro W hW; go_simp; first | done | with_reducible rfl
  try simp only [Act.put, List.getElem_toArray, List.getElem_cons_zero, List.getElem_cons_succ, List.setIfInBounds_toArray, List.set_cons_succ, List.set_cons_zero]
  refine wpAnyH_take (i := 2) (v := ?_) rfl (by kernel_rfl) (by kernel_rfl) (by kernel_rfl) (fun _ _ _ h => h) (Or.inl ⟨by kernel_rfl, ?_⟩) hHeld ?_
  rotate_left
  · intro W hW; go_simp; first | done | with_reducible rfl
  try simp only [Act.put, List.getElem_toArray, List.getElem_cons_zero, List.getElem_cons_succ, List.setIfInBounds_toArray, List.set_cons_succ, List.set_cons_zero]
  refine wpAnyH_take (i := 3) (v := ?_) rfl (by kernel_rfl) (by kernel_rfl) (by kernel_rfl) (fun _ _ _ h => h) (Or.inl ⟨by kernel_rfl, ?_⟩) hHeld ?_
  rotate_left
  · intro W hW; go_simp; first | done | with_reducible rfl
  try simp only [Act.put, List.getElem_toArray, List.getElem_cons_zero, List.getElem_cons_succ, List.setIfInBounds_toArray, List.set_cons_succ, List.set_cons_zero]
  refine wpAnyH_take (i := 4) (v := .int .i64 (t : Int)) rfl (by kernel_rfl) (by kernel_rfl) (by kernel_rfl) (fun _ _ _ h => h) (Or.inl ⟨by kernel_rfl, ?_⟩) hHeld ?_
  · intro W hW; have c3 := (HC.out W hW).cells.2.2.2.1; go_simp
  try simp only [Act.put, List.getElem_toArray, List.getElem_cons_zero, List.getElem_cons_succ, List.setIfInBounds_toArray, List.set_cons_succ, List.set_cons_zero]
  refine wpAnyH_take (i := 5) (v := (.int .i64 ((t : Int) + 1))) rfl (by kernel_rfl) (by kernel_rfl) (by kernel_rfl) (fun _ _ _ h => h) (Or.inl ⟨by kernel_rfl, ?_⟩) hHeld ?_
  · intro W hW; go_simp; first | done | with_reducible rfl
  try simp only [Act.put, List.getElem_toArray, List.getElem_cons_zero, List.getElem_cons_succ, List.setIfInBounds_toArray, List.set_cons_succ, List.set_cons_zero]
  refine wpAnyH_take (i := 6) (v := ?_) rfl (by kernel_rfl) (by kernel_rfl) (by kernel_rfl) (fun _ _ _ h => h) (Or.inl ⟨by kernel_rfl, ?_⟩) hHeld ?_
  rotate_left
  · intro W hW; go_simp; first | done | with_reducible rfl
  try simp only [Act.put, List.getElem_toArray, List.getElem_cons_zero, List.getElem_cons_succ, List.setIfInBounds_toArray, List.set_cons_succ, List.set_cons_zero]
  refine wpAnyH_take (i := 7) (v := .string (strOfNums zs)) rfl (by kernel_rfl) (by kernel_rfl) (by kernel_rfl) (fun _ _ _ h => h) (Or.inl ⟨by kernel_rfl, ?_⟩) hHeld ?_
  · intro W hW; have hcv := HV.out W hW; go_simp
  try simp only [Act.put, List.getElem_toArray, List.getElem_cons_zero, List.getElem_cons_succ, List.setIfInBounds_toArray, List.set_cons_succ, List.set_cons_zero]
  refine wpAnyH_take (i := 8) (v := ?_) rfl (by kernel_rfl) (by kernel_rfl) (by kernel_rfl) (fun _ _ _ h => h) (Or.inl ⟨by kernel_rfl, ?_⟩) hHeld ?_
  rotate_left
  · intro W hW; go_simp; first | done | with_reducible rfl
  try simp only [Act.put, List.getElem_toArray, List.getElem_cons_zero, List.getElem_cons_succ, List.setIfInBounds_toArray, List.set_cons_succ, List.set_cons_zero]
  refine wpAnyH_ready (rs := [9]) (by kernel_rfl) (by simp) ?_
  refine AllReadyH.cons (o := _) rfl (fun K hK => ?_) AllReadyH.nil
  go_simp
  have hBa : Below w.heap.size w (w.alloc (Obj.cells #[Value.int IntKind.i64 0, Value.string { data := #[] }] 51)).drew := ((Below.refl _ _).alloc (Nat.le_refl _) _).drew
  refine hK.out _ _ hBa (fun hHeld => ?_)
  clear hK K
  try simp only [Act.put, List.getElem_toArray, List.getElem_cons_zero, List.getElem_cons_succ, List.setIfInBounds_toArray, List.set_cons_succ, List.set_cons_zero]
  refine wpAnyH_ready (rs := [10]) (by kernel_rfl) (by simp) ?_
  refine AllReadyH.cons (o := _) rfl (fun K hK => ?_) AllReadyH.nil
  go_simp
  have hBb : Below w.heap.size w (w.alloc (Obj.cells #[Value.int IntKind.i64 ((t : Int) + 1), Value.string (strOfNums zs)] 51)).drew := ((Below.refl _ _).alloc (Nat.le_refl _) _).drew
  have hRb : Rec (w.alloc (Obj.cells #[Value.int IntKind.i64 ((t : Int) + 1), Value.string (strOfNums zs)] 51)).drew w.heap.size (t + 1) zs := heap_alloc_last w _
  generalize (w.alloc (Obj.cells #[Value.int IntKind.i64 ((t : Int) + 1), Value.string (strOfNums zs)] 51)).drew = W1 at *
  refine hK.out _ _ hBb (fun hHeld => ?_)
  clear hK K
  refine wpAnyH_done (by kernel_rfl) ?_ _
  refine NoPanic.normal ?_
  go_simp
  have hlts := H.out.lts
  have hD1 := H.out.later hBb
  have HNE : Hid (∀ W, But (Dvs g bl bm) W1 W → Su W sb g at_ now t zs0 ∧ Rec W w.heap.size (t + 1) zs) := fun W hW => ⟨(HC.out W1 hBb).but hW (by unfold Dvs; omega), hRb.but hW (by unfold Dvs; omega)⟩
  have HD1 := hide hD1
  have HB1 := hide hBb
  have HT1 := hide (HT.out.later hBb)
  have hw2 : IntKind.i64.wrap ((at_ : Int) + 1) = (at_ : Int) + 1 := by rw [IntKind.wrap_i64]; omega
  have hw3 : IntKind.i64.wrap ((at_ : Int) + 1 - (now : Int)) = ((at_ + 1 - now : Nat) : Int) := by rw [IntKind.wrap_i64]; omega
  have Hin : Hid (at_ + 1 - now < d.n) := by show _ < _; omega
  have HSV : Hid (sv d at_ now t zs = layF (Sp.pk (t + 1) zs) [at_ + 1 - now] d) := rfl
  generalize hin : at_ + 1 - now = i at *
  clear hHeld hBa hBb hRb hD1 HV HC hlts hin HS H HT
  go_wp2_with fail
  refine wp_region_noPanic ?_
  refine wp_region_held_drew (S := fun W => But (Dvs g bl bm) W1 W) (by kernel_rfl) ?_ (fun hHeld => ?_)
  · exact (But.refl _ _).drew
  refine wpAnyH_take (i := 0) (v := ?_) rfl (by kernel_rfl) (by kernel_rfl) (by kernel_rfl) (fun _ _ _ h => h) (Or.inl ⟨by kernel_rfl, ?_⟩) hHeld ?_
  rotate_left
  · intro W hW; go_simp; first | done | with_reducible rfl
  try simp only [Act.put, List.getElem_toArray, List.getElem_cons_zero, List.setIfInBounds_toArray, List.set_cons_succ, List.set_cons_zero]
  refine wpAnyH_take (i := 1) (v := ?_) rfl (by kernel_rfl) (by kernel_rfl) (by kernel_rfl) (fun _ _ _ h => h) (Or.inl ⟨by kernel_rfl, ?_⟩) hHeld ?_
  rotate_left
  · intro W hW; go_simp; first | done | with_reducible rfl
  try simp only [Act.put, List.getElem_toArray, List.getElem_cons_zero, List.getElem_cons_succ, List.setIfInBounds_toArray, List.set_cons_succ, List.set_cons_zero]
  refine wpAnyH_take (i := 2) (v := ?_) rfl (by kernel_rfl) (by kernel_rfl) (by kernel_rfl) (fun _ _ _ h => h) (Or.inl ⟨by kernel_rfl, ?_⟩) hHeld ?_
  rotate_left
  · intro W hW; go_simp; first | done | with_reducible rfl
  try simp only [Act.put, List.getElem_toArray, List.getElem_cons_zero, List.getElem_cons_succ, List.setIfInBounds_toArray, List.set_cons_succ, List.set_cons_zero]
  refine wpAnyH_take (i := 3) (v := .pointer (some ⟨g, 0, none⟩)) rfl (by kernel_rfl) (by kernel_rfl) (by kernel_rfl) (fun _ _ _ h => h) (Or.inl ⟨by kernel_rfl, ?_⟩) hHeld ?_
  · intro W hW; have c0 := (HNE.out W hW).1.cells.1; go_simp
  try simp only [Act.put, List.getElem_toArray, List.getElem_cons_zero, List.getElem_cons_succ, List.setIfInBounds_toArray, List.set_cons_succ, List.set_cons_zero]
  refine wpAnyH_take (i := 4) (v := .agg #[.int .i64 ((t : Int) + 1), .string (strOfNums zs)]) rfl (by kernel_rfl) (by kernel_rfl) (by kernel_rfl) (fun _ _ _ h => h) (Or.inl ⟨by kernel_rfl, ?_⟩) hHeld ?_
  · intro W hW; have r0 := (HNE.out W hW).2.turn; have r1 := (HNE.out W hW).2.text; go_simp
  try simp only [Act.put, List.getElem_toArray, List.getElem_cons_zero, List.getElem_cons_succ, List.setIfInBounds_toArray, List.set_cons_succ, List.set_cons_zero]
  refine wpAnyH_take (i := 5) (v := ?_) rfl (by kernel_rfl) (by kernel_rfl) (by kernel_rfl) (fun _ _ _ h => h) (Or.inl ⟨by kernel_rfl, ?_⟩) hHeld ?_
  rotate_left
  · intro W hW; go_simp; first | done | with_reducible rfl
  try simp only [Act.put, List.getElem_toArray, List.getElem_cons_zero, List.getElem_cons_succ, List.setIfInBounds_toArray, List.set_cons_succ, List.set_cons_zero]
  refine wpAnyH_take (i := 6) (v := ?_) rfl (by kernel_rfl) (by kernel_rfl) (by kernel_rfl) (fun _ _ _ h => h) (Or.inl ⟨by kernel_rfl, ?_⟩) hHeld ?_
  rotate_left
  · intro W hW; go_simp; first | done | with_reducible rfl
  try simp only [Act.put, List.getElem_toArray, List.getElem_cons_zero, List.getElem_cons_succ, List.setIfInBounds_toArray, List.set_cons_succ, List.set_cons_zero]
  refine wpAnyH_take (i := 7) (v := ?_) rfl (by kernel_rfl) (by kernel_rfl) (by kernel_rfl) (fun _ _ _ h => h) (Or.inl ⟨by kernel_rfl, ?_⟩) hHeld ?_
  rotate_left
  · intro W hW; go_simp; first | done | with_reducible rfl
  try simp only [Act.put, List.getElem_toArray, List.getElem_cons_zero, List.getElem_cons_succ, List.setIfInBounds_toArray, List.set_cons_succ, List.set_cons_zero]
  refine wpAnyH_take (i := 8) (v := .int .i64 (at_ : Int)) rfl (by kernel_rfl) (by kernel_rfl) (by kernel_rfl) (fun _ _ _ h => h) (Or.inl ⟨by kernel_rfl, ?_⟩) hHeld ?_
  · intro W hW; have c0 := (HNE.out W hW).1.cells.2.1; go_simp
  try simp only [Act.put, List.getElem_toArray, List.getElem_cons_zero, List.getElem_cons_succ, List.setIfInBounds_toArray, List.set_cons_succ, List.set_cons_zero]
  refine wpAnyH_take (i := 9) (v := (.int .i64 ((at_ : Int) + 1))) rfl (by kernel_rfl) (by kernel_rfl) (by kernel_rfl) (fun _ _ _ h => h) (Or.inl ⟨by kernel_rfl, ?_⟩) hHeld ?_
  · intro W hW; go_simp; first | done | with_reducible rfl
  try simp only [Act.put, List.getElem_toArray, List.getElem_cons_zero, List.getElem_cons_succ, List.setIfInBounds_toArray, List.set_cons_succ, List.set_cons_zero]
  refine wpAnyH_take (i := 10) (v := ?_) rfl (by kernel_rfl) (by kernel_rfl) (by kernel_rfl) (fun _ _ _ h => h) (Or.inl ⟨by kernel_rfl, ?_⟩) hHeld ?_
  rotate_left
  · intro W hW; go_simp; first | done | with_reducible rfl
  try simp only [Act.put, List.getElem_toArray, List.getElem_cons_zero, List.getElem_cons_succ, List.setIfInBounds_toArray, List.set_cons_succ, List.set_cons_zero]
  refine wpAnyH_take (i := 11) (v := ?_) rfl (by kernel_rfl) (by kernel_rfl) (by kernel_rfl) (fun _ _ _ h => h) (Or.inl ⟨by kernel_rfl, ?_⟩) hHeld ?_
  rotate_left
  · intro W hW; go_simp; first | done | with_reducible rfl
  try simp only [Act.put, List.getElem_toArray, List.getElem_cons_zero, List.getElem_cons_succ, List.setIfInBounds_toArray, List.set_cons_succ, List.set_cons_zero]
  refine wpAnyH_take (i := 12) (v := ?_) rfl (by kernel_rfl) (by kernel_rfl) (by kernel_rfl) (fun _ _ _ h => h) (Or.inl ⟨by kernel_rfl, ?_⟩) hHeld ?_
  rotate_left
  · intro W hW; go_simp; first | done | with_reducible rfl
  try simp only [Act.put, List.getElem_toArray, List.getElem_cons_zero, List.getElem_cons_succ, List.setIfInBounds_toArray, List.set_cons_succ, List.set_cons_zero]
  refine wpAnyH_take (i := 13) (v := .int .i64 (now : Int)) rfl (by kernel_rfl) (by kernel_rfl) (by kernel_rfl) (fun _ _ _ h => h) (Or.inl ⟨by kernel_rfl, ?_⟩) hHeld ?_
  · intro W hW; have c0 := (HNE.out W hW).1.cells.2.2.1; go_simp
  try simp only [Act.put, List.getElem_toArray, List.getElem_cons_zero, List.getElem_cons_succ, List.setIfInBounds_toArray, List.set_cons_succ, List.set_cons_zero]
  refine wpAnyH_take (i := 14) (v := (.int .i64 (i : Int))) rfl (by kernel_rfl) (by kernel_rfl) (by kernel_rfl) (fun _ _ _ h => h) (Or.inl ⟨by kernel_rfl, ?_⟩) hHeld ?_
  · intro W hW; go_simp; first | done | with_reducible rfl
  try simp only [Act.put, List.getElem_toArray, List.getElem_cons_zero, List.getElem_cons_succ, List.setIfInBounds_toArray, List.set_cons_succ, List.set_cons_zero]
  refine wpAnyH_ready (rs := [15]) (by kernel_rfl) (by simp) ?_
  refine AllReadyH.cons (o := _) rfl (fun K hK => ?_) AllReadyH.nil
  go_simp
  have hBc : Below W1.heap.size W1 (W1.alloc (Obj.cells #[Value.int IntKind.i64 (i : Int)] 3)).drew := ((Below.refl _ _).alloc (Nat.le_refl _) _).drew
  have hNc : Ns (W1.alloc (Obj.cells #[Value.int IntKind.i64 (i : Int)] 3)).drew W1.heap.size [i] := heap_alloc_last W1 _
  generalize (W1.alloc (Obj.cells #[Value.int IntKind.i64 (i : Int)] 3)).drew = W2 at *
  refine hK.out _ _ (But.of hBc) (fun hHeld => ?_)
  clear hK K
  try simp only [Act.put, List.getElem_toArray, List.getElem_cons_zero, List.getElem_cons_succ, List.setIfInBounds_toArray, List.set_cons_succ, List.set_cons_zero]
  refine wpAnyH_ready (rs := [16]) (by kernel_rfl) (by simp) ?_
  refine AllReadyH.cons (o := _) rfl (fun K hK => ?_) AllReadyH.nil
  go_simp
  have hlay := lay_any (HD1.out.later hBc) (HT1.out.later hBc) hf.out hNc (fun j hj => by simp at hj; rw [hj]; exact Hin.out) (by simp) hc
  refine hlay.mono ?_
  rintro e W3 ⟨rfl, bm', hD3, hm3, hb3⟩
  dsimp only
  have hb13 : But (Dvs g bl bm) W1 W3 := (But.of hBc).trans hb3
  refine hK.out _ _ hb13 (fun hHeld => ?_)
  clear hK K hlay
  try simp only [Act.put, List.getElem_toArray, List.getElem_cons_zero, List.getElem_cons_succ, List.setIfInBounds_toArray, List.set_cons_succ, List.set_cons_zero]
  refine wpAnyH_take (i := 17) (v := ?_) rfl (by kernel_rfl) (by kernel_rfl) (by kernel_rfl) (fun _ _ _ h => h) (Or.inl ⟨by kernel_rfl, ?_⟩) hHeld ?_
  rotate_left
  · intro W hW; go_simp; first | done | with_reducible rfl
  try simp only [Act.put, List.getElem_toArray, List.getElem_cons_zero, List.getElem_cons_succ, List.setIfInBounds_toArray, List.set_cons_succ, List.set_cons_zero]
  refine wpAnyH_done (by kernel_rfl) ?_ _
  refine NoPanic.normal ?_
  go_simp
  obtain ⟨hU3, hR3⟩ := HNE.out W3 hb13
  have HU3 := hide hU3
  have HR3 := hide hR3
  have HB3 : Hid (But (Dvs g bl bm) w W3) := (But.of HB1.out).trans hb13
  have HD3 := hide hD3
  have HM3 : Hid (bm' = bm ∨ w.heap.size ≤ bm') := hm3.imp id fun h => Nat.le_trans HB1.out.size (Nat.le_trans hBc.size h)
  rw [← HSV.out] at HD3 ⊢
  obtain ⟨-, -, c2, c3, c4⟩ := hU3.cells
  have f2 := frozen_blk 2 hU3
  have f3 := frozen_blk 3 hU3
  have f4 := frozen_blk 4 hU3
  have r0 := hR3.turn
  have r1 := hR3.text
  rw [show (((t + 1 : Nat)) : Int) = (t : Int) + 1 from rfl] at r0
  have hwb : w.heap.size ≠ sb := by omega
  have hws : sb < W3.heap.size := hU3.lt
  clear hHeld hb13 hm3 hb3 hD3 hU3 hR3 HNE HD1 HB1 HT1 hw1 hw2 hw3 Hin hBc hNc
  cases hok : (sv d at_ now t zs).1
  · have Hok := hide hok
    rw [show erD false = 5 from rfl]
    clear hok
    go_wp2_with fail
    go_ret
    rw [Hok.out]
    exact ⟨rfl, bm', HD3.out, HM3.out, .inr ⟨rfl, HU3.out⟩, HB3.out.mono fun k _ e => .inl e⟩
  · have Hok := hide hok
    rw [show erD true = 0 from rfl]
    clear hok
    go_wp2_with fail
    go_region
    have hU4 := HU3.out.set (1 - now) (t + 1) zs
    rw [show ((1 - now : Nat) : Int) = 1 - (now : Int) by omega, show (((t + 1 : Nat)) : Int) = (t : Int) + 1 from rfl] at hU4
    have hb4 : But (· = sb) W3 (((W3.setCell ⟨sb, 3, none⟩ (.int .i64 ((t : Int) + 1))).setCell ⟨sb, 4, none⟩ (.string (strOfNums zs))).setCell ⟨sb, 2, none⟩ (.int .i64 (1 - (now : Int)))).drew := (((But.refl _ _).me _ _).me _ _).me _ _ |>.drew
    have HU4 : Hid (Su (((W3.setCell ⟨sb, 3, none⟩ (.int .i64 ((t : Int) + 1))).setCell ⟨sb, 4, none⟩ (.string (strOfNums zs))).setCell ⟨sb, 2, none⟩ (.int .i64 (1 - (now : Int)))).drew sb g at_ (1 - now) (t + 1) zs) := hU4
    clear c2 c3 c4 f2 f3 f4 r0 r1 hU4
    generalize (((W3.setCell ⟨sb, 3, none⟩ (.int .i64 ((t : Int) + 1))).setCell ⟨sb, 4, none⟩ (.string (strOfNums zs))).setCell ⟨sb, 2, none⟩ (.int .i64 (1 - (now : Int)))).drew = W4 at *
    have HD4 := hide (HD3.out.but hb4 (fun e => hap.1 e.symm) (fun e => hap.2.1 e.symm) (fun e => (HU3.out.dev HD3.out).2.2 e.symm))
    have HB4 : Hid (But (fun k => Dvs g bl bm k ∨ k = sb) w W4) := (HB3.out.mono fun k _ e => .inl e).trans (hb4.mono fun k _ e => .inr e)
    clear hb4
    go_wp2_with fail
    go_ret
    rw [Hok.out]
    exact ⟨rfl, bm', HD4.out, HM3.out, .inl ⟨rfl, HU4.out⟩, HB4.out⟩
end Go.Proofs.YtiaicpdbobgkoaaDoor
