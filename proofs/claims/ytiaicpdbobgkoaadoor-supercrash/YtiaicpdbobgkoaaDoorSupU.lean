/-
  Contract of super's unpack: what a sector has.
-/
import Derived.Test.YtiaicpdbobgkoaaDoorSupP
namespace Go.Proofs.YtiaicpdbobgkoaaDoor
open Go.RowKit Go.Maps
set_option linter.unusedVariables false

set_option maxHeartbeats 400000 in
theorem equal_same {w : World} {a b : Value} {zs : List Int} (ha : Sl w a zs) (hb : Sl w b zs) :
    Calls Tryd.prog 35 #[a, b] w fun e w' => e = .returned (.bool true) ∧ w' = w := by
  have h1 := ha.conv (P := Tryd.prog) 30 9 5 Tryd.underlying30 Tryd.underlying5 Tryd.underlying9
  have h2 := hb.conv (P := Tryd.prog) 30 9 5 Tryd.underlying30 Tryd.underlying5 Tryd.underlying9
  clear ha hb
  go_enter Tryd.func35, Tryd.ntmps35
  go_wp2_with fail
  go_ret
  exact ⟨rfl, rfl⟩

theorem Box.sl {w : World} {b : Nat} {s : List Int} (h : Box w b s) (hs : Sec s) : Sl w (.slice (some ⟨b, 0, none⟩) 64 64) s :=
  ⟨_, 64, by rw [hs.1], by rw [hs.1]; omega, by unfold maxLen; omega, hs.2, fun i hi => ⟨b, 0, rfl, by rw [Nat.zero_add, cell_blk h (v := .int .u8 (s.getD i 0)) (by simp [cs, bv, List.getD, List.getElem?_eq_getElem hi])]⟩⟩

theorem Sl.mid {w : World} {b off n cap : Nat} {s : List Int} (h : Sl w (.slice (some ⟨b, off, none⟩) n cap) s) {l m : Nat} (hl : l ≤ m) (hm : m ≤ n) (hlc : l < cap) : Sl w (.slice (some ⟨b, off + l, none⟩) (m - l) (cap - l)) ((s.drop l).take (m - l)) :=
  h.part hl (by rw [← h.lens.1]; exact hm) _ (by rw [if_neg (by omega)]; simp [add_plain])

set_option maxRecDepth 100000 in
set_option maxHeartbeats 1000000 in
theorem unpack_pk {w : World} {b t : Nat} {zs : List Int} (h : Sl w (.slice (some ⟨b, 0, none⟩) 64 64) (Sp.pk t zs)) (hf : Sp.Fits t zs) (ht : Tab w) :
    Calls Tryd.prog 23 #[.slice (some ⟨b, 0, none⟩) 64 64] w fun e w' => e = .returned (.agg #[.int .i64 (t : Int), .string (strOfNums zs)]) ∧ Below w.heap.size w w' := by
  have HT := hide ht
  have HF := hide hf
  have hpos := hf.pos
  have ht1 := hf.few
  have hlen := hf.len
  have h1 : Sl w (.slice (some ⟨b, 4, none⟩) 8 60) (Fl.ben 8 t) := by
    have := h.mid (l := 4) (m := 12) (by omega) (by omega) (by omega)
    rw [Sp.pk_turn] at this
    exact this
  have h2 : Sl w (.slice (some ⟨b, 13, none⟩) zs.length 51) zs := by
    have := h.mid (l := 13) (m := 13 + zs.length) (by omega) (by omega) (by omega)
    rw [Nat.add_sub_cancel_left, Sp.pk_text] at this
    simpa using this
  have h3 : w.cell? ⟨b, 12, none⟩ = some (.int .u8 (zs.length : Int)) := by
    obtain ⟨b', off', e, hc, -, -⟩ := h.cell (i := 12) (by omega)
    simp at e
    obtain ⟨rfl, rfl⟩ := e
    rw [Nat.zero_add, Sp.pk_size] at hc
    exact hc
  have hget : Fl.bn (Fl.ben 8 t) = t := by rw [Fl.bn_ben]; exact Nat.mod_eq_of_lt (by omega)
  have hbw : b < w.heap.size := cell_lt h3
  generalize hW : w.alloc (Obj.cells #[Value.int IntKind.i64 0, Value.string { data := #[] }] 51) = W0
  have hB0 : Below w.heap.size w W0 := by rw [← hW]; exact (Below.refl _ _).alloc (Nat.le_refl _) _
  have hR0 : Rec W0 w.heap.size 0 [] := by rw [← hW]; exact heap_alloc_last w _
  have H0 := hide hB0
  have HR0 := hide hR0
  have HS := hide (h.later hB0)
  have HS1 := hide (h1.later hB0)
  have HS2 := hide (h2.later hB0)
  have HC : Hid (∀ W, Below W0.heap.size W0 W → W.cell? ⟨b, 12, none⟩ = some (.int .u8 (zs.length : Int))) := fun W hW => by
    have := (hB0.trans (hW.mono hB0.size)).cell (p := ⟨b, 12, none⟩) hbw
    rw [this, h3]
  have HG := hide hget
  generalize hn : zs.length = n at *
  have HN := hide hn
  have hwt : IntKind.i64.wrap (t : Int) = (t : Int) := by rw [IntKind.wrap_i64]; omega
  have hwn : IntKind.i64.wrap (n : Int) = (n : Int) := by rw [IntKind.wrap_i64]; omega
  have g1 : decide ((t : Int) < 1) = false := by simp; omega
  have g2 : decide ((t : Int) > 1099511627776) = false := by simp; omega
  have g3 : decide ((n : Int) > 40) = false := by simp; omega
  clear h h1 h2 h3 hget hB0 hR0 ht hf hn
  go_enter Tryd.func23, Tryd.ntmps23
  go_wp2_with fail
  refine wp_region_noPanic ?_
  refine wp_region_held_drew (S := fun W => Below W0.heap.size W0 W) (by kernel_rfl) ?_ (fun hHeld => ?_)
  · exact (Below.refl _ _).drew
  refine wpAnyH_take (i := 0) (v := ?_) rfl (by kernel_rfl) (by kernel_rfl) (by kernel_rfl) (fun _ _ _ h => h) (Or.inl ⟨by kernel_rfl, ?_⟩) hHeld ?_
  rotate_left
  · intro W hW; go_simp; first | done | with_reducible rfl
  try simp only [Act.put, List.getElem_toArray, List.getElem_cons_zero, List.setIfInBounds_toArray, List.set_cons_succ, List.set_cons_zero]
  refine wpAnyH_take (i := 1) (v := (.slice (some ⟨b, 4, none⟩) 8 60)) rfl (by kernel_rfl) (by kernel_rfl) (by kernel_rfl) (fun _ _ _ h => h) (Or.inl ⟨by kernel_rfl, ?_⟩) hHeld ?_
  · intro W hW; go_simp; first | done | with_reducible rfl
  try simp only [Act.put, List.getElem_toArray, List.getElem_cons_zero, List.getElem_cons_succ, List.setIfInBounds_toArray, List.set_cons_succ, List.set_cons_zero]
  refine wpAnyH_take (i := 4) (v := ?_) rfl (by kernel_rfl) (by kernel_rfl) (by kernel_rfl) (fun _ _ _ h => h) (Or.inl ⟨by kernel_rfl, ?_⟩) hHeld ?_
  rotate_left
  · intro W hW; go_simp; first | done | with_reducible rfl
  try simp only [Act.put, List.getElem_toArray, List.getElem_cons_zero, List.getElem_cons_succ, List.setIfInBounds_toArray, List.set_cons_succ, List.set_cons_zero]
  refine wpAnyH_take (i := 5) (v := (.pointer (some ⟨b, 12, none⟩))) rfl (by kernel_rfl) (by kernel_rfl) (by kernel_rfl) (fun _ _ _ h => h) (Or.inl ⟨by kernel_rfl, ?_⟩) hHeld ?_
  · intro W hW; go_simp; first | done | with_reducible rfl
  try simp only [Act.put, List.getElem_toArray, List.getElem_cons_zero, List.getElem_cons_succ, List.setIfInBounds_toArray, List.set_cons_succ, List.set_cons_zero]
  refine wpAnyH_take (i := 6) (v := .int .u8 (n : Int)) rfl (by kernel_rfl) (by kernel_rfl) (by kernel_rfl) (fun _ _ _ h => h) (Or.inl ⟨by kernel_rfl, ?_⟩) hHeld ?_
  · intro W hW; have c1 := HC.out W hW; go_simp
  try simp only [Act.put, List.getElem_toArray, List.getElem_cons_zero, List.getElem_cons_succ, List.setIfInBounds_toArray, List.set_cons_succ, List.set_cons_zero]
  refine wpAnyH_take (i := 7) (v := (.int .i64 (n : Int))) rfl (by kernel_rfl) (by kernel_rfl) (by kernel_rfl) (fun _ _ _ h => h) (Or.inl ⟨by kernel_rfl, ?_⟩) hHeld ?_
  · intro W hW; go_simp; first | done | with_reducible rfl
  try simp only [Act.put, List.getElem_toArray, List.getElem_cons_zero, List.getElem_cons_succ, List.setIfInBounds_toArray, List.set_cons_succ, List.set_cons_zero]
  refine wpAnyH_ready (rs := [2]) (by kernel_rfl) (by simp) ?_
  refine AllReadyH.cons (o := _) rfl (fun K hK => ?_) AllReadyH.nil
  go_simp
  have hg := get_any (w := W0.drew) (HS1.out : Sl W0.drew _ _) (by rw [Fl.ben_len]; omega)
  refine hg.mono ?_
  rintro e W1 ⟨rfl, rfl⟩
  dsimp only
  refine hK.out _ _ hHeld (fun hHeld => ?_)
  clear hK K hg
  try simp only [Act.put, List.getElem_toArray, List.getElem_cons_zero, List.getElem_cons_succ, List.setIfInBounds_toArray, List.set_cons_succ, List.set_cons_zero]
  rw [HG.out]
  refine wpAnyH_take (i := 3) (v := (.int .i64 (t : Int))) rfl (by kernel_rfl) (by kernel_rfl) (by kernel_rfl) (fun _ _ _ h => h) (Or.inl ⟨by kernel_rfl, ?_⟩) hHeld ?_
  · intro W hW; go_simp; first | done | with_reducible rfl
  try simp only [Act.put, List.getElem_toArray, List.getElem_cons_zero, List.getElem_cons_succ, List.setIfInBounds_toArray, List.set_cons_succ, List.set_cons_zero]
  refine wpAnyH_take (i := 8) (v := ?_) rfl (by kernel_rfl) (by kernel_rfl) (by kernel_rfl) (fun _ _ _ h => h) (Or.inl ⟨by kernel_rfl, ?_⟩) hHeld ?_
  rotate_left
  · intro W hW; go_simp; first | done | with_reducible rfl
  try simp only [Act.put, List.getElem_toArray, List.getElem_cons_zero, List.getElem_cons_succ, List.setIfInBounds_toArray, List.set_cons_succ, List.set_cons_zero]
  refine wpAnyH_take (i := 9) (v := ?_) rfl (by kernel_rfl) (by kernel_rfl) (by kernel_rfl) (fun _ _ _ h => h) (Or.inl ⟨by kernel_rfl, ?_⟩) hHeld ?_
  rotate_left
  · intro W hW; go_simp; first | done | with_reducible rfl
  try simp only [Act.put, List.getElem_toArray, List.getElem_cons_zero, List.getElem_cons_succ, List.setIfInBounds_toArray, List.set_cons_succ, List.set_cons_zero]
  refine wpAnyH_done (by kernel_rfl) ?_ _
  refine NoPanic.normal ?_
  go_simp
  have hB1 : Below w.heap.size w W0.drew := H0.out.drew
  have H1 := hide hB1
  have HR1 : Hid (Rec W0.drew w.heap.size 0 []) := HR0.out
  have HT1 := hide (HT.out.later hB1)
  have HZ : Hid (Sl W0.drew _ _) := HS.out
  have hcv := (show Sl W0.drew _ _ from HS2.out).conv (P := Tryd.prog) 30 9 5 Tryd.underlying30 Tryd.underlying5 Tryd.underlying9
  clear hHeld HS HS1 HS2 HC H0 HR0 hB1 hW
  generalize W0.drew = W1 at *
  go_wp2_with fail
  have hB2 : Below W1.heap.size W1 (W1.alloc (Obj.cells #[Value.int IntKind.i64 (t : Int), Value.string (strOfNums zs)] 51)) := (Below.refl _ _).alloc (Nat.le_refl _) _
  have hR2 : Rec (W1.alloc (Obj.cells #[Value.int IntKind.i64 (t : Int), Value.string (strOfNums zs)] 51)) W1.heap.size t zs := heap_alloc_last W1 _
  generalize W1.alloc (Obj.cells #[Value.int IntKind.i64 (t : Int), Value.string (strOfNums zs)] 51) = W2 at *
  refine (pack_any t zs HF.out (HT1.out.later hB2)).mono ?_
  rintro e W3 ⟨b3, rfl, hK3, hb3, hB3⟩
  have hB13 : Below W1.heap.size W1 W3 := hB2.trans (hB3.mono hB2.size)
  have HX3 : Hid (Sl W3 (.slice (some ⟨b3, 0, none⟩) 64 64) (Sp.pk t zs)) := by
    have := hK3.sl (off := 0) (n := 64) (cap := 64) (by rw [(Sp.pk_sec HF.out).1]; omega) (by omega) (by omega) (Sp.pk_sec HF.out).2
    rw [List.drop_zero, List.take_of_length_le (by rw [(Sp.pk_sec HF.out).1]; omega)] at this
    exact this
  have HZ3 := hide (HZ.out.later hB13)
  have c0 := (hR2.later hB3).turn
  have c1 := (hR2.later hB3).text
  have hR3 := HR1.out.later hB13
  have d0 := hR3.turn
  have d1 := hR3.text
  have f0 := frozen_blk 0 hR3
  have f1 := frozen_blk 1 hR3
  have H3 := hide (H1.out.trans (hB13.mono H1.out.size))
  have hww : w.heap.size < W3.heap.size := hR3.lt
  have HR3 := hide hR3
  clear hR3 hB13 hB3 hK3 hb3 hR2 hB2 HZ HR1 H1 hcv
  go_wp2_with (first | (with_reducible refine (equal_same HX3.out HZ3.out).mono ?_; rintro e x ⟨rfl, rfl⟩))
  refine bodyPost_ret (v := .agg #[.int .i64 (t : Int), .string (strOfNums zs)]) (by simp [results, Tryd.results23, go_sem, d0, d1]) rfl ⟨rfl, ?_⟩
  exact Below.setCell (p := ⟨w.heap.size, 1, none⟩) (Below.setCell (p := ⟨w.heap.size, 0, none⟩) H3.out (Nat.le_refl _) _) (Nat.le_refl _) _

set_option maxRecDepth 100000 in
set_option maxHeartbeats 1000000 in
theorem unpack_nought {w : World} {b : Nat} (h : Sl w (.slice (some ⟨b, 0, none⟩) 64 64) nought) :
    Calls Tryd.prog 23 #[.slice (some ⟨b, 0, none⟩) 64 64] w fun e w' => e = .returned (.agg #[.int .i64 0, .string ⟨#[]⟩]) ∧ Below w.heap.size w w' := by
  have h1 : Sl w (.slice (some ⟨b, 4, none⟩) 8 60) (List.replicate 8 0) := by
    have := h.mid (l := 4) (m := 12) (by omega) (by omega) (by omega)
    rw [show ((nought.drop 4).take (12 - 4)) = List.replicate 8 0 by decide] at this
    exact this
  have h3 : w.cell? ⟨b, 12, none⟩ = some (.int .u8 0) := by
    obtain ⟨b', off', e, hc, -, -⟩ := h.cell (i := 12) (by omega)
    simp at e
    obtain ⟨rfl, rfl⟩ := e
    rw [Nat.zero_add, show nought.getD 12 0 = 0 by decide] at hc
    exact hc
  have hget : Fl.bn (List.replicate 8 0) = 0 := by decide
  have hw0 : IntKind.i64.wrap 0 = 0 := by rw [IntKind.wrap_i64]; rfl
  have hbw : b < w.heap.size := cell_lt h3
  generalize hW : w.alloc (Obj.cells #[Value.int IntKind.i64 0, Value.string { data := #[] }] 51) = W0
  have hB0 : Below w.heap.size w W0 := by rw [← hW]; exact (Below.refl _ _).alloc (Nat.le_refl _) _
  have hR0 : Rec W0 w.heap.size 0 [] := by rw [← hW]; exact heap_alloc_last w _
  have H0 := hide hB0
  have HR0 := hide hR0
  have HS1 := hide (h1.later hB0)
  have HC : Hid (∀ W, Below W0.heap.size W0 W → W.cell? ⟨b, 12, none⟩ = some (.int .u8 0)) := fun W hW => by
    have := (hB0.trans (hW.mono hB0.size)).cell (p := ⟨b, 12, none⟩) hbw
    rw [this, h3]
  have HG := hide hget
  clear h h1 h3 hget hB0 hR0
  generalize hz8 : List.replicate 8 (0 : Int) = z8 at *
  have HL : Hid (z8.length ≤ 8) := by show _ ≤ _; rw [← hz8]; simp
  clear hz8
  go_enter Tryd.func23, Tryd.ntmps23
  go_wp2_with fail
  refine wp_region_noPanic ?_
  refine wp_region_held_drew (S := fun W => Below W0.heap.size W0 W) (by kernel_rfl) ?_ (fun hHeld => ?_)
  · exact (Below.refl _ _).drew
  refine wpAnyH_take (i := 0) (v := ?_) rfl (by kernel_rfl) (by kernel_rfl) (by kernel_rfl) (fun _ _ _ h => h) (Or.inl ⟨by kernel_rfl, ?_⟩) hHeld ?_
  rotate_left
  · intro W hW; go_simp; first | done | with_reducible rfl
  try simp only [Act.put, List.getElem_toArray, List.getElem_cons_zero, List.setIfInBounds_toArray, List.set_cons_succ, List.set_cons_zero]
  refine wpAnyH_take (i := 1) (v := (.slice (some ⟨b, 4, none⟩) 8 60)) rfl (by kernel_rfl) (by kernel_rfl) (by kernel_rfl) (fun _ _ _ h => h) (Or.inl ⟨by kernel_rfl, ?_⟩) hHeld ?_
  · intro W hW; go_simp; first | done | with_reducible rfl
  try simp only [Act.put, List.getElem_toArray, List.getElem_cons_zero, List.getElem_cons_succ, List.setIfInBounds_toArray, List.set_cons_succ, List.set_cons_zero]
  refine wpAnyH_take (i := 4) (v := ?_) rfl (by kernel_rfl) (by kernel_rfl) (by kernel_rfl) (fun _ _ _ h => h) (Or.inl ⟨by kernel_rfl, ?_⟩) hHeld ?_
  rotate_left
  · intro W hW; go_simp; first | done | with_reducible rfl
  try simp only [Act.put, List.getElem_toArray, List.getElem_cons_zero, List.getElem_cons_succ, List.setIfInBounds_toArray, List.set_cons_succ, List.set_cons_zero]
  refine wpAnyH_take (i := 5) (v := (.pointer (some ⟨b, 12, none⟩))) rfl (by kernel_rfl) (by kernel_rfl) (by kernel_rfl) (fun _ _ _ h => h) (Or.inl ⟨by kernel_rfl, ?_⟩) hHeld ?_
  · intro W hW; go_simp; first | done | with_reducible rfl
  try simp only [Act.put, List.getElem_toArray, List.getElem_cons_zero, List.getElem_cons_succ, List.setIfInBounds_toArray, List.set_cons_succ, List.set_cons_zero]
  refine wpAnyH_take (i := 6) (v := .int .u8 0) rfl (by kernel_rfl) (by kernel_rfl) (by kernel_rfl) (fun _ _ _ h => h) (Or.inl ⟨by kernel_rfl, ?_⟩) hHeld ?_
  · intro W hW; have c1 := HC.out W hW; go_simp
  try simp only [Act.put, List.getElem_toArray, List.getElem_cons_zero, List.getElem_cons_succ, List.setIfInBounds_toArray, List.set_cons_succ, List.set_cons_zero]
  refine wpAnyH_take (i := 7) (v := (.int .i64 0)) rfl (by kernel_rfl) (by kernel_rfl) (by kernel_rfl) (fun _ _ _ h => h) (Or.inl ⟨by kernel_rfl, ?_⟩) hHeld ?_
  · intro W hW; go_simp; first | done | with_reducible rfl
  try simp only [Act.put, List.getElem_toArray, List.getElem_cons_zero, List.getElem_cons_succ, List.setIfInBounds_toArray, List.set_cons_succ, List.set_cons_zero]
  refine wpAnyH_ready (rs := [2]) (by kernel_rfl) (by simp) ?_
  refine AllReadyH.cons (o := _) rfl (fun K hK => ?_) AllReadyH.nil
  go_simp
  have hg := get_any (w := W0.drew) (HS1.out : Sl W0.drew _ _) HL.out
  refine hg.mono ?_
  rintro e W1 ⟨rfl, rfl⟩
  dsimp only
  refine hK.out _ _ hHeld (fun hHeld => ?_)
  clear hK K hg
  try simp only [Act.put, List.getElem_toArray, List.getElem_cons_zero, List.getElem_cons_succ, List.setIfInBounds_toArray, List.set_cons_succ, List.set_cons_zero]
  rw [HG.out]
  refine wpAnyH_take (i := 3) (v := (.int .i64 0)) rfl (by kernel_rfl) (by kernel_rfl) (by kernel_rfl) (fun _ _ _ h => h) (Or.inl ⟨by kernel_rfl, ?_⟩) hHeld ?_
  · intro W hW; go_simp; first | done | with_reducible rfl
  try simp only [Act.put, List.getElem_toArray, List.getElem_cons_zero, List.getElem_cons_succ, List.setIfInBounds_toArray, List.set_cons_succ, List.set_cons_zero]
  refine wpAnyH_take (i := 8) (v := ?_) rfl (by kernel_rfl) (by kernel_rfl) (by kernel_rfl) (fun _ _ _ h => h) (Or.inl ⟨by kernel_rfl, ?_⟩) hHeld ?_
  rotate_left
  · intro W hW; go_simp; first | done | with_reducible rfl
  try simp only [Act.put, List.getElem_toArray, List.getElem_cons_zero, List.getElem_cons_succ, List.setIfInBounds_toArray, List.set_cons_succ, List.set_cons_zero]
  refine wpAnyH_take (i := 9) (v := ?_) rfl (by kernel_rfl) (by kernel_rfl) (by kernel_rfl) (fun _ _ _ h => h) (Or.inl ⟨by kernel_rfl, ?_⟩) hHeld ?_
  rotate_left
  · intro W hW; go_simp; first | done | with_reducible rfl
  try simp only [Act.put, List.getElem_toArray, List.getElem_cons_zero, List.getElem_cons_succ, List.setIfInBounds_toArray, List.set_cons_succ, List.set_cons_zero]
  refine wpAnyH_done (by kernel_rfl) ?_ _
  refine NoPanic.normal ?_
  go_simp
  have hB1 : Below w.heap.size w W0.drew := H0.out.drew
  have H1 := hide hB1
  have hR1 : Rec W0.drew w.heap.size 0 [] := HR0.out
  have d0 := hR1.turn
  have d1 := hR1.text
  have f0 := frozen_blk 0 hR1
  have f1 := frozen_blk 1 hR1
  have hww : w.heap.size < W0.drew.heap.size := hR1.lt
  clear hHeld HS1 HC H0 HR0 hB1 hW hR1
  generalize W0.drew = W1 at *
  go_wp2_with fail
  refine bodyPost_ret (v := .agg #[.int .i64 0, .string ⟨#[]⟩]) (by simp [results, Tryd.results23, go_sem, d0, d1]) rfl ⟨rfl, ?_⟩
  exact Below.setCell (p := ⟨w.heap.size, 1, none⟩) (Below.setCell (p := ⟨w.heap.size, 0, none⟩) H1.out (Nat.le_refl _) _) (Nat.le_refl _) _
end Go.Proofs.YtiaicpdbobgkoaaDoor
