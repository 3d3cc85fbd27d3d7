/-
  Contract of super's record.pack: the sector of a text.
-/
import Derived.Test.YtiaicpdbobgkoaaDoorSupM
import Derived.Test.YtiaicpdbobgkoaaDoorInf
import Derived.Test.YtiaicpdbobgkoaaDoorCvb
import Derived.Lib.BufferWrite
namespace Go.Proofs.YtiaicpdbobgkoaaDoor
open Go.RowKit Go.Maps
set_option linter.unusedVariables false

theorem own_bk {w : World} {base g n : Nat} {zs : List Int} (h : w.ownsRow base 5 1 (.slice (some ⟨g, 0, none⟩) n n) n (bv zs)) : Bk w g zs := by
  obtain ⟨hl, h⟩ := h
  rcases h with ⟨e, -⟩ | ⟨g', cap, cur, e, hb, hc, h1, h2, h3, h4⟩
  · simp at e
  · simp at e
    obtain ⟨rfl, rfl⟩ := e
    unfold Bk
    rw [hc, ← h4, List.take_of_length_le (by rw [Array.length_toList]; omega)]

theorem made64 : (madeCells (Value.int IntKind.u8 0).cells (64 * 1)).toList = bv (List.replicate 64 0) := by
  rw [Nat.mul_one]
  show (madeCells #[Value.int IntKind.u8 0] 64).toList = _
  rw [toList_madeCells_one]
  simp [bv]

theorem sb_byteCells (s : ByteArray) : Lib.byteCells s.data.toList = bv (sb s) := by simp [Lib.byteCells, bv, sb, List.map_map]

/-- 'copy(b[k:], s)' of a text into a block of bytes. -/
theorem wp_copy_str {o : Oper} {a : Act} {w : World} {K : Act → World → Prop} {Q : Exit → Act → World → Prop} (d s : Operand) (ho : o.op = .call { callee := .builtin .copy, args := #[d, s], argTypes := #[30, 9] })
    (g off n cap : Nat) (str : ByteArray) (zs : List Int) (hd : a.eval d = .slice (some ⟨g, off, none⟩) n cap) (hs : a.eval s = .string str) (hb : Bk w g zs) (h1 : str.size ≤ n) (h2 : off + str.size ≤ zs.length)
    (h : ∀ w', Bk w' g (zs.take off ++ sb str ++ zs.drop (off + str.size)) → But (· = g) w w' → K (a.put o.dst (goInt str.size)) w') : o.wp Tryd.prog a w K Q := by
  have hrun := Lib.run_copy_row_string (P := Tryd.prog) w 30 9 o.type 5 g off n cap str _ 5 Tryd.underlying30 info8 hb h1 (by simp [bv_len]; exact h2)
  have e : ((bv zs).toArray.toList.take off ++ Lib.byteCells str.data.toList ++ (bv zs).toArray.toList.drop (off + str.size)) = bv (zs.take off ++ sb str ++ zs.drop (off + str.size)) := by
    rw [bv_app, bv_app, sb_byteCells]
    simp [bv, List.map_take, List.map_drop]
  rw [e] at hrun
  generalize zs.take off ++ sb str ++ zs.drop (off + str.size) = r at *
  unfold Oper.wp
  simp [execOp, ho, resolve, invoke, builtin, hd, hs, hrun, Result.andThen]
  refine h _ (setRow_heap w g _ _ _ _ hb) ⟨rfl, rfl, rfl, by simp [World.setRow], fun k _ hk => setRow_other _ _ _ _ hk⟩

/-- A variable of two cells. -/
def Rec (w : World) (b t : Nat) (zs : List Int) : Prop := w.heap[b]? = some (.cells #[.int .i64 (t : Int), .string (strOfNums zs)] 51 (0, 0))
theorem Rec.lt {w : World} {b t : Nat} {zs : List Int} (h : Rec w b t zs) : b < w.heap.size := blk_lt h
theorem Rec.but {w w' : World} {b t : Nat} {zs : List Int} {S : Nat → Prop} (h : Rec w b t zs) (hb : But S w w') (hs : ¬ S b) : Rec w' b t zs := (hb.block b h.lt hs).trans h
theorem Rec.later {w w' : World} {b t : Nat} {zs : List Int} (h : Rec w b t zs) (hb : Below w.heap.size w w') : Rec w' b t zs := (hb.block b h.lt).trans h
theorem Rec.turn {w : World} {b t : Nat} {zs : List Int} (h : Rec w b t zs) : w.cell? ⟨b, 0, none⟩ = some (.int .i64 (t : Int)) := cell_blk h rfl
theorem Rec.text {w : World} {b t : Nat} {zs : List Int} (h : Rec w b t zs) : w.cell? ⟨b, 1, none⟩ = some (.string (strOfNums zs)) := cell_blk h rfl

theorem Tab.but {w w' : World} {S : Nat → Prop} (h : Tab w) (hb : But S w w') (hs : ¬ S 0) : Tab w' := fun k hk => by
  rw [hb.cell (p := ⟨0, k, none⟩) (cell_lt (h k hk)) hs, h k hk]
theorem Tab.pos {w : World} (h : Tab w) : 0 < w.heap.size := cell_lt (h 0 (by omega))

set_option maxRecDepth 100000 in
set_option maxHeartbeats 1000000 in
theorem pack_any {w : World} (t : Nat) (zs : List Int) (hf : Sp.Fits t zs) (ht : Tab w) :
    Calls Tryd.prog 32 #[.agg #[.int .i64 (t : Int), .string (strOfNums zs)]] w fun e w' => ∃ b, e = .returned (.slice (some ⟨b, 0, none⟩) 64 64) ∧ Bk w' b (Sp.pk t zs) ∧ w.heap.size ≤ b ∧ Below w.heap.size w w' := by
  obtain ⟨i0, hi, hz0, hz1, hz2⟩ := info_parts Tryd.info5
  have HT := hide ht
  have HF := hide hf
  have hpos := ht.pos
  have ht1 := hf.few
  have hlen := hf.len
  have hsz := str_size zs
  have hw64 : IntKind.u64.wrap (t : Int) = (t : Int) := by rw [IntKind.wrap_u64]; omega
  clear ht hf
  generalize hW : w.alloc (Obj.cells #[Value.int IntKind.i64 (t : Int), Value.string (strOfNums zs)] 51) = W0
  have hB0 : Below w.heap.size w W0 := by rw [← hW]; exact (Below.refl _ _).alloc (Nat.le_refl _) _
  have hR0 : Rec W0 w.heap.size t zs := by rw [← hW]; exact heap_alloc_last w _
  have hs0 : W0.heap.size = w.heap.size + 1 := by rw [← hW]; simp
  have H0 : Hid (Below w.heap.size w W0 ∧ Rec W0 w.heap.size t zs ∧ W0.heap.size = w.heap.size + 1) := ⟨hB0, hR0, hs0⟩
  clear hB0 hR0 hs0
  go_enter Tryd.func32, Tryd.ntmps32
  go_wp2_with (first
    | (at_make; refine wpList_make_full _ rfl _ _ 30 rfl W0.heap.size 5 i0 (.int .u8 0) 1 Tryd.underlying30 hi hz0 hz1 _ _ _ _ 64 rfl rfl rfl rfl (by rw [hz2]; omega) (by unfold maxLen; omega) (Nat.le_refl _) ?_; intro W1 ho1 hg1))
  obtain ⟨hB0, hR0, hs0⟩ := H0.out
  have hB1 : Below W0.heap.size W0 W1 := (Below.refl _ _).grown hg1 (Nat.le_refl _) (fun k hk => by cases hk)
  rw [made64] at ho1
  have hK1 := own_bk ho1
  have hR1 := hR0.later hB1
  have hT1 := (HT.out.later hB0).later hB1
  have hBw : Below w.heap.size w W1 := hB0.trans (hB1.mono hB0.size)
  generalize W0.heap.size = g at *
  have HB1 := hide hBw
  clear hW H0 hB0 hR0 hB1 ho1 hg1 hBw
  have HM := hide (Sp.made t zs hlen)
  have hl0 : (List.replicate 64 (0 : Int)).length = 64 := by simp
  have hd0 : Bk W1.drew g (List.replicate 64 (0 : Int)) := hK1
  generalize List.replicate 64 (0 : Int) = s0 at *
  have hne : ∀ W, But (· = g) W1 W → Rec W w.heap.size t zs := fun W hW => hR1.but hW (by omega)
  have Hs := hide hs0
  clear hs0
  refine wp_region_noPanic ?_
  refine wp_region_held_drew (S := fun W => But (· = g) W1 W) (by kernel_rfl) ?_ (fun hHeld => ?_)
  · exact (But.refl _ _).drew
  refine wpAnyH_take (i := 0) (v := ?_) rfl (by kernel_rfl) (by kernel_rfl) (by kernel_rfl) (fun _ _ _ h => h) (Or.inl ⟨by kernel_rfl, ?_⟩) hHeld ?_
  rotate_left
  · intro W hW; go_simp; first | done | with_reducible rfl
  try simp only [Act.put, List.getElem_toArray, List.getElem_cons_zero, List.setIfInBounds_toArray, List.set_cons_succ, List.set_cons_zero]
  refine wpAnyH_take (i := 1) (v := (.slice (some ⟨g, 4, none⟩) 8 60)) rfl (by kernel_rfl) (by kernel_rfl) (by kernel_rfl) (fun _ _ _ h => h) (Or.inl ⟨by kernel_rfl, ?_⟩) hHeld ?_
  · intro W hW; go_simp; first | done | with_reducible rfl
  try simp only [Act.put, List.getElem_toArray, List.getElem_cons_zero, List.getElem_cons_succ, List.setIfInBounds_toArray, List.set_cons_succ, List.set_cons_zero]
  refine wpAnyH_take (i := 2) (v := ?_) rfl (by kernel_rfl) (by kernel_rfl) (by kernel_rfl) (fun _ _ _ h => h) (Or.inl ⟨by kernel_rfl, ?_⟩) hHeld ?_
  rotate_left
  · intro W hW; go_simp; first | done | with_reducible rfl
  try simp only [Act.put, List.getElem_toArray, List.getElem_cons_zero, List.getElem_cons_succ, List.setIfInBounds_toArray, List.set_cons_succ, List.set_cons_zero]
  refine wpAnyH_take (i := 3) (v := .int .i64 (t : Int)) rfl (by kernel_rfl) (by kernel_rfl) (by kernel_rfl) (fun _ _ _ h => h) (Or.inl ⟨by kernel_rfl, ?_⟩) hHeld ?_
  · intro W hW; have c1 := (hne W hW).turn; go_simp
  try simp only [Act.put, List.getElem_toArray, List.getElem_cons_zero, List.getElem_cons_succ, List.setIfInBounds_toArray, List.set_cons_succ, List.set_cons_zero]
  refine wpAnyH_take (i := 4) (v := (.int .u64 (t : Int))) rfl (by kernel_rfl) (by kernel_rfl) (by kernel_rfl) (fun _ _ _ h => h) (Or.inl ⟨by kernel_rfl, ?_⟩) hHeld ?_
  · intro W hW; go_simp; first | done | with_reducible rfl
  try simp only [Act.put, List.getElem_toArray, List.getElem_cons_zero, List.getElem_cons_succ, List.setIfInBounds_toArray, List.set_cons_succ, List.set_cons_zero]
  refine wpAnyH_ready (rs := [5]) (by kernel_rfl) (by simp) ?_
  refine AllReadyH.cons (o := _) rfl (fun K hK => ?_) AllReadyH.nil
  go_simp
  have hput := put_any hd0 (off := 4) (n := 8) (cap := 60) (by omega) (by omega) (by omega) (by omega) (by omega) t (by omega)
  refine hput.mono ?_
  rintro e W2 ⟨rfl, hK2, hb2⟩
  dsimp only
  have hb2' : But (· = g) W1 W2 := (But.refl _ _).drew.trans hb2
  refine hK.out _ _ hb2' (fun hHeld => ?_)
  clear hK K
  refine wpAnyH_done (by kernel_rfl) ?_ _
  refine NoPanic.normal ?_
  go_simp
  have c1 := (hne W2 hb2').text
  have hl1 : (laidAt s0 4 8 t).length = 64 := by simp [laidAt, Fl.ben_len]; omega
  have c2 := hK2.cell (i := 12) (by rw [hl1]; omega)
  have f2 := frozen_blk 12 hK2
  have hw8 : IntKind.u8.wrap (zs.length : Int) = (zs.length : Int) := by rw [IntKind.wrap_u8]; omega
  generalize (laidAt s0 4 8 t).getD 12 0 = old at *
  have HK3 : Hid (Bk (W2.setCell ⟨g, 12, none⟩ (.int .u8 (zs.length : Int))) g ((laidAt s0 4 8 t).set 12 (zs.length : Int))) := hK2.set 12 _
  have HB3 : Hid (But (· = g) W1 (W2.setCell ⟨g, 12, none⟩ (.int .u8 (zs.length : Int)))) := hb2'.setCell (.inl rfl) _
  clear hHeld hd0 hb2 hb2' hput hK2
  go_wp2_with fail
  clear c1 c2 f2 hw8
  generalize W2.setCell ⟨g, 12, none⟩ (.int .u8 (zs.length : Int)) = W3 at *
  have hne3 : ∀ W, But (· = g) W3 W → Rec W w.heap.size t zs := fun W hW => hne W (HB3.out.trans hW)
  have hl2 : ((laidAt s0 4 8 t).set 12 (zs.length : Int)).length = 64 := by rw [List.length_set]; exact hl1
  refine wp_region_noPanic ?_
  refine wp_region_held_drew (S := fun W => But (· = g) W3 W) (by kernel_rfl) ?_ (fun hHeld => ?_)
  · exact (But.refl _ _).drew
  refine wpAnyH_take (i := 0) (v := ?_) rfl (by kernel_rfl) (by kernel_rfl) (by kernel_rfl) (fun _ _ _ h => h) (Or.inl ⟨by kernel_rfl, ?_⟩) hHeld ?_
  rotate_left
  · intro W hW; go_simp; first | done | with_reducible rfl
  try simp only [Act.put, List.getElem_toArray, List.getElem_cons_zero, List.setIfInBounds_toArray, List.set_cons_succ, List.set_cons_zero]
  refine wpAnyH_take (i := 1) (v := (.slice (some ⟨g, 13, none⟩) 51 51)) rfl (by kernel_rfl) (by kernel_rfl) (by kernel_rfl) (fun _ _ _ h => h) (Or.inl ⟨by kernel_rfl, ?_⟩) hHeld ?_
  · intro W hW; go_simp; first | done | with_reducible rfl
  try simp only [Act.put, List.getElem_toArray, List.getElem_cons_zero, List.getElem_cons_succ, List.setIfInBounds_toArray, List.set_cons_succ, List.set_cons_zero]
  refine wpAnyH_take (i := 2) (v := ?_) rfl (by kernel_rfl) (by kernel_rfl) (by kernel_rfl) (fun _ _ _ h => h) (Or.inl ⟨by kernel_rfl, ?_⟩) hHeld ?_
  rotate_left
  · intro W hW; go_simp; first | done | with_reducible rfl
  try simp only [Act.put, List.getElem_toArray, List.getElem_cons_zero, List.getElem_cons_succ, List.setIfInBounds_toArray, List.set_cons_succ, List.set_cons_zero]
  refine wpAnyH_take (i := 3) (v := .string (strOfNums zs)) rfl (by kernel_rfl) (by kernel_rfl) (by kernel_rfl) (fun _ _ _ h => h) (Or.inl ⟨by kernel_rfl, ?_⟩) hHeld ?_
  · intro W hW; have c1 := (hne3 W hW).text; go_simp
  try simp only [Act.put, List.getElem_toArray, List.getElem_cons_zero, List.getElem_cons_succ, List.setIfInBounds_toArray, List.set_cons_succ, List.set_cons_zero]
  refine wpAnyH_ready (rs := [4]) (by kernel_rfl) (by simp) ?_
  refine AllReadyH.cons (o := _) rfl (fun K hK => ?_) AllReadyH.nil
  rw [if_pos (by kernel_rfl)]
  have hk3 : Bk W3.drew g _ := HK3.out
  refine wp_copy_str (.tmp 18) (.tmp 20) rfl g 13 51 51 (strOfNums zs) _ (by kernel_rfl) (by kernel_rfl) hk3 (by rw [hsz]; omega) (by rw [hsz, hl2]; omega) ?_
  intro W4 hK4 hb4
  have hb4' : But (· = g) W3 W4 := (But.refl _ _).drew.trans hb4
  refine hK.out _ _ hb4' (fun hHeld => ?_)
  clear hK K
  refine wpAnyH_done (by kernel_rfl) ?_ _
  refine NoPanic.normal ?_
  go_simp
  rw [sb_nums zs HF.out.bd, hsz] at hK4
  obtain ⟨-, -, l3, e4, e5⟩ := HM.out
  have HB4 : Hid (But (· = g) W1 W4) := HB3.out.trans hb4'
  have HE : Hid (((laidAt s0 4 8 t).set 12 (zs.length : Int)).take 13 ++ zs ++ ((laidAt s0 4 8 t).set 12 (zs.length : Int)).drop (13 + zs.length) = ((laidAt s0 4 8 t).set 12 (zs.length : Int)).take 13 ++ zs ++ ((laidAt s0 4 8 t).set 12 (zs.length : Int)).drop (13 + zs.length)) := rfl
  change ((List.take 13 ((laidAt s0 4 8 t).set 12 (zs.length : Int)) ++ zs ++ List.drop (13 + zs.length) ((laidAt s0 4 8 t).set 12 (zs.length : Int))).length = 64) at l3
  change (List.drop 4 (List.take 13 ((laidAt s0 4 8 t).set 12 (zs.length : Int)) ++ zs ++ List.drop (13 + zs.length) ((laidAt s0 4 8 t).set 12 (zs.length : Int))) = _) at e4
  change (laidAt (List.take 13 ((laidAt s0 4 8 t).set 12 (zs.length : Int)) ++ zs ++ List.drop (13 + zs.length) ((laidAt s0 4 8 t).set 12 (zs.length : Int))) 0 4 (Cr.sum (Sp.body t zs)) = _) at e5
  generalize List.take 13 ((laidAt s0 4 8 t).set 12 (zs.length : Int)) ++ zs ++ List.drop (13 + zs.length) ((laidAt s0 4 8 t).set 12 (zs.length : Int)) = s3 at *
  have hT4 : Tab W4 := hT1.but HB4.out (by have := Hs.out; omega)
  have hbd := Sp.body_bd HF.out
  have HX : Hid (Cr.sum (Sp.body t zs) < 4294967296) := Sp.sum_lt hbd
  have HS4 : Hid (Sl W4.drew (.slice (some ⟨g, 4, none⟩) 60 60) (Sp.body t zs)) := by
    refine ⟨_, 60, by rw [Sp.body_len hlen], by rw [Sp.body_len hlen]; omega, by unfold maxLen; omega, hbd, fun i hi => ⟨g, 4, rfl, ?_⟩⟩
    rw [Sp.body_len hlen] at hi
    have hc : W4.drew.cell? ⟨g, 4 + i, none⟩ = some (.int .u8 (s3.getD (4 + i) 0)) := hK4.cell (i := 4 + i) (by omega)
    rw [hc, ← e4]
    simp [List.getD, List.getElem?_drop]
  have HT4 : Hid (Tab W4.drew) := hT4
  have HK4 : Hid (Bk W4.drew g s3) := hK4
  have HE5 := hide e5
  clear e4 e5 HM hbd hT4 hHeld hb4 hb4' hK4 hk3 hne3 HB3 HK3 hl1 hl2 hne hT1 hR1 HE
  generalize hqq : Cr.sum (Sp.body t zs) = q at *
  have HQ := hide hqq
  clear hqq
  have hq := HX.out
  have hwq : IntKind.u64.wrap (q : Int) = (q : Int) := by rw [IntKind.wrap_u64]; omega
  go_wp2_with fail
  refine wp_region_noPanic ?_
  refine wp_region_held_drew (S := fun W => But (· = g) W4 W) (by kernel_rfl) ?_ (fun hHeld => ?_)
  · exact (But.refl _ _).drew
  refine wpAnyH_take (i := 0) (v := ?_) rfl (by kernel_rfl) (by kernel_rfl) (by kernel_rfl) (fun _ _ _ h => h) (Or.inl ⟨by kernel_rfl, ?_⟩) hHeld ?_
  rotate_left
  · intro W hW; go_simp; first | done | with_reducible rfl
  try simp only [Act.put, List.getElem_toArray, List.getElem_cons_zero, List.setIfInBounds_toArray, List.set_cons_succ, List.set_cons_zero]
  refine wpAnyH_take (i := 1) (v := (.slice (some ⟨g, 0, none⟩) 4 64)) rfl (by kernel_rfl) (by kernel_rfl) (by kernel_rfl) (fun _ _ _ h => h) (Or.inl ⟨by kernel_rfl, ?_⟩) hHeld ?_
  · intro W hW; go_simp; first | done | with_reducible rfl
  try simp only [Act.put, List.getElem_toArray, List.getElem_cons_zero, List.getElem_cons_succ, List.setIfInBounds_toArray, List.set_cons_succ, List.set_cons_zero]
  refine wpAnyH_take (i := 2) (v := ?_) rfl (by kernel_rfl) (by kernel_rfl) (by kernel_rfl) (fun _ _ _ h => h) (Or.inl ⟨by kernel_rfl, ?_⟩) hHeld ?_
  rotate_left
  · intro W hW; go_simp; first | done | with_reducible rfl
  try simp only [Act.put, List.getElem_toArray, List.getElem_cons_zero, List.getElem_cons_succ, List.setIfInBounds_toArray, List.set_cons_succ, List.set_cons_zero]
  refine wpAnyH_take (i := 3) (v := (.slice (some ⟨g, 4, none⟩) 60 60)) rfl (by kernel_rfl) (by kernel_rfl) (by kernel_rfl) (fun _ _ _ h => h) (Or.inl ⟨by kernel_rfl, ?_⟩) hHeld ?_
  · intro W hW; go_simp; first | done | with_reducible rfl
  try simp only [Act.put, List.getElem_toArray, List.getElem_cons_zero, List.getElem_cons_succ, List.setIfInBounds_toArray, List.set_cons_succ, List.set_cons_zero]
  refine wpAnyH_ready (rs := [4]) (by kernel_rfl) (by simp) ?_
  refine AllReadyH.cons (o := _) rfl (fun K hK => ?_) AllReadyH.nil
  go_simp
  have hsum := sum_any _ _ _ HS4.out HT4.out
  refine hsum.mono ?_
  rintro e W5 ⟨rfl, rfl⟩
  dsimp only
  refine hK.out _ _ hHeld (fun hHeld => ?_)
  clear hK K hsum
  try simp only [Act.put, List.getElem_toArray, List.getElem_cons_zero, List.getElem_cons_succ, List.setIfInBounds_toArray, List.set_cons_succ, List.set_cons_zero]
  rw [HQ.out]
  refine wpAnyH_take (i := 5) (v := (.int .u64 (q : Int))) rfl (by kernel_rfl) (by kernel_rfl) (by kernel_rfl) (fun _ _ _ h => h) (Or.inl ⟨by kernel_rfl, ?_⟩) hHeld ?_
  · intro W hW; go_simp; first | done | with_reducible rfl
  try simp only [Act.put, List.getElem_toArray, List.getElem_cons_zero, List.getElem_cons_succ, List.setIfInBounds_toArray, List.set_cons_succ, List.set_cons_zero]
  refine wpAnyH_ready (rs := [6]) (by kernel_rfl) (by simp) ?_
  refine AllReadyH.cons (o := _) rfl (fun K hK => ?_) AllReadyH.nil
  go_simp
  have hput := put_any HK4.out (off := 0) (n := 4) (cap := 64) (by omega) (by omega) (by omega) (by omega) (by omega) q (by omega)
  refine hput.mono ?_
  rintro e W6 ⟨rfl, hK6, hb6⟩
  dsimp only
  have hb6' : But (· = g) W4 W6 := (But.refl _ _).drew.trans hb6
  refine hK.out _ _ hb6' (fun hHeld => ?_)
  clear hK K hput
  refine wpAnyH_done (by kernel_rfl) ?_ _
  refine NoPanic.normal ?_
  go_simp
  rw [HE5.out] at hK6
  clear hHeld hb6
  go_wp2_with fail
  go_ret
  exact ⟨g, rfl, hK6, by have := Hs.out; omega, Below.but HB1.out HB1.out.size (HB4.out.trans hb6') (fun k e => by have := Hs.out; omega)⟩
end Go.Proofs.YtiaicpdbobgkoaaDoor
