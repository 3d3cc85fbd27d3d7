/-
  Contract of package dev: Flush.
-/
import Derived.Test.YtiaicpdbobgkoaaDoorDevT
import Derived.Test.YtiaicpdbobgkoaaDoorDevN
namespace Go.Proofs.YtiaicpdbobgkoaaDoor
open Go.RowKit Go.Maps

theorem setCells_block {b : Nat} {t : TypeId} {fr : Nat × Nat} : ∀ (vs : List Value) (o : Nat) (w : World) (c : Array Value), w.heap[b]? = some (.cells c t fr) → ∃ c', (w.setCells b o vs).heap[b]? = some (.cells c' t fr) ∧ c'.size = c.size
  | [], _, _, c, h => ⟨c, h, rfl⟩
  | v :: r, o, w, c, h => by
    obtain ⟨c', h1, h2⟩ := setCells_block r (o + 1) (w.setCell ⟨b, o, none⟩ v) _ (heap_setCell_same h v)
    exact ⟨c', by rw [World.setCells]; exact h1, by simpa using h2⟩

theorem But.cells {S : Nat → Prop} {b : Nat} (hs : S b) : ∀ (vs : List Value) (o : Nat) (a w : World), But S a w → But S a (w.setCells b o vs)
  | [], _, _, _, h => h
  | v :: r, o, a, w, h => by
    rw [World.setCells]
    exact But.cells hs r (o + 1) a _ (h.setCell (.inl hs) v)

theorem RowAt.there {w : World} {bl n cap : Nat} {f : Nat → List Int} (h : RowAt w bl n cap f) {i : Nat} (hi : i < n) : w.there bl (i * 64) 64 := fun j hj => by
  obtain ⟨cur, hc, hz⟩ := h.cur
  have hle : (i + 1) * 64 ≤ cap * 64 := Nat.mul_le_mul_right _ (Nat.le_trans hi h.room)
  have hk : i * 64 + j < cur.size := by omega
  exact ⟨by rw [cell_blk hc (Array.getElem?_eq_getElem hk)]; rfl, frozen_blk _ hc⟩

/-- 'l[i] = s'. -/
theorem RowAt.store {w : World} {bl n cap : Nat} {f : Nat → List Int} (h : RowAt w bl n cap f) (hf : ∀ i, i < n → (f i).length = 64) {i : Nat} (hi : i < n) {s : List Int} (hs : Sec s) : RowAt (w.setCells bl (i * 64) (bv s)) bl n cap fun j => if j = i then s else f j := by
  obtain ⟨cur, hc, hz⟩ := h.cur
  obtain ⟨c', h1, h2⟩ := setCells_block (bv s) (i * 64) w cur hc
  refine ⟨⟨c', h1, by rw [h2, hz]⟩, h.room, h.big, fun j hj => ?_⟩
  by_cases e : j = i
  · subst e
    simp only [if_true]
    exact World.rangeAt_setCells_same _ _ _ _ (by rw [bv_len, hs.1]; exact h.there hi)
  · simp only [e, if_false]
    refine World.rangeAt_setCells_apart (h.last j hj) _ _ _ (.inr ?_)
    rw [bv_len, bv_len, hs.1, hf j hj]
    rcases Nat.lt_or_ge j i with hl | hl
    · have : (j + 1) * 64 ≤ i * 64 := Nat.mul_le_mul_right _ hl
      omega
    · have : (i + 1) * 64 ≤ j * 64 := Nat.mul_le_mul_right _ (by omega)
      omega

theorem RowAt.congr {w : World} {bl n cap : Nat} {f f' : Nat → List Int} (h : RowAt w bl n cap f) (he : ∀ i, i < n → f' i = f i) : RowAt w bl n cap f' :=
  ⟨h.cur, h.room, h.big, fun i hi => by rw [he i hi]; exact h.last i hi⟩

theorem DevIn.rowAt {w : World} {g bl bm : Nat} {d : Dv} {cap : Nat} {D : DataW (List Int)} {fu : Bool} {le : Int} {cur : Array Value} (h : DevIn w g bl bm d cap D fu le cur) : RowAt w bl d.n cap d.last := ⟨⟨cur, h.row, h.size⟩, h.room, h.big, h.last⟩

/-- Halfway: those that are still to come are as they were. -/
def mix (d : Dv) (left : Lit → Bool) (i : Nat) : List Int := if left (.int .i64 (i : Int)) then d.last i else d.at_ i

theorem mix_start {d : Dv} {D : DataW (List Int)} (h : Lo D d.loose) (i : Nat) : mix d (has D) i = d.last i := by
  unfold mix
  rw [h.has i]
  unfold Dv.at_
  cases d.loose i <;> rfl

theorem mix_step {d : Dv} {left : Lit → Bool} {i : Nat} (j : Nat) : mix d (fun z => left z && !z.sameKey (.int .i64 (i : Int))) j = if j = i then d.at_ i else mix d left j := by
  unfold mix
  by_cases e : j = i
  · subst e; simp [Lit.sameKey]
  · have : (Lit.int .i64 (j : Int)).sameKey (.int .i64 (i : Int)) = false := by simp [Lit.sameKey]; omega
    simp [this, e]

theorem mix_sec {d : Dv} (ok : d.Ok) (left : Lit → Bool) {i : Nat} (hi : i < d.n) : Sec (mix d left i) := by
  unfold mix
  split
  · exact ok.sec i hi
  · exact ok.at_ hi

/-- What a Flush leaves but for its count. -/
def Dv.still (d : Dv) : Dv := { d with last := d.at_, loose := fun _ => none }

theorem DevIn.still {w wr : World} {g bl bm : Nat} {d : Dv} {cap : Nat} {D : DataW (List Int)} {fu : Bool} {le : Int} {cur : Array Value} (h : DevIn w g bl bm d cap D fu le cur) (hb : But (· = bl) w wr) (hr : RowAt wr bl d.n cap d.at_) :
    DevAt ((wr.setCell ⟨g, 1, none⟩ (.map (some wr.heap.size))).alloc (.map #[] 0)) g bl wr.heap.size d.still ∧ But (fun k => k = g ∨ k = bl) w ((wr.setCell ⟨g, 1, none⟩ (.map (some wr.heap.size))).alloc (.map #[] 0)) := by
  have hap := DevAt.apart ⟨cap, D, fu, le, cur, h⟩
  have hgw := blk_lt h.me
  have hs := hb.size
  have hsz : (wr.setCell ⟨g, 1, none⟩ (.map (some wr.heap.size))).heap.size = wr.heap.size := by simp [World.setCell]
  have hB : But (fun k => k = g) wr ((wr.setCell ⟨g, 1, none⟩ (.map (some wr.heap.size))).alloc (.map #[] 0)) := ((But.refl _ wr).me _ _).alloc _
  have hme : wr.heap[g]? = some (.cells #[.slice (some ⟨bl, 0, none⟩) d.n cap, .map (some bm), .int .i64 (d.calls : Int), .bool fu, .int .i64 le] 61 (0, 0)) := by
    rw [hb.block g hgw hap.1, h.me]
  have hr' := hr.but hB (fun e => hap.1 e.symm)
  obtain ⟨cur', hc', hz'⟩ := hr'.cur
  refine ⟨⟨cap, .map [], fu, le, cur', ?_, h.fuse, hc', hr'.room, hr'.big, hz', hr'.last, ?_, Lo.none, ⟨h.ok.pos, h.ok.most, fun i hi => h.ok.at_ hi, fun i s e => (by cases e), h.ok.few, h.ok.fu⟩⟩, (hb.mono fun k _ e => .inr e).trans (hB.mono fun k _ e => .inl e)⟩
  · rw [Below.heap_alloc _ _ g (by omega), heap_setCell_same hme]; rfl
  · have := (World.ownsMap_made (wr.setCell ⟨g, 1, none⟩ (.map (some wr.heap.size))) Tryd.prog 3 rd64).mono (Nat.zero_le d.n)
    rw [hsz] at this
    exact this

theorem But.grownNew {S : Nat → Prop} {w a b : World} {r : Nat} (h : But S w a) (hg : a.grownBy b (some r)) (hr : w.heap.size ≤ r) : But S w b :=
  ⟨hg.os.trans h.os, hg.tape.trans h.tape, hg.output.trans h.output, Nat.le_trans h.size hg.size, fun k hk hs => (hg.block k (Nat.lt_of_lt_of_le hk h.size) (fun e => by cases e; omega)).trans (h.block k hk hs)⟩

theorem But.butNew {S S' : Nat → Prop} {w a b : World} (h : But S w a) (hb : But S' a b) (hs : ∀ k, S' k → w.heap.size ≤ k ∨ S k) : But S w b :=
  ⟨hb.os.trans h.os, hb.tape.trans h.tape, hb.output.trans h.output, Nat.le_trans h.size hb.size, fun k hk hn => (hb.block k (Nat.lt_of_lt_of_le hk h.size) (fun e => by rcases hs k e with h1 | h1; omega; exact hn h1)).trans (h.block k hk hn)⟩

theorem invK (key : Value) (kl : Lit) (h : keyOf Tryd.prog 3 key = some kl) : ∃ x, key = Value.int .i64 x := by
  obtain ⟨x, e, _⟩ := Maps.keyOf_i64 Tryd.underlying3 h
  exact ⟨x, e⟩

theorem invV (v : Value) (y : DataW (List Int) × List MemPlace) (h : rd64 v = some y) : ∃ s, v = Value.agg (cs s) := by
  obtain ⟨s, _, e, _⟩ := rd64_inv h
  exact ⟨s, e⟩

/-- What the range gives is one of the loose ones. -/
theorem entry_is {D : DataW (List Int)} {f : Nat → Option (List Int)} (hl : Lo D f) {x : Int} {c : List Int} {kl : Lit} {y : DataW (List Int) × List MemPlace} (hkey : keyOf Tryd.prog 3 (.int .i64 x) = some kl) (hv : rd64 (.agg (cs c)) = some y) (hat : ∀ zd, D.atKey kl zd = y.1) :
    ∃ i : Nat, x = (i : Int) ∧ kl = .int .i64 (i : Int) ∧ f i = some c ∧ Sec c := by
  obtain ⟨x', ex, rfl, -⟩ := Maps.keyOf_i64 Tryd.underlying3 hkey
  cases ex
  have hh := has_true_of_atKey hat
  obtain ⟨i, e⟩ := hl.key _ hh
  simp only [Lit.int.injEq, true_and] at e
  subst e
  rw [hl.has i] at hh
  obtain ⟨s, hs⟩ := Option.isSome_iff_exists.1 hh
  obtain ⟨s', hs', e1, rfl⟩ := rd64_inv hv
  have e2 := cs_inj (Value.agg.inj e1)
  subst e2
  have e3 := hl.at_ i s hs (.held nought)
  rw [hat] at e3
  simp only [DataW.held.injEq] at e3
  exact ⟨i, rfl, rfl, by rw [hs, e3], hs'⟩

set_option maxHeartbeats 2000000 in
set_option maxRecDepth 100000 in
theorem flush_any {w : World} {g bl bm : Nat} {d : Dv} (h : DevAt w g bl bm d) (hd : d.dead = false) (hc : d.calls < 999999) :
    Calls Tryd.prog 33 #[.pointer (some ⟨g, 0, none⟩)] w fun e w' => e = .returned (.int .i64 0) ∧ ∃ bm', DevAt w' g bl bm' d.flush ∧ w.heap.size ≤ bm' ∧ But (fun k => k = g ∨ k = bl) w w' := by
  have HA := hide h
  have Hd := hide hd
  have hap := hide h.apart
  have hlts := hide h.lts
  obtain ⟨cap, D, fu, le, cur, h⟩ := h
  have c1 := h.cells.2.1
  have H := hide h
  have hmm := @run_makeMap Tryd.prog
  have hmost := h.ok.most
  clear h hd
  go_enter Tryd.func33, Tryd.ntmps33
  go_wp2_with (first
    | (with_reducible refine (dead_any HA.out).mono ?_; rintro e w ⟨rfl, rfl⟩; rw [Hd.out])
    | (at_range; refine wpList_range_own _ rfl _ 59 rfl 3 58 intKeyed Tryd.underlying59 _ bm d.n _ rfl H.out.map ?_; intro w0 hrg0 hg0 hs0))
  go_frame
  have hb0 : But (fun _ => False) w w0 := ⟨hg0.os, hg0.tape, hg0.output, hg0.size, fun k hk _ => hg0.block k hk (by simp)⟩
  go_loopw [3] (fun _ wr => ∃ (left : Lit → Bool) (cnt : Nat), Hid (wr.ranges Tryd.prog 3 rd64 bm w.heap.size d.n D left cnt) ∧ Hid (But (· = bl) w wr) ∧ Hid (RowAt wr bl d.n cap (mix d left)))
    (fun _ wr => wr.rangeLeft bm w.heap.size)
  case atStart => exact ⟨_, _, hrg0, hb0.mono (fun _ _ e => e.elim), (H.out.rowAt.but hb0 id).congr fun i _ => mix_start H.out.lo i⟩
  case round =>
    obtain ⟨left, cnt, hrg, hbw, hrow⟩ := hrel
    clear hrg0 hg0 hs0 hb0 c1
    go_wp2_with (first
      | (at_next; refine wpList_next_ranges _ rfl _ rfl 3 intKeyed rd64 (Value.int .i64) (fun s => .agg (cs s)) invK invV bm w.heap.size d.n _ _ _ rfl hrg.out ?_ ?_))
    · intro _ hl0
      have Hl := hide (hrow.out.congr (f' := d.at_) fun i _ => by simp [mix, hl0])
      have HN := hide (H.out.still hbw.out Hl.out)
      have c1 : wr.cell? ⟨g, 1, none⟩ = some (.map (some bm)) := by rw [hbw.out.cell (p := ⟨g, 1, none⟩) hlts.out.1 hap.out.1]; exact H.out.cells.2.1
      have f1 : wr.frozen? ⟨g, 1, none⟩ = false := by rw [hbw.out.frozen (p := ⟨g, 1, none⟩) hlts.out.1 hap.out.1]; exact frozen_blk 1 H.out.me
      have hgs : g < wr.heap.size := Nat.lt_of_lt_of_le hlts.out.1 hbw.out.size
      have Hc : Hid (d.still.calls < 999999) := hc
      have HD : Hid (d.still.dead = false) := Hd.out
      clear hl0
      go_wp2_with (first
        | (refine (count_any HN.out.1 Hc.out HD.out).mono ?_; rintro e W6 ⟨rfl, h6, hb6⟩))
      go_ret
      exact ⟨rfl, _, h6, hbw.out.size, HN.out.2.trans (hb6.mono fun k _ e => .inl e)⟩
    · intro x c kl yd yp w1 cnt1 hkey hlk hv hat hrg1 hlt hg1 hs1 hen
      obtain ⟨i, rfl, rfl, hfi, hcs⟩ := entry_is H.out.lo hkey hv hat
      have hi := (H.out.ok.los i c hfi).1
      have hwr := hbw.out.size
      have hbl : bl < w.heap.size := hlts.out.2.1
      have hbw1 := hide (hbw.out.grownNew hg1 (Nat.le_refl _))
      have hrow1 : Hid (RowAt w1 bl d.n cap (mix d left)) := hrow.out.but (S := (· = w.heap.size)) ⟨hg1.os, hg1.tape, hg1.output, hg1.size, fun k hk hn => hg1.block k hk (fun e => hn (by cases e; rfl))⟩ (by omega)
      have Hs1 := hide hs1
      have Hg1 := hide hg1
      have Hrg1 := hide hrg1
      have Hlt := hide hlt
      clear hkey hv hat hs1 hg1 hrg1 hlt hwr hbl
      go_wp2_with (first
        | (refine wpList_alloc64 4 rfl rfl rfl ?_; intro W2 hB2 hX2)
        | (refine wpList_store64 (.tmp 4) (.tmp 16) rfl rfl _ c nought rfl rfl hX2 sec_nought hcs ?_; intro W3 hb3 hs3 hX3))
      go_frame
      have hwr := hbw.out.size
      have hs1 := Hs1.out
      have hbl : bl < w.heap.size := hlts.out.2.1
      have hgl : g < w.heap.size := hlts.out.1
      have hap1 : g ≠ bl := hap.out.1
      have hB12 := hB2.size
      have hbw3 : But (· = bl) w W3 := (hbw1.out.trans (But.of hB2)).butNew hb3 (fun k e => .inl (by omega))
      have hrow3 : RowAt W3 bl d.n cap (mix d left) := (hrow1.out.but (S := fun _ => False) (.of hB2) id).but hb3 (by omega)
      have hrg3 : W3.ranges Tryd.prog 3 rd64 bm w.heap.size d.n D _ cnt1 := Hrg1.out.kept (row := some w1.heap.size) ⟨hb3.os.trans hB2.os, hb3.tape.trans hB2.tape, hb3.output.trans hB2.output, Nat.le_trans hB2.size hb3.size, fun k hk hn => (hb3.block k (by omega) (fun e => hn (by rw [e]))).trans (hB2.block k hk)⟩ (fun e => by have := hlts.out.2.2; have := Option.some.inj e; omega) (fun e => by have := hrg.out.lt; have := Option.some.inj e; omega)
      have hne : ∀ W, But (· = bl) W3 W → W.cell? ⟨g, 0, none⟩ = some (.slice (some ⟨bl, 0, none⟩) d.n cap) ∧ Box W w1.heap.size c := fun W hW =>
        ⟨by rw [hW.cell (p := ⟨g, 0, none⟩) (by show g < _; have := hbw3.size; omega) hap1, hbw3.cell (p := ⟨g, 0, none⟩) hgl hap1]; exact H.out.cells.1, hX3.but hW (by omega)⟩
      refine wp_region_noPanic ?_
      refine wp_region_held_drew (S := fun W => But (· = bl) W3 W) (by kernel_rfl) ?_ (fun hHeld => ?_)
      · exact (But.refl _ _).drew
      refine wpAnyH_take (i := 0) (v := ?_) rfl (by kernel_rfl) (by kernel_rfl) (by kernel_rfl) (fun _ _ _ h => h) (Or.inl ⟨by kernel_rfl, ?_⟩) hHeld ?_
      rotate_left
      · intro W hW; go_simp; first | done | with_reducible rfl
      try simp only [Act.put, List.getElem_toArray, List.getElem_cons_zero, List.setIfInBounds_toArray, List.set_cons_succ, List.set_cons_zero]
      refine wpAnyH_take (i := 1) (v := ?_) rfl (by kernel_rfl) (by kernel_rfl) (by kernel_rfl) (fun _ _ _ h => h) (Or.inl ⟨by kernel_rfl, ?_⟩) hHeld ?_
      rotate_left
      · intro W hW; go_simp; first | done | with_reducible rfl
      try simp only [Act.put, List.getElem_toArray, List.getElem_cons_zero, List.getElem_cons_succ, List.setIfInBounds_toArray, List.set_cons_succ, List.set_cons_zero]
      refine wpAnyH_take (i := 2) (v := ?_) rfl (by kernel_rfl) (by kernel_rfl) (by kernel_rfl) (fun _ _ _ h => h) (Or.inl ⟨by kernel_rfl, ?_⟩) hHeld ?_
      rotate_left
      · intro W hW; go_simp; first | done | with_reducible rfl
      try simp only [Act.put, List.getElem_toArray, List.getElem_cons_zero, List.getElem_cons_succ, List.setIfInBounds_toArray, List.set_cons_succ, List.set_cons_zero]
      refine wpAnyH_take (i := 3) (v := .slice (some ⟨bl, 0, none⟩) d.n cap) rfl (by kernel_rfl) (by kernel_rfl) (by kernel_rfl) (fun _ _ _ h => h) (Or.inl ⟨by kernel_rfl, ?_⟩) hHeld ?_
      · intro W hW; obtain ⟨c1, -⟩ := hne W hW; go_simp
      try simp only [Act.put, List.getElem_toArray, List.getElem_cons_zero, List.getElem_cons_succ, List.setIfInBounds_toArray, List.set_cons_succ, List.set_cons_zero]
      refine wpAnyH_take (i := 4) (v := ?_) rfl (by kernel_rfl) (by kernel_rfl) (by kernel_rfl) (fun _ _ _ h => h) (Or.inl ⟨by kernel_rfl, ?_⟩) hHeld ?_
      rotate_left
      · intro W hW; go_simp; first | done | with_reducible rfl
      try simp only [Act.put, List.getElem_toArray, List.getElem_cons_zero, List.getElem_cons_succ, List.setIfInBounds_toArray, List.set_cons_succ, List.set_cons_zero]
      refine wpAnyH_take (i := 5) (v := .agg (cs c)) rfl (by kernel_rfl) (by kernel_rfl) (by kernel_rfl) (fun _ _ _ h => h) (yieldsIf_load_mid (by kernel_rfl) 58 (.tmp 4) rfl _ 0 rfl (bv c) _ (fun W hW => (hne W hW).2.range) Tryd.underlying58 rfl (by rw [size64, bv_len, hcs.1])) hHeld ?_
      try simp only [Act.put, List.getElem_toArray, List.getElem_cons_zero, List.getElem_cons_succ, List.setIfInBounds_toArray, List.set_cons_succ, List.set_cons_zero]
      refine wpAnyH_take (i := 6) (v := .pointer (some ⟨bl, i * 64, none⟩)) rfl (by kernel_rfl) (by kernel_rfl) (by kernel_rfl) (fun _ _ _ h => h) (Or.inl ⟨by kernel_rfl, ?_⟩) hHeld ?_
      · intro W hW; go_simp
      try simp only [Act.put, List.getElem_toArray, List.getElem_cons_zero, List.getElem_cons_succ, List.setIfInBounds_toArray, List.set_cons_succ, List.set_cons_zero]
      refine wpAnyH_ready (rs := [7]) (by kernel_rfl) (by simp) ?_
      refine AllReadyH.cons (o := _) rfl (fun K hK => ?_) AllReadyH.nil
      rw [if_pos (by kernel_rfl)]
      have hth : W3.drew.there bl (i * 64) (cs c).size := by rw [cs_size hcs]; exact hrow3.there hi
      refine wp_store_mid 58 (.tmp 23) (.tmp 22) rfl bl (i * 64) (cs c) (by kernel_rfl) (by kernel_rfl) hth (by rw [size64, cs_size hcs]) (cs_one c) ?_
      rw [cs_list]
      have hb5 : But (· = bl) W3 (W3.drew.setCells bl (i * 64) (bv c)) := But.cells (S := (· = bl)) rfl _ _ _ _ (But.refl _ _).drew
      have hrow5 : RowAt (W3.drew.setCells bl (i * 64) (bv c)) bl d.n cap _ := RowAt.store (w := W3.drew) (hrow3.but (S := fun _ => False) (But.refl _ _).drew id) (fun j hj => (mix_sec H.out.ok left hj).1) hi hcs
      have hrg5 : (W3.drew.setCells bl (i * 64) (bv c)).ranges Tryd.prog 3 rd64 bm w.heap.size d.n D _ cnt1 := hrg3.kept (row := some bl) ⟨hb5.os, hb5.tape, hb5.output, hb5.size, fun k hk hn => hb5.block k hk (fun e => hn (by rw [e]))⟩ (fun e => hap.out.2.2 (Option.some.inj e).symm) (fun e => by have := Option.some.inj e; omega)
      generalize W3.drew.setCells bl (i * 64) (bv c) = W5 at hb5 hrow5 hrg5 ⊢
      refine hK.out _ _ hb5 (fun hHeld => ?_)
      clear hK K
      refine wpAnyH_done (by kernel_rfl) ?_ _
      refine NoPanic.normal ?_
      try simp only [Act.put, List.getElem_toArray, List.getElem_cons_zero, List.getElem_cons_succ]
      go_wp2_with fail
      go_roundw
      case rel => exact ⟨_, cnt1, hrg5, hbw3.trans hb5, hrow5.congr fun j _ => by rw [mix_step j]; simp [Dv.at_, hfi]⟩
      case measure => rw [hrg5.left_eq, hrg.out.left_eq]; exact Hlt.out

theorem flush_dead {w : World} {g bl bm : Nat} {d : Dv} (h : DevAt w g bl bm d) (hd : d.dead = true) :
    Calls Tryd.prog 33 #[.pointer (some ⟨g, 0, none⟩)] w fun e w' => e = .returned (.int .i64 5) ∧ w' = w := by
  have H := hide h
  have Hd := hide hd
  clear h hd
  go_enter Tryd.func33, Tryd.ntmps33
  go_wp2_with (first
    | (with_reducible refine (dead_any H.out).mono ?_; rintro e w ⟨rfl, rfl⟩; rw [Hd.out]))
  go_ret
  exact ⟨rfl, rfl⟩

theorem flush_nil (w : World) : Calls Tryd.prog 33 #[.pointer none] w fun e w' => e = .returned (.int .i64 5) ∧ w' = w := by
  go_enter Tryd.func33, Tryd.ntmps33
  go_wp2_with (first
    | (with_reducible refine (dead_nil _).mono ?_; rintro e w ⟨rfl, rfl⟩))
  go_ret
  exact ⟨rfl, rfl⟩

end Go.Proofs.YtiaicpdbobgkoaaDoor
