/-
  Contract of package dev: Flush.
-/
import Derived.Test.YtmaahgoeblhoaaaDevT
import Derived.Test.YtmaahgoeblhoaaaDevN
namespace Go.Proofs.Ytmaahgoeblhoaaa
open Go.RowKit Go.Maps

theorem setCells_block {b : Nat} {t : TypeId} {fr : Nat × Nat} : ∀ (vs : List Value) (o : Nat) (w : World) (c : Array Value), w.heap[b]? = some (.cells c t fr) → ∃ c', (w.setCells b o vs).heap[b]? = some (.cells c' t fr) ∧ c'.size = c.size
  | [], _, _, c, h => ⟨c, h, rfl⟩
  | v :: r, o, w, c, h => by
    obtain ⟨c', h1, h2⟩ := setCells_block r (o + 1) (w.setCell ⟨b, o, none⟩ v) _ (heap_setCell_same h v)
    exact ⟨c', by rw [World.setCells]; exact h1, by simpa using h2⟩

theorem But.cells {S : Nat → Prop} {b : Nat} (hs : S b) : ∀ (vs : List Value) (o : Nat) (a w : World), But S a w → But S a (w.setCells b o vs)
  | [], _, _, _, h => h
  | v :: r, o, a, w, h => by
    rw [World.setCells]
    exact But.cells hs r (o + 1) a _ (h.setCell (.inl hs) v)

theorem RowAt.there {w : World} {bl n cap : Nat} {f : Nat → List Int} (h : RowAt w bl n cap f) {i : Nat} (hi : i < n) : w.there bl (i * 64) 64 := fun j hj => by
  obtain ⟨cur, hc, hz⟩ := h.cur
  have hle : (i + 1) * 64 ≤ cap * 64 := Nat.mul_le_mul_right _ (Nat.le_trans hi h.room)
  have hk : i * 64 + j < cur.size := by omega
  exact ⟨by rw [cell_blk hc (Array.getElem?_eq_getElem hk)]; rfl, frozen_blk _ hc⟩

/-- 'l[i] = s'. -/
theorem RowAt.store {w : World} {bl n cap : Nat} {f : Nat → List Int} (h : RowAt w bl n cap f) (hf : ∀ i, i < n → (f i).length = 64) {i : Nat} (hi : i < n) {s : List Int} (hs : Sec s) : RowAt (w.setCells bl (i * 64) (bv s)) bl n cap fun j => if j = i then s else f j := by
  obtain ⟨cur, hc, hz⟩ := h.cur
  obtain ⟨c', h1, h2⟩ := setCells_block (bv s) (i * 64) w cur hc
  refine ⟨⟨c', h1, by rw [h2, hz]⟩, h.room, h.big, fun j hj => ?_⟩
  by_cases e : j = i
  · subst e
    simp only [if_true]
    exact World.rangeAt_setCells_same _ _ _ _ (by rw [bv_len, hs.1]; exact h.there hi)
  · simp only [e, if_false]
    refine World.rangeAt_setCells_apart (h.last j hj) _ _ _ (.inr ?_)
    rw [bv_len, bv_len, hs.1, hf j hj]
    rcases Nat.lt_or_ge j i with hl | hl
    · have : (j + 1) * 64 ≤ i * 64 := Nat.mul_le_mul_right _ hl
      omega
    · have : (i + 1) * 64 ≤ j * 64 := Nat.mul_le_mul_right _ (by omega)
      omega

theorem RowAt.congr {w : World} {bl n cap : Nat} {f f' : Nat → List Int} (h : RowAt w bl n cap f) (he : ∀ i, i < n → f' i = f i) : RowAt w bl n cap f' :=
  ⟨h.cur, h.room, h.big, fun i hi => by rw [he i hi]; exact h.last i hi⟩

theorem DevIn.rowAt {w : World} {g bl bm : Nat} {d : Dv} {cap : Nat} {D : DataW (List Int)} {fu : Bool} {le : Int} {cur : Array Value} (h : DevIn w g bl bm d cap D fu le cur) : RowAt w bl d.n cap d.last := ⟨⟨cur, h.row, h.size⟩, h.room, h.big, h.last⟩

/-- Halfway: those that are still to come are as they were. -/
def mix (d : Dv) (left : Lit → Bool) (i : Nat) : List Int := if left (.int .i64 (i : Int)) then d.last i else d.at_ i

theorem mix_start {d : Dv} {D : DataW (List Int)} (h : Lo D d.loose) (i : Nat) : mix d (has D) i = d.last i := by
  unfold mix
  rw [h.has i]
  unfold Dv.at_
  cases d.loose i <;> rfl

theorem mix_step {d : Dv} {left : Lit → Bool} {i : Nat} (j : Nat) : mix d (fun z => left z && !z.sameKey (.int .i64 (i : Int))) j = if j = i then d.at_ i else mix d left j := by
  unfold mix
  by_cases e : j = i
  · subst e; simp [Lit.sameKey]
  · have : (Lit.int .i64 (j : Int)).sameKey (.int .i64 (i : Int)) = false := by simp [Lit.sameKey]; omega
    simp [this, e]

theorem mix_sec {d : Dv} (ok : d.Ok) (left : Lit → Bool) {i : Nat} (hi : i < d.n) : Sec (mix d left i) := by
  unfold mix
  split
  · exact ok.sec i hi
  · exact ok.at_ hi

/-- What a Flush leaves but for its count. -/
def Dv.still (d : Dv) : Dv := { d with last := d.at_, loose := fun _ => none }

theorem DevIn.still {w wr : World} {g bl bm : Nat} {d : Dv} {cap : Nat} {D : DataW (List Int)} {fu : Bool} {le : Int} {cur : Array Value} (h : DevIn w g bl bm d cap D fu le cur) (hb : But (· = bl) w wr) (hr : RowAt wr bl d.n cap d.at_) :
    DevAt ((wr.setCell ⟨g, 1, none⟩ (.map (some wr.heap.size))).alloc (.map #[] 0)) g bl wr.heap.size d.still ∧ But (fun k => k = g ∨ k = bl) w ((wr.setCell ⟨g, 1, none⟩ (.map (some wr.heap.size))).alloc (.map #[] 0)) := by
  have hap := DevAt.apart ⟨cap, D, fu, le, cur, h⟩
  have hgw := blk_lt h.me
  have hs := hb.size
  have hsz : (wr.setCell ⟨g, 1, none⟩ (.map (some wr.heap.size))).heap.size = wr.heap.size := by simp [World.setCell]
  have hB : But (fun k => k = g) wr ((wr.setCell ⟨g, 1, none⟩ (.map (some wr.heap.size))).alloc (.map #[] 0)) := ((But.refl _ wr).me _ _).alloc _
  have hme : wr.heap[g]? = some (.cells #[.slice (some ⟨bl, 0, none⟩) d.n cap, .map (some bm), .int .i64 (d.calls : Int), .bool fu, .int .i64 le] 50 (0, 0)) := by
    rw [hb.block g hgw hap.1, h.me]
  have hr' := hr.but hB (fun e => hap.1 e.symm)
  obtain ⟨cur', hc', hz'⟩ := hr'.cur
  refine ⟨⟨cap, .map [], fu, le, cur', ?_, h.fuse, hc', hr'.room, hr'.big, hz', hr'.last, ?_, Lo.none, ⟨h.ok.pos, h.ok.most, fun i hi => h.ok.at_ hi, fun i s e => (by cases e), h.ok.few, h.ok.fu⟩⟩, (hb.mono fun k _ e => .inr e).trans (hB.mono fun k _ e => .inl e)⟩
  · rw [Below.heap_alloc _ _ g (by omega), heap_setCell_same hme]; rfl
  · have := (World.ownsMap_made (wr.setCell ⟨g, 1, none⟩ (.map (some wr.heap.size))) Try.prog 3 rd64).mono (Nat.zero_le d.n)
    rw [hsz] at this
    exact this

theorem But.grownNew {S : Nat → Prop} {w a b : World} {r : Nat} (h : But S w a) (hg : a.grownBy b (some r)) (hr : w.heap.size ≤ r) : But S w b :=
  ⟨hg.os.trans h.os, hg.tape.trans h.tape, hg.output.trans h.output, Nat.le_trans h.size hg.size, fun k hk hs => (hg.block k (Nat.lt_of_lt_of_le hk h.size) (fun e => by cases e; omega)).trans (h.block k hk hs)⟩

theorem But.butNew {S S' : Nat → Prop} {w a b : World} (h : But S w a) (hb : But S' a b) (hs : ∀ k, S' k → w.heap.size ≤ k ∨ S k) : But S w b :=
  ⟨hb.os.trans h.os, hb.tape.trans h.tape, hb.output.trans h.output, Nat.le_trans h.size hb.size, fun k hk hn => (hb.block k (Nat.lt_of_lt_of_le hk h.size) (fun e => by rcases hs k e with h1 | h1; omega; exact hn h1)).trans (h.block k hk hn)⟩

theorem invK (key : Value) (kl : Lit) (h : keyOf Try.prog 3 key = some kl) : ∃ x, key = Value.int .i64 x := by
  obtain ⟨x, e, _⟩ := Maps.keyOf_i64 Try.underlying3 h
  exact ⟨x, e⟩

theorem invV (v : Value) (y : DataW (List Int) × List MemPlace) (h : rd64 v = some y) : ∃ s, v = Value.agg (cs s) := by
  obtain ⟨s, _, e, _⟩ := rd64_inv h
  exact ⟨s, e⟩

/-- What the range gives is one of the loose ones. -/
theorem entry_is {D : DataW (List Int)} {f : Nat → Option (List Int)} (hl : Lo D f) {x : Int} {c : List Int} {kl : Lit} {y : DataW (List Int) × List MemPlace} (hkey : keyOf Try.prog 3 (.int .i64 x) = some kl) (hv : rd64 (.agg (cs c)) = some y) (hat : ∀ zd, D.atKey kl zd = y.1) :
    ∃ i : Nat, x = (i : Int) ∧ kl = .int .i64 (i : Int) ∧ f i = some c ∧ Sec c := by
  obtain ⟨x', ex, rfl, -⟩ := Maps.keyOf_i64 Try.underlying3 hkey
  cases ex
  have hh := has_true_of_atKey hat
  obtain ⟨i, e⟩ := hl.key _ hh
  simp only [Lit.int.injEq, true_and] at e
  subst e
  rw [hl.has i] at hh
  obtain ⟨s, hs⟩ := Option.isSome_iff_exists.1 hh
  obtain ⟨s', hs', e1, rfl⟩ := rd64_inv hv
  have e2 := cs_inj (Value.agg.inj e1)
  subst e2
  have e3 := hl.at_ i s hs (.held nought)
  rw [hat] at e3
  simp only [DataW.held.injEq] at e3
  exact ⟨i, rfl, rfl, by rw [hs, e3], hs'⟩

end Go.Proofs.Ytmaahgoeblhoaaa
