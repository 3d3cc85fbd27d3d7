/-
  A device in the model's memory: its struct, its row of sectors, its map of loose ones.
-/
import Derived.Test.YtmaahgoeblhoaaaDevA
import Derived.Test.YtmaahgoeblhoaaaRw
import Derived.Test.YtmaahgoeblhoaaaProg
import Derived.Maps.RangeWalk
import Derived.Deep.MidRow
import Derived.Deep.WholeRow
import Derived.Lib.SlKeysI
namespace Go.Proofs.Ytmaahgoeblhoaaa
open Go.RowKit Go.Maps

theorem bv_inj {a b : List Int} (h : bv a = bv b) : a = b := by
  have hi : Function.Injective (Value.int .u8) := fun x y e => by cases e; rfl
  exact (List.map_inj_right (fun x y e => hi e)).1 h

/-- The cells of a sector. -/
def cs (s : List Int) : Array Value := (bv s).toArray

theorem cs_inj {a b : List Int} (h : cs a = cs b) : a = b := bv_inj (by simpa [cs] using h)
theorem cs_size {s : List Int} (h : Sec s) : (cs s).size = 64 := by simp [cs, bv_len, h.1]
theorem cs_one (s : List Int) : (cs s).all (·.oneCell') = true := all_oneCell_toArray (bv_one s)
theorem cs_list (s : List Int) : (cs s).toList = bv s := by simp [cs]

open Classical in
/-- How a sector reads that lies in the map. -/
noncomputable def rd64 (v : Value) : Option (DataW (List Int) × List MemPlace) := if h : ∃ s, Sec s ∧ v = .agg (cs s) then some (.held h.choose, []) else none

theorem rd64_mk {s : List Int} (hs : Sec s) : rd64 (.agg (cs s)) = some (.held s, []) := by
  have h : ∃ s', Sec s' ∧ Value.agg (cs s) = .agg (cs s') := ⟨s, hs, rfl⟩
  unfold rd64
  rw [dif_pos h]
  have e : s = h.choose := cs_inj (Value.agg.inj h.choose_spec.2)
  rw [← e]

theorem rd64_inv {v : Value} {y : DataW (List Int) × List MemPlace} (h : rd64 v = some y) : ∃ s, Sec s ∧ v = .agg (cs s) ∧ y = (.held s, []) := by
  unfold rd64 at h
  split at h
  · rename_i hs
    cases h
    exact ⟨_, hs.choose_spec.1, hs.choose_spec.2, rfl⟩
  · cases h

theorem intKeyed : Keyed Try.prog 3 := int_keyed Try.underlying3

theorem wf_i64 {z : Int} (h1 : -9223372036854775808 ≤ z) (h2 : z ≤ 9223372036854775807) : (Lit.int .i64 z).wf = true := WalkArith.wf_i64 (by omega)

theorem key_i64 {z : Int} (h1 : -9223372036854775808 ≤ z) (h2 : z ≤ 9223372036854775807) : keyOf Try.prog 3 (.int .i64 z) = some (.int .i64 z) := keyOf_int_mk Try.underlying3 (wf_i64 h1 h2)

/-- What the map tells is the loose ones. -/
structure Lo (D : DataW (List Int)) (f : Nat → Option (List Int)) : Prop where
  has : ∀ i : Nat, Maps.has D (.int .i64 (i : Int)) = (f i).isSome
  at_ : ∀ (i : Nat) s, f i = some s → ∀ zd, D.atKey (.int .i64 (i : Int)) zd = .held s
  key : ∀ kl, Maps.has D kl = true → ∃ i : Nat, kl = .int .i64 (i : Int)

theorem Lo.none : Lo (.map []) fun _ => none := ⟨fun _ => rfl, fun _ _ h => (by cases h), fun kl h => (by cases h)⟩

theorem Lo.put {D : DataW (List Int)} {f : Nat → Option (List Int)} (h : Lo D f) (hD : IsMap D) (i : Nat) (s : List Int) : Lo (D.put (.int .i64 (i : Int)) (.held s)) fun j => if j = i then some s else f j := by
  have hk : WideAt.IsKeyLit (.int .i64 (i : Int)) := trivial
  refine ⟨fun j => ?_, fun j s' hs zd => ?_, fun kl hkl => ?_⟩
  · by_cases e : j = i
    · subst e; rw [has_put_same hD hk]; simp
    · rw [has_put_other (by simp; omega), h.has j]; simp [e]
  · by_cases e : j = i
    · subst e; rw [atKey_put_same hD hk]; simp at hs; rw [hs]
    · rw [atKey_put_other (by simp; omega)]; simp [e] at hs; exact h.at_ j s' hs zd
  · by_cases e : kl = .int .i64 (i : Int)
    · exact ⟨i, e⟩
    · rw [has_put_other e] at hkl
      exact h.key kl hkl

theorem lo_perm {w : World} {b n : Nat} {D : DataW (List Int)} {d : Dv} (hown : w.ownsMap Try.prog 3 rd64 b n D) (hl : Lo D d.loose) (ok : d.Ok) : (d.los.map fun i : Nat => (i : Int)).Perm (intKeys D) := by
  obtain ⟨es, rfl, hp, -⟩ := hown.entries intKeyed
  have hk : ∀ p ∈ es, ∃ i : Nat, p.1 = .int .i64 (i : Int) := fun p hp' => hl.key p.1 (by
    rw [has_eq, List.any_eq_true]
    obtain ⟨es', hD', hko⟩ := hown.keysOf
    obtain rfl : es = es' := by simpa using hD'
    obtain ⟨v, hv⟩ := hko p hp'
    exact ⟨p, hp', WideAt.sameKey_self (intKeyed.key hv)⟩)
  refine perm_intKeys hp (fun p hp' => by obtain ⟨i, e⟩ := hk p hp'; exact ⟨_, e⟩) ?_ fun x => ?_
  · exact List.pairwise_map.2 ((Dv.los_nodup d).imp fun {a b} h e => h (by omega))
  · rw [List.mem_map]
    constructor
    · rintro ⟨i, hi, rfl⟩
      rw [hl.has i]
      exact (Dv.mem_los ok i).1 hi
    · intro hx
      obtain ⟨i, e⟩ := hl.key _ hx
      simp only [Lit.int.injEq, true_and] at e
      subst e
      rw [hl.has i] at hx
      exact ⟨i, (Dv.mem_los ok i).2 hx, rfl⟩

/-- The map holds no more than there are sectors. -/
theorem lo_size {w : World} {b n : Nat} {D : DataW (List Int)} {d : Dv} (hown : w.ownsMap Try.prog 3 rd64 b n D) (hl : Lo D d.loose) (ok : d.Ok) : w.ownsMap Try.prog 3 rd64 b d.n D := by
  have h1 := (lo_perm hown hl ok).length_eq
  obtain ⟨es, clock, hb, F, hs, hD⟩ := hown
  refine ⟨es, clock, hb, F, ?_, hD⟩
  have h2 : (intKeys D).length = es.size := by rw [hD]; simp [intKeys, length_sorted]
  have h3 := Dv.los_len d
  rw [h2] at h1
  simp at h1
  omega

/-- The fuse, as the struct keeps it. -/
def fuseIs (fu : Bool) (le : Int) : Option Nat → Prop
  | none => fu = false
  | some k => fu = true ∧ le = k

structure DevIn (w : World) (g bl bm : Nat) (d : Dv) (cap : Nat) (D : DataW (List Int)) (fu : Bool) (le : Int) (cur : Array Value) : Prop where
  me : w.heap[g]? = some (.cells #[.slice (some ⟨bl, 0, none⟩) d.n cap, .map (some bm), .int .i64 (d.calls : Int), .bool fu, .int .i64 le] 50 (0, 0))
  fuse : fuseIs fu le d.fuse
  row : w.heap[bl]? = some (.cells cur 46 (0, 0))
  room : d.n ≤ cap
  big : cap ≤ maxLen
  size : cur.size = cap * 64
  last : ∀ i, i < d.n → w.rangeAt bl (i * 64) (bv (d.last i))
  map : w.ownsMap Try.prog 3 rd64 bm d.n D
  lo : Lo D d.loose
  ok : d.Ok

/-- The struct at block g, its sectors at bl, its map at bm: the device d. -/
def DevAt (w : World) (g bl bm : Nat) (d : Dv) : Prop := ∃ cap D fu le cur, DevIn w g bl bm d cap D fu le cur

theorem DevAt.ok {w : World} {g bl bm : Nat} {d : Dv} (h : DevAt w g bl bm d) : d.Ok := by
  obtain ⟨_, _, _, _, _, h⟩ := h
  exact h.ok

theorem DevAt.lts {w : World} {g bl bm : Nat} {d : Dv} (h : DevAt w g bl bm d) : g < w.heap.size ∧ bl < w.heap.size ∧ bm < w.heap.size := by
  obtain ⟨_, _, _, _, _, h⟩ := h
  exact ⟨blk_lt h.me, blk_lt h.row, h.map.lt⟩

theorem DevAt.apart {w : World} {g bl bm : Nat} {d : Dv} (h : DevAt w g bl bm d) : g ≠ bl ∧ g ≠ bm ∧ bl ≠ bm := by
  obtain ⟨_, _, _, _, _, h⟩ := h
  obtain ⟨es, clock, hb, _⟩ := h.map
  refine ⟨fun e => ?_, fun e => ?_, fun e => ?_⟩
  · have := h.me; rw [e, h.row] at this; simp at this
  · have := h.me; rw [e, hb] at this; simp at this
  · have := h.row; rw [e, hb] at this; simp at this

theorem DevIn.but {w w' : World} {g bl bm : Nat} {d : Dv} {cap : Nat} {D : DataW (List Int)} {fu : Bool} {le : Int} {cur : Array Value} {S : Nat → Prop} (h : DevIn w g bl bm d cap D fu le cur) (hb : But S w w') (h1 : ¬ S g) (h2 : ¬ S bl) (h3 : ¬ S bm) : DevIn w' g bl bm d cap D fu le cur := by
  have l2 := blk_lt h.row
  refine ⟨by rw [hb.block g (blk_lt h.me) h1, h.me], h.fuse, by rw [hb.block bl l2 h2, h.row], h.room, h.big, h.size, fun i hi j v hv => ?_, ?_, h.lo, h.ok⟩
  · rw [hb.cell (p := ⟨bl, i * 64 + j, none⟩) l2 h2]
    exact h.last i hi j v hv
  · obtain ⟨es, clock, hm, r⟩ := h.map
    exact ⟨es, clock, by rw [hb.block bm (blk_lt hm) h3, hm], r⟩

theorem DevAt.but {w w' : World} {g bl bm : Nat} {d : Dv} {S : Nat → Prop} (h : DevAt w g bl bm d) (hb : But S w w') (h1 : ¬ S g) (h2 : ¬ S bl) (h3 : ¬ S bm) : DevAt w' g bl bm d := by
  obtain ⟨cap, D, fu, le, cur, h⟩ := h
  exact ⟨cap, D, fu, le, cur, h.but hb h1 h2 h3⟩

theorem DevAt.later {w w' : World} {g bl bm : Nat} {d : Dv} (h : DevAt w g bl bm d) (hb : Below w.heap.size w w') : DevAt w' g bl bm d := h.but (S := fun _ => False) (.of hb) id id id

/-- What the walk asks of the struct. -/
theorem DevIn.cells {w : World} {g bl bm : Nat} {d : Dv} {cap : Nat} {D : DataW (List Int)} {fu : Bool} {le : Int} {cur : Array Value} (h : DevIn w g bl bm d cap D fu le cur) :
    w.cell? ⟨g, 0, none⟩ = some (.slice (some ⟨bl, 0, none⟩) d.n cap) ∧ w.cell? ⟨g, 1, none⟩ = some (.map (some bm)) ∧ w.cell? ⟨g, 2, none⟩ = some (.int .i64 (d.calls : Int)) ∧ w.cell? ⟨g, 3, none⟩ = some (.bool fu) ∧ w.cell? ⟨g, 4, none⟩ = some (.int .i64 le) :=
  ⟨cell_blk h.me rfl, cell_blk h.me rfl, cell_blk h.me rfl, cell_blk h.me rfl, cell_blk h.me rfl⟩

theorem heap_setCell_same {w : World} {b k : Nat} {c : Array Value} {t : TypeId} {fr : Nat × Nat} (h : w.heap[b]? = some (.cells c t fr)) (v : Value) : (w.setCell ⟨b, k, none⟩ v).heap[b]? = some (.cells (c.setIfInBounds k v) t fr) := by
  simp [World.setCell, Array.getElem?_modify, h]

/-- A new one's fuse is none. -/
theorem dead_of {fu : Bool} {le : Int} {d : Dv} (h : fuseIs fu le d.fuse) : (fu && (le == 0)) = d.dead := by
  unfold Dv.dead
  cases hf : d.fuse with
  | none => rw [hf] at h; simp [fuseIs] at h; simp [h]
  | some k =>
    rw [hf] at h
    obtain ⟨rfl, rfl⟩ := h
    cases k with
    | zero => simp
    | succ m => simp; omega

end Go.Proofs.Ytmaahgoeblhoaaa
