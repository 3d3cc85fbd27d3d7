/-
  The law's own device (the document's) in the model's memory: three rows, two numbers.
-/
import Derived.Test.YtjgdbialapdggaaDevF
import Derived.Test.YtjgdbialapdggaaOrd
namespace Go.Proofs.Ytjgdbialapdggaa
open Go.RowKit Go.Maps

/-- A sector of the law's device: 64 bytes in a block of their own, none of F. -/
def Sx (w : World) (F : Nat → Prop) (v : Value) (s : List Int) : Prop :=
  ∃ b cap, v = .slice (some ⟨b, 0, none⟩) 64 cap ∧ 64 ≤ cap ∧ cap ≤ maxLen ∧ Sec s ∧ w.rangeAt b 0 (bv s) ∧ ¬ F b

theorem range_lt {w : World} {b : Nat} {s : List Int} (hs : Sec s) (h : w.rangeAt b 0 (bv s)) : b < w.heap.size := by
  have hl : 0 < (bv s).length := by rw [bv_len, hs.1]; omega
  have := h 0 _ (List.getElem?_eq_getElem hl)
  exact cell_lt this

theorem Sx.but {w w' : World} {F S : Nat → Prop} {v : Value} {s : List Int} (h : Sx w F v s) (hb : But S w w') (hs : ∀ b, S b → F b) : Sx w' F v s := by
  obtain ⟨b, cap, e, h1, h2, h3, h4, h5⟩ := h
  refine ⟨b, cap, e, h1, h2, h3, fun j u hu => ?_, h5⟩
  rw [hb.cell (p := ⟨b, 0 + j, none⟩) (range_lt h3 h4) (fun e => h5 (hs b e))]
  exact h4 j u hu

theorem Sx.turn {w : World} {F F' : Nat → Prop} {v : Value} {s : List Int} (h : Sx w F v s) (hF : ∀ b, b < w.heap.size → F' b → F b) : Sx w F' v s := by
  obtain ⟨b, cap, e, h1, h2, h3, h4, h5⟩ := h
  exact ⟨b, cap, e, h1, h2, h3, h4, fun e => h5 (hF b (range_lt h3 h4) e)⟩

theorem Sx.sl {w : World} {F : Nat → Prop} {v : Value} {s : List Int} (h : Sx w F v s) : Sl w v s := by
  obtain ⟨b, cap, rfl, h1, h2, h3, h4, -⟩ := h
  refine ⟨_, cap, by rw [h3.1], by rw [h3.1]; exact h1, h2, h3.2, fun i hi => ⟨b, 0, rfl, h4 i _ ?_⟩⟩
  rw [List.getElem?_eq_getElem (by rw [bv_len]; exact hi), getD_at hi]
  simp [bv]

theorem Sx.sec {w : World} {F : Nat → Prop} {v : Value} {s : List Int} (h : Sx w F v s) : Sec s := by
  obtain ⟨b, cap, -, -, -, h3, -⟩ := h
  exact h3

/-- A new one. -/
theorem Sx.own {w : World} {base : Nat} {F : Nat → Prop} {e : TypeId} {v : Value} {s : List Int} (h : w.ownsRow base e 1 v 64 (bv s)) (hs : Sec s) (hF : ∀ b, base ≤ b → b < w.heap.size → ¬ F b) : Sx w F v s := by
  have h' := h
  rcases h.2 with ⟨-, h0⟩ | ⟨g, cap, cur, rfl, hb, hh, h1, h2, h3, h4⟩
  · omega
  · refine ⟨g, cap, rfl, h1, h2, hs, fun j u hu => ?_, hF g hb (blk_lt hh)⟩
    have hj : j < 64 := by have := (List.getElem?_eq_some_iff.1 hu).1; rw [bv_len, hs.1] at this; exact this
    rw [Nat.zero_add, h'.cellAt j (by omega), hu]

structure RefIn (w : World) (q bn bs bo : Nat) (F : Nat → Prop) (n : Nat) (nw sf : Nat → List Int) (lo : Nat → Bool) (calls : Nat) (fu : Int) : Prop where
  me : ∃ cn cf co, w.heap[q]? = some (.cells #[.slice (some ⟨bn, 0, none⟩) n cn, .slice (some ⟨bs, 0, none⟩) n cf, .slice (some ⟨bo, 0, none⟩) n co, .int .i64 (calls : Int), .int .i64 fu] 30 (0, 0)) ∧ n ≤ cn ∧ n ≤ cf ∧ n ≤ co ∧ cn ≤ maxLen ∧ cf ≤ maxLen ∧ co ≤ maxLen
  bN : ∃ c, w.heap[bn]? = some (.cells c 31 (0, 0))
  bS : ∃ c, w.heap[bs]? = some (.cells c 31 (0, 0))
  bO : ∃ c, w.heap[bo]? = some (.cells c 4 (0, 0))
  now : ∀ i, i < n → ∃ v, w.cell? ⟨bn, i, none⟩ = some v ∧ Sx w F v (nw i)
  safe : ∀ i, i < n → ∃ v, w.cell? ⟨bs, i, none⟩ = some v ∧ Sx w F v (sf i)
  loo : ∀ i, i < n → w.cell? ⟨bo, i, none⟩ = some (.bool (lo i))
  ap : bn ≠ bs
  inF : F q ∧ F bn ∧ F bs ∧ F bo
  most : n ≤ 8
  few : calls < 1000000

section
variable {w w' : World} {q bn bs bo : Nat} {F : Nat → Prop} {n : Nat} {nw sf : Nat → List Int} {lo : Nat → Bool} {calls : Nat} {fu : Int}

theorem RefIn.lts (h : RefIn w q bn bs bo F n nw sf lo calls fu) : q < w.heap.size ∧ bn < w.heap.size ∧ bs < w.heap.size ∧ bo < w.heap.size := by
  obtain ⟨_, _, _, h1, _⟩ := h.me
  obtain ⟨_, h2⟩ := h.bN
  obtain ⟨_, h3⟩ := h.bS
  obtain ⟨_, h4⟩ := h.bO
  exact ⟨blk_lt h1, blk_lt h2, blk_lt h3, blk_lt h4⟩

theorem RefIn.apart (h : RefIn w q bn bs bo F n nw sf lo calls fu) : q ≠ bn ∧ q ≠ bs ∧ q ≠ bo ∧ bn ≠ bs ∧ bn ≠ bo ∧ bs ≠ bo := by
  obtain ⟨_, _, _, h1, _⟩ := h.me
  obtain ⟨_, h2⟩ := h.bN
  obtain ⟨_, h3⟩ := h.bS
  obtain ⟨_, h4⟩ := h.bO
  refine ⟨fun e => ?_, fun e => ?_, fun e => ?_, h.ap, fun e => ?_, fun e => ?_⟩
  · rw [e, h2] at h1; simp at h1
  · rw [e, h3] at h1; simp at h1
  · rw [e, h4] at h1; simp at h1
  · rw [e, h4] at h2; simp at h2
  · rw [e, h4] at h3; simp at h3

theorem RefIn.but {S : Nat → Prop} (h : RefIn w q bn bs bo F n nw sf lo calls fu) (hb : But S w w') (h1 : ¬ S q) (h2 : ¬ S bn) (h3 : ¬ S bs) (h4 : ¬ S bo) (hs : ∀ b, S b → F b) : RefIn w' q bn bs bo F n nw sf lo calls fu := by
  obtain ⟨l1, l2, l3, l4⟩ := h.lts
  obtain ⟨cn, cf, co, hm, r⟩ := h.me
  obtain ⟨c2, hN⟩ := h.bN
  obtain ⟨c3, hS⟩ := h.bS
  obtain ⟨c4, hO⟩ := h.bO
  refine ⟨⟨cn, cf, co, (hb.block q l1 h1).trans hm, r⟩, ⟨c2, (hb.block bn l2 h2).trans hN⟩, ⟨c3, (hb.block bs l3 h3).trans hS⟩, ⟨c4, (hb.block bo l4 h4).trans hO⟩, fun i hi => ?_, fun i hi => ?_, fun i hi => ?_, h.ap, h.inF, h.most, h.few⟩
  · obtain ⟨v, hv, hx⟩ := h.now i hi
    exact ⟨v, by rw [hb.cell (p := ⟨bn, i, none⟩) l2 h2, hv], hx.but hb hs⟩
  · obtain ⟨v, hv, hx⟩ := h.safe i hi
    exact ⟨v, by rw [hb.cell (p := ⟨bs, i, none⟩) l3 h3, hv], hx.but hb hs⟩
  · rw [hb.cell (p := ⟨bo, i, none⟩) l4 h4]; exact h.loo i hi

theorem RefIn.later (h : RefIn w q bn bs bo F n nw sf lo calls fu) (hb : Below w.heap.size w w') : RefIn w' q bn bs bo F n nw sf lo calls fu :=
  h.but (S := fun _ => False) (.of hb) id id id id (fun _ e => e.elim)

theorem RefIn.drew (h : RefIn w q bn bs bo F n nw sf lo calls fu) : RefIn w.drew q bn bs bo F n nw sf lo calls fu :=
  h.but (S := fun _ => False) (But.refl _ _).drew id id id id (fun _ e => e.elim)

theorem RefIn.turn {F' : Nat → Prop} (h : RefIn w q bn bs bo F n nw sf lo calls fu) (hF : ∀ b, b < w.heap.size → F' b → F b) (hi : F' q ∧ F' bn ∧ F' bs ∧ F' bo) : RefIn w q bn bs bo F' n nw sf lo calls fu := by
  refine ⟨h.me, h.bN, h.bS, h.bO, fun i hi => ?_, fun i hi => ?_, h.loo, h.ap, hi, h.most, h.few⟩
  · obtain ⟨v, hv, hx⟩ := h.now i hi
    exact ⟨v, hv, hx.turn hF⟩
  · obtain ⟨v, hv, hx⟩ := h.safe i hi
    exact ⟨v, hv, hx.turn hF⟩

theorem RefIn.congr {nw' sf' : Nat → List Int} {lo' : Nat → Bool} (h : RefIn w q bn bs bo F n nw sf lo calls fu) (h1 : ∀ i, i < n → nw' i = nw i) (h2 : ∀ i, i < n → sf' i = sf i) (h3 : ∀ i, i < n → lo' i = lo i) : RefIn w q bn bs bo F n nw' sf' lo' calls fu :=
  ⟨h.me, h.bN, h.bS, h.bO, fun i hi => by rw [h1 i hi]; exact h.now i hi, fun i hi => by rw [h2 i hi]; exact h.safe i hi, fun i hi => by rw [h3 i hi]; exact h.loo i hi, h.ap, h.inF, h.most, h.few⟩

theorem heap_setCell_ne {w : World} {a : Addr} {b : Nat} (h : b ≠ a.block) (u : Value) : (w.setCell a u).heap[b]? = w.heap[b]? := Below.heap_setCell _ _ _ _ h

theorem But.one (w : World) (b k : Nat) (u : Value) : But (· = b) w (w.setCell ⟨b, k, none⟩ u) := (But.refl (· = b) w).me k u

/-- 'now[i] = v'. -/
theorem RefIn.setNow (h : RefIn w q bn bs bo F n nw sf lo calls fu) {i : Nat} (hi : i < n) {v : Value} {s : List Int} (hx : Sx w F v s) : RefIn (w.setCell ⟨bn, i, none⟩ v) q bn bs bo F n (fun j => if j = i then s else nw j) sf lo calls fu := by
  have hap := h.apart
  have hb := But.one w bn i v
  have hs : ∀ b, b = bn → F b := fun b e => e ▸ h.inF.2.1
  obtain ⟨l1, l2, l3, l4⟩ := h.lts
  obtain ⟨cn, cf, co, hm, r⟩ := h.me
  obtain ⟨c2, hN⟩ := h.bN
  obtain ⟨c3, hS⟩ := h.bS
  obtain ⟨c4, hO⟩ := h.bO
  refine ⟨⟨cn, cf, co, (heap_setCell_ne hap.1 v).trans hm, r⟩, ⟨_, heap_setCell_same hN v⟩, ⟨c3, (heap_setCell_ne (Ne.symm hap.2.2.2.1) v).trans hS⟩, ⟨c4, (heap_setCell_ne (Ne.symm hap.2.2.2.2.1) v).trans hO⟩, fun j hj => ?_, fun j hj => ?_, fun j hj => ?_, h.ap, h.inF, h.most, h.few⟩
  · by_cases e : j = i
    · subst e
      obtain ⟨u, hu, -⟩ := h.now j hj
      exact ⟨v, World.cell?_setCell_same _ _ _ hu, by simp only [if_true]; exact hx.but hb hs⟩
    · obtain ⟨u, hu, hux⟩ := h.now j hj
      exact ⟨u, by rw [World.cell?_setCell_other _ _ _ _ (by intro hh; cases hh; exact e rfl), hu], by simp only [e, if_false]; exact hux.but hb hs⟩
  · obtain ⟨u, hu, hux⟩ := h.safe j hj
    exact ⟨u, by rw [hb.cell (p := ⟨bs, j, none⟩) l3 (Ne.symm hap.2.2.2.1), hu], hux.but hb hs⟩
  · rw [hb.cell (p := ⟨bo, j, none⟩) l4 (Ne.symm hap.2.2.2.2.1)]; exact h.loo j hj

/-- 'safe[i] = v'. -/
theorem RefIn.setSafe (h : RefIn w q bn bs bo F n nw sf lo calls fu) {i : Nat} (hi : i < n) {v : Value} {s : List Int} (hx : Sx w F v s) : RefIn (w.setCell ⟨bs, i, none⟩ v) q bn bs bo F n nw (fun j => if j = i then s else sf j) lo calls fu := by
  have hap := h.apart
  have hb := But.one w bs i v
  have hs : ∀ b, b = bs → F b := fun b e => e ▸ h.inF.2.2.1
  obtain ⟨l1, l2, l3, l4⟩ := h.lts
  obtain ⟨cn, cf, co, hm, r⟩ := h.me
  obtain ⟨c2, hN⟩ := h.bN
  obtain ⟨c3, hS⟩ := h.bS
  obtain ⟨c4, hO⟩ := h.bO
  refine ⟨⟨cn, cf, co, (heap_setCell_ne hap.2.1 v).trans hm, r⟩, ⟨c2, (heap_setCell_ne hap.2.2.2.1 v).trans hN⟩, ⟨_, heap_setCell_same hS v⟩, ⟨c4, (heap_setCell_ne (Ne.symm hap.2.2.2.2.2) v).trans hO⟩, fun j hj => ?_, fun j hj => ?_, fun j hj => ?_, h.ap, h.inF, h.most, h.few⟩
  · obtain ⟨u, hu, hux⟩ := h.now j hj
    exact ⟨u, by rw [hb.cell (p := ⟨bn, j, none⟩) l2 hap.2.2.2.1, hu], hux.but hb hs⟩
  · by_cases e : j = i
    · subst e
      obtain ⟨u, hu, -⟩ := h.safe j hj
      exact ⟨v, World.cell?_setCell_same _ _ _ hu, by simp only [if_true]; exact hx.but hb hs⟩
    · obtain ⟨u, hu, hux⟩ := h.safe j hj
      exact ⟨u, by rw [World.cell?_setCell_other _ _ _ _ (by intro hh; cases hh; exact e rfl), hu], by simp only [e, if_false]; exact hux.but hb hs⟩
  · rw [hb.cell (p := ⟨bo, j, none⟩) l4 (Ne.symm hap.2.2.2.2.2)]; exact h.loo j hj

/-- 'loose[i] = b'. -/
theorem RefIn.setLoo (h : RefIn w q bn bs bo F n nw sf lo calls fu) {i : Nat} (hi : i < n) (b : Bool) : RefIn (w.setCell ⟨bo, i, none⟩ (.bool b)) q bn bs bo F n nw sf (fun j => if j = i then b else lo j) calls fu := by
  have hap := h.apart
  have hb := But.one w bo i (.bool b)
  have hs : ∀ b, b = bo → F b := fun b e => e ▸ h.inF.2.2.2
  obtain ⟨l1, l2, l3, l4⟩ := h.lts
  obtain ⟨cn, cf, co, hm, r⟩ := h.me
  obtain ⟨c2, hN⟩ := h.bN
  obtain ⟨c3, hS⟩ := h.bS
  obtain ⟨c4, hO⟩ := h.bO
  refine ⟨⟨cn, cf, co, (heap_setCell_ne hap.2.2.1 _).trans hm, r⟩, ⟨c2, (heap_setCell_ne hap.2.2.2.2.1 _).trans hN⟩, ⟨c3, (heap_setCell_ne hap.2.2.2.2.2 _).trans hS⟩, ⟨_, heap_setCell_same hO _⟩, fun j hj => ?_, fun j hj => ?_, fun j hj => ?_, h.ap, h.inF, h.most, h.few⟩
  · obtain ⟨u, hu, hux⟩ := h.now j hj
    exact ⟨u, by rw [hb.cell (p := ⟨bn, j, none⟩) l2 hap.2.2.2.2.1, hu], hux.but hb hs⟩
  · obtain ⟨u, hu, hux⟩ := h.safe j hj
    exact ⟨u, by rw [hb.cell (p := ⟨bs, j, none⟩) l3 hap.2.2.2.2.2, hu], hux.but hb hs⟩
  · by_cases e : j = i
    · subst e
      simp only [if_true]
      exact World.cell?_setCell_same _ _ _ (h.loo j hj)
    · simp only [e, if_false]
      rw [World.cell?_setCell_other _ _ _ _ (by intro hh; cases hh; exact e rfl)]
      exact h.loo j hj

/-- 'calls = c'. -/
theorem RefIn.setCalls (h : RefIn w q bn bs bo F n nw sf lo calls fu) (c : Nat) (hc : c < 1000000) : RefIn (w.setCell ⟨q, 3, none⟩ (.int .i64 (c : Int))) q bn bs bo F n nw sf lo c fu := by
  have hap := h.apart
  have hb := But.one w q 3 (.int .i64 (c : Int))
  have hs : ∀ b, b = q → F b := fun b e => e ▸ h.inF.1
  obtain ⟨l1, l2, l3, l4⟩ := h.lts
  obtain ⟨cn, cf, co, hm, r⟩ := h.me
  obtain ⟨c2, hN⟩ := h.bN
  obtain ⟨c3, hS⟩ := h.bS
  obtain ⟨c4, hO⟩ := h.bO
  refine ⟨⟨cn, cf, co, by rw [heap_setCell_same hm]; rfl, r⟩, ⟨c2, (heap_setCell_ne (Ne.symm hap.1) _).trans hN⟩, ⟨c3, (heap_setCell_ne (Ne.symm hap.2.1) _).trans hS⟩, ⟨c4, (heap_setCell_ne (Ne.symm hap.2.2.1) _).trans hO⟩, fun j hj => ?_, fun j hj => ?_, fun j hj => ?_, h.ap, h.inF, h.most, hc⟩
  · obtain ⟨u, hu, hux⟩ := h.now j hj
    exact ⟨u, by rw [hb.cell (p := ⟨bn, j, none⟩) l2 (Ne.symm hap.1), hu], hux.but hb hs⟩
  · obtain ⟨u, hu, hux⟩ := h.safe j hj
    exact ⟨u, by rw [hb.cell (p := ⟨bs, j, none⟩) l3 (Ne.symm hap.2.1), hu], hux.but hb hs⟩
  · rw [hb.cell (p := ⟨bo, j, none⟩) l4 (Ne.symm hap.2.2.1)]; exact h.loo j hj

/-- 'fuse = f'. -/
theorem RefIn.setFuse (h : RefIn w q bn bs bo F n nw sf lo calls fu) (f : Int) : RefIn (w.setCell ⟨q, 4, none⟩ (.int .i64 f)) q bn bs bo F n nw sf lo calls f := by
  have hap := h.apart
  have hb := But.one w q 4 (.int .i64 f)
  have hs : ∀ b, b = q → F b := fun b e => e ▸ h.inF.1
  obtain ⟨l1, l2, l3, l4⟩ := h.lts
  obtain ⟨cn, cf, co, hm, r⟩ := h.me
  obtain ⟨c2, hN⟩ := h.bN
  obtain ⟨c3, hS⟩ := h.bS
  obtain ⟨c4, hO⟩ := h.bO
  refine ⟨⟨cn, cf, co, by rw [heap_setCell_same hm]; rfl, r⟩, ⟨c2, (heap_setCell_ne (Ne.symm hap.1) _).trans hN⟩, ⟨c3, (heap_setCell_ne (Ne.symm hap.2.1) _).trans hS⟩, ⟨c4, (heap_setCell_ne (Ne.symm hap.2.2.1) _).trans hO⟩, fun j hj => ?_, fun j hj => ?_, fun j hj => ?_, h.ap, h.inF, h.most, h.few⟩
  · obtain ⟨u, hu, hux⟩ := h.now j hj
    exact ⟨u, by rw [hb.cell (p := ⟨bn, j, none⟩) l2 (Ne.symm hap.1), hu], hux.but hb hs⟩
  · obtain ⟨u, hu, hux⟩ := h.safe j hj
    exact ⟨u, by rw [hb.cell (p := ⟨bs, j, none⟩) l3 (Ne.symm hap.2.1), hu], hux.but hb hs⟩
  · rw [hb.cell (p := ⟨bo, j, none⟩) l4 (Ne.symm hap.2.2.1)]; exact h.loo j hj

/-- What the walk asks of the struct and the rows. -/
theorem RefIn.cells (h : RefIn w q bn bs bo F n nw sf lo calls fu) : ∃ cn cf co, w.cell? ⟨q, 0, none⟩ = some (.slice (some ⟨bn, 0, none⟩) n cn) ∧ w.cell? ⟨q, 1, none⟩ = some (.slice (some ⟨bs, 0, none⟩) n cf) ∧ w.cell? ⟨q, 2, none⟩ = some (.slice (some ⟨bo, 0, none⟩) n co) ∧ w.cell? ⟨q, 3, none⟩ = some (.int .i64 (calls : Int)) ∧ w.cell? ⟨q, 4, none⟩ = some (.int .i64 fu) ∧ n ≤ cn ∧ n ≤ cf ∧ n ≤ co ∧ cn ≤ 9223372036854775807 ∧ cf ≤ 9223372036854775807 ∧ co ≤ 9223372036854775807 := by
  obtain ⟨cn, cf, co, hm, h1, h2, h3, h4, h5, h6⟩ := h.me
  unfold maxLen at h4 h5 h6
  exact ⟨cn, cf, co, cell_blk hm rfl, cell_blk hm rfl, cell_blk hm rfl, cell_blk hm rfl, cell_blk hm rfl, h1, h2, h3, by omega, by omega, by omega⟩

theorem RefIn.free (h : RefIn w q bn bs bo F n nw sf lo calls fu) (k : Nat) : w.frozen? ⟨q, k, none⟩ = false ∧ w.frozen? ⟨bn, k, none⟩ = false ∧ w.frozen? ⟨bs, k, none⟩ = false ∧ w.frozen? ⟨bo, k, none⟩ = false := by
  obtain ⟨_, _, _, h1, _⟩ := h.me
  obtain ⟨_, h2⟩ := h.bN
  obtain ⟨_, h3⟩ := h.bS
  obtain ⟨_, h4⟩ := h.bO
  exact ⟨frozen_blk k h1, frozen_blk k h2, frozen_blk k h3, frozen_blk k h4⟩

end

/-- The fuse as the law keeps it. -/
def fz : Option Nat → Int
  | none => -1
  | some k => k

/-- The law's device is d. -/
def RefAt (w : World) (q bn bs bo : Nat) (F : Nat → Prop) (d : Dv) : Prop := RefIn w q bn bs bo F d.n d.at_ d.last (fun i => (d.loose i).isSome) d.calls (fz d.fuse)

end Go.Proofs.Ytjgdbialapdggaa
