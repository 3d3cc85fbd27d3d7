/-
  Pages, sheets and books of pages in memory, told as functions from a number to a page.
-/
import Derived.Test.YtiggannhanfolaaRows
import Derived.Test.YtiggannhanfolaaInf
import Derived.Test.YtiggannhanfolaaRw
import Derived.Deep.MidRow
namespace Go.Proofs.Ytiggannhanfolaa
set_option maxRecDepth 100000
set_option linter.unusedVariables false
open Go.RowKit
set_option linter.unusedVariables false

theorem heap_setCell_same {w : World} {b j : Nat} {c : Array Value} {t : TypeId} {v : Value} (h : w.heap[b]? = some (.cells c t (0, 0))) : (w.setCell ⟨b, j, none⟩ v).heap[b]? = some (.cells (c.setIfInBounds j v) t (0, 0)) := by
  simp [World.setCell, Array.getElem?_modify, h]

theorem Below.but {B : Nat} {w0 w w' : World} {S : Nat → Prop} (h : Below B w0 w) (hB : B ≤ w.heap.size) (hb : But S w w') (hs : ∀ k, S k → B ≤ k) : Below B w0 w' := h.trans (hb.below hB fun k hk e => by have := hs k e; omega)

/-- A page: 256 bytes. -/
def Pg (zs : List Int) : Prop := zs.length = 256 ∧ ∀ z ∈ zs, 0 ≤ z ∧ z ≤ 255

/-- 256 noughts. -/
def zer : List Int := List.replicate 256 0
theorem zer_len : zer.length = 256 := List.length_replicate
theorem zer_bd : ∀ z ∈ zer, 0 ≤ z ∧ z ≤ 255 := fun z hz => by have := (List.mem_replicate.1 hz).2; omega
theorem zer_pg : Pg zer := ⟨zer_len, zer_bd⟩

/-- A page of some bytes. -/
def pad (zs : List Int) : List Int := zs.take 256 ++ zer.drop zs.length
theorem pad_len (zs : List Int) : (pad zs).length = 256 := by rw [pad, List.length_append, List.length_take, List.length_drop, zer_len]; omega
theorem pad_bd {zs : List Int} (h : ∀ z ∈ zs, 0 ≤ z ∧ z ≤ 255) : ∀ z ∈ pad zs, 0 ≤ z ∧ z ≤ 255 := fun z hz => by
  rcases List.mem_append.1 hz with hz | hz
  · exact h z (List.mem_of_mem_take hz)
  · exact zer_bd z (List.mem_of_mem_drop hz)
theorem pad_pg {zs : List Int} (h : ∀ z ∈ zs, 0 ≤ z ∧ z ≤ 255) : Pg (pad zs) := ⟨pad_len zs, pad_bd h⟩

/-- A variable of several cells that is there. -/
def Tb (w : World) (t : TypeId) (b : Nat) (vs : List Value) : Prop := w.heap[b]? = some (.cells vs.toArray t (0, 0))

section
variable {w w' : World} {t : TypeId} {b : Nat} {vs : List Value}
theorem Tb.lt (h : Tb w t b vs) : b < w.heap.size := blk_lt h
theorem Tb.but {S : Nat → Prop} (h : Tb w t b vs) (hb : But S w w') (hs : ¬ S b) : Tb w' t b vs := (hb.block b h.lt hs).trans h
theorem Tb.later (h : Tb w t b vs) (hb : Below w.heap.size w w') : Tb w' t b vs := (hb.block b h.lt).trans h
theorem Tb.cell (h : Tb w t b vs) {i : Nat} (hi : i < vs.length) : w.cell? ⟨b, i, none⟩ = some (vs.getD i undef) := cell_blk h (by simp [List.getD, List.getElem?_eq_getElem hi])
theorem Tb.frozen (h : Tb w t b vs) (k : Nat) : w.frozen? ⟨b, k, none⟩ = false := frozen_blk k h
theorem Tb.set (h : Tb w t b vs) (i : Nat) (v : Value) : Tb (w.setCell ⟨b, i, none⟩ v) t b (vs.set i v) := by
  unfold Tb at h ⊢
  rw [heap_setCell_same h, List.setIfInBounds_toArray]
theorem Tb.apart {s : TypeId} {c : Nat} {us : List Value} (h : Tb w t b vs) (h' : Tb w s c us) (ht : t ≠ s) : b ≠ c := by
  rintro rfl
  unfold Tb at h h'
  rw [h] at h'
  simp at h'
  exact ht h'.2
theorem Tb.new (w : World) (t : TypeId) (vs : List Value) : Tb (w.alloc (.cells vs.toArray t)) t w.heap.size vs := heap_alloc_new w _
end

theorem getD_set (vs : List Value) (i j : Nat) (v : Value) (hi : i < vs.length) : (vs.set i v).getD j undef = if j = i then v else vs.getD j undef := by
  by_cases h : j = i
  · subst h; simp [List.getD, hi]
  · simp [List.getD, h, show ¬ i = j from fun e => h e.symm]

/-- A page's own variable. -/
def Pk (w : World) (b : Nat) (zs : List Int) : Prop := Tb w 63 b (bv zs)
theorem Pk.sl {w : World} {b : Nat} {zs : List Int} (h : Pk w b zs) (hz : Pg zs) : Sl w (.slice (some ⟨b, 0, none⟩) 256 256) zs :=
  ⟨_, 256, by rw [hz.1], by rw [hz.1]; omega, by unfold maxLen; omega, hz.2, fun i hi => ⟨b, 0, rfl, by
    rw [Nat.zero_add, Tb.cell h (by rw [bv_len]; exact hi)]
    simp [bv, List.getD, List.getElem?_eq_getElem hi]⟩⟩

/-- What one finds beneath a set page, or a page that was set. -/
def orE (m f : Nat → Option (List Int)) : Nat → Option (List Int) := fun i => (m i).or (f i)
/-- One page more. -/
def put1 (m : Nat → Option (List Int)) (k : Nat) (zs : List Int) : Nat → Option (List Int) := fun i => if i = k then some zs else m i

theorem put1_same (m : Nat → Option (List Int)) (k : Nat) (zs : List Int) : put1 m k zs k = some zs := by simp [put1]
theorem put1_other (m : Nat → Option (List Int)) {i k : Nat} (h : i ≠ k) (zs : List Int) : put1 m k zs i = m i := by simp [put1, h]

/-- A sheet: the block g; what lies beneath it is u; m: the pages that were set. -/
structure Sheet (w : World) (g : Nat) (u : Value) (m : Nat → Option (List Int)) (vs : List Value) : Prop where
  at_ : Tb w 57 g vs
  len : vs.length = 97
  under : vs.getD 0 undef = u
  face : u = .nilIface ∨ ∃ T p, u = .iface T p
  pages : ∀ i, i < 96 → (m i = none ∧ vs.getD (i + 1) undef = .pointer none) ∨ ∃ zs b, m i = some zs ∧ Pg zs ∧ vs.getD (i + 1) undef = .pointer (some ⟨b, 0, none⟩) ∧ Pk w b zs

/-- A book: the block g; the page bad can't be read; m: the pages that are laid. -/
structure Book (w : World) (g : Nat) (bad : Int) (m : Nat → Option (List Int)) (vs : List Value) : Prop where
  at_ : Tb w 28 g vs
  len : vs.length = 97
  worse : vs.getD 96 undef = .int .i64 bad
  pages : ∀ i, i < 96 → (m i = none ∧ vs.getD i undef = .slice none 0 0) ∨ ∃ zs a n c, m i = some zs ∧ Pg zs ∧ vs.getD i undef = .slice (some a) n c ∧ Sl w (.slice (some a) n c) zs

/-- What a book answers. -/
def bookF (bad : Int) (m : Nat → Option (List Int)) : Nat → Option (List Int) := fun i => if bad ≠ 0 ∧ (i : Int) = bad then none else some ((m i).getD zer)

section
variable {w w' : World} {g : Nat} {u : Value} {m : Nat → Option (List Int)} {vs : List Value} {bad : Int}

theorem Sheet.later (h : Sheet w g u m vs) (hb : Below w.heap.size w w') : Sheet w' g u m vs :=
  ⟨h.at_.later hb, h.len, h.under, h.face, fun i hi => by
    rcases h.pages i hi with h1 | ⟨zs, b, h1, h2, h3, h4⟩
    · exact .inl h1
    · exact .inr ⟨zs, b, h1, h2, h3, Tb.later h4 hb⟩⟩
theorem Book.later (h : Book w g bad m vs) (hb : Below w.heap.size w w') : Book w' g bad m vs :=
  ⟨h.at_.later hb, h.len, h.worse, fun i hi => by
    rcases h.pages i hi with h1 | ⟨zs, a, n, c, h1, h2, h3, h4⟩
    · exact .inl h1
    · exact .inr ⟨zs, a, n, c, h1, h2, h3, h4.later hb⟩⟩

/-- A sheet holds no bytes of its own. -/
theorem Sheet.cells (h : Sheet w g u m vs) {j : Nat} {v : Value} (hc : w.cell? ⟨g, j, none⟩ = some v) : (v = .nilIface ∨ ∃ T p, v = .iface T p) ∨ ∃ p, v = .pointer p := by
  have hj : j < vs.length := by
    rcases Nat.lt_or_ge j vs.length with hx | hx
    · exact hx
    · have := h.at_
      unfold Tb at this
      simp [World.cell?, this] at hc
      rw [List.getElem?_eq_none hx] at hc
      cases hc
  rw [h.at_.cell hj] at hc
  simp only [Option.some.injEq] at hc
  subst hc
  rcases j with _ | j
  · rw [h.under]; exact .inl h.face
  · rw [h.len] at hj
    rcases h.pages j (by omega) with ⟨-, e⟩ | ⟨zs, b, -, -, e, -⟩
    · exact .inr ⟨_, e⟩
    · exact .inr ⟨_, e⟩

/-- Bytes stay where a sheet alone turns. -/
theorem Sheet.bytes (h : Sheet w g u m vs) (hb : But (· = g) w w') {v : Value} {zs : List Int} (hv : Sl w v zs) : Sl w' v zs := by
  obtain ⟨a, cap, e, h1, h2, h3, h4⟩ := hv
  refine ⟨a, cap, e, h1, h2, h3, fun i hi => ?_⟩
  obtain ⟨b, off, ea, hc⟩ := h4 i hi
  refine ⟨b, off, ea, ?_⟩
  have hn : b ≠ g := by
    rintro rfl
    rcases h.cells hc with (e | ⟨_, _, e⟩) | ⟨_, e⟩ <;> cases e
  rw [hb.cell (p := ⟨b, off + i, none⟩) (cell_lt hc) hn, hc]

/-- A book stays where a sheet alone turns. -/
theorem Book.beside {k : Nat} {us : List Value} {f : Nat → Option (List Int)} {v : Value} (h : Book w g bad m vs) (hs : Sheet w k v f us) (hb : But (· = k) w w') : Book w' g bad m vs :=
  ⟨h.at_.but hb (h.at_.apart hs.at_ (by decide)), h.len, h.worse, fun i hi => by
    rcases h.pages i hi with h1 | ⟨zs, a, n, c, h1, h2, h3, h4⟩
    · exact .inl h1
    · exact .inr ⟨zs, a, n, c, h1, h2, h3, hs.bytes hb h4⟩⟩
/-- A sheet stays where another one alone turns. -/
theorem Sheet.beside {k : Nat} {us : List Value} {f : Nat → Option (List Int)} {v : Value} (h : Sheet w g u m vs) (hs : Sheet w k v f us) (hb : But (· = k) w w') (hn : g ≠ k) : Sheet w' g u m vs :=
  ⟨h.at_.but hb hn, h.len, h.under, h.face, fun i hi => by
    rcases h.pages i hi with h1 | ⟨zs, b, h1, h2, h3, h4⟩
    · exact .inl h1
    · exact .inr ⟨zs, b, h1, h2, h3, Tb.but h4 hb (Tb.apart h4 hs.at_ (by decide))⟩⟩

/-- Behind a Set. -/
theorem Sheet.put {W : World} {b k : Nat} {zs : List Int} (h : Sheet w g u m vs) (hb : Below w.heap.size w W) (hp : Pk W b zs) (hz : Pg zs) (hk : k < 96) :
    Sheet (W.setCell ⟨g, k + 1, none⟩ (.pointer (some ⟨b, 0, none⟩))) g u (put1 m k zs) (vs.set (k + 1) (.pointer (some ⟨b, 0, none⟩))) := by
  have h' := h.later hb
  have hbt : But (· = g) W (W.setCell ⟨g, k + 1, none⟩ (.pointer (some ⟨b, 0, none⟩))) := (But.refl (· = g) W).setCell (p := ⟨g, k + 1, none⟩) (.inl rfl) _
  have hbn : b ≠ g := Tb.apart hp h'.at_ (by decide)
  refine ⟨h'.at_.set _ _, by rw [List.length_set]; exact h.len, ?_, h.face, fun i hi => ?_⟩
  · rw [getD_set _ _ _ _ (by rw [h.len]; omega), if_neg (by omega)]
    exact h.under
  · rw [getD_set _ _ _ _ (by rw [h.len]; omega)]
    by_cases e : i = k
    · subst e
      exact .inr ⟨zs, b, put1_same _ _ _, hz, if_pos rfl, Tb.but hp hbt hbn⟩
    · rw [if_neg (by omega), put1_other _ e]
      rcases h'.pages i hi with h1 | ⟨ys, c, h1, h2, h3, h4⟩
      · exact .inl h1
      · exact .inr ⟨ys, c, h1, h2, h3, Tb.but h4 hbt (Tb.apart h4 h'.at_ (by decide))⟩

/-- Behind a page that is laid into a book. -/
theorem Book.put {k : Nat} {zs : List Int} {a : Addr} {n c : Nat} (h : Book w g bad m vs) (hp : Sl w (.slice (some a) n c) zs) (hz : Pg zs) (hk : k < 96) :
    Book (w.setCell ⟨g, k, none⟩ (.slice (some a) n c)) g bad (put1 m k zs) (vs.set k (.slice (some a) n c)) := by
  have hbt : But (· = g) w (w.setCell ⟨g, k, none⟩ (.slice (some a) n c)) := (But.refl (· = g) w).setCell (p := ⟨g, k, none⟩) (.inl rfl) _
  have hst : ∀ {v : Value} {ys : List Int}, Sl w v ys → Sl (w.setCell ⟨g, k, none⟩ (.slice (some a) n c)) v ys := by
    intro v ys hv
    obtain ⟨a', cap, e, h1, h2, h3, h4⟩ := hv
    refine ⟨a', cap, e, h1, h2, h3, fun i hi => ?_⟩
    obtain ⟨b, off, ea, hc⟩ := h4 i hi
    refine ⟨b, off, ea, ?_⟩
    by_cases hbg : b = g
    · subst hbg
      by_cases h96 : off + i = 96
      · have hx := h.at_.cell (i := 96) (by rw [h.len]; omega)
        rw [h96, hx, h.worse] at hc
        simp at hc
      · exfalso
        have hlt : off + i < 97 := by
          rcases Nat.lt_or_ge (off + i) vs.length with hx | hx
          · rw [h.len] at hx; exact hx
          · have := h.at_
            unfold Tb at this
            simp [World.cell?, this] at hc
            rw [List.getElem?_eq_none hx] at hc
            cases hc
        rw [h.at_.cell (by rw [h.len]; exact hlt)] at hc
        rcases h.pages (off + i) (by omega) with ⟨-, e⟩ | ⟨_, _, _, _, -, -, e, -⟩ <;> rw [e] at hc <;> cases hc
    · rw [hbt.cell (p := ⟨b, off + i, none⟩) (cell_lt hc) hbg, hc]
  refine ⟨h.at_.set _ _, by rw [List.length_set]; exact h.len, ?_, fun i hi => ?_⟩
  · rw [getD_set _ _ _ _ (by rw [h.len]; omega), if_neg (by omega)]
    exact h.worse
  · rw [getD_set _ _ _ _ (by rw [h.len]; omega)]
    by_cases e : i = k
    · subst e
      exact .inr ⟨zs, a, n, c, put1_same _ _ _, hz, if_pos rfl, hst hp⟩
    · rw [if_neg e, put1_other _ e]
      rcases h.pages i hi with h1 | ⟨ys, a', n', c', h1, h2, h3, h4⟩
      · exact .inl h1
      · exact .inr ⟨ys, a', n', c', h1, h2, h3, hst h4⟩
end
end Go.Proofs.Ytiggannhanfolaa
