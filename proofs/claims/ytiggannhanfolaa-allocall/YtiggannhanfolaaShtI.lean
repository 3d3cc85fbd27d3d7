/-
  A sheet of the law's own; what stays where bytes turn.
-/
import Derived.Test.YtiggannhanfolaaShtH
import Derived.Deep.DeepCutAuto
namespace Go.Proofs.Ytiggannhanfolaa
set_option maxRecDepth 100000
set_option linter.unusedVariables false
open Go.RowKit
set_option linter.unusedVariables false

/-- A sheet stays where bytes turn. -/
theorem Sheet.off {w w' : World} {g b : Nat} {u : Value} {m : Nat → Option (List Int)} {vs us : List Value} (h : Sheet w g u m vs) (hb : But (· = b) w w') (ht : Tb w 5 b us) : Sheet w' g u m vs :=
  ⟨h.at_.but hb (h.at_.apart ht (by decide)), h.len, h.under, h.face, fun i hi => by
    rcases h.pages i hi with h1 | ⟨zs, c, h1, h2, h3, h4⟩
    · exact .inl h1
    · exact .inr ⟨zs, c, h1, h2, h3, Tb.but h4 hb (Tb.apart h4 ht (by decide))⟩⟩
/-- A book without pages stays, too. -/
theorem Book.off {w w' : World} {g b : Nat} {bad : Int} {vs us : List Value} (h : Book w g bad (fun _ => none) vs) (hb : But (· = b) w w') (ht : Tb w 5 b us) : Book w' g bad (fun _ => none) vs :=
  ⟨h.at_.but hb (h.at_.apart ht (by decide)), h.len, h.worse, fun i hi => by
    rcases h.pages i hi with h1 | ⟨zs, a, n, c, h1, _⟩
    · exact .inl h1
    · cases h1⟩

theorem but_set (w : World) (b i : Nat) (v : Value) : But (· = b) w (w.setCell ⟨b, i, none⟩ v) := (But.refl (· = b) w).setCell (p := ⟨b, i, none⟩) (.inl rfl) v

/-- The parts of a row of 256 bytes. -/
theorem own_row {w : World} {base : Nat} {v : Value} {zs : List Int} (h : w.ownsRow base 5 1 v 256 (bv zs)) : ∃ b c us, v = .slice (some ⟨b, 0, none⟩) 256 c ∧ base ≤ b ∧ 256 ≤ c ∧ c ≤ 9223372036854775807 ∧ Tb w 5 b us ∧ ∀ i, i < 256 → w.cell? ⟨b, i, none⟩ = some (.int .u8 (zs.getD i 0)) := by
  have hl := h.1
  rw [bv_len] at hl
  rcases h.2 with ⟨-, h0⟩ | ⟨g, cap, cur, rfl, hb, hh, h1, h2, h3, h4⟩
  · omega
  · refine ⟨g, cap, cur.toList, rfl, hb, h1, by unfold maxLen at h2; omega, by unfold Tb; simpa using hh, fun i hi => ?_⟩
    have := h.cellAt i (by omega)
    rw [this]
    simp [bv, List.getD, List.getElem?_eq_getElem (show i < zs.length by omega)]

/-- A sheet of the law's own above a book: what they are made of is not older than B. -/
structure Duo (B : Nat) (w W : World) (g k : Nat) (bad : Int) (m f : Nat → Option (List Int)) : Prop where
  sheet : ∃ vs, Sheet W g (.iface 24 (.pointer (some ⟨k, 0, none⟩))) m vs
  book : ∃ us, Book W k bad f us
  bel : Below B w W
  big : B ≤ W.heap.size
  lo : B ≤ g ∧ B ≤ k

section
variable {B : Nat} {w W W' : World} {g k : Nat} {bad : Int} {m f : Nat → Option (List Int)}
theorem Duo.later (h : Duo B w W g k bad m f) (hb : Below W.heap.size W W') : Duo B w W' g k bad m f := by
  obtain ⟨vs, hs⟩ := h.sheet
  obtain ⟨us, hk⟩ := h.book
  exact ⟨⟨vs, hs.later hb⟩, ⟨us, hk.later hb⟩, h.bel.trans (hb.mono h.big), Nat.le_trans h.big hb.size, h.lo⟩

theorem Duo.set (h : Duo B w W g k bad m f) {z : Int} {no : Nat} (hn : z = (no : Int)) (hno : no < 96) {v : Value} {zs : List Int} (hv : Sl W v zs) (hz : Pg zs) :
    Calls Try.prog 12 #[.pointer (some ⟨g, 0, none⟩), .int .i64 z, v] W fun e W' => e = .returned (.int .i64 0) ∧ Duo B w W' g k bad (put1 m no zs) f ∧ But (· = g) W W' ∧ ∀ {x : Value} {ys : List Int}, Sl W x ys → Sl W' x ys := by
  obtain ⟨vs, hs⟩ := h.sheet
  obtain ⟨us, hk⟩ := h.book
  refine (set_lit hs hn hno hv hz).mono ?_
  rintro e W' ⟨rfl, vs', hs', hb⟩
  exact ⟨rfl, ⟨⟨vs', hs'⟩, ⟨us, hk.beside hs hb⟩, Below.but h.bel h.big hb (fun i e => by have := h.lo; omega), Nat.le_trans h.big hb.size, h.lo⟩, hb, fun {x ys} hx => hs.bytes hb hx⟩

theorem Duo.page (h : Duo B w W g k bad m f) {z : Int} {no : Nat} (hn : z = (no : Int)) (hno : no < 96) :
    Calls Try.prog 11 #[.pointer (some ⟨g, 0, none⟩), .int .i64 z] W fun e W' => Rep W W' e (orE m (bookF bad f) no) := by
  obtain ⟨vs, hs⟩ := h.sheet
  obtain ⟨us, hk⟩ := h.book
  exact page_lit hs hk.src hn hno
theorem Duo.bpage (h : Duo B w W g k bad m f) {z : Int} {no : Nat} (hn : z = (no : Int)) (hno : no < 96) :
    Calls Try.prog 46 #[.pointer (some ⟨k, 0, none⟩), .int .i64 z] W fun e W' => Rep W W' e (bookF bad f no) := by
  obtain ⟨us, hk⟩ := h.book
  exact bpage_lit hk hn hno

theorem Duo.changes (h : Duo B w W g k bad m f) :
    Calls Try.prog 18 #[.pointer (some ⟨g, 0, none⟩)] W fun e W' => ∃ v L, e = .returned v ∧ Igs W' W.heap.size v L ∧ say L = chs m (bookF bad f) 96 ∧ Below W.heap.size W W' := by
  obtain ⟨vs, hs⟩ := h.sheet
  obtain ⟨us, hk⟩ := h.book
  exact changes_any hs hk.src

/-- A new sheet above a book. -/
theorem Duo.new {us : List Value} (hk : Book W k bad f us) (hb : Below B w W) (hB : B ≤ W.heap.size) (hl : B ≤ k) :
    Calls Try.prog 9 #[.iface 24 (.pointer (some ⟨k, 0, none⟩))] W fun e W' => ∃ g, e = .returned (.pointer (some ⟨g, 0, none⟩)) ∧ Duo B w W' g k bad (fun _ => none) f ∧ Below W.heap.size W W' := by
  refine (new_any _ _ _).mono ?_
  rintro e W' ⟨rfl, hs, hb'⟩
  exact ⟨_, rfl, ⟨⟨_, hs⟩, ⟨us, hk.later hb'⟩, hb.trans (hb'.mono hB), Nat.le_trans hB hb'.size, hB, hl⟩, hb'⟩
/-- Bytes turn beside a sheet above an empty book. -/
theorem Duo.off (h : Duo B w W g k bad m (fun _ => none)) {b : Nat} {us : List Value} (hb : But (· = b) W W') (ht : Tb W 5 b us) (hl : B ≤ b) : Duo B w W' g k bad m (fun _ => none) := by
  obtain ⟨vs, hs⟩ := h.sheet
  obtain ⟨ks, hk⟩ := h.book
  exact ⟨⟨vs, hs.off hb ht⟩, ⟨ks, hk.off hb ht⟩, Below.but h.bel h.big hb (fun i e => by omega), Nat.le_trans h.big hb.size, h.lo⟩

end

/-- The images' row, each with bytes of its own, whatever they are. -/
def Igb (w : World) (base : Nat) (v : Value) (L : List Im) : Prop :=
  w.ownsRow base 66 2 v L.length (ims L) ∧ ∀ x ∈ L, base ≤ x.b ∧ 256 ≤ x.c ∧ x.c ≤ 9223372036854775807 ∧ (∃ us, Tb w 5 x.b us) ∧ ∃ z : Int, (0 ≤ z ∧ z ≤ 255) ∧ w.cell? ⟨x.b, 0, none⟩ = some (.int .u8 z)
theorem Igs.loose {w : World} {base : Nat} {v : Value} {L : List Im} (h : Igs w base v L) : Igb w base v L :=
  ⟨h.1, fun x hx => by
    obtain ⟨b, c, us, e, h1, h2, h3, h4, h5⟩ := own_row (h.2 x hx).2.2
    simp only [Value.slice.injEq, Option.some.injEq, Addr.mk.injEq, and_true, true_and] at e
    obtain ⟨rfl, rfl⟩ := e
    exact ⟨h1, h2, h3, ⟨us, h4⟩, _, by
      have hp := (h.2 x hx).1
      rw [getD_at (show 0 < x.z.length by rw [hp.1]; omega)]
      exact hp.2 _ (List.getElem_mem _), h5 0 (by omega)⟩⟩
/-- One of their bytes turns. -/
theorem Igb.set {w : World} {base : Nat} {v : Value} {L : List Im} (h : Igb w base v L) {b : Nat} {us : List Value} (hb : Tb w 5 b us) {z0 : Int} (hc : w.cell? ⟨b, 0, none⟩ = some (.int .u8 z0)) {z : Int} (hz : 0 ≤ z ∧ z ≤ 255) : Igb (w.setCell ⟨b, 0, none⟩ (.int .u8 z)) base v L := by
  refine ⟨?_, fun x hx => ?_⟩
  · obtain ⟨hl, h1⟩ := h.1
    refine ⟨hl, ?_⟩
    rcases h1 with h1 | ⟨g, cap, cur, rfl, h0, hh, r⟩
    · exact .inl h1
    · refine .inr ⟨g, cap, cur, rfl, h0, ?_, r⟩
      have hn : ¬ g = b := by
        rintro rfl
        unfold Tb at hb
        rw [hh] at hb
        simp at hb
      exact ((but_set w b 0 (.int .u8 z)).block g (blk_lt hh) hn).trans hh
  · obtain ⟨h1, h2, h3, ⟨ys, h4⟩, z1, hz1, h5⟩ := h.2 x hx
    refine ⟨h1, h2, h3, ?_, ?_⟩
    · by_cases e : x.b = b
      · rw [e]
        exact ⟨_, hb.set 0 _⟩
      · exact ⟨ys, h4.but (but_set w b 0 _) e⟩
    · by_cases e : x.b = b
      · rw [e]
        exact ⟨z, hz, World.cell?_setCell_same _ _ _ hc⟩
      · exact ⟨z1, hz1, by rw [(but_set w b 0 (.int .u8 z)).cell (p := ⟨x.b, 0, none⟩) (cell_lt h5) e, h5]⟩
/-- Its value, written out. -/
theorem Igb.opens {w : World} {base : Nat} {v : Value} {L : List Im} (h : Igb w base v L) : ∃ p n cp, v = .slice p n cp ∧ n ≤ cp ∧ cp ≤ 9223372036854775807 ∧ Hid (n = L.length) ∧ Hid (Igb w base (.slice p n cp) L) := by
  have h' := h
  rcases h.1.2 with ⟨rfl, h0⟩ | ⟨g, cap, cur, rfl, hb, hh, h1, h2, h3, h4⟩
  · exact ⟨none, 0, 0, rfl, Nat.le_refl _, by omega, h0.symm, h'⟩
  · unfold maxLen at h2
    exact ⟨_, _, cap, rfl, h1, by omega, rfl, h'⟩
/-- One of them. -/
theorem Igb.at_ {w : World} {base : Nat} {p : Option Addr} {n cp : Nat} {L : List Im} (h : Igb w base (.slice p n cp) L) {i : Nat} (hi : i < n) : ∃ g x, p = some ⟨g, 0, none⟩ ∧ x ∈ L ∧ w.cell? ⟨g, i * 2, none⟩ = some (.int .i64 x.n) ∧ w.cell? ⟨g, i * 2 + 1, none⟩ = some (.slice (some ⟨x.b, 0, none⟩) 256 x.c) := by
  have hr := h.1
  rcases hr.2 with ⟨e, h0⟩ | ⟨g, cap, cur, e, hb, hh, h1, h2, h3, h4⟩
  · simp at e
    omega
  · simp only [Value.slice.injEq] at e
    obtain ⟨rfl, hn, rfl⟩ := e
    have hx : i < L.length := by omega
    obtain ⟨q1, q2⟩ := ims_at (L := L) (i := i) (List.getElem?_eq_getElem hx)
    rw [hn] at hr
    exact ⟨g, L[i], rfl, List.getElem_mem _, by rw [hr.cellAt _ (by omega)]; exact q1, by rw [hr.cellAt _ (by omega)]; exact q2⟩

/-- At most one page is another one. -/
theorem chs_one {m f : Nat → Option (List Int)} {k : Nat} (hk : k < 96) (h : ∀ i, i < 96 → i ≠ k → chOf m f i = none) : chs m f 96 = (chOf m f k).toList := by
  have : ∀ n, n ≤ 96 → chs m f n = if k < n then (chOf m f k).toList else [] := by
    intro n
    induction n with
    | zero => intro _; rfl
    | succ n ih =>
      intro hn
      rw [chs_succ, ih (by omega)]
      by_cases e : n = k
      · subst e
        rw [if_neg (by omega), if_pos (by omega)]
        rfl
      · rw [h n (by omega) e]
        by_cases hl : k < n
        · rw [if_pos hl, if_pos (by omega)]
          simp
        · rw [if_neg hl, if_neg (by omega)]
          rfl
  rw [this 96 (Nat.le_refl _), if_pos hk]
end Go.Proofs.Ytiggannhanfolaa
