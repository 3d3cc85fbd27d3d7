/-
  A sheet above a book whose page 1 has the bytes zs; what every law of package alloc begins with.
-/
import Derived.Test.YtiggannhanfolaaAllD
namespace Go.Proofs.Ytiggannhanfolaa
set_option maxRecDepth 100000
set_option linter.unusedVariables false
open Go.RowKit
set_option linter.unusedVariables false

/-- A sheet of the law's own above a book: its page 1 has the bytes zs. -/
structure Al (B : Nat) (w W : World) (g k : Nat) (m f : Nat → Option (List Int)) (zs : List Int) : Prop where
  duo : Duo B w W g k 0 m f
  one : orE m (bookF 0 f) 1 = some zs
  pg : Pg zs

section
variable {B : Nat} {w W W' : World} {g k : Nat} {m f : Nat → Option (List Int)} {zs : List Int}
theorem Al.later (h : Al B w W g k m f zs) (hb : Below W.heap.size W W') : Al B w W' g k m f zs := ⟨h.duo.later hb, h.one, h.pg⟩

/-- Behind what turns the sheet alone. -/
theorem Al.turn (h : Al B w W g k m f zs) {m' : Nat → Option (List Int)} {zs' : List Int} {vs' : List Value} (hs : Sheet W' g (.iface 24 (.pointer (some ⟨k, 0, none⟩))) m' vs') (hb : But (· = g) W W') (h1 : m' 1 = some zs') (hp : Pg zs') : Al B w W' g k m' f zs' := by
  obtain ⟨vs, hs0⟩ := h.duo.sheet
  obtain ⟨us, hk⟩ := h.duo.book
  exact ⟨⟨⟨vs', hs⟩, ⟨us, hk.beside hs0 hb⟩, Below.but h.duo.bel h.duo.big hb (fun i e => by have := h.duo.lo; omega), Nat.le_trans h.duo.big hb.size, h.duo.lo⟩, by simp [orE, h1], hp⟩

theorem Al.take (h : Al B w W g k m f zs) :
    Calls Try.prog 10 #[.pointer (some ⟨g, 0, none⟩)] W fun e W' =>
      (∃ a, 2 ≤ a ∧ a < 32 ∧ us zs a = false ∧ (∀ k, 2 ≤ k → k < a → us zs k = true) ∧ e = .returned (.tuple #[.int .i64 (a : Int), .int .i64 0]) ∧ Al B w W' g k (put1 (put1 m a zer) 1 (mark zs a)) f (mark zs a) ∧ But (· = g) W W') ∨
      ((∀ k, 2 ≤ k → k < 32 → us zs k = true) ∧ e = .returned (.tuple #[.int .i64 0, .int .i64 4]) ∧ Below W.heap.size W W') := by
  obtain ⟨vs, hs⟩ := h.duo.sheet
  obtain ⟨us0, hk⟩ := h.duo.book
  refine (take_any hs hk.src h.one).mono ?_
  rintro e W' (⟨a, h1, h2, h3, h4, h5, vs', h6, h7⟩ | h1)
  · exact .inl ⟨a, h1, h2, h3, h4, h5, h.turn h6 h7 (put1_same _ _ _) (mark_pg h.pg (by omega)), h7⟩
  · exact .inr h1
theorem Al.takeAt (h : Al B w W g k m f zs) {a : Nat} (ha : 2 ≤ a ∧ a < 32) (h0 : us zs a = false) (h1 : ∀ k, 2 ≤ k → k < a → us zs k = true) :
    Calls Try.prog 10 #[.pointer (some ⟨g, 0, none⟩)] W fun e W' => e = .returned (.tuple #[.int .i64 (a : Int), .int .i64 0]) ∧ Al B w W' g k (put1 (put1 m a zer) 1 (mark zs a)) f (mark zs a) ∧ But (· = g) W W' := by
  refine h.take.mono ?_
  rintro e W' (⟨b, q1, q2, q3, q4, q5, q6, q7⟩ | ⟨q1, -⟩)
  · have : b = a := by
      rcases Nat.lt_trichotomy b a with hl | hl | hl
      · have := h1 b q1 hl
        rw [q3] at this
        cases this
      · exact hl
      · have := q4 a ha.1 hl
        rw [h0] at this
        cases this
    subst this
    exact ⟨q5, q6, q7⟩
  · have := q1 a ha.1 ha.2
    rw [h0] at this
    cases this
theorem Al.takeNone (h : Al B w W g k m f zs) (h1 : ∀ k, 2 ≤ k → k < 32 → us zs k = true) :
    Calls Try.prog 10 #[.pointer (some ⟨g, 0, none⟩)] W fun e W' => e = .returned (.tuple #[.int .i64 0, .int .i64 4]) ∧ Below W.heap.size W W' := by
  refine h.take.mono ?_
  rintro e W' (⟨b, q1, q2, q3, -⟩ | ⟨-, q2⟩)
  · have := h1 b q1 q2
    rw [q3] at this
    cases this
  · exact q2
theorem Al.free (h : Al B w W g k m f zs) {z : Int} {no : Nat} (hn : z = (no : Int)) (hno : 2 ≤ no ∧ no < 32) (hu : us zs no = true) :
    Calls Try.prog 13 #[.pointer (some ⟨g, 0, none⟩), .int .i64 z] W fun e W' => e = .returned (.int .i64 0) ∧ Al B w W' g k (put1 m 1 (strike zs no)) f (strike zs no) ∧ But (· = g) W W' := by
  subst hn
  obtain ⟨vs, hs⟩ := h.duo.sheet
  obtain ⟨us0, hk⟩ := h.duo.book
  refine (free_any hs hk.src h.one hno hu).mono ?_
  rintro e W' ⟨rfl, vs', h6, h7⟩
  exact ⟨rfl, h.turn h6 h7 (put1_same _ _ _) (strike_pg h.pg (by omega)), h7⟩
theorem Al.freeNone (h : Al B w W g k m f zs) {z : Int} {no : Nat} (hn : z = (no : Int)) (hno : 2 ≤ no ∧ no < 32) (hu : us zs no = false) :
    Calls Try.prog 13 #[.pointer (some ⟨g, 0, none⟩), .int .i64 z] W fun e W' => e = .returned (.int .i64 6) ∧ Below W.heap.size W W' := by
  subst hn
  obtain ⟨vs, hs⟩ := h.duo.sheet
  obtain ⟨us0, hk⟩ := h.duo.book
  exact free_none hs hk.src h.one hno hu
theorem Al.setRoot (h : Al B w W g k m f zs) {z : Int} (hz : mb z = true) :
    Calls Try.prog 14 #[.pointer (some ⟨g, 0, none⟩), .int .i64 z] W fun e W' => e = .returned (.int .i64 0) ∧ Al B w W' g k (put1 m 1 (zs.set 4 z)) f (zs.set 4 z) ∧ But (· = g) W W' := by
  obtain ⟨vs, hs⟩ := h.duo.sheet
  obtain ⟨us0, hk⟩ := h.duo.book
  refine (setroot_any hs hk.src h.one hz).mono ?_
  rintro e W' ⟨rfl, vs', h6, h7⟩
  exact ⟨rfl, h.turn h6 h7 (put1_same _ _ _) (pg_set h.pg 4 (by simp [mb] at hz; omega)), h7⟩
theorem Al.src (h : Al B w W g k m f zs) : Src W (.iface 29 (.pointer (some ⟨g, 0, none⟩))) (orE m (bookF 0 f)) := by
  obtain ⟨vs, hs⟩ := h.duo.sheet
  obtain ⟨us0, hk⟩ := h.duo.book
  exact hs.src hk.src
theorem Al.used (h : Al B w W g k m f zs) {z : Int} {no : Nat} (hn : z = (no : Int)) (hno : 2 ≤ no ∧ no < 32) :
    Calls Try.prog 15 #[.iface 29 (.pointer (some ⟨g, 0, none⟩)), .int .i64 z] W fun e W' => e = .returned (.tuple #[.bool (us zs no), .int .i64 0]) ∧ Below W.heap.size W W' := by
  subst hn
  exact uused_any h.src h.one no hno
theorem Al.usedOut (h : Al B w W g k m f zs) {z : Int} (hno : ¬ (2 ≤ z ∧ z < 32)) :
    Calls Try.prog 15 #[.iface 29 (.pointer (some ⟨g, 0, none⟩)), .int .i64 z] W fun e W' => e = .returned (.tuple #[.bool false, .int .i64 0]) ∧ Below W.heap.size W W' := uused_out h.src h.one z hno
theorem Al.count (h : Al B w W g k m f zs) :
    Calls Try.prog 16 #[.iface 29 (.pointer (some ⟨g, 0, none⟩))] W fun e W' => e = .returned (.tuple #[.int .i64 (nu (us zs) 32 : Nat), .int .i64 0]) ∧ Below W.heap.size W W' := count_any h.src h.one
theorem Al.root (h : Al B w W g k m f zs) {z : Int} (hz : zs.getD 4 0 = z) (hm : mb z = true) :
    Calls Try.prog 17 #[.iface 29 (.pointer (some ⟨g, 0, none⟩))] W fun e W' => e = .returned (.tuple #[.int .i64 z, .int .i64 0]) ∧ Below W.heap.size W W' := by
  refine (root_any h.src h.one hz).mono ?_
  rw [hm]
  exact fun e W' h => h
/-- A new one. -/
theorem Al.new {us0 : List Value} (hk : Book W k 0 f us0) (hb : Below B w W) (hB : B ≤ W.heap.size) (hl : B ≤ k) (h1 : (f 1).getD zer = zs) (hp : Pg zs) :
    Calls Try.prog 9 #[.iface 24 (.pointer (some ⟨k, 0, none⟩))] W fun e W' => ∃ g, e = .returned (.pointer (some ⟨g, 0, none⟩)) ∧ Al B w W' g k (fun _ => none) f zs ∧ Below W.heap.size W W' := by
  refine (Duo.new hk hb hB hl).mono ?_
  rintro e W' ⟨g, rfl, hd, hb'⟩
  exact ⟨g, rfl, ⟨hd, by simp [orE, bookF, h1], hp⟩, hb'⟩
end

def z1 : List Int := mark zer 2
def z2 : List Int := mark z1 3
def z3 : List Int := strike z2 2
def z4 : List Int := z3.set 4 3
theorem z_facts : us zer 2 = false ∧ us z1 3 = false ∧ us z1 2 = true ∧ us z2 2 = true ∧ us z3 3 = true ∧ nu (us z3) 32 = 1 ∧ z4.getD 4 0 = 3 ∧ us z4 9 = false := by decide +kernel

set_option maxRecDepth 100000 in
set_option maxHeartbeats 4000000 in
theorem abegun_any (w : World) : Calls Try.prog 8 #[] w fun e w' => e = .returned (.bool true) ∧ Below w.heap.size w w' := by
  obtain ⟨t0, t1, t2, t3, t4, t5, t6, t7⟩ := z_facts
  have HK1 := hide (Book.new w 0)
  have HB1 := hide (below_alloc w (.cells (bkz 0).toArray 28))
  have HR := hide (run_buildB w)
  generalize hq : bkz 0 = q at *
  go_enter Try.func8, Try.ntmps8
  go_wp2_with (first
    | (refine wpList_build0T 28 q rfl rfl HR.out ?_)
    | (refine wpList_boxT 28 _ q rfl rfl rfl ?_))
  refine (Al.new HK1.out HB1.out HB1.out.size (Nat.le_refl _) (zs := zer) rfl zer_pg).mono ?_
  rintro e x2 ⟨gs, rfl, ha, -⟩
  generalize hgb : w.heap.size = gb at *
  have HA := hide ha
  clear ha HK1 HB1 HR
  go_wp2_with fail
  refine (HA.out.takeAt (a := 2) (by omega) t0 (fun k h1 h2 => by omega)).mono ?_
  rintro e x3 ⟨rfl, ha, -⟩
  have HA3 := hide ha
  clear ha HA
  go_wp2_with fail
  refine (HA3.out.takeAt (a := 3) (by omega) t1 (fun k h1 h2 => by rw [show k = 2 by omega]; exact t2)).mono ?_
  rintro e x4 ⟨rfl, ha, -⟩
  have HA4 := hide ha
  clear ha HA3
  go_wp2_with fail
  refine (HA4.out.free (no := 2) rfl (by omega) t3).mono ?_
  rintro e x5 ⟨rfl, ha, -⟩
  have HA5 := hide ha
  clear ha HA4
  go_wp2_with fail
  refine (HA5.out.used (no := 3) rfl (by omega)).mono ?_
  rw [show us (strike (mark (mark zer 2) 3) 2) 3 = true from t4]
  rintro e x6 ⟨rfl, hb⟩
  have HA6 := hide (HA5.out.later hb)
  clear hb HA5
  go_wp2_with fail
  refine HA6.out.count.mono ?_
  rw [show nu (us (strike (mark (mark zer 2) 3) 2)) 32 = 1 from t5]
  rintro e x7 ⟨rfl, hb⟩
  have HA7 := hide (HA6.out.later hb)
  clear hb HA6
  go_wp2_with fail
  refine (HA7.out.setRoot (z := 3) rfl).mono ?_
  rintro e x8 ⟨rfl, ha, -⟩
  have HA8 := hide ha
  clear ha HA7
  go_wp2_with fail
  refine (HA8.out.root (z := 3) t6 rfl).mono ?_
  rintro e x9 ⟨rfl, hb⟩
  have HA9 := hide (HA8.out.later hb)
  clear hb HA8
  go_wp2_with fail
  refine (HA9.out.freeNone (no := 9) rfl (by omega) t7).mono ?_
  rintro e x10 ⟨rfl, hb⟩
  have HB := hide (HA9.out.duo.bel.trans (hb.mono HA9.out.duo.big))
  clear hb HA9
  go_wp2_with fail
  go_ret
  exact ⟨rfl, by rw [hgb]; exact HB.out⟩
end Go.Proofs.Ytiggannhanfolaa
