/-
  What a value of sheet.Pages answers; contracts of sheet.New, under, Page, of a book's Page.
-/
import Derived.Test.YtiggannhanfolaaShtB
namespace Go.Proofs.Ytiggannhanfolaa
set_option maxRecDepth 100000
set_option linter.unusedVariables false
open Go.RowKit
set_option linter.unusedVariables false

theorem own_mono {w : World} {base base' : Nat} {e : TypeId} {size : Nat} {v : Value} {n : Nat} {xs : List Value} (h : w.ownsRow base e size v n xs) (hb : base' ≤ base) : w.ownsRow base' e size v n xs := by
  obtain ⟨hl, h⟩ := h
  refine ⟨hl, ?_⟩
  rcases h with h | ⟨g, cap, cur, rfl, h0, r⟩
  · exact .inl h
  · exact .inr ⟨g, cap, cur, rfl, Nat.le_trans hb h0, r⟩

/-- What a page's call comes back with. -/
def Rep (w w' : World) (e : Ending) : Option (List Int) → Prop
  | some zs => ∃ v, e = .returned (.tuple #[v, .int .i64 0]) ∧ w'.ownsRow w.heap.size 5 1 v 256 (bv zs) ∧ Pg zs ∧ Below w.heap.size w w'
  | none => e = .returned (.tuple #[.slice none 0 0, .int .i64 5]) ∧ Below w.heap.size w w'

/-- A value that answers pages: none, or one with a method Page. -/
def Src (w : World) (u : Value) (f : Nat → Option (List Int)) : Prop :=
  (u = .nilIface ∧ ∀ i, f i = none) ∨ ∃ T K p, u = .iface T p ∧ (∀ W : World, (method 186 T p "Page").run Try.prog W = .ok (K, p) W) ∧
    (∀ a W, (callFunc K #[p, a]).run Try.prog W = .ok (.enter K #[p, a]) W) ∧
    ∀ W, Below w.heap.size w W → ∀ no : Nat, no < 96 → Calls Try.prog K #[p, .int .i64 (no : Int)] W fun e W' => Rep W W' e (f no)

theorem Src.later {w w' : World} {u : Value} {f : Nat → Option (List Int)} (h : Src w u f) (hb : Below w.heap.size w w') : Src w' u f := by
  rcases h with h | ⟨T, K, p, h1, h2, h3, h4⟩
  · exact .inl h
  · exact .inr ⟨T, K, p, h1, h2, h3, fun W hW => h4 W (hb.trans (hW.mono hb.size))⟩

set_option maxHeartbeats 1000000 in
theorem under_any {w : World} {g : Nat} {u : Value} {m f : Nat → Option (List Int)} {vs : List Value} (h : Sheet w g u m vs) (hs : Src w u f) (no : Nat) (hno : no < 96) :
    Calls Try.prog 25 #[.pointer (some ⟨g, 0, none⟩), .int .i64 (no : Int)] w fun e w' => Rep w w' e (f no) := by
  have c0 := h.at_.cell (i := 0) (by rw [h.len]; omega)
  rw [h.under] at c0
  clear h
  generalize hfr : f no = fr
  rcases hs with ⟨rfl, hf⟩ | ⟨T, K, p, rfl, hm, hc, hs⟩
  · obtain rfl : none = fr := by rw [← hfr, hf]
    clear hf hfr
    go_enter Try.func25, Try.ntmps25
    go_wp2_with fail
    go_ret2
    exact ⟨rfl, Below.refl _ _⟩
  · have he : ∀ W : World, (binOp .eql 53 (.iface T p) .nilIface).run Try.prog W = .ok (.bool false) W := fun _ => rfl
    replace hs := hs w (Below.refl _ _) no hno
    rw [hfr] at hs
    clear hfr
    go_enter Try.func25, Try.ntmps25
    go_wp2_with fail
    refine hs.mono ?_
    rintro e W' hr
    clear hs
    cases fr with
    | none =>
      obtain ⟨rfl, hb⟩ := hr
      have HB := hide hb
      clear hb
      go_wp2_with fail
      go_ret2
      exact ⟨rfl, HB.out⟩
    | some zs =>
      have HR := hide hr
      obtain ⟨v, rfl, -⟩ := hr
      go_wp2_with fail
      go_ret2
      exact HR.out

/-- A page that one has: what it is, and a slice's own block. -/
theorem Rep.ok {w w' : World} {e : Ending} {zs : List Int} (h : Rep w w' e (some zs)) : ∃ v, e = .returned (.tuple #[v, .int .i64 0]) ∧ w'.ownsRow w.heap.size 5 1 v 256 (bv zs) ∧ Pg zs ∧ Below w.heap.size w w' := h
theorem Rep.no {w w' : World} {e : Ending} (h : Rep w w' e none) : e = .returned (.tuple #[.slice none 0 0, .int .i64 5]) ∧ Below w.heap.size w w' := h

set_option maxHeartbeats 1000000 in
theorem page_out {w : World} {g : Nat} {z : Int} (hz : ¬ (0 ≤ z ∧ z < 96)) :
    Calls Try.prog 11 #[.pointer (some ⟨g, 0, none⟩), .int .i64 z] w fun e w' => e = .returned (.tuple #[.slice none 0 0, .int .i64 3]) ∧ w' = w := by
  have hp1 : (decide (0 ≤ z) && decide (z < 96)) = false := by simp; omega
  clear hz
  go_enter Try.func11, Try.ntmps11
  go_wp2_with (first
    | (with_reducible refine (sis_any _ _).mono ?_; rintro e w ⟨rfl, rfl⟩; rw [hp1]))
  go_ret2
  exact ⟨rfl, rfl⟩

set_option maxHeartbeats 1000000 in
theorem page_nil (w : World) (z : Int) :
    Calls Try.prog 11 #[.pointer none, .int .i64 z] w fun e w' => e = .returned (.tuple #[.slice none 0 0, .int .i64 5]) ∧ w' = w := by
  go_enter Try.func11, Try.ntmps11
  go_wp2_with fail
  go_ret2
  exact ⟨rfl, rfl⟩

set_option maxHeartbeats 1000000 in
theorem page_any {w : World} {g : Nat} {u : Value} {m f : Nat → Option (List Int)} {vs : List Value} (h : Sheet w g u m vs) (hs : Src w u f) (no : Nat) (hno : no < 96) :
    Calls Try.prog 11 #[.pointer (some ⟨g, 0, none⟩), .int .i64 (no : Int)] w fun e w' => Rep w w' e (orE m f no) := by
  have hp1 : (decide (0 ≤ (no : Int)) && decide ((no : Int) < 96)) = true := by simp; omega
  have c0 := h.at_.cell (i := 1 + no) (by rw [h.len]; omega)
  rw [Nat.add_comm 1 no] at c0
  have hno1 : no + 1 = 1 + no := Nat.add_comm _ _
  rcases h.pages no hno with ⟨h1, h2⟩ | ⟨zs, b, h1, h2, h3, h4⟩
  · have hr : orE m f no = f no := by simp [orE, h1]
    rw [hr]
    rw [h2, hno1] at c0
    clear hno1
    have HH := hide h
    have HS := hide hs
    clear h hs h1 h2 hr
    generalize hfr : f no = fr
    go_enter Try.func11, Try.ntmps11
    go_wp2_with (first
      | (with_reducible refine (sis_any _ _).mono ?_; rintro e w ⟨rfl, rfl⟩; rw [hp1]))
    refine (under_any HH.out HS.out no hno).mono ?_
    rintro e W1 hr
    rw [hfr] at hr
    clear HH HS c0 hfr
    cases fr with
    | none =>
      obtain ⟨rfl, hb⟩ := hr
      have HB := hide hb
      clear hb
      go_wp2_with fail
      go_ret2
      exact ⟨rfl, HB.out⟩
    | some zs =>
      obtain ⟨v, rfl, ho, hz, hb⟩ := hr
      have HB := hide hb
      have HV := hide (Sl.own ho hz.2)
      have HZ := hide hz
      clear hb ho hz
      go_wp2_with fail
      refine (clone_any HV.out HZ.out).mono ?_
      rintro e W2 ⟨r, rfl, ho, hb⟩
      have hl := HB.out.size
      have HO : Hid (W2.ownsRow w.heap.size 5 1 r 256 (bv zs)) := own_mono ho hl
      have HB2 := hide (HB.out.trans (hb.mono hl))
      clear ho hb HB HV hl
      go_wp2_with fail
      go_ret2
      exact ⟨_, rfl, HO.out, HZ.out, HB2.out⟩
  · have hr : orE m f no = some zs := by simp [orE, h1]
    rw [hr]
    rw [h3, hno1] at c0
    clear hno1
    have HV := hide (h4.sl h2)
    have HZ := hide h2
    clear h hs h1 h2 hr h3 h4
    go_enter Try.func11, Try.ntmps11
    go_wp2_with (first
      | (with_reducible refine (sis_any _ _).mono ?_; rintro e w ⟨rfl, rfl⟩; rw [hp1]))
    refine (clone_any HV.out HZ.out).mono ?_
    rintro e W2 ⟨r, rfl, ho, hb⟩
    have HO := hide ho
    have HB2 := hide hb
    clear ho hb HV c0
    go_wp2_with fail
    go_ret2
    exact ⟨_, rfl, HO.out, HZ.out, HB2.out⟩
end Go.Proofs.Ytiggannhanfolaa
