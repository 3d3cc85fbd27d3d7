/-
  What every law of package sheet begins with.
-/
import Derived.Test.YtiggannhanfolaaShtG
namespace Go.Proofs.Ytiggannhanfolaa
set_option maxRecDepth 100000
set_option linter.unusedVariables false
open Go.RowKit
set_option linter.unusedVariables false

/-- The begun sheet. -/
def bga : List Int := pad [97]
def bgm : Nat → Option (List Int) := put1 (put1 (fun _ => none) 5 bga) 6 zer
theorem bga_pg : Pg bga := pad_pg (by decide)
theorem bgm_chs : chs bgm (bookF 0 fun _ => none) 96 = [(5, bga)] := by decide +kernel
theorem bgm_5 (f : Nat → Option (List Int)) : orE bgm f 5 = some bga := rfl
theorem bga_0 : bga.getD 0 0 = 97 := rfl
theorem zer_0 : zer.getD 0 0 = 0 := rfl
theorem book_5 : bookF 0 (fun _ => none) 5 = some zer := rfl

theorem set_lit {w : World} {g : Nat} {u : Value} {m : Nat → Option (List Int)} {vs : List Value} (h : Sheet w g u m vs) {z : Int} {no : Nat} (hn : z = (no : Int)) (hno : no < 96) {v : Value} {zs : List Int} (hv : Sl w v zs) (hz : Pg zs) :
    Calls Try.prog 12 #[.pointer (some ⟨g, 0, none⟩), .int .i64 z, v] w fun e w' => e = .returned (.int .i64 0) ∧ ∃ vs', Sheet w' g u (put1 m no zs) vs' ∧ But (· = g) w w' := by
  subst hn
  exact set_any h no hno hv hz
theorem page_lit {w : World} {g : Nat} {u : Value} {m f : Nat → Option (List Int)} {vs : List Value} (h : Sheet w g u m vs) (hs : Src w u f) {z : Int} {no : Nat} (hn : z = (no : Int)) (hno : no < 96) :
    Calls Try.prog 11 #[.pointer (some ⟨g, 0, none⟩), .int .i64 z] w fun e w' => Rep w w' e (orE m f no) := by
  subst hn
  exact page_any h hs no hno
theorem bpage_lit {w : World} {g : Nat} {bad : Int} {m : Nat → Option (List Int)} {vs : List Value} (h : Book w g bad m vs) {z : Int} {no : Nat} (hn : z = (no : Int)) (hno : no < 96) :
    Calls Try.prog 46 #[.pointer (some ⟨g, 0, none⟩), .int .i64 z] w fun e w' => Rep w w' e (bookF bad m no) := by
  subst hn
  exact bpage_any h no hno

theorem say_one {L : List Im} {n : Nat} {z : List Int} (h : say L = [(n, z)]) : ∃ x : Im, L = [x] ∧ x.n = n ∧ x.z = z := by
  match L, h with
  | [x], h => simp [say] at h; exact ⟨x, rfl, h.1, h.2⟩
  | [], h => simp [say] at h
  | _ :: _ :: _, h => simp [say] at h
theorem igs_one {w : World} {base : Nat} {v : Value} {x : Im} (h : Igs w base v [x]) : ∃ b c, v = .slice (some ⟨b, 0, none⟩) 1 c ∧ 1 ≤ c ∧ c ≤ 9223372036854775807 ∧ w.cell? ⟨b, 0, none⟩ = some (.int .i64 x.n) := by
  have h1 := h.1
  rcases h1.2 with ⟨-, h0⟩ | ⟨g, cap, cur, rfl, hb, hh, h1', h2, h3, h4⟩
  · simp at h0
  · refine ⟨g, cap, rfl, h1', by unfold maxLen at h2; omega, ?_⟩
    have := h1.cellAt 0 (by simp)
    rw [this]
    rfl

end Go.Proofs.Ytiggannhanfolaa
