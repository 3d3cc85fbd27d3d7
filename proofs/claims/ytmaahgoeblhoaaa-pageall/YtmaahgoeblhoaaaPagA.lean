/-
  Pages of a device as mathematics; no program is named here.
-/
import Derived.Test.YtmaahgoeblhoaaaDevA
namespace Go.Proofs.Ytmaahgoeblhoaaa
open Go.RowKit

/-- Sixty-four bytes over sixty-four. -/
theorem over_full {s t : List Int} (hs : s.length = 64) (ht : t.length = 64) : over s t = s := by
  rw [over, hs, List.drop_of_length_le (by omega), List.append_nil]

namespace Dv

theorem at_write (d : Dv) (i : Nat) (s : List Int) (j : Nat) : (d.write i s).at_ j = if j = i then over s (d.at_ i) else d.at_ j := by
  simp only [write, next, lay, at_]
  by_cases h : j = i
  · simp [h]
  · simp [h]

/-- The k-th sixty-four bytes. -/
def chunk (zs : List Int) (k : Nat) : List Int := (zs.drop (k * 64)).take 64

theorem chunk_len {zs : List Int} (h : zs.length = 256) {k : Nat} (hk : k < 4) : (chunk zs k).length = 64 := by simp [chunk, h]; omega
theorem chunk_bd {zs : List Int} (h : ∀ z ∈ zs, 0 ≤ z ∧ z ≤ 255) (k : Nat) : ∀ z ∈ chunk zs k, 0 ≤ z ∧ z ≤ 255 := fun z hz => h z (List.mem_of_mem_drop (List.mem_of_mem_take hz))
theorem chunk_sec {zs : List Int} (h : zs.length = 256) (hb : ∀ z ∈ zs, 0 ≤ z ∧ z ≤ 255) {k : Nat} (hk : k < 4) : Sec (chunk zs k) := ⟨chunk_len h hk, chunk_bd hb k⟩
theorem take_chunk (zs : List Int) (k : Nat) : zs.take (k * 64) ++ chunk zs k = zs.take ((k + 1) * 64) := by
  rw [chunk, show (k + 1) * 64 = k * 64 + 64 by omega, List.take_add]

/-- The first k sectors of zs, written from p on. -/
def pw (d : Dv) (p : Nat) (zs : List Int) : Nat → Dv
  | 0 => d
  | k + 1 => (pw d p zs k).write (p + k) (chunk zs k)

theorem pw_n (d : Dv) (p : Nat) (zs : List Int) : ∀ k, (pw d p zs k).n = d.n
  | 0 => rfl
  | k + 1 => pw_n d p zs k
theorem pw_calls (d : Dv) (p : Nat) (zs : List Int) : ∀ k, (pw d p zs k).calls = d.calls + k
  | 0 => rfl
  | k + 1 => by show (pw d p zs k).calls + 1 = _; rw [pw_calls d p zs k]; omega
theorem pw_fuse (d : Dv) (p : Nat) (zs : List Int) : ∀ k, (pw d p zs k).fuse = d.fuse.map (· - k)
  | 0 => by show d.fuse = _; cases d.fuse <;> simp
  | k + 1 => by
    show ((pw d p zs k).fuse).map (· - 1) = _
    rw [pw_fuse d p zs k]
    cases d.fuse <;> simp; omega

theorem pw_at {d : Dv} (ok : d.Ok) {p : Nat} {zs : List Int} (hz : zs.length = 256) : ∀ {k : Nat}, k ≤ 4 → p + k ≤ d.n → ∀ j, (pw d p zs k).at_ j = if p ≤ j ∧ j < p + k then chunk zs (j - p) else d.at_ j
  | 0, _, _, j => by rw [if_neg (by omega)]; rfl
  | k + 1, hk, hp, j => by
    have ih := pw_at ok hz (p := p) (k := k) (by omega) (by omega)
    rw [pw, at_write]
    by_cases h : j = p + k
    · rw [if_pos h, if_pos (by omega), h, Nat.add_sub_cancel_left]
      refine over_full (chunk_len hz (by omega)) ?_
      rw [ih, if_neg (by omega)]
      exact (ok.at_ (by omega)).1
    · rw [if_neg h, ih]
      by_cases h2 : p ≤ j ∧ j < p + k
      · rw [if_pos h2, if_pos (by omega)]
      · rw [if_neg h2, if_neg (by omega)]

/-- What k sectors from p on hold. -/
def pr (d : Dv) (p : Nat) : Nat → List Int
  | 0 => []
  | k + 1 => pr d p k ++ d.at_ (p + k)

theorem pr_len {d : Dv} (ok : d.Ok) {p : Nat} : ∀ {k : Nat}, p + k ≤ d.n → (pr d p k).length = k * 64
  | 0, _ => rfl
  | k + 1, h => by rw [pr, List.length_append, pr_len ok (by omega), (ok.at_ (by omega)).1]; omega
theorem pr_bd {d : Dv} (ok : d.Ok) {p : Nat} : ∀ {k : Nat}, p + k ≤ d.n → ∀ z ∈ pr d p k, 0 ≤ z ∧ z ≤ 255
  | 0, _, z, hz => by simp [pr] at hz
  | k + 1, h, z, hz => by
    rcases List.mem_append.1 hz with hz | hz
    · exact pr_bd ok (by omega) z hz
    · exact (ok.at_ (by omega)).2 z hz
theorem pr_of {d d' : Dv} {p : Nat} : ∀ {k : Nat}, (∀ j, p ≤ j → j < p + k → d'.at_ j = d.at_ j) → pr d' p k = pr d p k
  | 0, _ => rfl
  | k + 1, h => by rw [pr, pr, pr_of fun j h1 h2 => h j h1 (by omega), h (p + k) (by omega) (by omega)]
theorem pr_chunks {d : Dv} {p : Nat} {zs : List Int} : ∀ {k : Nat}, (∀ j, j < k → d.at_ (p + j) = chunk zs j) → pr d p k = zs.take (k * 64)
  | 0, _ => by simp [pr]
  | k + 1, h => by rw [pr, pr_chunks fun j hj => h j (by omega), h k (by omega), take_chunk]

/-- A page that was written reads as what was written; the others read as they did. -/
theorem pr_same {d : Dv} (ok : d.Ok) {p : Nat} {zs : List Int} (hz : zs.length = 256) (hp : p + 4 ≤ d.n) : pr (pw d p zs 4) p 4 = zs := by
  rw [pr_chunks (zs := zs) fun j hj => ?_, List.take_of_length_le (by omega)]
  rw [pw_at ok hz (by omega) hp, if_pos (by omega), Nat.add_sub_cancel_left]
theorem pr_other {d : Dv} (ok : d.Ok) {p q : Nat} {zs : List Int} (hz : zs.length = 256) (hp : p + 4 ≤ d.n) (hq : q + 4 ≤ p ∨ p + 4 ≤ q) : pr (pw d p zs 4) q 4 = pr d q 4 :=
  pr_of fun j h1 h2 => by rw [pw_at ok hz (by omega) hp, if_neg (by omega)]
theorem pr_new0 (n p : Nat) : ∀ k, pr (new n) p k = List.replicate (k * 64) 0
  | 0 => rfl
  | k + 1 => by
    rw [pr, pr_new0 n p k, show (new n).at_ (p + k) = nought from rfl, nought, List.replicate_append_replicate]
    congr 1
    omega

theorem pw_ok {d : Dv} (ok : d.Ok) {p : Nat} {zs : List Int} (hz : zs.length = 256) (hb : ∀ z ∈ zs, 0 ≤ z ∧ z ≤ 255) (hc : d.calls < 999900) : ∀ {k : Nat}, k ≤ 4 → p + k ≤ d.n → (pw d p zs k).Ok
  | 0, _, _ => ok
  | k + 1, hk, hp => write_ok (pw_ok ok hz hb hc (by omega) (by omega)) (by rw [pw_calls]; omega) (by rw [pw_n]; omega) (by rw [chunk_len hz (by omega)]; omega) (chunk_bd hb k)

end Dv

/-- 256 noughts. -/
def zer : List Int := List.replicate 256 0

theorem zer_len : zer.length = 256 := List.length_replicate
theorem zer_bd : ∀ z ∈ zer, 0 ≤ z ∧ z ≤ 255 := fun z hz => by have := (List.mem_replicate.1 hz).2; omega

theorem pr_new (n p : Nat) : Dv.pr (Dv.new n) p 4 = zer := Dv.pr_new0 n p 4

/-- A page of some bytes. -/
def pad (zs : List Int) : List Int := zs.take 256 ++ zer.drop zs.length

theorem pad_len (zs : List Int) : (pad zs).length = 256 := by rw [pad, List.length_append, List.length_take, List.length_drop, zer_len]; omega
theorem pad_bd {zs : List Int} (h : ∀ z ∈ zs, 0 ≤ z ∧ z ≤ 255) : ∀ z ∈ pad zs, 0 ≤ z ∧ z ≤ 255 := fun z hz => by
  rcases List.mem_append.1 hz with hz | hz
  · exact h z (List.mem_of_mem_take hz)
  · exact zer_bd z (List.mem_of_mem_drop hz)
end Go.Proofs.Ytmaahgoeblhoaaa
