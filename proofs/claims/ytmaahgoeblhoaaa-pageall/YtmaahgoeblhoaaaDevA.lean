/-
  A device as mathematics: sectors of 64 bytes, those that last and those that are loose; no program is named here.
-/
import Derived.Test.YtmaahgoeblhoaaaBas
namespace Go.Proofs.Ytmaahgoeblhoaaa
open Go.RowKit

/-- A sector: 64 bytes. -/
def Sec (s : List Int) : Prop := s.length = 64 ∧ ∀ z ∈ s, 0 ≤ z ∧ z ≤ 255

/-- 64 noughts. -/
def nought : List Int := List.replicate 64 0

theorem sec_nought : Sec nought := ⟨by simp [nought], fun z hz => by simp [nought] at hz; omega⟩

/-- zs at the beginning of s. -/
def over (zs s : List Int) : List Int := zs ++ s.drop zs.length

theorem Sec.over {zs s : List Int} (h : Sec s) (hl : zs.length ≤ 64) (hz : ∀ z ∈ zs, 0 ≤ z ∧ z ≤ 255) : Sec (over zs s) := by
  refine ⟨by simp [Go.Proofs.Ytmaahgoeblhoaaa.over, h.1]; omega, fun z hm => ?_⟩
  rcases List.mem_append.1 hm with hm | hm
  · exact hz z hm
  · exact h.2 z (List.mem_of_mem_drop hm)

/-- A device. -/
structure Dv where
  n : Nat
  last : Nat → List Int
  loose : Nat → Option (List Int)
  calls : Nat
  fuse : Option Nat

namespace Dv

/-- A sector as it was written last. -/
def at_ (d : Dv) (i : Nat) : List Int := (d.loose i).getD (d.last i)

/-- Is it dead? -/
def dead (d : Dv) : Bool := decide (d.fuse = some 0)

/-- A call more. -/
def next (d : Dv) : Dv := { d with calls := d.calls + 1, fuse := d.fuse.map (· - 1) }

/-- Written. -/
def lay (d : Dv) (i : Nat) (zs : List Int) : Dv := { d with loose := fun j => if j = i then some (over zs (d.at_ i)) else d.loose j }
def write (d : Dv) (i : Nat) (zs : List Int) : Dv := (d.lay i zs).next

/-- Flushed. -/
def flush (d : Dv) : Dv := ({ d with last := d.at_, loose := fun _ => none } : Dv).next

/-- The fuse. -/
def fused (d : Dv) (k : Int) : Dv := if d.dead then d else { d with fuse := if 0 ≤ k then some k.toNat else none }

/-- The loose ones, rising. -/
def los (d : Dv) : List Nat := (List.range d.n).filter fun i => (d.loose i).isSome

/-- How many loose ones stand ahead of i. -/
def rank (d : Dv) (i : Nat) : Nat := ((List.range i).filter fun j => (d.loose j).isSome).length

/-- Fallen. -/
def kept (d : Dv) (ks : List Bool) (i : Nat) : List Int := if ks.getD (d.rank i) false then d.at_ i else d.last i
def crash (d : Dv) (ks : List Bool) : Dv := { n := d.n, last := d.kept ks, loose := fun _ => none, calls := 0, fuse := none }

/-- A new one. -/
def new (n : Nat) : Dv := { n := n, last := fun _ => nought, loose := fun _ => none, calls := 0, fuse := none }

/-- It is one. -/
structure Ok (d : Dv) : Prop where
  pos : 1 ≤ d.n
  most : d.n ≤ 2048
  sec : ∀ i, i < d.n → Sec (d.last i)
  los : ∀ i s, d.loose i = some s → i < d.n ∧ Sec s
  few : d.calls < 1000000
  fu : ∀ k, d.fuse = some k → k ≤ 9223372036854775807

theorem Ok.at_ {d : Dv} (h : d.Ok) {i : Nat} (hi : i < d.n) : Sec (d.at_ i) := by
  unfold Dv.at_
  cases hl : d.loose i with
  | none => exact h.sec i hi
  | some s => exact (h.los i s hl).2

theorem new_ok {n : Nat} (h1 : 1 ≤ n) (h2 : n ≤ 2048) : (new n).Ok :=
  ⟨h1, h2, fun _ _ => sec_nought, fun i s h => by simp [new] at h, by simp [new], fun k h => by simp [new] at h⟩

theorem mem_los {d : Dv} (h : d.Ok) (i : Nat) : i ∈ d.los ↔ (d.loose i).isSome = true := by
  unfold los
  rw [List.mem_filter, List.mem_range]
  refine ⟨fun h => h.2, fun hs => ⟨?_, hs⟩⟩
  obtain ⟨s, hs⟩ := Option.isSome_iff_exists.1 hs
  exact (h.los i s hs).1

theorem los_nodup (d : Dv) : d.los.Nodup := List.Pairwise.filter _ List.nodup_range

theorem los_sorted (d : Dv) : d.los.Pairwise (· < ·) := List.Pairwise.filter _ List.pairwise_lt_range

theorem los_len (d : Dv) : d.los.length ≤ d.n := by
  unfold los
  have := List.length_filter_le (fun i => (d.loose i).isSome) (List.range d.n)
  simpa using this

/-- The k-th loose one has k ahead of it. -/
theorem filter_rank (p : Nat → Bool) : ∀ (n k : Nat) (h : k < ((List.range n).filter p).length), ((List.range (((List.range n).filter p)[k])).filter p).length = k
  | 0, k, h => by simp at h
  | n + 1, k, h => by
    by_cases hp : p n = true
    · have e : (List.range (n + 1)).filter p = (List.range n).filter p ++ [n] := by rw [List.range_succ, List.filter_append]; simp [hp]
      by_cases hk : k < ((List.range n).filter p).length
      · have : ((List.range (n + 1)).filter p)[k] = ((List.range n).filter p)[k] := by simp only [e]; exact List.getElem_append_left hk
        rw [this]
        exact filter_rank p n k hk
      · have hk' : k = ((List.range n).filter p).length := by
          have := h
          simp only [e, List.length_append, List.length_singleton] at this
          omega
        have : ((List.range (n + 1)).filter p)[k] = n := by
          simp only [e]
          rw [List.getElem_append_right (by omega)]
          simp
        rw [this]
        exact hk'.symm
    · have e : (List.range (n + 1)).filter p = (List.range n).filter p := by rw [List.range_succ, List.filter_append]; simp [hp]
      have : ((List.range (n + 1)).filter p)[k] = ((List.range n).filter p)[k]'(by rw [e] at h; exact h) := by simp only [e]
      rw [this]
      exact filter_rank p n k _

theorem los_rank (d : Dv) {k : Nat} (h : k < d.los.length) : d.rank d.los[k] = k := filter_rank _ d.n k h

theorem rank_lt (d : Dv) (h : d.Ok) {i : Nat} (hi : (d.loose i).isSome = true) : ∃ hk : d.rank i < d.los.length, d.los[d.rank i] = i := by
  obtain ⟨k, hk, e⟩ := List.getElem_of_mem ((mem_los h i).2 hi)
  have hr : d.rank i = k := by rw [← e]; exact los_rank d hk
  exact ⟨by rw [hr]; exact hk, by simp only [hr]; exact e⟩

theorem lay_ok {d : Dv} (h : d.Ok) {i : Nat} (hi : i < d.n) {zs : List Int} (hl : zs.length ≤ 64) (hz : ∀ z ∈ zs, 0 ≤ z ∧ z ≤ 255) : (d.lay i zs).Ok :=
  ⟨h.pos, h.most, h.sec, fun j s hs => by
    simp only [lay] at hs
    split at hs
    · rename_i e
      cases hs
      exact ⟨e ▸ hi, (h.at_ hi).over hl hz⟩
    · exact h.los j s hs, h.few, h.fu⟩

theorem next_ok {d : Dv} (h : d.Ok) (hc : d.calls < 999999) : d.next.Ok :=
  ⟨h.pos, h.most, h.sec, h.los, by simp only [next]; omega, fun k hk => by
    simp only [next] at hk
    cases hf : d.fuse with
    | none => simp [hf] at hk
    | some m => simp [hf] at hk; have := h.fu m hf; omega⟩

theorem write_ok {d : Dv} (h : d.Ok) (hc : d.calls < 999999) {i : Nat} (hi : i < d.n) {zs : List Int} (hl : zs.length ≤ 64) (hz : ∀ z ∈ zs, 0 ≤ z ∧ z ≤ 255) : (d.write i zs).Ok := next_ok (lay_ok h hi hl hz) hc

theorem flush_ok {d : Dv} (h : d.Ok) (hc : d.calls < 999999) : d.flush.Ok :=
  next_ok ⟨h.pos, h.most, fun i hi => h.at_ hi, fun i s hs => (by cases hs), h.few, h.fu⟩ hc

theorem fused_ok {d : Dv} (h : d.Ok) {k : Int} (hk : k ≤ 9223372036854775807) : (d.fused k).Ok := by
  unfold fused
  split
  · exact h
  · refine ⟨h.pos, h.most, h.sec, h.los, h.few, fun m hm => ?_⟩
    dsimp only at hm
    split at hm
    · cases hm; omega
    · cases hm

theorem kept_sec {d : Dv} (h : d.Ok) (ks : List Bool) {i : Nat} (hi : i < d.n) : Sec (d.kept ks i) := by
  unfold kept
  split
  · exact h.at_ hi
  · exact h.sec i hi

theorem crash_ok {d : Dv} (h : d.Ok) (ks : List Bool) : (d.crash ks).Ok :=
  ⟨h.pos, h.most, fun _ hi => kept_sec h ks hi, fun i s hs => by simp [crash] at hs, by simp [crash], fun k hk => by simp [crash] at hk⟩

end Dv
end Go.Proofs.Ytmaahgoeblhoaaa
