/-
  Contract of package dev: Crash.
-/
import Derived.Test.YtmaahgoeblhoaaaDevF
import Derived.Test.YtmaahgoeblhoaaaDevL
import Derived.Test.YtmaahgoeblhoaaaRw
namespace Go.Proofs.Ytmaahgoeblhoaaa
open Go.RowKit Go.Maps

/-- The k first of the loose ones are as they are kept. -/
def part (d : Dv) (ks : List Bool) (k i : Nat) : List Int := if (d.loose i).isSome && decide (d.rank i < k) then d.kept ks i else d.last i

theorem part_zero (d : Dv) (ks : List Bool) (i : Nat) : part d ks 0 i = d.last i := by simp [part]

theorem part_sec {d : Dv} (ok : d.Ok) (ks : List Bool) (k : Nat) {i : Nat} (hi : i < d.n) : Sec (part d ks k i) := by
  unfold part
  split
  · exact Dv.kept_sec ok ks hi
  · exact ok.sec i hi

theorem part_end {d : Dv} (ok : d.Ok) (ks : List Bool) (i : Nat) : part d ks d.los.length i = d.kept ks i := by
  unfold part
  cases hl : d.loose i with
  | none =>
    have : d.at_ i = d.last i := by simp [Dv.at_, hl]
    simp [Dv.kept, this]
  | some s =>
    obtain ⟨h, -⟩ := Dv.rank_lt d ok (i := i) (by rw [hl]; rfl)
    simp [h]

theorem part_step {d : Dv} (ok : d.Ok) (ks : List Bool) {k : Nat} (hk : k < d.los.length) (j : Nat) : part d ks (k + 1) j = if j = d.los[k] then d.kept ks j else part d ks k j := by
  have hr := Dv.los_rank d hk
  have hm := (Dv.mem_los ok d.los[k]).1 (List.getElem_mem hk)
  by_cases e : j = d.los[k]
  · subst e
    simp [part, hm, hr]
  · simp only [part, e, if_false]
    cases hl : d.loose j with
    | none => simp
    | some s =>
      obtain ⟨h, h2⟩ := Dv.rank_lt d ok (i := j) (by rw [hl]; rfl)
      have : d.rank j ≠ k := by rintro rfl; exact e h2.symm
      have h3 : (d.rank j < k + 1) = (d.rank j < k) := by apply propext; omega
      simp [h3]

theorem part_yes {d : Dv} (ok : d.Ok) {ks : List Bool} {k : Nat} (hk : k < d.los.length) (h : ks.getD k false = true) (j : Nat) : part d ks (k + 1) j = if j = d.los[k] then d.at_ d.los[k] else part d ks k j := by
  rw [part_step ok ks hk j]
  by_cases e : j = d.los[k]
  · simp only [e, if_true, Dv.kept, Dv.los_rank d hk, h]
  · simp only [e, if_false]

theorem part_no {d : Dv} (ok : d.Ok) {ks : List Bool} {k : Nat} (hk : k < d.los.length) (h : ks.getD k false = false) (j : Nat) : part d ks (k + 1) j = part d ks k j := by
  rw [part_step ok ks hk j]
  by_cases e : j = d.los[k]
  · have h' : ks[k]?.getD false = false := by simpa [List.getD] using h
    subst e
    simp [Dv.kept, part, Dv.los_rank d hk, h']
  · simp only [e, if_false]

/-- A device made of a row, its row turned. -/
theorem DevIn.turn {w wr : World} {g bl bm n cap : Nat} {f f' : Nat → List Int} {D : DataW (List Int)} {fu : Bool} {le : Int} {cur : Array Value} (h : DevIn w g bl bm (ofRow n f) cap D fu le cur) (hb : But (· = bl) w wr) (hr : RowAt wr bl n cap f') (hs : ∀ i, i < n → Sec (f' i)) : DevAt wr g bl bm (ofRow n f') := by
  have hap := DevAt.apart ⟨cap, D, fu, le, cur, h⟩
  obtain ⟨cur', hc', hz'⟩ := hr.cur
  refine ⟨cap, D, fu, le, cur', by rw [hb.block g (blk_lt h.me) hap.1]; exact h.me, h.fuse, hc', hr.room, hr.big, hz', hr.last, ?_, h.lo, ⟨h.ok.pos, h.ok.most, hs, h.ok.los, h.ok.few, h.ok.fu⟩⟩
  obtain ⟨es, clock, hm, r⟩ := h.map
  exact ⟨es, clock, by rw [hb.block bm (blk_lt hm) (fun e => hap.2.2 e.symm), hm], r⟩

theorem ofRow_ok {d : Dv} (ok : d.Ok) : (ofRow d.n d.last).Ok := ⟨ok.pos, ok.most, ok.sec, fun i s e => (by cases e), by simp [ofRow], fun k e => (by cases e)⟩

end Go.Proofs.Ytmaahgoeblhoaaa
