/-
  Plain functions on values: which may be, which are the same, their bytes and the way back; no program is named here.
  Contracts of datum.May and datum.Eq over the translated program.
  The contract of datum.Put over the translated program.
  The contracts of datum.getFloat, datum.getContent and datum.Get over the translated program.
  The contracts of the reference's readers of numbers and texts over the translated program.
  The contracts of the reference's PutVal and GetVal over the translated program.
  'append(own, src...)' of bytes as one operation, whatever the source; no program is named here.
  Slices of values: as they came in, and as the law makes its own; no step of a program here.
  A frame of memory that leaves some blocks open; no program is named here.
  Slices of one-cell elements in memory, told as lists of values; no program is named here.
-/
import Derived.Test.YtbddghdkmakjlabGa
import Derived.Test.YtbddghdkmakjlabGb
import Derived.Deep.QuietTactic
import Derived.BigQuiet
import Derived.Deep.Slices
import Derived.OpenShut
import Derived.Below
import Derived.Laws.NewBlocks
namespace Go.Proofs.Ytbddghdkmakjlab.Dt
set_option maxRecDepth 100000
set_option linter.unusedVariables false
open Go.RowKit

/-- A value of kind k, float x, text s may be. -/
def may (k : Int) (x : Nat) (s : ByteArray) : Bool :=
  if k = 0 then decide (x = 0) && decide (s.size = 0)
  else if k = 1 then decide (x = Fl.cl x) && decide (s.size = 0)
  else if k = 2 then decide (x = 0) && decide (s.size ≤ 20)
  else false

/-- Two values are the same. -/
def eq (k : Int) (x : Nat) (s : ByteArray) (l : Int) (y : Nat) (t : ByteArray) : Bool := decide (k = l) && (decide (s = t) && decide (Fl.rk x = Fl.rk y))

/-- A value's bytes. -/
def put (k : Int) (x : Nat) (s : ByteArray) : List Int := Nm.num k ++ (if k = 1 then Fl.be (Fl.rk x) else if k = 2 then Nm.text (sb s) else [])

/-- The value whose kind stood ahead: kind, float, text, how many bytes, the error. -/
def con (k : Int) (zs : List Int) : Int × Nat × List Int × Int × Int :=
  if k = 0 then (0, 0, [], 0, 0)
  else if k = 1 then (if zs.length < 8 then (0, 0, [], 0, 2) else if (Fl.fo (zs.take 8)).2 = false then (0, 0, [], 0, 1) else (1, (Fl.fo (zs.take 8)).1, [], 8, 0))
  else if k = 2 then (if (Nm.getText zs).2.2 ≠ 0 then (0, 0, [], 0, (Nm.getText zs).2.2) else if 20 < (Nm.getText zs).1.length then (0, 0, [], 0, 1) else (2, 0, (Nm.getText zs).1, (Nm.getText zs).2.1, 0))
  else (0, 0, [], 0, 1)

/-- The value at the head. -/
def get (zs : List Int) : Int × Nat × List Int × Int × Int :=
  if (Nm.get 0 0 zs).2.2 ≠ 0 then (0, 0, [], 0, (Nm.get 0 0 zs).2.2)
  else if (con (Nm.get 0 0 zs).1 (zs.drop (Nm.get 0 0 zs).2.1.toNat)).2.2.2.2 ≠ 0 then (0, 0, [], 0, (con (Nm.get 0 0 zs).1 (zs.drop (Nm.get 0 0 zs).2.1.toNat)).2.2.2.2)
  else ((con (Nm.get 0 0 zs).1 (zs.drop (Nm.get 0 0 zs).2.1.toNat)).1, (con (Nm.get 0 0 zs).1 (zs.drop (Nm.get 0 0 zs).2.1.toNat)).2.1,
    (con (Nm.get 0 0 zs).1 (zs.drop (Nm.get 0 0 zs).2.1.toNat)).2.2.1, (Nm.get 0 0 zs).2.1 + (con (Nm.get 0 0 zs).1 (zs.drop (Nm.get 0 0 zs).2.1.toNat)).2.2.2.1, 0)

theorem size_zero {s : ByteArray} (h : s.size = 0) : s = ByteArray.empty := by
  apply ByteArray.ext
  apply Array.toList_inj.1
  have : s.data.toList.length = 0 := by simpa using h
  rw [List.eq_nil_of_length_eq_zero this]
  rfl

theorem may_none {x : Nat} {s : ByteArray} (h : may 0 x s = true) : x = 0 ∧ s = ByteArray.empty := by
  simp [may] at h
  exact ⟨h.1, size_zero (by simpa using h.2)⟩
theorem may_float {x : Nat} {s : ByteArray} (h : may 1 x s = true) : x = Fl.cl x ∧ s = ByteArray.empty := by
  simp [may] at h
  exact ⟨h.1, size_zero (by simpa using h.2)⟩
theorem may_text {x : Nat} {s : ByteArray} (h : may 2 x s = true) : x = 0 ∧ s.size ≤ 20 := by
  simpa [may] using h
theorem may_kind {k : Int} {x : Nat} {s : ByteArray} (h : may k x s = true) : k = 0 ∨ k = 1 ∨ k = 2 := by
  unfold may at h
  split at h
  · omega
  · split at h
    · omega
    · split at h
      · omega
      · simp at h

theorem get_err {zs : List Int} {n k e : Int} (h : Nm.get 0 0 zs = (n, k, e)) (he : e ≠ 0) : get zs = (0, 0, [], 0, e) := by simp [get, h, he]
theorem get_con_err {zs : List Int} {n k : Int} (h : Nm.get 0 0 zs = (n, k, 0)) {a : Int} {b : Nat} {c : List Int} {d f : Int} (hc : con n (zs.drop k.toNat) = (a, b, c, d, f)) (hf : f ≠ 0) : get zs = (0, 0, [], 0, f) := by
  simp [get, h, hc, hf]
theorem get_con {zs : List Int} {n k : Int} (h : Nm.get 0 0 zs = (n, k, 0)) {a : Int} {b : Nat} {c : List Int} {d : Int} (hc : con n (zs.drop k.toNat) = (a, b, c, d, 0)) : get zs = (a, b, c, k + d, 0) := by
  simp [get, h, hc]

theorem con_none (zs : List Int) : con 0 zs = (0, 0, [], 0, 0) := by simp [con]
theorem con_short {zs : List Int} (h : zs.length < 8) : con 1 zs = (0, 0, [], 0, 2) := by simp [con, h]
theorem con_bad {zs : List Int} (h : ¬ zs.length < 8) (hf : (Fl.fo (zs.take 8)).2 = false) : con 1 zs = (0, 0, [], 0, 1) := by simp [con, h, hf]
theorem con_float {zs : List Int} (h : ¬ zs.length < 8) (hf : (Fl.fo (zs.take 8)).2 = true) : con 1 zs = (1, (Fl.fo (zs.take 8)).1, [], 8, 0) := by simp [con, h, hf]
theorem con_terr {zs s : List Int} {n e : Int} (h : Nm.getText zs = (s, n, e)) (he : e ≠ 0) : con 2 zs = (0, 0, [], 0, e) := by simp [con, h, he]
theorem con_long {zs s : List Int} {n : Int} (h : Nm.getText zs = (s, n, 0)) (hs : 20 < s.length) : con 2 zs = (0, 0, [], 0, 1) := by simp [con, h, hs]
theorem con_text {zs s : List Int} {n : Int} (h : Nm.getText zs = (s, n, 0)) (hs : ¬ 20 < s.length) : con 2 zs = (2, 0, s, n, 0) := by simp [con, h, hs]
theorem con_other {k : Int} (zs : List Int) (h0 : k ≠ 0) (h1 : k ≠ 1) (h2 : k ≠ 2) : con k zs = (0, 0, [], 0, 1) := by simp [con, h0, h1, h2]

/-- What is read behind the kind, ahead of the question whether it may be. -/
def raw (k : Int) (zs : List Int) : Int × Nat × List Int × Int × Int :=
  if k = 2 then (2, 0, (Nm.getText zs).1, (Nm.getText zs).2.1, (Nm.getText zs).2.2) else con k zs

theorem raw_2 (zs : List Int) : raw 2 zs = (2, 0, (Nm.getText zs).1, (Nm.getText zs).2.1, (Nm.getText zs).2.2) := by simp [raw]
theorem raw_not {k : Int} (zs : List Int) (h : k ≠ 2) : raw k zs = con k zs := by simp [raw, h]

theorem cl_fo {zs : List Int} (h : (Fl.fo zs).2 = true) : Fl.cl (Fl.fo zs).1 = (Fl.fo zs).1 := by
  unfold Fl.fo at h ⊢
  split
  · split
    · exact Fl.cl_cl _
    · rename_i h1 h2
      rw [if_pos h1, if_neg h2] at h
      simp at h
  · rename_i h1
    rw [if_neg h1] at h
    simp at h

theorem size_nums (zs : List Int) : (strOfNums zs).size = zs.length := by simp [strOfNums, ByteArray.size]

theorem raw_err {k : Int} {zs : List Int} {a : Int} {b : Nat} {c : List Int} {d e : Int} (h : raw k zs = (a, b, c, d, e)) (he : e ≠ 0) : con k zs = (0, 0, [], 0, e) := by
  by_cases hk : k = 2
  · subst hk
    rw [raw_2] at h
    simp only [Prod.mk.injEq] at h
    obtain ⟨-, -, hc, hd, hf⟩ := h
    exact con_terr (s := c) (n := d) (by rw [← hc, ← hd, ← hf]) he
  · rw [raw_not _ hk] at h
    rw [h]
    unfold con at h
    repeat (first | split at h | (simp only [Prod.mk.injEq] at h; obtain ⟨rfl, rfl, rfl, rfl, rfl⟩ := h; first | rfl | (simp at he; done)))
    all_goals (simp only [Prod.mk.injEq] at h; obtain ⟨rfl, rfl, rfl, rfl, rfl⟩ := h; first | rfl | (simp at he; done))

theorem raw_not_may {k : Int} {zs : List Int} {a : Int} {b : Nat} {c : List Int} {d : Int} (h : raw k zs = (a, b, c, d, 0)) (hm : may a b (strOfNums c) = false) : con k zs = (0, 0, [], 0, 1) := by
  by_cases hk : k = 2
  · subst hk
    rw [raw_2] at h
    simp only [Prod.mk.injEq] at h
    obtain ⟨rfl, rfl, hc, hd, hf⟩ := h
    refine con_long (s := c) (n := d) (by rw [← hc, ← hd, ← hf]) ?_
    simp [may, size_nums] at hm
    omega
  · rw [raw_not _ hk] at h
    by_cases h0 : k = 0
    · subst h0
      rw [con_none] at h
      simp only [Prod.mk.injEq] at h
      obtain ⟨rfl, rfl, rfl, rfl, -⟩ := h
      simp [may, size_nums] at hm
    · by_cases h1 : k = 1
      · subst h1
        by_cases hl : zs.length < 8
        · rw [con_short hl] at h
          simp at h
        · cases hf : (Fl.fo (zs.take 8)).2
          · rw [con_bad hl hf] at h
            simp at h
          · rw [con_float hl hf] at h
            simp only [Prod.mk.injEq] at h
            obtain ⟨rfl, rfl, rfl, rfl, -⟩ := h
            simp [may, size_nums, cl_fo hf] at hm
      · rw [con_other _ h0 h1 hk] at h
        simp at h

theorem raw_may {k : Int} {zs : List Int} {a : Int} {b : Nat} {c : List Int} {d : Int} (h : raw k zs = (a, b, c, d, 0)) (hm : may a b (strOfNums c) = true) : con k zs = (a, b, c, d, 0) := by
  by_cases hk : k = 2
  · subst hk
    rw [raw_2] at h
    simp only [Prod.mk.injEq] at h
    obtain ⟨rfl, rfl, hc, hd, hf⟩ := h
    refine con_text (s := c) (n := d) (by rw [← hc, ← hd, ← hf]) ?_
    simp [may, size_nums] at hm
    omega
  · rw [raw_not _ hk] at h
    exact h

theorem getText_bd (zs : List Int) (hb : ∀ z ∈ zs, 0 ≤ z ∧ z ≤ 255) : 0 ≤ (Nm.getText zs).2.1 ∧ (Nm.getText zs).2.1 ≤ zs.length ∧ (Nm.getText zs).1.length ≤ 65536 ∧ (∀ z ∈ (Nm.getText zs).1, 0 ≤ z ∧ z ≤ 255) := by
  have hg := Nm.get_bd zs 0 0 (by omega) (by decide) (by omega) hb
  obtain ⟨r, hr⟩ : ∃ r, r = Nm.get 0 0 zs := ⟨_, rfl⟩
  rw [← hr] at hg
  obtain ⟨n, k, e⟩ := r
  simp only at hg
  by_cases he : e = 0
  · subst he
    by_cases hn : n < 0 ∨ 65536 < n
    · rw [Nm.getText_form hr.symm hn]
      simp
    · by_cases hl : (zs.length : Int) < k + n
      · rw [Nm.getText_more hr.symm hn hl]
        simp
      · rw [Nm.getText_ok hr.symm hn hl]
        refine ⟨by simp only; omega, by simp only; omega, by simp; omega, fun z hz => hb z (List.mem_of_mem_drop (List.mem_of_mem_take hz))⟩
  · rw [Nm.getText_err hr.symm he]
    simp

theorem raw_bd (k : Int) (zs : List Int) (hb : ∀ z ∈ zs, 0 ≤ z ∧ z ≤ 255) : 0 ≤ (raw k zs).2.2.2.1 ∧ (raw k zs).2.2.2.1 ≤ zs.length ∧ (raw k zs).2.2.1.length ≤ 65536 := by
  by_cases hk : k = 2
  · subst hk
    have := getText_bd zs hb
    rw [raw_2]
    exact ⟨this.1, this.2.1, this.2.2.1⟩
  · rw [raw_not _ hk]
    unfold con
    rw [if_neg hk]
    split
    · simp
    · split
      · split
        · simp
        · split
          · simp
          · simp; omega
      · simp

theorem sb_empty : sb ByteArray.empty = [] := rfl

/-- There and back. -/
theorem get_put {k : Int} {x : Nat} {s : ByteArray} (hx : x < 18446744073709551616) (h : may k x s = true) (rest : List Int) : get (put k x s ++ rest) = (k, x, sb s, ((put k x s).length : Int), 0) := by
  rcases may_kind h with rfl | rfl | rfl
  · obtain ⟨rfl, rfl⟩ := may_none h
    have hg := Nm.get_num 0 (by omega) (by omega) rest
    have hp : put 0 0 ByteArray.empty = Nm.num 0 := by simp [put]
    rw [hp, get_con hg (con_none _), sb_empty]
    simp
  · obtain ⟨hc, rfl⟩ := may_float h
    have hp : put 1 x ByteArray.empty = Nm.num 1 ++ Fl.be (Fl.rk x) := by simp [put]
    have hg := Nm.get_num 1 (by omega) (by omega) (Fl.be (Fl.rk x) ++ rest)
    have hl := Fl.be_len (Fl.rk x)
    have ht : (Fl.be (Fl.rk x) ++ rest).take 8 = Fl.be (Fl.rk x) := by rw [List.take_append_of_le_length (by omega), List.take_of_length_le (by omega)]
    have hf := Fl.fo_be hx
    have hcn : con 1 ((Nm.num 1 ++ (Fl.be (Fl.rk x) ++ rest)).drop ((Nm.num 1).length : Int).toNat) = (1, x, [], 8, 0) := by
      rw [Int.toNat_natCast, List.drop_left, con_float (by simp; omega) (by rw [ht, hf]), ht, hf, ← hc]
    rw [hp, List.append_assoc, get_con hg hcn, sb_empty]
    simp [hl]
  · obtain ⟨rfl, hs⟩ := may_text h
    have hp : put 2 0 s = Nm.num 2 ++ Nm.text (sb s) := by simp [put]
    have hg := Nm.get_num 2 (by omega) (by omega) (Nm.text (sb s) ++ rest)
    have ht := Nm.getText_text (sb s) rest (by rw [sb_len]; omega)
    have hcn : con 2 ((Nm.num 2 ++ (Nm.text (sb s) ++ rest)).drop ((Nm.num 2).length : Int).toNat) = (2, 0, sb s, ((Nm.text (sb s)).length : Int), 0) := by
      rw [Int.toNat_natCast, List.drop_left]
      exact con_text ht (by rw [sb_len]; omega)
    rw [hp, List.append_assoc, get_con hg hcn]
    simp

theorem get_put' {k : Int} {x : Nat} {s : ByteArray} (hx : x < 18446744073709551616) (h : may k x s = true) : get (put k x s) = (k, x, sb s, ((put k x s).length : Int), 0) := by
  have := get_put hx h []
  rwa [List.append_nil] at this

theorem num_small : (Nm.num 0).length = 1 ∧ (Nm.num 1).length = 1 ∧ (Nm.num 2).length = 1 := by decide

/-- Cut off. -/
theorem get_cut {k : Int} {x : Nat} {s : ByteArray} (h : may k x s = true) (m : Nat) (hm : m < (put k x s).length) : get ((put k x s).take m) = (0, 0, [], 0, 2) := by
  have hns := num_small
  have hk : -9223372036854775808 ≤ k ∧ k ≤ 9223372036854775807 := by rcases may_kind h with rfl | rfl | rfl <;> omega
  have hk1 : (Nm.num k).length = 1 := by rcases may_kind h with rfl | rfl | rfl <;> omega
  by_cases h0 : m = 0
  · subst h0
    have hg := Nm.get_num_cut k hk.1 hk.2 0 (by omega)
    rw [List.take_zero] at hg ⊢
    exact get_err hg (by omega)
  · have ht : (put k x s).take m = Nm.num k ++ (if k = 1 then Fl.be (Fl.rk x) else if k = 2 then Nm.text (sb s) else []).take (m - 1) := by
      unfold put
      rw [List.take_append, List.take_of_length_le (by omega), hk1]
    rw [ht]
    have hg := Nm.get_num k hk.1 hk.2 ((if k = 1 then Fl.be (Fl.rk x) else if k = 2 then Nm.text (sb s) else []).take (m - 1))
    rcases may_kind h with rfl | rfl | rfl
    · simp [put] at hm
      omega
    · have hl := Fl.be_len (Fl.rk x)
      simp [put] at hm
      refine get_con_err hg (a := 0) (b := 0) (c := []) (d := 0) (f := 2) ?_ (by omega)
      rw [Int.toNat_natCast, List.drop_left]
      exact con_short (by simp; omega)
    · obtain ⟨rfl, hs⟩ := may_text h
      simp [put] at hm
      refine get_con_err hg (a := 0) (b := 0) (c := []) (d := 0) (f := 2) ?_ (by omega)
      rw [Int.toNat_natCast, List.drop_left]
      exact con_terr (Nm.getText_cut (sb s) (m - 1) (by rw [sb_len]; omega) (by omega)) (by omega)

theorem put_bd {k : Int} {x : Nat} {s : ByteArray} (h0 : -9223372036854775808 ≤ k) (h1 : k ≤ 9223372036854775807) (hs : s.size ≤ 140737488350000) : ∀ z ∈ put k x s, 0 ≤ z ∧ z ≤ 255 := by
  unfold put
  refine bd_app (Nm.num_bd _ h0 h1) ?_
  split
  · exact Fl.be_bd _
  · split
    · exact bd_app (Nm.num_bd _ (by omega) (by rw [sb_len]; omega)) (sb_bd s)
    · simp

theorem put_len {k : Int} {x : Nat} {s : ByteArray} : 1 ≤ (put k x s).length ∧ (put k x s).length ≤ 20 + s.size := by
  have h1 := Nm.num_len k
  have h2 := Nm.num_len ((sb s).length : Int)
  have h3 := Fl.be_len (Fl.rk x)
  have h4 := sb_len s
  unfold put
  rw [List.length_append]
  split
  · omega
  · split
    · rw [Nm.text_len]
      omega
    · simp
      omega

theorem eq_refl (k : Int) (x : Nat) (s : ByteArray) : eq k x s k x s = true := by simp [eq]
theorem eq_symm (k : Int) (x : Nat) (s : ByteArray) (l : Int) (y : Nat) (t : ByteArray) : eq l y t k x s = eq k x s l y t := by
  unfold eq
  rw [Bool.eq_iff_iff]
  simp
  constructor <;> (rintro ⟨a, b, c⟩; exact ⟨a.symm, b.symm, c.symm⟩)

/-- One text of bytes just if they are the same. -/
theorem put_eq {k : Int} {x : Nat} {s : ByteArray} {l : Int} {y : Nat} {t : ByteArray} (hx : x < 18446744073709551616) (hy : y < 18446744073709551616) (h : may k x s = true) (g : may l y t = true) :
    ((strOfNums (put k x s)).toList == (strOfNums (put l y t)).toList) = eq k x s l y t := by
  have hk : -9223372036854775808 ≤ k ∧ k ≤ 9223372036854775807 := by rcases may_kind h with rfl | rfl | rfl <;> omega
  have hl : -9223372036854775808 ≤ l ∧ l ≤ 9223372036854775807 := by rcases may_kind g with rfl | rfl | rfl <;> omega
  have hss : s.size ≤ 140737488350000 := by
    rcases may_kind h with rfl | rfl | rfl
    · rw [(may_none h).2]; decide
    · rw [(may_float h).2]; decide
    · have := (may_text h).2; omega
  have hts : t.size ≤ 140737488350000 := by
    rcases may_kind g with rfl | rfl | rfl
    · rw [(may_none g).2]; decide
    · rw [(may_float g).2]; decide
    · have := (may_text g).2; omega
  rw [Bool.eq_iff_iff]
  simp only [beq_iff_eq]
  constructor
  · intro q
    have q2 : put k x s = put l y t := Fl.str_inj (put_bd hk.1 hk.2 hss) (put_bd hl.1 hl.2 hts) (by
      apply ByteArray.ext
      apply Array.toList_inj.1
      rw [← ByteArray.toList_eq, ← ByteArray.toList_eq, q])
    have e1 := get_put' hx h
    rw [q2, get_put' hy g] at e1
    simp only [Prod.mk.injEq] at e1
    obtain ⟨rfl, rfl, e3, -, -⟩ := e1
    have : t = s := by rw [← sb_back t, ← sb_back s, e3]
    subst this
    exact eq_refl _ _ _
  · intro q
    simp [eq] at q
    obtain ⟨rfl, rfl, q⟩ := q
    unfold put
    rw [q]
end Go.Proofs.Ytbddghdkmakjlab.Dt

namespace Go.Proofs.Ytbddghdkmakjlab
set_option maxRecDepth 100000
set_option linter.unusedVariables false
open Go.RowKit

set_option maxHeartbeats 400000 in
theorem sameBits_any (x y : Nat) (w : World) :
    Calls Try.prog 57 #[.float .f64 x, .float .f64 y] w fun e w' => e = .returned (.bool (decide (x = y))) ∧ w' = w := by
  have kb := run_bits
  go_enter Try.func57, Try.ntmps57
  go_wp2_with fail
  go_ret
  exact ⟨ret_bool (beq_nat _ _), rfl⟩

theorem below_dn {B : Nat} {a w : World} (h : Below B a w) (n : Nat) : Below B a (w.drewN n) := h.trans ⟨rfl, rfl, rfl, Nat.le_refl _, fun _ _ => rfl⟩

theorem str_empty (s : ByteArray) : s.toList.isEmpty = decide (s.size = 0) := by
  rw [ByteArray.toList_eq]
  have : s.size = s.data.toList.length := by simp
  rw [this]
  cases s.data.toList <;> rfl

theorem may_0 (x : Nat) (s : ByteArray) : Dt.may 0 x s = (decide (x = 0) && s.toList.isEmpty) := by rw [str_empty]; simp [Dt.may]
theorem may_1 (x : Nat) (s : ByteArray) : Dt.may 1 x s = (decide (x = Fl.cl x) && s.toList.isEmpty) := by rw [str_empty]; simp [Dt.may]
theorem may_2 (x : Nat) (s : ByteArray) : Dt.may 2 x s = (decide (x = 0) && decide ((s.size : Int) ≤ 20)) := by
  simp [Dt.may]
  congr 1
  rw [decide_eq_decide]
  omega
theorem may_other {k : Int} (x : Nat) (s : ByteArray) (h0 : ¬ k = 0) (h1 : ¬ k = 1) (h2 : ¬ k = 2) : Dt.may k x s = false := by simp [Dt.may, h0, h1, h2]

set_option maxHeartbeats 1000000 in
theorem may_any (k : Int) (x : Nat) (s : ByteArray) (w : World) (_hs : s.size ≤ maxLen) :
    Calls Try.prog 43 #[.agg #[.int .i64 k, .float .f64 x, .string s]] w fun e w' => e = .returned (.bool (Dt.may k x s)) ∧ Below w.heap.size w w' := by
  unfold maxLen at _hs
  have hB : Below w.heap.size w (w.alloc (Obj.cells #[Value.int IntKind.i64 k, Value.float FloatKind.f64 x, Value.string s] 32)) := (Below.refl _ _).alloc (Nat.le_refl _) _
  by_cases h0 : k = 0
  · subst h0
    have HM := hide (may_0 x s)
    cases hb : decide (x = 0)
    all_goals
      have HB := hide hb
      clear hb
      go_enter Try.func43, Try.ntmps43
      go_wp2_with fail
      with_reducible refine (sameBits_any x 0 _).mono ?_
      rintro e x ⟨rfl, rfl⟩
      rw [HB.out]
      go_wp2_with fail
      go_ret
      exact ⟨ret_bool (by rw [HM.out, HB.out]; rfl), hB⟩
  · by_cases h1 : k = 1
    · subst h1
      have HM := hide (may_1 x s)
      clear h0
      cases hb : decide (x = Fl.cl x)
      all_goals
        have HB := hide hb
        clear hb
        go_enter Try.func43, Try.ntmps43
        go_wp2_with fail
        go_quiet ((first | (go_at_call 58; exact Calls.quiet_of_same (clean_any x _)) | (go_at_call 57; exact Calls.quiet_of_same (by have := sameBits_any x (Fl.cl x); rw [HB.out] at this; exact this _))))
        go_wp2_with fail
        go_ret
        exact ⟨ret_bool (by rw [HM.out, HB.out]; rfl), below_dn hB _⟩
    · by_cases h2 : k = 2
      · subst h2
        have HM := hide (may_2 x s)
        clear h0 h1
        cases hb : decide (x = 0)
        all_goals
          have HB := hide hb
          clear hb
          go_enter Try.func43, Try.ntmps43
          go_wp2_with fail
          with_reducible refine (sameBits_any x 0 _).mono ?_
          rintro e x ⟨rfl, rfl⟩
          rw [HB.out]
          go_wp2_with fail
          go_ret
          exact ⟨ret_bool (by rw [HM.out, HB.out]; first | rfl | (simp; done)), hB⟩
      · have HM := hide (may_other x s h0 h1 h2)
        have h0' : (k == 0) = false := by simp; exact h0
        have h1' : (k == 1) = false := by simp; exact h1
        have h2' : (k == 2) = false := by simp; exact h2
        clear h0 h1 h2
        go_enter Try.func43, Try.ntmps43
        go_wp2_with fail
        go_ret
        exact ⟨ret_bool (by rw [HM.out]), hB⟩

set_option maxHeartbeats 1000000 in
theorem refMay_any (k : Int) (x : Nat) (s : ByteArray) (w : World) (_hs : s.size ≤ maxLen) (hx : x < 18446744073709551616) :
    Calls Try.prog 28 #[.agg #[.int .i64 k, .float .f64 x, .string s]] w fun e w' => e = .returned (.bool (Dt.may k x s)) ∧ Below w.heap.size w w' := by
  unfold maxLen at _hs
  have hB : Below w.heap.size w (w.alloc (Obj.cells #[Value.int IntKind.i64 k, Value.float FloatKind.f64 x, Value.string s] 32)) := (Below.refl _ _).alloc (Nat.le_refl _) _
  by_cases h0 : k = 0
  · subst h0
    have HM := hide (may_0 x s)
    cases hb : decide (x = 0)
    all_goals
      have HB := hide hb
      have hb' : ((x : Int) == 0) = _ := (beq_nat x 0).trans hb
      clear hb
      go_enter Try.func28, Try.ntmps28
      go_wp2_with fail
      with_reducible refine (bits_any x _).mono ?_
      rintro e x ⟨rfl, rfl⟩
      go_wp2_with fail
      go_ret
      exact ⟨ret_bool (by rw [HM.out, HB.out]; rfl), hB⟩
  · by_cases h1 : k = 1
    · subst h1
      have HM := hide (may_1 x s)
      clear h0
      cases he : s.toList.isEmpty
      all_goals
        have HE := hide he
        go_enter Try.func28, Try.ntmps28
        go_wp2_with fail
        go_quiet ((first | (go_at_call 39; exact Calls.quiet_of_same (refClean_any x _ hx)) | (go_at_call 38; exact Calls.quiet_of_same (eq_any (Fl.cl x) x _))))
        go_wp2_with fail
        go_ret
        exact ⟨ret_bool (by rw [HM.out, HE.out]; simp [eq_comm]), below_dn hB _⟩
    · by_cases h2 : k = 2
      · subst h2
        have HM := hide (may_2 x s)
        clear h0 h1
        cases hb : decide (x = 0)
        all_goals
          have HB := hide hb
          have hb' : ((x : Int) == 0) = _ := (beq_nat x 0).trans hb
          clear hb
          go_enter Try.func28, Try.ntmps28
          go_wp2_with fail
          with_reducible refine (bits_any x _).mono ?_
          rintro e x ⟨rfl, rfl⟩
          go_wp2_with fail
          go_ret
          exact ⟨ret_bool (by rw [HM.out, HB.out]; first | rfl | (simp; done)), hB⟩
      · have HM := hide (may_other x s h0 h1 h2)
        have h0' : (k == 0) = false := by simp; exact h0
        have h1' : (k == 1) = false := by simp; exact h1
        have h2' : (k == 2) = false := by simp; exact h2
        clear h0 h1 h2
        go_enter Try.func28, Try.ntmps28
        go_wp2_with fail
        go_ret
        exact ⟨ret_bool (by rw [HM.out]), hB⟩

/-- Two texts held against one another. -/
theorem str_same (s t : ByteArray) : (s.toList == t.toList) = decide (s = t) := by
  rw [Bool.eq_iff_iff]
  simp only [beq_iff_eq, decide_eq_true_eq]
  constructor
  · intro q
    apply ByteArray.ext
    apply Array.toList_inj.1
    rw [← ByteArray.toList_eq, ← ByteArray.toList_eq, q]
  · intro q
    rw [q]

theorem eq_k {k : Int} (x : Nat) (s : ByteArray) {l : Int} (y : Nat) (t : ByteArray) (h : (k == l) = false) : Dt.eq k x s l y t = false := by
  unfold Dt.eq
  simp at h
  simp [h]
theorem eq_s {k : Int} (x : Nat) {s : ByteArray} {l : Int} (y : Nat) {t : ByteArray} (h : (s.toList == t.toList) = false) : Dt.eq k x s l y t = false := by
  rw [str_same] at h
  simp at h
  simp [Dt.eq, h]
theorem eq_x {k : Int} {x : Nat} {s : ByteArray} {l : Int} {y : Nat} {t : ByteArray} (h : (k == l) = true) (g : (s.toList == t.toList) = true) : Dt.eq k x s l y t = decide (Fl.rk x = Fl.rk y) := by
  rw [str_same] at g
  simp at h g
  simp [Dt.eq, h, g]

/-- Where a float stands. -/
def pl (x : Nat) : Int := (Fl.rk x : Int) - 9223372036854775808

theorem place_pl (x : Nat) (w : World) (hx : x < 18446744073709551616) :
    Calls Try.prog 45 #[.float .f64 x] w fun e w' => e = .returned (.int .i64 (pl x)) ∧ w' = w := place_any x w hx

theorem rk_place (x y : Nat) : (pl x == pl y) = decide (Fl.rk x = Fl.rk y) := by
  unfold pl
  rw [Bool.eq_iff_iff]
  simp
  omega

set_option maxHeartbeats 1000000 in
theorem refEq_any (k : Int) (x : Nat) (s : ByteArray) (l : Int) (y : Nat) (t : ByteArray) (w : World) (hx : x < 18446744073709551616) (hy : y < 18446744073709551616) :
    Calls Try.prog 33 #[.agg #[.int .i64 k, .float .f64 x, .string s], .agg #[.int .i64 l, .float .f64 y, .string t]] w fun e w' => e = .returned (.bool (Dt.eq k x s l y t)) ∧ Below w.heap.size w w' := by
  have hB : Below w.heap.size w ((w.alloc (Obj.cells #[Value.int IntKind.i64 k, Value.float FloatKind.f64 x, Value.string s] 32)).alloc (Obj.cells #[Value.int IntKind.i64 l, Value.float FloatKind.f64 y, Value.string t] 32)) := ((Below.refl _ _).alloc (Nat.le_refl _) _).alloc (by simp) _
  have hP := rk_place x y
  cases hk : (k == l)
  · have HM := hide (eq_k x s y t hk)
    go_enter Try.func33, Try.ntmps33
    go_wp2_with fail
    go_quiet ((fail))
    go_wp2_with fail
    go_ret
    exact ⟨ret_bool (by rw [HM.out]), below_dn hB _⟩
  · cases hs : (s.toList == t.toList)
    · have HM := hide (eq_s (k := k) (l := l) x y hs)
      go_enter Try.func33, Try.ntmps33
      go_wp2_with fail
      go_quiet ((fail))
      go_wp2_with fail
      go_ret
      exact ⟨ret_bool (by rw [HM.out]), below_dn hB _⟩
    · have HM := hide (eq_x (x := x) (y := y) hk hs)
      cases hd : decide (Fl.rk x = Fl.rk y)
      all_goals
        rw [hd] at hP
        have HD := hide hd
        clear hd
        go_enter Try.func33, Try.ntmps33
        go_wp2_with fail
        go_quiet ((go_at_call 45; exact Calls.quiet_of_same (place_pl _ _ (by assumption))))
        go_wp2_with fail
        go_ret
        exact ⟨ret_bool (by rw [HM.out, HD.out]), below_dn hB _⟩
end Go.Proofs.Ytbddghdkmakjlab

namespace Go.Proofs.Ytbddghdkmakjlab
set_option maxRecDepth 100000
set_option linter.unusedVariables false
open Go.RowKit

theorem own_mono {w : World} {base base' : Nat} {e : TypeId} {size : Nat} {v : Value} {n : Nat} {xs : List Value} (h : w.ownsRow base e size v n xs) (hb : base' ≤ base) : w.ownsRow base' e size v n xs := by
  obtain ⟨h1, h2⟩ := h
  refine ⟨h1, h2.imp id ?_⟩
  rintro ⟨g, cap, cur, a, b, c⟩
  exact ⟨g, cap, cur, a, Nat.le_trans hb b, c⟩

theorem own_below {w w' : World} {base : Nat} {e : TypeId} {size : Nat} {v : Value} {n : Nat} {xs : List Value} (h : w.ownsRow base e size v n xs) (hb : Below w.heap.size w w') : w'.ownsRow base e size v n xs := by
  obtain ⟨h1, h2⟩ := h
  refine ⟨h1, h2.imp id ?_⟩
  rintro ⟨g, cap, cur, a, b, c, d⟩
  have hg : g < w.heap.size := by
    rcases Nat.lt_or_ge g w.heap.size with hl | hl
    · exact hl
    · simp [Array.getElem?_eq_none hl] at c
  exact ⟨g, cap, cur, a, b, by rw [hb.block g hg]; exact c, d⟩

/-- The cells of a value that was boxed. -/
theorem box_cells {w w' : World} {a b c : Value} {t : TypeId} (hb : Below (w.alloc (.cells #[a, b, c] t)).heap.size (w.alloc (.cells #[a, b, c] t)) w') :
    w'.cell? ⟨w.heap.size, 0, none⟩ = some a ∧ w'.cell? ⟨w.heap.size, 1, none⟩ = some b ∧ w'.cell? ⟨w.heap.size, 2, none⟩ = some c := by
  refine ⟨?_, ?_, ?_⟩
  · rw [hb.cell (p := ⟨w.heap.size, 0, none⟩) (by simp)]; simp
  · rw [hb.cell (p := ⟨w.heap.size, 1, none⟩) (by simp)]; simp
  · rw [hb.cell (p := ⟨w.heap.size, 2, none⟩) (by simp)]; simp

theorem put_1 (x : Nat) (s : ByteArray) : Dt.put 1 x s = Nm.num 1 ++ Fl.be (Fl.rk x) := by simp [Dt.put]
theorem put_2 (x : Nat) (s : ByteArray) : Dt.put 2 x s = Nm.num 2 ++ Nm.text (sb s) := by simp [Dt.put]
theorem put_other {k : Int} (x : Nat) (s : ByteArray) (h1 : ¬ k = 1) (h2 : ¬ k = 2) : Dt.put k x s = Nm.num k := by simp [Dt.put, h1, h2]

set_option maxHeartbeats 1000000 in
theorem dput_any (v : Value) (zs : List Int) (k : Int) (x : Nat) (s : ByteArray) (w : World) (h : Sl w v zs) (hl : zs.length + s.size ≤ 140737488340000) (h0 : -9223372036854775808 ≤ k) (h1 : k ≤ 9223372036854775807) (hx : x < 18446744073709551616) :
    Calls Try.prog 55 #[v, .agg #[.int .i64 k, .float .f64 x, .string s]] w fun e w' => ∃ v', e = .returned v' ∧
      w'.ownsRow w.heap.size 5 1 v' (zs.length + (Dt.put k x s).length) (bv (zs ++ Dt.put k x s)) ∧ Below w.heap.size w w' := by
  have hbd := h.bd
  have hnb := Nm.num_bd k h0 h1
  have hnl := Nm.num_len k
  generalize hw0 : w.alloc (Obj.cells #[Value.int IntKind.i64 k, Value.float FloatKind.f64 x, Value.string s] 32) = W0
  have hB0 : Below w.heap.size w W0 := by rw [← hw0]; exact (Below.refl _ _).alloc (Nat.le_refl _) _
  have h' := h.later hB0
  have HC : Hid (∀ w', Below W0.heap.size W0 w' → w'.cell? ⟨w.heap.size, 0, none⟩ = some (Value.int IntKind.i64 k) ∧ w'.cell? ⟨w.heap.size, 1, none⟩ = some (Value.float FloatKind.f64 x) ∧ w'.cell? ⟨w.heap.size, 2, none⟩ = some (Value.string s)) := by
    intro w' hb
    rw [← hw0] at hb
    exact box_cells hb
  obtain ⟨d0, d1, d2⟩ := HC.out W0 (Below.refl _ _)
  have hs0 := hB0.size
  by_cases hk1 : k = 1
  · subst hk1
    have HP := hide (put_1 x s)
    go_enter Try.func55, Try.ntmps55
    go_wp2_with fail
    refine (put_any v zs 1 W0 h' (by omega) h0 h1).mono ?_
    rintro e w1 ⟨v1, rfl, ho1, hb1⟩
    obtain ⟨c0, c1, c2⟩ := HC.out _ hb1
    go_wp2_with fail
    refine (bytes_any x _ hx).mono ?_
    rintro e w2 ⟨v2, rfl, ho2, hb2⟩
    have hs2 : Sl w2 v2 (Fl.be (Fl.rk x)) := Sl.own ho2 (Fl.be_bd _)
    have hB2 := (hB0.trans (hb1.mono hs0)).trans (hb2.mono (Nat.le_trans hs0 hb1.size))
    have ho1' := own_mono (own_below ho1 hb2) hs0
    have hsz := hB2.size
    clear ho1 ho2
    go_wp2_with (refine wpList_append_sl rfl (.tmp 14) (.tmp 17) 35 rfl w.heap.size 5 Try.underlying35 Try.info5 _ _ _ rfl ho1' _ _ rfl hs2 (by rw [Fl.be_len]; omega) hsz ?_; intro v3 w3 ho3 hg3)
    have hB3 := hB2.grown hg3 hsz (fun j hj => (ho1'.lt j hj).1)
    go_ret
    refine ⟨_, rfl, ?_, hB3⟩
    rw [HP.out]
    simpa [bv, Nat.add_assoc] using ho3
  · by_cases hk2 : k = 2
    · subst hk2
      have HP := hide (put_2 x s)
      clear hk1
      go_enter Try.func55, Try.ntmps55
      go_wp2_with fail
      refine (put_any v zs 2 W0 h' (by omega) h0 h1).mono ?_
      rintro e w1 ⟨v1, rfl, ho1, hb1⟩
      obtain ⟨c0, c1, c2⟩ := HC.out _ hb1
      have hs1 : Sl w1 v1 (zs ++ Nm.num 2) := Sl.own ho1 (bd_app hbd hnb)
      clear ho1
      go_wp2_with fail
      refine (putText_any v1 (zs ++ Nm.num 2) s _ hs1 (by simp; omega)).mono ?_
      rintro e w2 ⟨v2, rfl, ho2, hb2⟩
      have hB2 := (hB0.trans (hb1.mono hs0)).trans (hb2.mono (Nat.le_trans hs0 hb1.size))
      have ho2' := own_mono ho2 (Nat.le_trans hs0 hb1.size)
      clear ho2 hs1
      go_wp2_with fail
      go_ret
      refine ⟨_, rfl, ?_, hB2⟩
      rw [HP.out]
      simpa [bv, Nat.add_assoc] using ho2'
    · have HP := hide (put_other x s hk1 hk2)
      have hk1' : (k == 1) = false := by simp; exact hk1
      have hk2' : (k == 2) = false := by simp; exact hk2
      clear hk1 hk2
      go_enter Try.func55, Try.ntmps55
      go_wp2_with fail
      refine (put_any v zs k W0 h' (by omega) h0 h1).mono ?_
      rintro e w1 ⟨v1, rfl, ho1, hb1⟩
      obtain ⟨c0, c1, c2⟩ := HC.out _ hb1
      have hB2 := hB0.trans (hb1.mono hs0)
      have ho2' := own_mono ho1 hs0
      clear ho1
      go_wp2_with fail
      go_ret
      refine ⟨_, rfl, ?_, hB2⟩
      rw [HP.out]
      exact ho2'
end Go.Proofs.Ytbddghdkmakjlab

namespace Go.Proofs.Ytbddghdkmakjlab
set_option maxRecDepth 100000
set_option linter.unusedVariables false
open Go.RowKit

theorem st_float (a : Addr) (b : Nat) (w : World) : (store a (.float .f64 b)).run Try.prog w = stored Try.prog w a (.float .f64 b) .plain := run_store Try.prog w a _ _ rfl
theorem nums_nil : strOfNums [] = ⟨#[]⟩ := rfl

/-- The marks of a variable of three cells. -/
theorem box_frozen {w w' : World} {a b c : Value} {t : TypeId} (hb : Below (w.alloc (.cells #[a, b, c] t)).heap.size (w.alloc (.cells #[a, b, c] t)) w') :
    w'.frozen? ⟨w.heap.size, 0, none⟩ = false ∧ w'.frozen? ⟨w.heap.size, 1, none⟩ = false ∧ w'.frozen? ⟨w.heap.size, 2, none⟩ = false := by
  refine ⟨?_, ?_, ?_⟩
  · rw [hb.frozen (p := ⟨w.heap.size, 0, none⟩) (by simp)]; simp
  · rw [hb.frozen (p := ⟨w.heap.size, 1, none⟩) (by simp)]; simp
  · rw [hb.frozen (p := ⟨w.heap.size, 2, none⟩) (by simp)]; simp

theorem below_set3 {B b : Nat} {a w : World} (h : Below B a w) (hb : B ≤ b) (u v t : Value) : Below B a (((w.setCell ⟨b, 0, none⟩ u).setCell ⟨b, 1, none⟩ v).setCell ⟨b, 2, none⟩ t) :=
  Below.setCell (p := ⟨b, 2, none⟩) (Below.setCell (p := ⟨b, 1, none⟩) (Below.setCell (p := ⟨b, 0, none⟩) h hb u) hb v) hb t

set_option maxHeartbeats 1000000 in
theorem getFloat_any (v : Value) (zs : List Int) (w : World) (h : Sl w v zs) :
    Calls Try.prog 65 #[v] w fun e w' => e = .returned (.tuple #[.agg #[.int .i64 (Dt.con 1 zs).1, .float .f64 (Dt.con 1 zs).2.1, .string (strOfNums (Dt.con 1 zs).2.2.1)], .int .i64 (Dt.con 1 zs).2.2.2.1, .int .i64 (Dt.con 1 zs).2.2.2.2]) ∧ Below w.heap.size w w' := by
  have hsf := st_float
  obtain ⟨p, n, cp, rfl, hn, hc, Hn, HS⟩ := h.opens
  clear h
  by_cases h8 : n < 8
  · have HF : Hid (Dt.con 1 zs = (0, 0, [], 0, 2)) := Dt.con_short (by rw [← Hn.out]; exact h8)
    go_enter Try.func65, Try.ntmps65
    go_wp2_with fail
    exact bodyPost_ret (v := .tuple #[.agg #[.int .i64 0, .float .f64 0, .string ⟨#[]⟩], .int .i64 0, .int .i64 2]) (by simp [results, Try.results65, go_sem]) rfl ⟨by rw [HF.out, nums_nil], (Below.refl _ _).alloc (Nat.le_refl _) _⟩
  · have hS8 := HS.out.head (m := 8) (by rw [← Hn.out]; omega)
    generalize hW : w.alloc (Obj.cells #[Value.int IntKind.i64 0, Value.float FloatKind.f64 0, Value.string { data := #[] }] 32) = W0
    have hB0 : Below w.heap.size w W0 := by rw [← hW]; exact (Below.refl _ _).alloc (Nat.le_refl _) _
    have hS8' := hide (hS8.later hB0)
    obtain ⟨c0, c1, c2⟩ : _ := box_cells (w' := W0) (by rw [hW]; exact Below.refl _ _)
    obtain ⟨f0, f1, f2⟩ : _ := box_frozen (w' := W0) (by rw [hW]; exact Below.refl _ _)
    clear hS8
    cases hf : (Fl.fo (zs.take 8)).2
    · have HO := hide hf
      have HF : Hid (Dt.con 1 zs = (0, 0, [], 0, 1)) := Dt.con_bad (by rw [← Hn.out]; exact h8) hf
      clear hf
      go_enter Try.func65, Try.ntmps65
      go_wp2_with fail
      with_reducible refine (ofBytes_any _ _ _ hS8'.out).mono ?_
      rintro e x ⟨rfl, rfl⟩
      rw [HO.out]
      go_wp2_with fail
      refine bodyPost_ret (v := .tuple #[.agg #[.int .i64 0, .float .f64 0, .string ⟨#[]⟩], .int .i64 0, .int .i64 1]) (by simp [results, Try.results65, go_sem, c0, c1, c2]) rfl ⟨by rw [HF.out, nums_nil], ?_⟩
      exact below_set3 hB0 (Nat.le_refl _) _ _ _
    · have HO := hide hf
      have HF : Hid (Dt.con 1 zs = (1, (Fl.fo (zs.take 8)).1, [], 8, 0)) := Dt.con_float (by rw [← Hn.out]; exact h8) hf
      clear hf
      go_enter Try.func65, Try.ntmps65
      go_wp2_with fail
      with_reducible refine (ofBytes_any _ _ _ hS8'.out).mono ?_
      rintro e x ⟨rfl, rfl⟩
      rw [HO.out]
      generalize (Fl.fo (zs.take 8)).1 = y at *
      go_wp2_with fail
      refine bodyPost_ret (v := .tuple #[.agg #[.int .i64 1, .float .f64 y, .string ⟨#[]⟩], .int .i64 8, .int .i64 0]) (by simp [results, Try.results65, go_sem, c0, c1, c2]) rfl ⟨by rw [HF.out, nums_nil], ?_⟩
      exact below_set3 hB0 (Nat.le_refl _) _ _ _
set_option maxHeartbeats 1000000 in
theorem content_any (k : Int) (v : Value) (zs : List Int) (w : World) (h : Sl w v zs) :
    Calls Try.prog 64 #[.int .i64 k, v] w fun e w' => e = .returned (.tuple #[.agg #[.int .i64 (Dt.raw k zs).1, .float .f64 (Dt.raw k zs).2.1, .string (strOfNums (Dt.raw k zs).2.2.1)], .int .i64 (Dt.raw k zs).2.2.2.1, .int .i64 (Dt.raw k zs).2.2.2.2]) ∧ Below w.heap.size w w' := by
  have hsf := st_float
  generalize hW : w.alloc (Obj.cells #[Value.int IntKind.i64 0, Value.float FloatKind.f64 0, Value.string { data := #[] }] 32) = W0
  have hB0 : Below w.heap.size w W0 := by rw [← hW]; exact (Below.refl _ _).alloc (Nat.le_refl _) _
  have hS := hide (h.later hB0)
  have hs0 := hB0.size
  have HC : Hid (∀ w', Below W0.heap.size W0 w' → _) := fun w' hb => box_cells (w := w) (w' := w') (by rw [hW]; exact hb)
  have HZ : Hid (∀ w', Below W0.heap.size W0 w' → _) := fun w' hb => box_frozen (w := w) (w' := w') (by rw [hW]; exact hb)
  obtain ⟨c0, c1, c2⟩ := HC.out W0 (Below.refl _ _)
  obtain ⟨f0, f1, f2⟩ := HZ.out W0 (Below.refl _ _)
  by_cases h0 : k = 0
  · subst h0
    have HF : Hid (Dt.raw 0 zs = (0, 0, [], 0, 0)) := (Dt.raw_not _ (by decide)).trans (Dt.con_none _)
    go_enter Try.func64, Try.ntmps64
    go_wp2_with fail
    refine bodyPost_ret (v := .tuple #[.agg #[.int .i64 0, .float .f64 0, .string ⟨#[]⟩], .int .i64 0, .int .i64 0]) (by simp [results, Try.results64, go_sem, c0, c1, c2]) rfl ⟨by rw [HF.out, nums_nil], ?_⟩
    exact below_set3 hB0 (Nat.le_refl _) _ _ _
  · by_cases h1 : k = 1
    · subst h1
      have HF : Hid (Dt.raw 1 zs = Dt.con 1 zs) := Dt.raw_not _ (by decide)
      clear h0
      go_enter Try.func64, Try.ntmps64
      go_wp2_with fail
      with_reducible refine (getFloat_any _ _ _ hS.out).mono ?_
      rintro e w1 ⟨rfl, hb1⟩
      clear c0 c1 c2 f0 f1 f2
      obtain ⟨c0, c1, c2⟩ := HC.out _ hb1
      obtain ⟨f0, f1, f2⟩ := HZ.out _ hb1
      obtain ⟨A, B, C, D, E, hE⟩ : ∃ A B C D E, Dt.con 1 zs = (A, B, C, D, E) := ⟨_, _, _, _, _, rfl⟩
      rw [hE] at HF ⊢
      go_wp2_with fail
      refine bodyPost_ret (v := .tuple #[.agg #[.int .i64 A, .float .f64 B, .string (strOfNums C)], .int .i64 D, .int .i64 E]) (by simp [results, Try.results64, go_sem, c0, c1, c2]) rfl ⟨by rw [HF.out], ?_⟩
      exact below_set3 (hB0.trans (hb1.mono hs0)) (Nat.le_refl _) _ _ _
    · by_cases h2 : k = 2
      · subst h2
        have HF := hide (Dt.raw_2 zs)
        clear h0 h1
        go_enter Try.func64, Try.ntmps64
        go_wp2_with fail
        with_reducible refine (getText_any _ _ _ hS.out).mono ?_
        rintro e x ⟨rfl, rfl⟩
        obtain ⟨C, D, E, hE⟩ : ∃ C D E, Nm.getText zs = (C, D, E) := ⟨_, _, _, rfl⟩
        rw [hE] at HF ⊢
        go_wp2_with fail
        refine bodyPost_ret (v := .tuple #[.agg #[.int .i64 2, .float .f64 0, .string (strOfNums C)], .int .i64 D, .int .i64 E]) (by simp [results, Try.results64, go_sem, c0, c1, c2]) rfl ⟨by rw [HF.out], ?_⟩
        exact below_set3 hB0 (Nat.le_refl _) _ _ _
      · have HF : Hid (Dt.raw k zs = (0, 0, [], 0, 1)) := (Dt.raw_not _ h2).trans (Dt.con_other _ h0 h1 h2)
        have h0' : (k == 0) = false := by simp; exact h0
        have h1' : (k == 1) = false := by simp; exact h1
        have h2' : (k == 2) = false := by simp; exact h2
        clear h0 h1 h2
        go_enter Try.func64, Try.ntmps64
        go_wp2_with fail
        refine bodyPost_ret (v := .tuple #[.agg #[.int .i64 0, .float .f64 0, .string ⟨#[]⟩], .int .i64 0, .int .i64 1]) (by simp [results, Try.results64, go_sem, c0, c1, c2]) rfl ⟨by rw [HF.out, nums_nil], ?_⟩
        exact below_set3 hB0 (Nat.le_refl _) _ _ _
set_option maxHeartbeats 2000000 in
theorem dget_any (v : Value) (zs : List Int) (w : World) (h : Sl w v zs) :
    Calls Try.prog 62 #[v] w fun e w' => e = .returned (.tuple #[.agg #[.int .i64 (Dt.get zs).1, .float .f64 (Dt.get zs).2.1, .string (strOfNums (Dt.get zs).2.2.1)], .int .i64 (Dt.get zs).2.2.2.1, .int .i64 (Dt.get zs).2.2.2.2]) ∧ Below w.heap.size w w' := by
  have hsf := st_float
  generalize hW : w.alloc (Obj.cells #[Value.int IntKind.i64 0, Value.float FloatKind.f64 0, Value.string { data := #[] }] 32) = W0
  have hB0 : Below w.heap.size w W0 := by rw [← hW]; exact (Below.refl _ _).alloc (Nat.le_refl _) _
  have hS := hide (h.later hB0)
  have hs0 := hB0.size
  have HC : Hid (∀ w', Below W0.heap.size W0 w' → _) := fun w' hb => box_cells (w := w) (w' := w') (by rw [hW]; exact hb)
  have HZ : Hid (∀ w', Below W0.heap.size W0 w' → _) := fun w' hb => box_frozen (w := w) (w' := w') (by rw [hW]; exact hb)
  obtain ⟨c0, c1, c2⟩ := HC.out W0 (Below.refl _ _)
  obtain ⟨f0, f1, f2⟩ := HZ.out W0 (Below.refl _ _)
  have hbd := h.bd
  have hg := Nm.get_bd zs 0 0 (by omega) (by decide) (by omega) hbd
  obtain ⟨p, n, cp, rfl, hn, hc, Hn, -⟩ := h.opens
  clear h
  have HG := hide (get_any _ _ _ hS.out)
  obtain ⟨r, hr⟩ : ∃ r, r = Nm.get 0 0 zs := ⟨_, rfl⟩
  rw [← hr] at HG hg
  obtain ⟨kk, k, x⟩ := r
  simp only at HG hg
  have HR := hide hr.symm
  clear hr
  rcases hg with ⟨rfl, hk1, hk10, hkl, -, -⟩ | hg
  · simp only [Int.natCast_zero, Int.zero_add] at hk1 hkl
    obtain ⟨k, rfl⟩ := Int.eq_ofNat_of_zero_le (show 0 ≤ k by omega)
    have hkn : k ≤ n := by rw [Hn.out]; omega
    have hR := hS.out.rest (l := k) (by rw [← Hn.out]; exact hkn) _ rfl
    have hrb := Dt.raw_bd kk (zs.drop k) (fun z hz => hbd z (List.mem_of_mem_drop hz))
    obtain ⟨A, B, C, D, E, hE⟩ : ∃ A B C D E, Dt.raw kk (zs.drop k) = (A, B, C, D, E) := ⟨_, _, _, _, _, rfl⟩
    rw [hE] at hrb
    simp only at hrb
    obtain ⟨hD0, hD1, hCl⟩ := hrb
    have hD2 : (k : Int) + D ≤ n := by rw [Hn.out]; rw [List.length_drop] at hD1; omega
    have hCs : (strOfNums C).size ≤ maxLen := by rw [Dt.size_nums]; unfold maxLen; omega
    have HE := hide hE
    have HF0 := hide fun (hm : Dt.may A B (strOfNums C) = false) (he : E = 0) => Dt.get_con_err HR.out (Dt.raw_not_may (he ▸ HE.out) hm) (by decide)
    have HF1 := hide fun (hm : Dt.may A B (strOfNums C) = true) (he : E = 0) => Dt.get_con HR.out (Dt.raw_may (he ▸ HE.out) hm)
    have HF2 := hide fun (he : E ≠ 0) => Dt.get_con_err HR.out (Dt.raw_err HE.out he) he
    have HV : ∃ V, Hid (Sl W0 V (zs.drop k)) ∧ ((cp = k ∧ V = .slice p 0 0) ∨ (¬ cp = k ∧ V = .slice (Option.map (fun x : Addr => x.add k) p) (n - k) (cp - k))) := by
      by_cases hcd : cp = k
      · rw [if_pos hcd, show n - k = 0 by omega, show cp - k = 0 by omega] at hR
        exact ⟨_, hR, .inl ⟨hcd, rfl⟩⟩
      · rw [if_neg hcd] at hR
        exact ⟨_, hR, .inr ⟨hcd, rfl⟩⟩
    obtain ⟨V, HV, hV⟩ := HV
    have HCT := hide (content_any kk V _ _ HV.out)
    rw [HE.out] at HCT
    clear hE hR hbd hCl hD1 HE HV HR hS
    generalize hS : strOfNums C = S at *
    have HSS := hide hS
    clear hS
    rcases hV with ⟨hcd, rfl⟩ | ⟨hcd, rfl⟩
    all_goals
      first | subst hcd | skip
      by_cases he : E = 0
      · subst he
        cases hm : Dt.may A B S
        · have HM := hide hm
          have HF := hide (HF0.out hm rfl)
          clear hm HF0 HF1 HF2
          go_enter Try.func62, Try.ntmps62
          go_wp2_with fail
          with_reducible refine (HG.out).mono ?_
          rintro e x ⟨rfl, rfl⟩
          go_wp2_with fail
          with_reducible refine (HCT.out).mono ?_
          rintro e w1 ⟨rfl, hb1⟩
          go_wp2_with fail
          with_reducible refine (may_any A B S _ hCs).mono ?_
          rintro e w2 ⟨rfl, hb2⟩
          rw [HM.out]
          clear c0 c1 c2 f0 f1 f2
          have hb3 : Below x.heap.size x w2 := (hb1.alloc hb1.size _).trans (hb2.mono (by simp; have := hb1.size; omega))
          obtain ⟨c0, c1, c2⟩ := HC.out _ hb3
          obtain ⟨f0, f1, f2⟩ := HZ.out _ hb3
          obtain ⟨d0, d1, d2⟩ := box_cells hb2
          go_wp2_with fail
          refine bodyPost_ret (v := .tuple #[.agg #[.int .i64 0, .float .f64 0, .string ⟨#[]⟩], .int .i64 0, .int .i64 1]) (by simp [results, Try.results62, go_sem, c0, c1, c2]) rfl ⟨by rw [HF.out, nums_nil], ?_⟩
          exact below_set3 (hB0.trans (hb3.mono hs0)) (Nat.le_refl _) _ _ _
        · have HM := hide hm
          have HF := hide (HF1.out hm rfl)
          clear hm HF0 HF1 HF2
          go_enter Try.func62, Try.ntmps62
          go_wp2_with fail
          with_reducible refine (HG.out).mono ?_
          rintro e x ⟨rfl, rfl⟩
          go_wp2_with fail
          with_reducible refine (HCT.out).mono ?_
          rintro e w1 ⟨rfl, hb1⟩
          go_wp2_with fail
          with_reducible refine (may_any A B S _ hCs).mono ?_
          rintro e w2 ⟨rfl, hb2⟩
          rw [HM.out]
          clear c0 c1 c2 f0 f1 f2
          have hb3 : Below x.heap.size x w2 := (hb1.alloc hb1.size _).trans (hb2.mono (by simp; have := hb1.size; omega))
          obtain ⟨c0, c1, c2⟩ := HC.out _ hb3
          obtain ⟨f0, f1, f2⟩ := HZ.out _ hb3
          obtain ⟨d0, d1, d2⟩ := box_cells hb2
          go_wp2_with fail
          refine bodyPost_ret (v := .tuple #[.agg #[.int .i64 A, .float .f64 B, .string S], .int .i64 _, .int .i64 0]) (by simp [results, Try.results62, go_sem, c0, c1, c2]; rfl) rfl ⟨by rw [HF.out, HSS.out], ?_⟩
          exact below_set3 (hB0.trans (hb3.mono hs0)) (Nat.le_refl _) _ _ _
      · have HF := hide (HF2.out he)
        have he' : (E != 0) = true := by simp; exact he
        clear he HF0 HF1 HF2
        go_enter Try.func62, Try.ntmps62
        go_wp2_with fail
        with_reducible refine (HG.out).mono ?_
        rintro e x ⟨rfl, rfl⟩
        go_wp2_with fail
        with_reducible refine (HCT.out).mono ?_
        rintro e w1 ⟨rfl, hb1⟩
        clear c0 c1 c2 f0 f1 f2
        have hb3 := fun o => hb1.alloc hb1.size o
        have c0 := fun o => (HC.out _ (hb3 o)).1
        have c1 := fun o => (HC.out _ (hb3 o)).2.1
        have c2 := fun o => (HC.out _ (hb3 o)).2.2
        have f0 := fun o => (HZ.out _ (hb3 o)).1
        have f1 := fun o => (HZ.out _ (hb3 o)).2.1
        have f2 := fun o => (HZ.out _ (hb3 o)).2.2
        go_wp2_with fail
        refine bodyPost_ret (v := .tuple #[.agg #[.int .i64 0, .float .f64 0, .string ⟨#[]⟩], .int .i64 0, .int .i64 E]) (by simp [results, Try.results62, go_sem, c0, c1, c2]) rfl ⟨by rw [HF.out, nums_nil], ?_⟩
        exact below_set3 (hB0.trans ((hb3 _).mono hs0)) (Nat.le_refl _) _ _ _
  · have HF : Hid (Dt.get zs = (0, 0, [], 0, x)) := Dt.get_err HR.out (by omega)
    have hx : (x != 0) = true := by simp; omega
    clear hg
    go_enter Try.func62, Try.ntmps62
    go_wp2_with fail
    with_reducible refine (HG.out).mono ?_
    rintro e x ⟨rfl, rfl⟩
    go_wp2_with fail
    refine bodyPost_ret (v := .tuple #[.agg #[.int .i64 0, .float .f64 0, .string ⟨#[]⟩], .int .i64 0, .int .i64 _]) (by simp [results, Try.results62, go_sem, c0, c1, c2]; rfl) rfl ⟨by rw [HF.out, nums_nil], ?_⟩
    exact below_set3 hB0 (Nat.le_refl _) _ _ _
end Go.Proofs.Ytbddghdkmakjlab

namespace Go.Proofs.Ytbddghdkmakjlab
set_option maxRecDepth 100000
set_option linter.unusedVariables false
open Go.RowKit

theorem pow_bd (k : Nat) (hk : k ≤ 9) : 1 ≤ (128 : Int) ^ k ∧ (128 : Int) ^ k ≤ 9223372036854775808 := by
  rw [Nm.pow_nat]
  have h1 : 2 ^ (7 * k) ≤ 2 ^ 63 := Nat.pow_le_pow_right (by omega) (by omega)
  have h2 : 0 < 2 ^ (7 * k) := Nat.pow_pos (by omega)
  omega

theorem prod_bd (c : Int) {k : Nat} (hk : k ≤ 9) : 0 ≤ (c % 128) * (128 : Int) ^ k := by
  have h := pow_bd k hk
  exact Int.mul_nonneg (by omega) (by omega)

end Go.Proofs.Ytbddghdkmakjlab

namespace Go.Proofs.Ytbddghdkmakjlab
set_option maxRecDepth 100000
set_option linter.unusedVariables false
open Go.RowKit

end Go.Proofs.Ytbddghdkmakjlab

namespace Go.Proofs.Ytbddghdkmakjlab
set_option maxRecDepth 100000
set_option linter.unusedVariables false
open Go.RowKit

theorem wp_append_sl {P : Program} {w : World} {o : Oper} {a : Act} {K : Act → World → Prop} {Q : Exit → Act → World → Prop} (s x : Operand) (t : TypeId)
    (ho : o.op = .call { callee := .builtin .append, args := #[s, x], argTypes := #[t, t] })
    (base : Nat) (e : TypeId) (ht : P.underlying t = some (.slice e)) (hinfo : (P.info? e).map (fun i => (i.zero, i.size, i.bytes)) = some (some (.int .u8 0), 1, 1))
    (v : Value) (n : Nat) (xs : List Int) (hs : a.eval s = v) (hown : w.ownsRow base e 1 v n (bv xs)) (vx : Value) (zs : List Int) (hx : a.eval x = vx) (hsl : Sl w vx zs)
    (hbytes : n + zs.length ≤ 140737488355328) (hbase : base ≤ w.heap.size)
    (h : ∀ v' w', w'.ownsRow base e 1 v' (n + zs.length) (bv (xs ++ zs)) → w.grownBy w' v.ownBlock → K (a.put o.dst v') w') : o.wp P a w K Q := by
  obtain ⟨i, hi, hz0, hz1, hz2⟩ := info_parts hinfo
  have hsl' := hsl
  obtain ⟨p, cap, rfl, h1, h2, h3, h4⟩ := hsl
  cases p with
  | none =>
    have h0 : zs.length = 0 := by
      rcases Nat.eq_zero_or_pos zs.length with h | h
      · exact h
      · obtain ⟨b, off, e, _⟩ := h4 0 h; simp at e
    obtain rfl : zs = [] := List.eq_nil_of_length_eq_zero h0
    have hrun := run_append_none_any (P := P) base t o.type e i 1 ht hi v n cap _ hown
    unfold Oper.wp
    simp [execOp, ho, resolve, invoke, builtin, hs, hx, hrun, Result.andThen]
    exact h v w (by simpa using hown) (World.grownBy.refl _ _)
  | some ad =>
    refine wp_append_own w s x t ho base e i (.int .u8 0) 1 1 ht hi hz0 hz1 hz2 rfl (by decide) v n (bv xs) hs hown ad zs.length cap (bv zs) hx (by simp [bv]) ?_ (bv_one zs) (by unfold maxLen; omega) (by omega) hbase ?_
    · intro j u hj
      have hp : 0 < (bv zs).length := by
        have := (List.getElem?_eq_some_iff.1 hj).1
        omega
      obtain ⟨ad', e1, hc⟩ := hsl'.src (W := w) (Below.refl _ _) hp
      simp at e1
      subst e1
      exact hc j u hj
    · intro v' w' ho' hg' _
      exact h v' w' (by rw [bv_app]; exact ho') hg'
end Go.Proofs.Ytbddghdkmakjlab

namespace Go.Proofs.Ytbddghdkmakjlab
set_option maxRecDepth 100000
set_option linter.unusedVariables false
open Go.RowKit

/-- A value's three cells. -/
def vc (q : Int × Nat × ByteArray) : List Value := [.int .i64 q.1, .float .f64 q.2.1, .string q.2.2]

/-- Each part of it within its bounds. -/
def okv (q : Int × Nat × ByteArray) : Prop := -9223372036854775808 ≤ q.1 ∧ q.1 ≤ 9223372036854775807 ∧ q.2.1 < 18446744073709551616 ∧ q.2.2.size ≤ maxLen

/-- A slice of values that is there. -/
def Vs (w : World) (v : Value) (L : List (Int × Nat × ByteArray)) : Prop :=
  ∃ a cap, v = .slice a L.length cap ∧ L.length ≤ cap ∧ cap ≤ maxLen ∧ (∀ q ∈ L, okv q) ∧
    ∀ i q, L[i]? = some q → ∃ b off, a = some ⟨b, off, none⟩ ∧ w.cell? ⟨b, off + i * 3, none⟩ = some (.int .i64 q.1) ∧ w.cell? ⟨b, off + (i * 3 + 1), none⟩ = some (.float .f64 q.2.1) ∧ w.cell? ⟨b, off + (i * 3 + 2), none⟩ = some (.string q.2.2)

theorem Vs.later {w w' : World} {v : Value} {L : List (Int × Nat × ByteArray)} (h : Vs w v L) (hb : Below w.heap.size w w') : Vs w' v L := by
  obtain ⟨a, cap, e, h1, h2, h3, h4⟩ := h
  refine ⟨a, cap, e, h1, h2, h3, fun i q hq => ?_⟩
  obtain ⟨b, off, ea, c0, c1, c2⟩ := h4 i q hq
  refine ⟨b, off, ea, ?_, ?_, ?_⟩
  · rw [hb.cell (p := ⟨b, off + i * 3, none⟩) (cell_lt c0), c0]
  · rw [hb.cell (p := ⟨b, off + (i * 3 + 1), none⟩) (cell_lt c1), c1]
  · rw [hb.cell (p := ⟨b, off + (i * 3 + 2), none⟩) (cell_lt c2), c2]

theorem trod_float {H : Type} {enc : TypeId × Value → H} {P : Program} {w : World} {base : Nat} {spare : Nat → Bool} {held : Bool} {fuel : Nat} {t : TypeId} {cs : List Value} {x : DataW H × List MemPlace} (ht : P.underlying t = some (.float .f64)) (h : DataW.trod enc P w base spare held fuel t cs = some x) : ∃ n, cs = [.float .f64 n] ∧ n < 18446744073709551616 := by
  cases fuel with
  | zero => simp [DataW.trod] at h
  | succ n =>
    unfold DataW.trod at h
    rw [ht] at h
    split at h <;> simp_all
    rename_i k k' b hk
    subst hk
    have := h.1.2
    simp [Lit.wf] at this
    omega

/-- A slice of structs of an int, a float64 and a string, as it came in. -/
theorem open_vals {H : Type} {enc : TypeId × Value → H} {P : Program} {w : World} {base : Nat} {spare : Nat → Bool} {held : Bool} {fuel : Nat} {t : TypeId} {cs : List Value} {x : DataW H × List MemPlace} {e : TypeId} {f0 f1 f2 : Field} (ht : P.underlying t = some (.slice e)) (he : P.underlying e = some (.struct #[f0, f1, f2])) (ce : P.cellsOf e = 3)
    (o0 : f0.offset = 0) (o1 : f1.offset = 1) (o2 : f2.offset = 2) (c0 : P.cellsOf f0.type = 1) (c1 : P.cellsOf f1.type = 1) (c2 : P.cellsOf f2.type = 1)
    (t0 : P.underlying f0.type = some (.int .i64)) (t1 : P.underlying f1.type = some (.float .f64)) (t2 : P.underlying f2.type = some .string)
    (h : DataW.trod enc P w base spare held fuel t cs = some x) : ∃ a len cap L, cs = [.slice a len cap] ∧ Vs w (.slice a len cap) L := by
  rcases Deep.open_slice ht h with ⟨rfl, _⟩ | ⟨a, len, cap, m, n, D, Pl, rfl, hb, hl, hm, hmm, rfl, hx⟩
  · exact ⟨none, 0, 0, [], rfl, none, 0, rfl, Nat.le_refl _, Nat.zero_le _, by simp, by simp⟩
  have hlm : len ≤ m := by rw [hmm]; split <;> omega
  have each : ∀ i, i < len → ∃ q : Int × Nat × ByteArray, okv q ∧ w.cell? (a.add (i * 3)) = some (.int .i64 q.1) ∧ w.cell? (a.add (i * 3 + 1)) = some (.float .f64 q.2.1) ∧ w.cell? (a.add (i * 3 + 2)) = some (.string q.2.2) := by
    intro i hi
    obtain ⟨cs', h1, h2⟩ := hx i (by omega)
    rw [ce] at h1
    obtain ⟨_, hlen, hcell⟩ := World.cells?_some h1
    obtain ⟨xs, k, hk, hxy, _, hxl, hf⟩ := DataW.trod_struct he h2
    match xs, hxl, cs', hlen with
    | [y0, y1, y2], _, [v0, v1, v2], _ =>
      have g0 := hf 0 f0 rfl
      have g1 := hf 1 f1 rfl
      have g2 := hf 2 f2 rfl
      simp [o0, o1, o2, c0, c1, c2] at g0 g1 g2
      have e0 := hcell 0 (by omega)
      have e1 := hcell 1 (by omega)
      have e2 := hcell 2 (by omega)
      rw [Deep.add_add] at e0 e1 e2
      obtain ⟨z, hz, -, hw⟩ := DataW.trod_int t0 g0
      obtain ⟨y, hy, hyb⟩ := trod_float t1 g1
      obtain ⟨s, hs, -, hsb⟩ := DataW.trod_string t2 g2
      simp at hz hy hs
      subst hz hy hs
      have hzb := bounds_i64 hw
      exact ⟨(z, y, s), ⟨hzb.1, hzb.2, hyb, hsb⟩, by simpa using e0, by simpa using e1, by simpa using e2⟩
  have each' : ∀ i : Fin len, ∃ q : Int × Nat × ByteArray, okv q ∧ w.cell? (a.add (i.1 * 3)) = some (.int .i64 q.1) ∧ w.cell? (a.add (i.1 * 3 + 1)) = some (.float .f64 q.2.1) ∧ w.cell? (a.add (i.1 * 3 + 2)) = some (.string q.2.2) := fun i => each i.1 i.2
  have ⟨Q, hQ⟩ := Classical.axiomOfChoice each'
  refine ⟨some a, len, cap, List.ofFn Q, rfl, some a, cap, by simp, by simpa using hl, hm, ?_, ?_⟩
  · intro q hq
    obtain ⟨i, rfl⟩ := List.mem_ofFn.1 hq
    exact (hQ i).1
  · intro i q hq
    have hi : i < len := by
      have := (List.getElem?_eq_some_iff.1 hq).1
      simpa using this
    have hq' : Q ⟨i, hi⟩ = q := by simpa [List.getElem?_ofFn, hi] using hq
    obtain ⟨_, d0, d1, d2⟩ := hQ ⟨i, hi⟩
    rw [hq'] at d0 d1 d2
    obtain ⟨b, off, spot⟩ := a
    have hspot : spot = none := by
      have := (hQ ⟨0, by omega⟩).2.1
      simpa [Addr.add] using World.cell?_spot this
    subst hspot
    simp only [add_plain] at d0 d1 d2
    exact ⟨b, off, rfl, d0, d1, d2⟩
end Go.Proofs.Ytbddghdkmakjlab

namespace Go.Proofs.Ytbddghdkmakjlab
set_option maxRecDepth 100000
set_option linter.unusedVariables false
open Go.RowKit

/-- All that was there is as it was, but for the blocks S. -/
structure But (S : Nat → Prop) (w w' : World) : Prop where
  os : w'.os = w.os
  tape : w'.tape = w.tape
  output : w'.output = w.output
  size : w.heap.size ≤ w'.heap.size
  block : ∀ k, k < w.heap.size → ¬ S k → w'.heap[k]? = w.heap[k]?

theorem But.refl (S : Nat → Prop) (w : World) : But S w w := ⟨rfl, rfl, rfl, Nat.le_refl _, fun _ _ _ => rfl⟩

theorem But.trans {S : Nat → Prop} {a b c : World} (h : But S a b) (k : But S b c) : But S a c :=
  ⟨k.os.trans h.os, k.tape.trans h.tape, k.output.trans h.output, Nat.le_trans h.size k.size, fun i hi hs => (k.block i (Nat.lt_of_lt_of_le hi h.size) hs).trans (h.block i hi hs)⟩

theorem But.mono {S S' : Nat → Prop} {a b : World} (h : But S a b) (hs : ∀ k, k < a.heap.size → S k → S' k) : But S' a b :=
  ⟨h.os, h.tape, h.output, h.size, fun i hi hn => h.block i hi fun hk => hn (hs i hi hk)⟩

theorem But.below {S : Nat → Prop} {a b : World} {B : Nat} (h : But S a b) (hB : B ≤ a.heap.size) (hs : ∀ k, k < B → ¬ S k) : Below B a b :=
  ⟨h.os, h.tape, h.output, h.size, fun i hi => h.block i (Nat.lt_of_lt_of_le hi hB) (hs i hi)⟩

theorem But.of {S : Nat → Prop} {a b : World} (h : Below a.heap.size a b) : But S a b := ⟨h.os, h.tape, h.output, h.size, fun i hi _ => h.block i hi⟩

theorem But.alloc {S : Nat → Prop} {a w : World} (h : But S a w) (o : Obj) : But S a (w.alloc o) := h.trans (.of ((Below.refl _ _).alloc (Nat.le_refl _) o))

theorem But.setCell {S : Nat → Prop} {a w : World} (h : But S a w) {p : Addr} (hp : S p.block ∨ a.heap.size ≤ p.block) (u : Value) : But S a (w.setCell p u) :=
  ⟨h.os, h.tape, h.output, by have := h.size; simpa [World.setCell] using this, fun k hk hs => by
    rw [Below.heap_setCell _ _ _ _ (by rintro rfl; rcases hp with hp | hp; exact hs hp; omega)]
    exact h.block k hk hs⟩

/-- A block that was new ahead of it. -/
theorem But.head {S : Nat → Prop} {a b c : World} (h : Below a.heap.size a b) (k : But S b c) : But S a c := (But.of h).trans k

theorem But.cell {S : Nat → Prop} {a b : World} (h : But S a b) {p : Addr} (hp : p.block < a.heap.size) (hs : ¬ S p.block) : b.cell? p = a.cell? p := World.cell?_of_block (w := a) (h.block p.block hp hs)
theorem But.frozen {S : Nat → Prop} {a b : World} (h : But S a b) {p : Addr} (hp : p.block < a.heap.size) (hs : ¬ S p.block) : b.frozen? p = a.frozen? p := World.frozen?_of_block (w := a) (h.block p.block hp hs)

/-- A variable that is there: its value. -/
def Var (p : Addr) (v : Value) (w : World) : Prop := w.cell? p = some v ∧ w.frozen? p = false

theorem Var.below {p : Addr} {v : Value} {B : Nat} (hp : p.block < B) (a b : World) (h : Below B a b) (hv : Var p v a) : Var p v b := ⟨by rw [h.cell hp, hv.1], by rw [h.frozen hp, hv.2]⟩
theorem Var.but {p : Addr} {v : Value} {S : Nat → Prop} {a b : World} (hv : Var p v a) (h : But S a b) (hs : ¬ S p.block) : Var p v b := ⟨by rw [h.cell (cell_lt hv.1) hs, hv.1], by rw [h.frozen (cell_lt hv.1) hs, hv.2]⟩
theorem Var.set {p : Addr} {u : Value} {a : World} (hv : Var p u a) (v : Value) : Var p v (a.setCell p v) := ⟨World.cell?_setCell_same _ _ _ hv.1, by rw [World.frozen?_setCell, hv.2]⟩
theorem Var.other {p q : Addr} {u : Value} {a : World} (hv : Var p u a) (h : q ≠ p) (v : Value) : Var p u (a.setCell q v) := ⟨by rw [World.cell?_setCell_other _ _ _ _ h, hv.1], by rw [World.frozen?_setCell, hv.2]⟩
theorem Var.alloc {p : Addr} {u : Value} {a : World} (hv : Var p u a) (o : Obj) : Var p u (a.alloc o) := ⟨by rw [World.cell?_alloc_lt a o p (cell_lt hv.1), hv.1], by rw [World.frozen?_alloc_old a o p (Nat.ne_of_lt (cell_lt hv.1)), hv.2]⟩
theorem Var.new (a : World) (v : Value) (t : TypeId) : Var ⟨a.heap.size, 0, none⟩ v (a.alloc (.cells #[v] t)) := ⟨by simp [go_sem], by simp [go_sem]⟩
theorem Var.lt {p : Addr} {v : Value} {w : World} (h : Var p v w) : p.block < w.heap.size := cell_lt h.1
end Go.Proofs.Ytbddghdkmakjlab

namespace Go.Proofs.Ytbddghdkmakjlab
set_option maxRecDepth 100000
set_option linter.unusedVariables false
open Go.RowKit

theorem blk_lt {w : World} {b : Nat} {o : Obj} (h : w.heap[b]? = some o) : b < w.heap.size := (Array.getElem?_eq_some_iff.1 h).1
theorem cell_blk {w : World} {b k : Nat} {c : Array Value} {t : TypeId} {v : Value} (h : w.heap[b]? = some (.cells c t (0, 0))) (hk : c[k]? = some v) : w.cell? ⟨b, k, none⟩ = some v := by simp [World.cell?, h, hk]
theorem frozen_blk {w : World} {b : Nat} {c : Array Value} {t : TypeId} (k : Nat) (h : w.heap[b]? = some (.cells c t (0, 0))) : w.frozen? ⟨b, k, none⟩ = false := by simp [World.frozen?, h]

def bo (ks : List Bool) : List Value := ks.map Value.bool

/-- A slice that is there: its cells are vs, one each. -/
def Rw (w : World) (v : Value) (vs : List Value) : Prop :=
  ∃ a cap, v = .slice a vs.length cap ∧ vs.length ≤ cap ∧ cap ≤ maxLen ∧ ∀ i, (h : i < vs.length) → ∃ b off, a = some ⟨b, off, none⟩ ∧ w.cell? ⟨b, off + i, none⟩ = some vs[i]

theorem Rw.nil (w : World) : Rw w (.slice none 0 0) [] := ⟨none, 0, rfl, Nat.le_refl _, Nat.zero_le _, fun i hi => by simp at hi⟩

theorem Rw.later {w w' : World} {v : Value} {vs : List Value} (h : Rw w v vs) (hb : Below w.heap.size w w') : Rw w' v vs := by
  obtain ⟨a, cap, e, h1, h2, h3⟩ := h
  refine ⟨a, cap, e, h1, h2, fun i hi => ?_⟩
  obtain ⟨b, off, ea, hc⟩ := h3 i hi
  exact ⟨b, off, ea, by rw [hb.cell (p := ⟨b, off + i, none⟩) (cell_lt hc), hc]⟩

theorem Rw.own {w : World} {base : Nat} {e : TypeId} {v : Value} {n : Nat} {vs : List Value} (h : w.ownsRow base e 1 v n vs) : Rw w v vs := by
  obtain ⟨hl, h⟩ := h
  rw [Nat.mul_one] at hl
  subst hl
  rcases h with ⟨rfl, h0⟩ | ⟨g, cap, cur, rfl, _, hh, h1, h2, h3, h4⟩
  · exact ⟨none, 0, by rw [h0], by omega, by unfold maxLen; omega, fun i hi => by omega⟩
  · refine ⟨_, cap, rfl, h1, h2, fun i hi => ⟨g, 0, rfl, ?_⟩⟩
    have h5 : (cur.toList.take (vs.length * 1))[i]? = vs[i]? := by rw [h4]
    rw [List.getElem?_take_of_lt (by omega), List.getElem?_eq_getElem hi] at h5
    exact cell_blk hh (by simpa using h5)

/-- Its value, written out. -/
theorem Rw.opens {w : World} {v : Value} {vs : List Value} (h : Rw w v vs) : ∃ p n cp, v = .slice p n cp ∧ n ≤ cp ∧ cp ≤ 9223372036854775807 ∧ Hid (n = vs.length) ∧ Hid (Rw w (.slice p n cp) vs) := by
  have h' := h
  obtain ⟨a, cap, rfl, h1, h2, -⟩ := h
  unfold maxLen at h2
  exact ⟨a, _, cap, rfl, h1, by omega, rfl, h'⟩

theorem Rw.cell {w : World} {p : Option Addr} {n cp : Nat} {vs : List Value} (h : Rw w (.slice p n cp) vs) {i : Nat} (hi : i < vs.length) : ∃ b off, p = some ⟨b, off, none⟩ ∧ w.cell? ⟨b, off + i, none⟩ = some vs[i] := by
  obtain ⟨a, cap, e, -, -, h3⟩ := h
  simp at e
  obtain ⟨rfl, -, -⟩ := e
  exact h3 i hi

/-- A slice of the call's own stays where other blocks turn. -/
theorem own_but {w w' : World} {base : Nat} {e : TypeId} {v : Value} {n : Nat} {vs : List Value} {S : Nat → Prop} (h : w.ownsRow base e 1 v n vs) (hb : But S w w') (hs : ∀ k, base ≤ k → ¬ S k) : w'.ownsRow base e 1 v n vs := by
  obtain ⟨hl, h⟩ := h
  refine ⟨hl, ?_⟩
  rcases h with h | ⟨g, cap, cur, rfl, hbase, hh, r⟩
  · exact .inl h
  · exact .inr ⟨g, cap, cur, rfl, hbase, (hb.block g (blk_lt hh) (hs g hbase)).trans hh, r⟩

end Go.Proofs.Ytbddghdkmakjlab
