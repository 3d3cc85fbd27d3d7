/-
  Plain functions on values: which may be, which are the same, their bytes and the way back; no program is named here.
-/
import Derived.Test.YtlefhhmggaaiiabNumA
import Derived.Test.YtlefhhmggaaiiabFltB
namespace Go.Proofs.Ytlefhhmggaaiiab.Dt
open Go.RowKit

/-- A value of kind k, float x, text s may be. -/
def may (k : Int) (x : Nat) (s : ByteArray) : Bool :=
  if k = 0 then decide (x = 0) && decide (s.size = 0)
  else if k = 1 then decide (x = Fl.cl x) && decide (s.size = 0)
  else if k = 2 then decide (x = 0) && decide (s.size ≤ 20)
  else false

/-- Two values are the same. -/
def eq (k : Int) (x : Nat) (s : ByteArray) (l : Int) (y : Nat) (t : ByteArray) : Bool := decide (k = l) && (decide (s = t) && decide (Fl.rk x = Fl.rk y))

/-- A value's bytes. -/
def put (k : Int) (x : Nat) (s : ByteArray) : List Int := Nm.num k ++ (if k = 1 then Fl.be (Fl.rk x) else if k = 2 then Nm.text (sb s) else [])

/-- The value whose kind stood ahead: kind, float, text, how many bytes, the error. -/
def con (k : Int) (zs : List Int) : Int × Nat × List Int × Int × Int :=
  if k = 0 then (0, 0, [], 0, 0)
  else if k = 1 then (if zs.length < 8 then (0, 0, [], 0, 2) else if (Fl.fo (zs.take 8)).2 = false then (0, 0, [], 0, 1) else (1, (Fl.fo (zs.take 8)).1, [], 8, 0))
  else if k = 2 then (if (Nm.getText zs).2.2 ≠ 0 then (0, 0, [], 0, (Nm.getText zs).2.2) else if 20 < (Nm.getText zs).1.length then (0, 0, [], 0, 1) else (2, 0, (Nm.getText zs).1, (Nm.getText zs).2.1, 0))
  else (0, 0, [], 0, 1)

/-- The value at the head. -/
def get (zs : List Int) : Int × Nat × List Int × Int × Int :=
  if (Nm.get 0 0 zs).2.2 ≠ 0 then (0, 0, [], 0, (Nm.get 0 0 zs).2.2)
  else if (con (Nm.get 0 0 zs).1 (zs.drop (Nm.get 0 0 zs).2.1.toNat)).2.2.2.2 ≠ 0 then (0, 0, [], 0, (con (Nm.get 0 0 zs).1 (zs.drop (Nm.get 0 0 zs).2.1.toNat)).2.2.2.2)
  else ((con (Nm.get 0 0 zs).1 (zs.drop (Nm.get 0 0 zs).2.1.toNat)).1, (con (Nm.get 0 0 zs).1 (zs.drop (Nm.get 0 0 zs).2.1.toNat)).2.1,
    (con (Nm.get 0 0 zs).1 (zs.drop (Nm.get 0 0 zs).2.1.toNat)).2.2.1, (Nm.get 0 0 zs).2.1 + (con (Nm.get 0 0 zs).1 (zs.drop (Nm.get 0 0 zs).2.1.toNat)).2.2.2.1, 0)

theorem size_zero {s : ByteArray} (h : s.size = 0) : s = ByteArray.empty := by
  apply ByteArray.ext
  apply Array.toList_inj.1
  have : s.data.toList.length = 0 := by simpa using h
  rw [List.eq_nil_of_length_eq_zero this]
  rfl

theorem may_none {x : Nat} {s : ByteArray} (h : may 0 x s = true) : x = 0 ∧ s = ByteArray.empty := by
  simp [may] at h
  exact ⟨h.1, size_zero (by simpa using h.2)⟩
theorem may_float {x : Nat} {s : ByteArray} (h : may 1 x s = true) : x = Fl.cl x ∧ s = ByteArray.empty := by
  simp [may] at h
  exact ⟨h.1, size_zero (by simpa using h.2)⟩
theorem may_text {x : Nat} {s : ByteArray} (h : may 2 x s = true) : x = 0 ∧ s.size ≤ 20 := by
  simpa [may] using h
theorem may_kind {k : Int} {x : Nat} {s : ByteArray} (h : may k x s = true) : k = 0 ∨ k = 1 ∨ k = 2 := by
  unfold may at h
  split at h
  · omega
  · split at h
    · omega
    · split at h
      · omega
      · simp at h

theorem get_err {zs : List Int} {n k e : Int} (h : Nm.get 0 0 zs = (n, k, e)) (he : e ≠ 0) : get zs = (0, 0, [], 0, e) := by simp [get, h, he]
theorem get_con_err {zs : List Int} {n k : Int} (h : Nm.get 0 0 zs = (n, k, 0)) {a : Int} {b : Nat} {c : List Int} {d f : Int} (hc : con n (zs.drop k.toNat) = (a, b, c, d, f)) (hf : f ≠ 0) : get zs = (0, 0, [], 0, f) := by
  simp [get, h, hc, hf]
theorem get_con {zs : List Int} {n k : Int} (h : Nm.get 0 0 zs = (n, k, 0)) {a : Int} {b : Nat} {c : List Int} {d : Int} (hc : con n (zs.drop k.toNat) = (a, b, c, d, 0)) : get zs = (a, b, c, k + d, 0) := by
  simp [get, h, hc]

theorem con_none (zs : List Int) : con 0 zs = (0, 0, [], 0, 0) := by simp [con]
theorem con_short {zs : List Int} (h : zs.length < 8) : con 1 zs = (0, 0, [], 0, 2) := by simp [con, h]
theorem con_bad {zs : List Int} (h : ¬ zs.length < 8) (hf : (Fl.fo (zs.take 8)).2 = false) : con 1 zs = (0, 0, [], 0, 1) := by simp [con, h, hf]
theorem con_float {zs : List Int} (h : ¬ zs.length < 8) (hf : (Fl.fo (zs.take 8)).2 = true) : con 1 zs = (1, (Fl.fo (zs.take 8)).1, [], 8, 0) := by simp [con, h, hf]
theorem con_terr {zs s : List Int} {n e : Int} (h : Nm.getText zs = (s, n, e)) (he : e ≠ 0) : con 2 zs = (0, 0, [], 0, e) := by simp [con, h, he]
theorem con_long {zs s : List Int} {n : Int} (h : Nm.getText zs = (s, n, 0)) (hs : 20 < s.length) : con 2 zs = (0, 0, [], 0, 1) := by simp [con, h, hs]
theorem con_text {zs s : List Int} {n : Int} (h : Nm.getText zs = (s, n, 0)) (hs : ¬ 20 < s.length) : con 2 zs = (2, 0, s, n, 0) := by simp [con, h, hs]
theorem con_other {k : Int} (zs : List Int) (h0 : k ≠ 0) (h1 : k ≠ 1) (h2 : k ≠ 2) : con k zs = (0, 0, [], 0, 1) := by simp [con, h0, h1, h2]

/-- What is read behind the kind, ahead of the question whether it may be. -/
def raw (k : Int) (zs : List Int) : Int × Nat × List Int × Int × Int :=
  if k = 2 then (2, 0, (Nm.getText zs).1, (Nm.getText zs).2.1, (Nm.getText zs).2.2) else con k zs

theorem raw_2 (zs : List Int) : raw 2 zs = (2, 0, (Nm.getText zs).1, (Nm.getText zs).2.1, (Nm.getText zs).2.2) := by simp [raw]
theorem raw_not {k : Int} (zs : List Int) (h : k ≠ 2) : raw k zs = con k zs := by simp [raw, h]

theorem cl_fo {zs : List Int} (h : (Fl.fo zs).2 = true) : Fl.cl (Fl.fo zs).1 = (Fl.fo zs).1 := by
  unfold Fl.fo at h ⊢
  split
  · split
    · exact Fl.cl_cl _
    · rename_i h1 h2
      rw [if_pos h1, if_neg h2] at h
      simp at h
  · rename_i h1
    rw [if_neg h1] at h
    simp at h

theorem size_nums (zs : List Int) : (strOfNums zs).size = zs.length := by simp [strOfNums, ByteArray.size]

theorem raw_err {k : Int} {zs : List Int} {a : Int} {b : Nat} {c : List Int} {d e : Int} (h : raw k zs = (a, b, c, d, e)) (he : e ≠ 0) : con k zs = (0, 0, [], 0, e) := by
  by_cases hk : k = 2
  · subst hk
    rw [raw_2] at h
    simp only [Prod.mk.injEq] at h
    obtain ⟨-, -, hc, hd, hf⟩ := h
    exact con_terr (s := c) (n := d) (by rw [← hc, ← hd, ← hf]) he
  · rw [raw_not _ hk] at h
    rw [h]
    unfold con at h
    repeat (first | split at h | (simp only [Prod.mk.injEq] at h; obtain ⟨rfl, rfl, rfl, rfl, rfl⟩ := h; first | rfl | (simp at he; done)))
    all_goals (simp only [Prod.mk.injEq] at h; obtain ⟨rfl, rfl, rfl, rfl, rfl⟩ := h; first | rfl | (simp at he; done))

theorem raw_not_may {k : Int} {zs : List Int} {a : Int} {b : Nat} {c : List Int} {d : Int} (h : raw k zs = (a, b, c, d, 0)) (hm : may a b (strOfNums c) = false) : con k zs = (0, 0, [], 0, 1) := by
  by_cases hk : k = 2
  · subst hk
    rw [raw_2] at h
    simp only [Prod.mk.injEq] at h
    obtain ⟨rfl, rfl, hc, hd, hf⟩ := h
    refine con_long (s := c) (n := d) (by rw [← hc, ← hd, ← hf]) ?_
    simp [may, size_nums] at hm
    omega
  · rw [raw_not _ hk] at h
    by_cases h0 : k = 0
    · subst h0
      rw [con_none] at h
      simp only [Prod.mk.injEq] at h
      obtain ⟨rfl, rfl, rfl, rfl, -⟩ := h
      simp [may, size_nums] at hm
    · by_cases h1 : k = 1
      · subst h1
        by_cases hl : zs.length < 8
        · rw [con_short hl] at h
          simp at h
        · cases hf : (Fl.fo (zs.take 8)).2
          · rw [con_bad hl hf] at h
            simp at h
          · rw [con_float hl hf] at h
            simp only [Prod.mk.injEq] at h
            obtain ⟨rfl, rfl, rfl, rfl, -⟩ := h
            simp [may, size_nums, cl_fo hf] at hm
      · rw [con_other _ h0 h1 hk] at h
        simp at h

theorem raw_may {k : Int} {zs : List Int} {a : Int} {b : Nat} {c : List Int} {d : Int} (h : raw k zs = (a, b, c, d, 0)) (hm : may a b (strOfNums c) = true) : con k zs = (a, b, c, d, 0) := by
  by_cases hk : k = 2
  · subst hk
    rw [raw_2] at h
    simp only [Prod.mk.injEq] at h
    obtain ⟨rfl, rfl, hc, hd, hf⟩ := h
    refine con_text (s := c) (n := d) (by rw [← hc, ← hd, ← hf]) ?_
    simp [may, size_nums] at hm
    omega
  · rw [raw_not _ hk] at h
    exact h

theorem getText_bd (zs : List Int) (hb : ∀ z ∈ zs, 0 ≤ z ∧ z ≤ 255) : 0 ≤ (Nm.getText zs).2.1 ∧ (Nm.getText zs).2.1 ≤ zs.length ∧ (Nm.getText zs).1.length ≤ 65536 ∧ (∀ z ∈ (Nm.getText zs).1, 0 ≤ z ∧ z ≤ 255) := by
  have hg := Nm.get_bd zs 0 0 (by omega) (by decide) (by omega) hb
  obtain ⟨r, hr⟩ : ∃ r, r = Nm.get 0 0 zs := ⟨_, rfl⟩
  rw [← hr] at hg
  obtain ⟨n, k, e⟩ := r
  simp only at hg
  by_cases he : e = 0
  · subst he
    by_cases hn : n < 0 ∨ 65536 < n
    · rw [Nm.getText_form hr.symm hn]
      simp
    · by_cases hl : (zs.length : Int) < k + n
      · rw [Nm.getText_more hr.symm hn hl]
        simp
      · rw [Nm.getText_ok hr.symm hn hl]
        refine ⟨by simp only; omega, by simp only; omega, by simp; omega, fun z hz => hb z (List.mem_of_mem_drop (List.mem_of_mem_take hz))⟩
  · rw [Nm.getText_err hr.symm he]
    simp

theorem raw_bd (k : Int) (zs : List Int) (hb : ∀ z ∈ zs, 0 ≤ z ∧ z ≤ 255) : 0 ≤ (raw k zs).2.2.2.1 ∧ (raw k zs).2.2.2.1 ≤ zs.length ∧ (raw k zs).2.2.1.length ≤ 65536 := by
  by_cases hk : k = 2
  · subst hk
    have := getText_bd zs hb
    rw [raw_2]
    exact ⟨this.1, this.2.1, this.2.2.1⟩
  · rw [raw_not _ hk]
    unfold con
    rw [if_neg hk]
    split
    · simp
    · split
      · split
        · simp
        · split
          · simp
          · simp; omega
      · simp

theorem sb_empty : sb ByteArray.empty = [] := rfl

/-- There and back. -/
theorem get_put {k : Int} {x : Nat} {s : ByteArray} (hx : x < 18446744073709551616) (h : may k x s = true) (rest : List Int) : get (put k x s ++ rest) = (k, x, sb s, ((put k x s).length : Int), 0) := by
  rcases may_kind h with rfl | rfl | rfl
  · obtain ⟨rfl, rfl⟩ := may_none h
    have hg := Nm.get_num 0 (by omega) (by omega) rest
    have hp : put 0 0 ByteArray.empty = Nm.num 0 := by simp [put]
    rw [hp, get_con hg (con_none _), sb_empty]
    simp
  · obtain ⟨hc, rfl⟩ := may_float h
    have hp : put 1 x ByteArray.empty = Nm.num 1 ++ Fl.be (Fl.rk x) := by simp [put]
    have hg := Nm.get_num 1 (by omega) (by omega) (Fl.be (Fl.rk x) ++ rest)
    have hl := Fl.be_len (Fl.rk x)
    have ht : (Fl.be (Fl.rk x) ++ rest).take 8 = Fl.be (Fl.rk x) := by rw [List.take_append_of_le_length (by omega), List.take_of_length_le (by omega)]
    have hf := Fl.fo_be hx
    have hcn : con 1 ((Nm.num 1 ++ (Fl.be (Fl.rk x) ++ rest)).drop ((Nm.num 1).length : Int).toNat) = (1, x, [], 8, 0) := by
      rw [Int.toNat_natCast, List.drop_left, con_float (by simp; omega) (by rw [ht, hf]), ht, hf, ← hc]
    rw [hp, List.append_assoc, get_con hg hcn, sb_empty]
    simp [hl]
  · obtain ⟨rfl, hs⟩ := may_text h
    have hp : put 2 0 s = Nm.num 2 ++ Nm.text (sb s) := by simp [put]
    have hg := Nm.get_num 2 (by omega) (by omega) (Nm.text (sb s) ++ rest)
    have ht := Nm.getText_text (sb s) rest (by rw [sb_len]; omega)
    have hcn : con 2 ((Nm.num 2 ++ (Nm.text (sb s) ++ rest)).drop ((Nm.num 2).length : Int).toNat) = (2, 0, sb s, ((Nm.text (sb s)).length : Int), 0) := by
      rw [Int.toNat_natCast, List.drop_left]
      exact con_text ht (by rw [sb_len]; omega)
    rw [hp, List.append_assoc, get_con hg hcn]
    simp

theorem get_put' {k : Int} {x : Nat} {s : ByteArray} (hx : x < 18446744073709551616) (h : may k x s = true) : get (put k x s) = (k, x, sb s, ((put k x s).length : Int), 0) := by
  have := get_put hx h []
  rwa [List.append_nil] at this

theorem num_small : (Nm.num 0).length = 1 ∧ (Nm.num 1).length = 1 ∧ (Nm.num 2).length = 1 := by decide

/-- Cut off. -/
theorem get_cut {k : Int} {x : Nat} {s : ByteArray} (h : may k x s = true) (m : Nat) (hm : m < (put k x s).length) : get ((put k x s).take m) = (0, 0, [], 0, 2) := by
  have hns := num_small
  have hk : -9223372036854775808 ≤ k ∧ k ≤ 9223372036854775807 := by rcases may_kind h with rfl | rfl | rfl <;> omega
  have hk1 : (Nm.num k).length = 1 := by rcases may_kind h with rfl | rfl | rfl <;> omega
  by_cases h0 : m = 0
  · subst h0
    have hg := Nm.get_num_cut k hk.1 hk.2 0 (by omega)
    rw [List.take_zero] at hg ⊢
    exact get_err hg (by omega)
  · have ht : (put k x s).take m = Nm.num k ++ (if k = 1 then Fl.be (Fl.rk x) else if k = 2 then Nm.text (sb s) else []).take (m - 1) := by
      unfold put
      rw [List.take_append, List.take_of_length_le (by omega), hk1]
    rw [ht]
    have hg := Nm.get_num k hk.1 hk.2 ((if k = 1 then Fl.be (Fl.rk x) else if k = 2 then Nm.text (sb s) else []).take (m - 1))
    rcases may_kind h with rfl | rfl | rfl
    · simp [put] at hm
      omega
    · have hl := Fl.be_len (Fl.rk x)
      simp [put] at hm
      refine get_con_err hg (a := 0) (b := 0) (c := []) (d := 0) (f := 2) ?_ (by omega)
      rw [Int.toNat_natCast, List.drop_left]
      exact con_short (by simp; omega)
    · obtain ⟨rfl, hs⟩ := may_text h
      simp [put] at hm
      refine get_con_err hg (a := 0) (b := 0) (c := []) (d := 0) (f := 2) ?_ (by omega)
      rw [Int.toNat_natCast, List.drop_left]
      exact con_terr (Nm.getText_cut (sb s) (m - 1) (by rw [sb_len]; omega) (by omega)) (by omega)

theorem put_bd {k : Int} {x : Nat} {s : ByteArray} (h0 : -9223372036854775808 ≤ k) (h1 : k ≤ 9223372036854775807) (hs : s.size ≤ 140737488350000) : ∀ z ∈ put k x s, 0 ≤ z ∧ z ≤ 255 := by
  unfold put
  refine bd_app (Nm.num_bd _ h0 h1) ?_
  split
  · exact Fl.be_bd _
  · split
    · exact bd_app (Nm.num_bd _ (by omega) (by rw [sb_len]; omega)) (sb_bd s)
    · simp

theorem put_len {k : Int} {x : Nat} {s : ByteArray} : 1 ≤ (put k x s).length ∧ (put k x s).length ≤ 20 + s.size := by
  have h1 := Nm.num_len k
  have h2 := Nm.num_len ((sb s).length : Int)
  have h3 := Fl.be_len (Fl.rk x)
  have h4 := sb_len s
  unfold put
  rw [List.length_append]
  split
  · omega
  · split
    · rw [Nm.text_len]
      omega
    · simp
      omega

theorem eq_refl (k : Int) (x : Nat) (s : ByteArray) : eq k x s k x s = true := by simp [eq]
theorem eq_symm (k : Int) (x : Nat) (s : ByteArray) (l : Int) (y : Nat) (t : ByteArray) : eq l y t k x s = eq k x s l y t := by
  unfold eq
  rw [Bool.eq_iff_iff]
  simp
  constructor <;> (rintro ⟨a, b, c⟩; exact ⟨a.symm, b.symm, c.symm⟩)

/-- One text of bytes just if they are the same. -/
theorem put_eq {k : Int} {x : Nat} {s : ByteArray} {l : Int} {y : Nat} {t : ByteArray} (hx : x < 18446744073709551616) (hy : y < 18446744073709551616) (h : may k x s = true) (g : may l y t = true) :
    ((strOfNums (put k x s)).toList == (strOfNums (put l y t)).toList) = eq k x s l y t := by
  have hk : -9223372036854775808 ≤ k ∧ k ≤ 9223372036854775807 := by rcases may_kind h with rfl | rfl | rfl <;> omega
  have hl : -9223372036854775808 ≤ l ∧ l ≤ 9223372036854775807 := by rcases may_kind g with rfl | rfl | rfl <;> omega
  have hss : s.size ≤ 140737488350000 := by
    rcases may_kind h with rfl | rfl | rfl
    · rw [(may_none h).2]; decide
    · rw [(may_float h).2]; decide
    · have := (may_text h).2; omega
  have hts : t.size ≤ 140737488350000 := by
    rcases may_kind g with rfl | rfl | rfl
    · rw [(may_none g).2]; decide
    · rw [(may_float g).2]; decide
    · have := (may_text g).2; omega
  rw [Bool.eq_iff_iff]
  simp only [beq_iff_eq]
  constructor
  · intro q
    have q2 : put k x s = put l y t := Fl.str_inj (put_bd hk.1 hk.2 hss) (put_bd hl.1 hl.2 hts) (by
      apply ByteArray.ext
      apply Array.toList_inj.1
      rw [← ByteArray.toList_eq, ← ByteArray.toList_eq, q])
    have e1 := get_put' hx h
    rw [q2, get_put' hy g] at e1
    simp only [Prod.mk.injEq] at e1
    obtain ⟨rfl, rfl, e3, -, -⟩ := e1
    have : t = s := by rw [← sb_back t, ← sb_back s, e3]
    subst this
    exact eq_refl _ _ _
  · intro q
    simp [eq] at q
    obtain ⟨rfl, rfl, q⟩ := q
    unfold put
    rw [q]
end Go.Proofs.Ytlefhhmggaaiiab.Dt
