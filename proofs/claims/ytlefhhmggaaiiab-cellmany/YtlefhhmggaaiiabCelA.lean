/-
  Plain functions on cells: a value, a cell, which may be, who sees what, their bytes and the way back; no program is named here.
-/
import Derived.Test.YtlefhhmggaaiiabDatA
namespace Go.Proofs.Ytlefhhmggaaiiab
open Go.RowKit

/-- A value: kind, float, text. -/
structure Va where
  K : Int
  X : Nat
  S : ByteArray

/-- A cell: its key, what all see, who wrote, what that one sees. -/
structure Ce where
  N : ByteArray
  V : Va
  T : Int
  W : Va

/-- Its cells in memory. -/
def va (v : Va) : Array Value := #[.int .i64 v.K, .float .f64 v.X, .string v.S]
def cv (c : Ce) : Array Value := #[.string c.N, .int .i64 c.V.K, .float .f64 c.V.X, .string c.V.S, .int .i64 c.T, .int .i64 c.W.K, .float .f64 c.W.X, .string c.W.S]

theorem cv_size (c : Ce) : (cv c).size = 8 := rfl
theorem va_size (v : Va) : (va v).size = 3 := rfl
theorem cv_one (c : Ce) : ∀ u ∈ (cv c).toList, u.oneCell' = true := by
  intro u hu
  simp [cv] at hu
  rcases hu with rfl | rfl | rfl | rfl | rfl | rfl | rfl | rfl <;> rfl
theorem va_one (v : Va) : ∀ u ∈ (va v).toList, u.oneCell' = true := by
  intro u hu
  simp [va] at hu
  rcases hu with rfl | rfl | rfl <;> rfl

namespace Va
def zero : Va := ⟨0, 0, ⟨#[]⟩⟩
def may (v : Va) : Bool := Dt.may v.K v.X v.S
def eq (v u : Va) : Bool := Dt.eq v.K v.X v.S u.K u.X u.S
def put (v : Va) : List Int := Dt.put v.K v.X v.S
def get (zs : List Int) : Va × Int × Int := (⟨(Dt.get zs).1, (Dt.get zs).2.1, strOfNums (Dt.get zs).2.2.1⟩, (Dt.get zs).2.2.2.1, (Dt.get zs).2.2.2.2)

/-- Within the bounds of its type. -/
structure Ok (v : Va) : Prop where
  k0 : -9223372036854775808 ≤ v.K
  k1 : v.K ≤ 9223372036854775807
  x : v.X < 18446744073709551616
  s : v.S.size ≤ maxLen

theorem ok_zero : zero.Ok := ⟨by decide, by decide, by decide, by decide⟩
theorem eq_refl (v : Va) : v.eq v = true := Dt.eq_refl _ _ _
theorem may_ok {v : Va} (h : v.may = true) : -9223372036854775808 ≤ v.K ∧ v.K ≤ 9223372036854775807 ∧ v.S.size ≤ 20 := by
  unfold may at h
  rcases Dt.may_kind h with e | e | e
  · rw [e] at h ⊢
    rw [(Dt.may_none h).2]
    decide
  · rw [e] at h ⊢
    rw [(Dt.may_float h).2]
    decide
  · rw [e] at h ⊢
    exact ⟨by decide, by decide, (Dt.may_text h).2⟩

theorem put_len (v : Va) : 1 ≤ v.put.length ∧ v.put.length ≤ 20 + v.S.size := Dt.put_len
theorem put_bd {v : Va} (h0 : -9223372036854775808 ≤ v.K) (h1 : v.K ≤ 9223372036854775807) (hs : v.S.size ≤ 140737488350000) : ∀ z ∈ v.put, 0 ≤ z ∧ z ≤ 255 := Dt.put_bd h0 h1 hs
theorem get_put {v : Va} (hx : v.X < 18446744073709551616) (h : v.may = true) (rest : List Int) : get (v.put ++ rest) = (v, (v.put.length : Int), 0) := by
  unfold get put
  rw [Dt.get_put hx h rest]
  simp only [sb_back]
theorem put_none {v : Va} (h : v.may = true) (hk : v.K = 0) : v = zero := by
  obtain ⟨k, x, s⟩ := v
  simp only at hk
  subst hk
  obtain ⟨h1, h2⟩ := Dt.may_none h
  simp only at h1 h2
  subst h1 h2
  rfl
theorem eq_of {v u : Va} (hv : v.may = true) (hu : u.may = true) (h : v.put = u.put) (hx : v.X < 18446744073709551616) (hy : u.X < 18446744073709551616) : v = u := by
  have e1 := get_put hx hv []
  rw [h, get_put hy hu []] at e1
  simp only [Prod.mk.injEq] at e1
  exact e1.1.symm
theorem put_of_eq {v u : Va} (h : v.eq u = true) : v.put = u.put := by
  unfold eq Dt.eq at h
  simp at h
  obtain ⟨h1, h2, h3⟩ := h
  unfold put Dt.put
  rw [h1, h2, h3]

theorem get_bd (zs : List Int) (hb : ∀ z ∈ zs, 0 ≤ z ∧ z ≤ 255) : 0 ≤ (get zs).2.1 ∧ (get zs).2.1 ≤ zs.length ∧ (get zs).1.Ok := by
  have hfo : ∀ l : List Int, (∀ z ∈ l, 0 ≤ z ∧ z ≤ 255) → (Fl.fo l).1 < 18446744073709551616 := by
    intro l h
    unfold Fl.fo
    split
    · rename_i hl
      have h1 := Fl.bn_lt l h
      rw [hl] at h1
      split
      · exact Fl.cl_bd (Fl.un_lt _ (by omega))
      · simp
    · simp
  have hcon : ∀ (k : Int) (l : List Int), (∀ z ∈ l, 0 ≤ z ∧ z ≤ 255) → 0 ≤ (Dt.con k l).2.2.2.1 ∧ (Dt.con k l).2.2.2.1 ≤ l.length ∧ -9223372036854775808 ≤ (Dt.con k l).1 ∧ (Dt.con k l).1 ≤ 9223372036854775807 ∧ (Dt.con k l).2.1 < 18446744073709551616 ∧ (Dt.con k l).2.2.1.length ≤ 65536 := by
    intro k l h
    have ht := Dt.getText_bd l h
    unfold Dt.con
    split
    · simp
    · split
      · split
        · simp
        · split
          · simp
          · refine ⟨by simp, by simp; omega, by simp, by simp, ?_, by simp⟩
            exact hfo _ (fun z hz => h z (List.mem_of_mem_take hz))
      · split
        · split
          · simp
          · split
            · simp
            · exact ⟨ht.1, ht.2.1, by simp, by simp, by simp, ht.2.2.1⟩
        · simp
  have hg := Nm.get_bd zs 0 0 (by omega) (by decide) (by omega) hb
  have key : 0 ≤ (Dt.get zs).2.2.2.1 ∧ (Dt.get zs).2.2.2.1 ≤ zs.length ∧ -9223372036854775808 ≤ (Dt.get zs).1 ∧ (Dt.get zs).1 ≤ 9223372036854775807 ∧ (Dt.get zs).2.1 < 18446744073709551616 ∧ (Dt.get zs).2.2.1.length ≤ 65536 := by
    unfold Dt.get
    split
    · simp
    · rename_i h0
      have hc := hcon (Nm.get 0 0 zs).1 (zs.drop (Nm.get 0 0 zs).2.1.toNat) (fun z hz => hb z (List.mem_of_mem_drop hz))
      split
      · simp
      · rcases hg with hg | hg
        · obtain ⟨-, g1, -, g3, -⟩ := hg
          simp at g1 g3
          have hl := hc.2.1
          rw [List.length_drop] at hl
          exact ⟨by simp only; omega, by simp only; omega, hc.2.2.1, hc.2.2.2.1, hc.2.2.2.2.1, hc.2.2.2.2.2⟩
        · omega
  refine ⟨key.1, key.2.1, ⟨key.2.2.1, key.2.2.2.1, key.2.2.2.2.1, ?_⟩⟩
  show (strOfNums (Dt.get zs).2.2.1).size ≤ maxLen
  rw [Dt.size_nums]
  unfold maxLen
  omega
end Va

namespace Ce
def zero : Ce := ⟨⟨#[]⟩, Va.zero, 0, Va.zero⟩
/-- A key that may be. -/
def km (n : ByteArray) : Bool := decide (1 ≤ (n.size : Int)) && decide ((n.size : Int) ≤ 16)
/-- Who wrote, and what is there, go together. -/
def tm (c : Ce) : Bool := if c.T = 0 then decide (c.W.K = 0) && !decide (c.V.K = 0) else decide (0 < c.T) && decide (c.T ≤ 1099511627776)
def may (c : Ce) : Bool := km c.N && (c.V.may && (c.W.may && tm c))
def see (c : Ce) (t : Int) : Va := if 0 < t ∧ c.T = t then c.W else c.V
def wr (c : Ce) (t : Int) (v : Va) : Ce := ⟨c.N, c.V, t, v⟩
def settle (n : ByteArray) (v : Va) : Ce := if v.K = 0 then zero else ⟨n, v, 0, Va.zero⟩
def commit (c : Ce) : Ce := if 0 < c.T then settle c.N c.W else c
def left (c : Ce) : Bool := if 0 < c.T then !decide (c.W.K = 0) else true
def undo (c : Ce) : Ce := settle c.N c.V
def eq (a b : Ce) : Bool := decide (a.N = b.N) && (decide (a.T = b.T) && (a.V.eq b.V && a.W.eq b.W))
def put (c : Ce) : List Int := Nm.text (sb c.N) ++ (c.V.put ++ (Nm.num c.T ++ (if 0 < c.T then c.W.put else [])))

/-- Within the bounds of its type. -/
structure Ok (c : Ce) : Prop where
  n : c.N.size ≤ maxLen
  v : c.V.Ok
  t0 : -9223372036854775808 ≤ c.T
  t1 : c.T ≤ 9223372036854775807
  w : c.W.Ok

theorem ok_zero : zero.Ok := ⟨by decide, Va.ok_zero, by decide, by decide, Va.ok_zero⟩

/-- The cell at the head, whether or not it may be: how many bytes, the error. -/
def parts (zs : List Int) : Ce × Int × Int :=
  if (Nm.getText zs).2.2 ≠ 0 then (zero, 0, (Nm.getText zs).2.2)
  else if (Va.get (zs.drop (Nm.getText zs).2.1.toNat)).2.2 ≠ 0 then (zero, 0, (Va.get (zs.drop (Nm.getText zs).2.1.toNat)).2.2)
  else if (Nm.get 0 0 (zs.drop ((Nm.getText zs).2.1 + (Va.get (zs.drop (Nm.getText zs).2.1.toNat)).2.1).toNat)).2.2 ≠ 0 then (zero, 0, (Nm.get 0 0 (zs.drop ((Nm.getText zs).2.1 + (Va.get (zs.drop (Nm.getText zs).2.1.toNat)).2.1).toNat)).2.2)
  else
    let n := (Nm.getText zs).2.1 + (Va.get (zs.drop (Nm.getText zs).2.1.toNat)).2.1
    let t := Nm.get 0 0 (zs.drop n.toNat)
    if 0 < t.1 then (⟨strOfNums (Nm.getText zs).1, (Va.get (zs.drop (Nm.getText zs).2.1.toNat)).1, t.1, (Va.get (zs.drop (n + t.2.1).toNat)).1⟩, (n + t.2.1) + (Va.get (zs.drop (n + t.2.1).toNat)).2.1, (Va.get (zs.drop (n + t.2.1).toNat)).2.2)
    else (⟨strOfNums (Nm.getText zs).1, (Va.get (zs.drop (Nm.getText zs).2.1.toNat)).1, t.1, Va.zero⟩, n + t.2.1, 0)

def get (zs : List Int) : Ce × Int × Int :=
  if (parts zs).2.2 ≠ 0 then (zero, 0, (parts zs).2.2) else if (parts zs).1.may = true then ((parts zs).1, (parts zs).2.1, 0) else (zero, 0, 1)

theorem parts_1 {zs s : List Int} {k e : Int} (h : Nm.getText zs = (s, k, e)) (he : e ≠ 0) : parts zs = (zero, 0, e) := by simp [parts, h, he]
theorem parts_2 {zs s : List Int} {k : Int} (h : Nm.getText zs = (s, k, 0)) {v : Va} {l e : Int} (hv : Va.get (zs.drop k.toNat) = (v, l, e)) (he : e ≠ 0) : parts zs = (zero, 0, e) := by simp [parts, h, hv, he]
theorem parts_3 {zs s : List Int} {k : Int} (h : Nm.getText zs = (s, k, 0)) {v : Va} {l : Int} (hv : Va.get (zs.drop k.toNat) = (v, l, 0)) {t m e : Int} (ht : Nm.get 0 0 (zs.drop (k + l).toNat) = (t, m, e)) (he : e ≠ 0) : parts zs = (zero, 0, e) := by
  simp [parts, h, hv, ht, he]
theorem parts_4 {zs s : List Int} {k : Int} (h : Nm.getText zs = (s, k, 0)) {v : Va} {l : Int} (hv : Va.get (zs.drop k.toNat) = (v, l, 0)) {t m : Int} (ht : Nm.get 0 0 (zs.drop (k + l).toNat) = (t, m, 0)) (h0 : ¬ 0 < t) : parts zs = (⟨strOfNums s, v, t, Va.zero⟩, k + l + m, 0) := by
  simp [parts, h, hv, ht, h0]
theorem parts_5 {zs s : List Int} {k : Int} (h : Nm.getText zs = (s, k, 0)) {v : Va} {l : Int} (hv : Va.get (zs.drop k.toNat) = (v, l, 0)) {t m : Int} (ht : Nm.get 0 0 (zs.drop (k + l).toNat) = (t, m, 0)) (h0 : 0 < t)
    {u : Va} {j e : Int} (hu : Va.get (zs.drop (k + l + m).toNat) = (u, j, e)) : parts zs = (⟨strOfNums s, v, t, u⟩, k + l + m + j, e) := by
  simp [parts, h, hv, ht, h0, hu]

theorem get_1 {zs : List Int} {c : Ce} {n e : Int} (h : parts zs = (c, n, e)) (he : e ≠ 0) : get zs = (zero, 0, e) := by simp [get, h, he]
theorem get_2 {zs : List Int} {c : Ce} {n : Int} (h : parts zs = (c, n, 0)) (hm : c.may = false) : get zs = (zero, 0, 1) := by simp [get, h, hm]
theorem get_3 {zs : List Int} {c : Ce} {n : Int} (h : parts zs = (c, n, 0)) (hm : c.may = true) : get zs = (c, n, 0) := by simp [get, h, hm]

theorem km_size {n : ByteArray} (h : km n = true) : 1 ≤ n.size ∧ n.size ≤ 16 := by
  simp [km] at h
  omega

theorem may_parts {c : Ce} (h : c.may = true) : km c.N = true ∧ c.V.may = true ∧ c.W.may = true ∧ tm c = true := by
  simp [may] at h
  exact ⟨h.1, h.2.1, h.2.2.1, h.2.2.2⟩
theorem tm_bd {c : Ce} (h : tm c = true) : 0 ≤ c.T ∧ c.T ≤ 1099511627776 := by
  unfold tm at h
  split at h
  · omega
  · simp at h
    omega
theorem tm_none {c : Ce} (h : tm c = true) (ht : ¬ 0 < c.T) : c.T = 0 ∧ c.W.K = 0 ∧ c.V.K ≠ 0 := by
  have h0 : c.T = 0 := by have := tm_bd h; omega
  simp [tm, h0] at h
  exact ⟨h0, h.1, h.2⟩

theorem put_len (c : Ce) : 4 ≤ c.put.length + (if 1 ≤ c.N.size then 0 else 1) ∧ c.put.length ≤ 60 + c.N.size + c.V.S.size + c.W.S.size := by
  have h1 := Nm.text_len (sb c.N)
  have h2 := Nm.num_len ((sb c.N).length : Int)
  have h3 := sb_len c.N
  have h4 := c.V.put_len
  have h5 := c.W.put_len
  have h6 := Nm.num_len c.T
  unfold put
  simp only [List.length_append]
  split <;> split <;> simp <;> omega

theorem put_bd {c : Ce} (h : c.may = true) : ∀ z ∈ c.put, 0 ≤ z ∧ z ≤ 255 := by
  obtain ⟨h1, h2, h3, h4⟩ := may_parts h
  have k1 := km_size h1
  have k2 := Va.may_ok h2
  have k3 := Va.may_ok h3
  have k4 := tm_bd h4
  unfold put
  refine bd_app (bd_app (Nm.num_bd _ (by omega) (by rw [sb_len]; omega)) (sb_bd _)) (bd_app (Va.put_bd k2.1 k2.2.1 (by omega)) (bd_app (Nm.num_bd _ (by omega) (by omega)) ?_))
  split
  · exact Va.put_bd k3.1 k3.2.1 (by omega)
  · simp

/-- There and back. -/
theorem get_put {c : Ce} (hx : c.V.X < 18446744073709551616) (hy : c.W.X < 18446744073709551616) (h : c.may = true) (rest : List Int) : get (c.put ++ rest) = (c, (c.put.length : Int), 0) := by
  obtain ⟨h1, h2, h3, h4⟩ := may_parts h
  have k1 := km_size h1
  have k4 := tm_bd h4
  have e1 : c.put ++ rest = Nm.text (sb c.N) ++ (c.V.put ++ (Nm.num c.T ++ ((if 0 < c.T then c.W.put else []) ++ rest))) := by simp [put]
  have g1 := Nm.getText_text (sb c.N) (c.V.put ++ (Nm.num c.T ++ ((if 0 < c.T then c.W.put else []) ++ rest))) (by rw [sb_len]; omega)
  have g2 := Va.get_put hx h2 (Nm.num c.T ++ ((if 0 < c.T then c.W.put else []) ++ rest))
  have g3 := Nm.get_num c.T (by omega) (by omega) ((if 0 < c.T then c.W.put else []) ++ rest)
  have d1 : (c.put ++ rest).drop (((Nm.text (sb c.N)).length : Int)).toNat = c.V.put ++ (Nm.num c.T ++ ((if 0 < c.T then c.W.put else []) ++ rest)) := by
    rw [Int.toNat_natCast, e1, List.drop_left]
  have d2 : (c.put ++ rest).drop (((Nm.text (sb c.N)).length : Int) + (c.V.put.length : Int)).toNat = Nm.num c.T ++ ((if 0 < c.T then c.W.put else []) ++ rest) := by
    rw [show (((Nm.text (sb c.N)).length : Int) + (c.V.put.length : Int)).toNat = (Nm.text (sb c.N)).length + c.V.put.length by omega, ← List.drop_drop, e1, List.drop_left, List.drop_left]
  have d3 : (c.put ++ rest).drop (((Nm.text (sb c.N)).length : Int) + (c.V.put.length : Int) + ((Nm.num c.T).length : Int)).toNat = (if 0 < c.T then c.W.put else []) ++ rest := by
    rw [show (((Nm.text (sb c.N)).length : Int) + (c.V.put.length : Int) + ((Nm.num c.T).length : Int)).toNat = (Nm.text (sb c.N)).length + c.V.put.length + (Nm.num c.T).length by omega, ← List.drop_drop, ← List.drop_drop, e1, List.drop_left, List.drop_left, List.drop_left]
  rw [← e1] at g1
  rw [← d1] at g2
  rw [← d2] at g3
  by_cases ht : 0 < c.T
  · have g4 := Va.get_put hy h3 rest
    rw [if_pos ht] at d3
    rw [← d3] at g4
    have hp := parts_5 g1 g2 g3 ht g4
    rw [sb_back] at hp
    rw [get_3 hp h]
    simp only [put, if_pos ht, List.length_append, Prod.mk.injEq, and_true, true_and]
    omega
  · obtain ⟨t0, t1, -⟩ := tm_none h4 ht
    have hw := Va.put_none h3 t1
    have hp := parts_4 g1 g2 g3 ht
    rw [sb_back, ← hw] at hp
    rw [get_3 hp h]
    simp only [put, if_neg ht, List.length_append, List.length_nil, Prod.mk.injEq, and_true, true_and]
    omega

theorem eq_refl (c : Ce) : c.eq c = true := by simp [eq, Va.eq_refl]

/-- One text of bytes just if they are the same. -/
theorem put_eq {c d : Ce} (hc : c.Ok) (hd : d.Ok) (h : c.may = true) (g : d.may = true) : ((strOfNums d.put).toList == (strOfNums c.put).toList) = c.eq d := by
  rw [Bool.eq_iff_iff]
  simp only [beq_iff_eq]
  constructor
  · intro q
    have q2 : d.put = c.put := Fl.str_inj (put_bd g) (put_bd h) (by
      apply ByteArray.ext
      apply Array.toList_inj.1
      rw [← ByteArray.toList_eq, ← ByteArray.toList_eq, q])
    have e1 := get_put hc.v.x hc.w.x h []
    rw [← q2, get_put hd.v.x hd.w.x g []] at e1
    simp only [Prod.mk.injEq] at e1
    rw [e1.1]
    exact eq_refl c
  · intro q
    simp [eq] at q
    obtain ⟨q1, q2, q3, q4⟩ := q
    unfold put
    rw [q1, q2, Va.put_of_eq q3, Va.put_of_eq q4]

theorem parts_bd (zs : List Int) (hb : ∀ z ∈ zs, 0 ≤ z ∧ z ≤ 255) : (parts zs).1.Ok := by
  have ht := Dt.getText_bd zs hb
  have hv := fun n => Va.get_bd (zs.drop n) (fun z hz => hb z (List.mem_of_mem_drop hz))
  have hn := fun n => Nm.get_bd (zs.drop n) 0 0 (by omega) (by decide) (by omega) (fun z hz => hb z (List.mem_of_mem_drop hz))
  have hs : (strOfNums (Nm.getText zs).1).size ≤ maxLen := by
    rw [Dt.size_nums]
    unfold maxLen
    omega
  have h0 := ok_zero
  unfold parts
  split
  · exact h0
  · split
    · exact h0
    · split
      · exact h0
      · rename_i h3
        have hn' := hn ((Nm.getText zs).2.1 + (Va.get (zs.drop (Nm.getText zs).2.1.toNat)).2.1).toNat
        rcases hn' with hn' | hn'
        · obtain ⟨-, -, -, -, n4, n5⟩ := hn'
          simp only
          split
          · exact ⟨hs, (hv _).2.2, n4, n5, (hv _).2.2⟩
          · exact ⟨hs, (hv _).2.2, n4, n5, Va.ok_zero⟩
        · omega
theorem get_ok (zs : List Int) (hb : ∀ z ∈ zs, 0 ≤ z ∧ z ≤ 255) : (get zs).1.Ok := by
  have hp := parts_bd zs hb
  unfold get
  split
  · exact ok_zero
  · split
    · exact hp
    · exact ok_zero

/-- Committed or undone it is no longer than it was. -/
theorem settle_len {n : ByteArray} {v : Va} (hk : v.K ≠ 0) : (settle n v).put.length = (Nm.text (sb n)).length + v.put.length + 1 := by
  have : (Nm.num 0).length = 1 := Dt.num_small.1
  simp [settle, hk, put, this]
  omega
theorem undo_len (c : Ce) (hk : c.V.K ≠ 0) : (undo c).put.length ≤ c.put.length := by
  have h6 := Nm.num_len c.T
  unfold undo
  rw [settle_len hk]
  unfold put
  simp only [List.length_append]
  omega
theorem commit_len (c : Ce) (hl : left c = true) : (commit c).put.length ≤ c.put.length := by
  unfold commit
  unfold left at hl
  split
  · rename_i ht
    rw [if_pos ht] at hl
    simp at hl
    rw [settle_len hl]
    have h6 := Nm.num_len c.T
    have h4 := c.V.put_len
    unfold put
    simp only [List.length_append, if_pos ht]
    omega
  · exact Nat.le_refl _
end Ce
end Go.Proofs.Ytlefhhmggaaiiab
