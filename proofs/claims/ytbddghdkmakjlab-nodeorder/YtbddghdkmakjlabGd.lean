/-
  Plain functions on cells: a value, a cell, which may be, who sees what, their bytes and the way back; no program is named here.
  Variables that hold a value or a cell: laid, read, written; laws of the walk at these operations.
  Contracts of key.May and the document's MayKey.
  Contracts of package cell's small functions, and of the document's, over the translated program.
-/
import Derived.Test.YtbddghdkmakjlabGc
import Derived.Deep.MidRow
import Derived.Test.YtbddghdkmakjlabGa
import Derived.WalkKit
import Derived.Test.YtbddghdkmakjlabRows
namespace Go.Proofs.Ytbddghdkmakjlab
set_option maxRecDepth 100000
set_option linter.unusedVariables false
open Go.RowKit

/-- A value: kind, float, text. -/
structure Va where
  K : Int
  X : Nat
  S : ByteArray

/-- A cell: its key, what all see, who wrote, what that one sees. -/
structure Ce where
  N : ByteArray
  V : Va
  T : Int
  W : Va

/-- Its cells in memory. -/
def va (v : Va) : Array Value := #[.int .i64 v.K, .float .f64 v.X, .string v.S]
def cv (c : Ce) : Array Value := #[.string c.N, .int .i64 c.V.K, .float .f64 c.V.X, .string c.V.S, .int .i64 c.T, .int .i64 c.W.K, .float .f64 c.W.X, .string c.W.S]

theorem cv_size (c : Ce) : (cv c).size = 8 := rfl
theorem va_size (v : Va) : (va v).size = 3 := rfl
theorem cv_one (c : Ce) : ∀ u ∈ (cv c).toList, u.oneCell' = true := by
  intro u hu
  simp [cv] at hu
  rcases hu with rfl | rfl | rfl | rfl | rfl | rfl | rfl | rfl <;> rfl
theorem va_one (v : Va) : ∀ u ∈ (va v).toList, u.oneCell' = true := by
  intro u hu
  simp [va] at hu
  rcases hu with rfl | rfl | rfl <;> rfl

namespace Va
def zero : Va := ⟨0, 0, ⟨#[]⟩⟩
def may (v : Va) : Bool := Dt.may v.K v.X v.S
def eq (v u : Va) : Bool := Dt.eq v.K v.X v.S u.K u.X u.S
def put (v : Va) : List Int := Dt.put v.K v.X v.S
def get (zs : List Int) : Va × Int × Int := (⟨(Dt.get zs).1, (Dt.get zs).2.1, strOfNums (Dt.get zs).2.2.1⟩, (Dt.get zs).2.2.2.1, (Dt.get zs).2.2.2.2)

/-- Within the bounds of its type. -/
structure Ok (v : Va) : Prop where
  k0 : -9223372036854775808 ≤ v.K
  k1 : v.K ≤ 9223372036854775807
  x : v.X < 18446744073709551616
  s : v.S.size ≤ maxLen

theorem ok_zero : zero.Ok := ⟨by decide, by decide, by decide, by decide⟩
theorem eq_refl (v : Va) : v.eq v = true := Dt.eq_refl _ _ _
theorem may_ok {v : Va} (h : v.may = true) : -9223372036854775808 ≤ v.K ∧ v.K ≤ 9223372036854775807 ∧ v.S.size ≤ 20 := by
  unfold may at h
  rcases Dt.may_kind h with e | e | e
  · rw [e] at h ⊢
    rw [(Dt.may_none h).2]
    decide
  · rw [e] at h ⊢
    rw [(Dt.may_float h).2]
    decide
  · rw [e] at h ⊢
    exact ⟨by decide, by decide, (Dt.may_text h).2⟩

theorem put_len (v : Va) : 1 ≤ v.put.length ∧ v.put.length ≤ 20 + v.S.size := Dt.put_len
theorem put_bd {v : Va} (h0 : -9223372036854775808 ≤ v.K) (h1 : v.K ≤ 9223372036854775807) (hs : v.S.size ≤ 140737488350000) : ∀ z ∈ v.put, 0 ≤ z ∧ z ≤ 255 := Dt.put_bd h0 h1 hs
theorem get_put {v : Va} (hx : v.X < 18446744073709551616) (h : v.may = true) (rest : List Int) : get (v.put ++ rest) = (v, (v.put.length : Int), 0) := by
  unfold get put
  rw [Dt.get_put hx h rest]
  simp only [sb_back]
theorem put_none {v : Va} (h : v.may = true) (hk : v.K = 0) : v = zero := by
  obtain ⟨k, x, s⟩ := v
  simp only at hk
  subst hk
  obtain ⟨h1, h2⟩ := Dt.may_none h
  simp only at h1 h2
  subst h1 h2
  rfl
theorem eq_of {v u : Va} (hv : v.may = true) (hu : u.may = true) (h : v.put = u.put) (hx : v.X < 18446744073709551616) (hy : u.X < 18446744073709551616) : v = u := by
  have e1 := get_put hx hv []
  rw [h, get_put hy hu []] at e1
  simp only [Prod.mk.injEq] at e1
  exact e1.1.symm
theorem put_of_eq {v u : Va} (h : v.eq u = true) : v.put = u.put := by
  unfold eq Dt.eq at h
  simp at h
  obtain ⟨h1, h2, h3⟩ := h
  unfold put Dt.put
  rw [h1, h2, h3]

theorem get_bd (zs : List Int) (hb : ∀ z ∈ zs, 0 ≤ z ∧ z ≤ 255) : 0 ≤ (get zs).2.1 ∧ (get zs).2.1 ≤ zs.length ∧ (get zs).1.Ok := by
  have hfo : ∀ l : List Int, (∀ z ∈ l, 0 ≤ z ∧ z ≤ 255) → (Fl.fo l).1 < 18446744073709551616 := by
    intro l h
    unfold Fl.fo
    split
    · rename_i hl
      have h1 := Fl.bn_lt l h
      rw [hl] at h1
      split
      · exact Fl.cl_bd (Fl.un_lt _ (by omega))
      · simp
    · simp
  have hcon : ∀ (k : Int) (l : List Int), (∀ z ∈ l, 0 ≤ z ∧ z ≤ 255) → 0 ≤ (Dt.con k l).2.2.2.1 ∧ (Dt.con k l).2.2.2.1 ≤ l.length ∧ -9223372036854775808 ≤ (Dt.con k l).1 ∧ (Dt.con k l).1 ≤ 9223372036854775807 ∧ (Dt.con k l).2.1 < 18446744073709551616 ∧ (Dt.con k l).2.2.1.length ≤ 65536 := by
    intro k l h
    have ht := Dt.getText_bd l h
    unfold Dt.con
    split
    · simp
    · split
      · split
        · simp
        · split
          · simp
          · refine ⟨by simp, by simp; omega, by simp, by simp, ?_, by simp⟩
            exact hfo _ (fun z hz => h z (List.mem_of_mem_take hz))
      · split
        · split
          · simp
          · split
            · simp
            · exact ⟨ht.1, ht.2.1, by simp, by simp, by simp, ht.2.2.1⟩
        · simp
  have hg := Nm.get_bd zs 0 0 (by omega) (by decide) (by omega) hb
  have key : 0 ≤ (Dt.get zs).2.2.2.1 ∧ (Dt.get zs).2.2.2.1 ≤ zs.length ∧ -9223372036854775808 ≤ (Dt.get zs).1 ∧ (Dt.get zs).1 ≤ 9223372036854775807 ∧ (Dt.get zs).2.1 < 18446744073709551616 ∧ (Dt.get zs).2.2.1.length ≤ 65536 := by
    unfold Dt.get
    split
    · simp
    · rename_i h0
      have hc := hcon (Nm.get 0 0 zs).1 (zs.drop (Nm.get 0 0 zs).2.1.toNat) (fun z hz => hb z (List.mem_of_mem_drop hz))
      split
      · simp
      · rcases hg with hg | hg
        · obtain ⟨-, g1, -, g3, -⟩ := hg
          simp at g1 g3
          have hl := hc.2.1
          rw [List.length_drop] at hl
          exact ⟨by simp only; omega, by simp only; omega, hc.2.2.1, hc.2.2.2.1, hc.2.2.2.2.1, hc.2.2.2.2.2⟩
        · omega
  refine ⟨key.1, key.2.1, ⟨key.2.2.1, key.2.2.2.1, key.2.2.2.2.1, ?_⟩⟩
  show (strOfNums (Dt.get zs).2.2.1).size ≤ maxLen
  rw [Dt.size_nums]
  unfold maxLen
  omega
end Va

namespace Ce
def zero : Ce := ⟨⟨#[]⟩, Va.zero, 0, Va.zero⟩
/-- A key that may be. -/
def km (n : ByteArray) : Bool := decide (1 ≤ (n.size : Int)) && decide ((n.size : Int) ≤ 16)
/-- Who wrote, and what is there, go together. -/
def tm (c : Ce) : Bool := if c.T = 0 then decide (c.W.K = 0) && !decide (c.V.K = 0) else decide (0 < c.T) && decide (c.T ≤ 1099511627776)
def may (c : Ce) : Bool := km c.N && (c.V.may && (c.W.may && tm c))
def see (c : Ce) (t : Int) : Va := if 0 < t ∧ c.T = t then c.W else c.V
def wr (c : Ce) (t : Int) (v : Va) : Ce := ⟨c.N, c.V, t, v⟩
def settle (n : ByteArray) (v : Va) : Ce := if v.K = 0 then zero else ⟨n, v, 0, Va.zero⟩
def commit (c : Ce) : Ce := if 0 < c.T then settle c.N c.W else c
def left (c : Ce) : Bool := if 0 < c.T then !decide (c.W.K = 0) else true
def undo (c : Ce) : Ce := settle c.N c.V
def eq (a b : Ce) : Bool := decide (a.N = b.N) && (decide (a.T = b.T) && (a.V.eq b.V && a.W.eq b.W))
def put (c : Ce) : List Int := Nm.text (sb c.N) ++ (c.V.put ++ (Nm.num c.T ++ (if 0 < c.T then c.W.put else [])))

/-- Within the bounds of its type. -/
structure Ok (c : Ce) : Prop where
  n : c.N.size ≤ maxLen
  v : c.V.Ok
  t0 : -9223372036854775808 ≤ c.T
  t1 : c.T ≤ 9223372036854775807
  w : c.W.Ok

theorem ok_zero : zero.Ok := ⟨by decide, Va.ok_zero, by decide, by decide, Va.ok_zero⟩

/-- The cell at the head, whether or not it may be: how many bytes, the error. -/
def parts (zs : List Int) : Ce × Int × Int :=
  if (Nm.getText zs).2.2 ≠ 0 then (zero, 0, (Nm.getText zs).2.2)
  else if (Va.get (zs.drop (Nm.getText zs).2.1.toNat)).2.2 ≠ 0 then (zero, 0, (Va.get (zs.drop (Nm.getText zs).2.1.toNat)).2.2)
  else if (Nm.get 0 0 (zs.drop ((Nm.getText zs).2.1 + (Va.get (zs.drop (Nm.getText zs).2.1.toNat)).2.1).toNat)).2.2 ≠ 0 then (zero, 0, (Nm.get 0 0 (zs.drop ((Nm.getText zs).2.1 + (Va.get (zs.drop (Nm.getText zs).2.1.toNat)).2.1).toNat)).2.2)
  else
    let n := (Nm.getText zs).2.1 + (Va.get (zs.drop (Nm.getText zs).2.1.toNat)).2.1
    let t := Nm.get 0 0 (zs.drop n.toNat)
    if 0 < t.1 then (⟨strOfNums (Nm.getText zs).1, (Va.get (zs.drop (Nm.getText zs).2.1.toNat)).1, t.1, (Va.get (zs.drop (n + t.2.1).toNat)).1⟩, (n + t.2.1) + (Va.get (zs.drop (n + t.2.1).toNat)).2.1, (Va.get (zs.drop (n + t.2.1).toNat)).2.2)
    else (⟨strOfNums (Nm.getText zs).1, (Va.get (zs.drop (Nm.getText zs).2.1.toNat)).1, t.1, Va.zero⟩, n + t.2.1, 0)

def get (zs : List Int) : Ce × Int × Int :=
  if (parts zs).2.2 ≠ 0 then (zero, 0, (parts zs).2.2) else if (parts zs).1.may = true then ((parts zs).1, (parts zs).2.1, 0) else (zero, 0, 1)

theorem parts_1 {zs s : List Int} {k e : Int} (h : Nm.getText zs = (s, k, e)) (he : e ≠ 0) : parts zs = (zero, 0, e) := by simp [parts, h, he]
theorem parts_2 {zs s : List Int} {k : Int} (h : Nm.getText zs = (s, k, 0)) {v : Va} {l e : Int} (hv : Va.get (zs.drop k.toNat) = (v, l, e)) (he : e ≠ 0) : parts zs = (zero, 0, e) := by simp [parts, h, hv, he]
theorem parts_3 {zs s : List Int} {k : Int} (h : Nm.getText zs = (s, k, 0)) {v : Va} {l : Int} (hv : Va.get (zs.drop k.toNat) = (v, l, 0)) {t m e : Int} (ht : Nm.get 0 0 (zs.drop (k + l).toNat) = (t, m, e)) (he : e ≠ 0) : parts zs = (zero, 0, e) := by
  simp [parts, h, hv, ht, he]
theorem parts_4 {zs s : List Int} {k : Int} (h : Nm.getText zs = (s, k, 0)) {v : Va} {l : Int} (hv : Va.get (zs.drop k.toNat) = (v, l, 0)) {t m : Int} (ht : Nm.get 0 0 (zs.drop (k + l).toNat) = (t, m, 0)) (h0 : ¬ 0 < t) : parts zs = (⟨strOfNums s, v, t, Va.zero⟩, k + l + m, 0) := by
  simp [parts, h, hv, ht, h0]
theorem parts_5 {zs s : List Int} {k : Int} (h : Nm.getText zs = (s, k, 0)) {v : Va} {l : Int} (hv : Va.get (zs.drop k.toNat) = (v, l, 0)) {t m : Int} (ht : Nm.get 0 0 (zs.drop (k + l).toNat) = (t, m, 0)) (h0 : 0 < t)
    {u : Va} {j e : Int} (hu : Va.get (zs.drop (k + l + m).toNat) = (u, j, e)) : parts zs = (⟨strOfNums s, v, t, u⟩, k + l + m + j, e) := by
  simp [parts, h, hv, ht, h0, hu]

theorem get_1 {zs : List Int} {c : Ce} {n e : Int} (h : parts zs = (c, n, e)) (he : e ≠ 0) : get zs = (zero, 0, e) := by simp [get, h, he]
theorem get_2 {zs : List Int} {c : Ce} {n : Int} (h : parts zs = (c, n, 0)) (hm : c.may = false) : get zs = (zero, 0, 1) := by simp [get, h, hm]
theorem get_3 {zs : List Int} {c : Ce} {n : Int} (h : parts zs = (c, n, 0)) (hm : c.may = true) : get zs = (c, n, 0) := by simp [get, h, hm]

theorem km_size {n : ByteArray} (h : km n = true) : 1 ≤ n.size ∧ n.size ≤ 16 := by
  simp [km] at h
  omega

theorem may_parts {c : Ce} (h : c.may = true) : km c.N = true ∧ c.V.may = true ∧ c.W.may = true ∧ tm c = true := by
  simp [may] at h
  exact ⟨h.1, h.2.1, h.2.2.1, h.2.2.2⟩
theorem tm_bd {c : Ce} (h : tm c = true) : 0 ≤ c.T ∧ c.T ≤ 1099511627776 := by
  unfold tm at h
  split at h
  · omega
  · simp at h
    omega
theorem tm_none {c : Ce} (h : tm c = true) (ht : ¬ 0 < c.T) : c.T = 0 ∧ c.W.K = 0 ∧ c.V.K ≠ 0 := by
  have h0 : c.T = 0 := by have := tm_bd h; omega
  simp [tm, h0] at h
  exact ⟨h0, h.1, h.2⟩

theorem put_len (c : Ce) : 4 ≤ c.put.length + (if 1 ≤ c.N.size then 0 else 1) ∧ c.put.length ≤ 60 + c.N.size + c.V.S.size + c.W.S.size := by
  have h1 := Nm.text_len (sb c.N)
  have h2 := Nm.num_len ((sb c.N).length : Int)
  have h3 := sb_len c.N
  have h4 := c.V.put_len
  have h5 := c.W.put_len
  have h6 := Nm.num_len c.T
  unfold put
  simp only [List.length_append]
  split <;> split <;> simp <;> omega

theorem put_bd {c : Ce} (h : c.may = true) : ∀ z ∈ c.put, 0 ≤ z ∧ z ≤ 255 := by
  obtain ⟨h1, h2, h3, h4⟩ := may_parts h
  have k1 := km_size h1
  have k2 := Va.may_ok h2
  have k3 := Va.may_ok h3
  have k4 := tm_bd h4
  unfold put
  refine bd_app (bd_app (Nm.num_bd _ (by omega) (by rw [sb_len]; omega)) (sb_bd _)) (bd_app (Va.put_bd k2.1 k2.2.1 (by omega)) (bd_app (Nm.num_bd _ (by omega) (by omega)) ?_))
  split
  · exact Va.put_bd k3.1 k3.2.1 (by omega)
  · simp

/-- There and back. -/
theorem get_put {c : Ce} (hx : c.V.X < 18446744073709551616) (hy : c.W.X < 18446744073709551616) (h : c.may = true) (rest : List Int) : get (c.put ++ rest) = (c, (c.put.length : Int), 0) := by
  obtain ⟨h1, h2, h3, h4⟩ := may_parts h
  have k1 := km_size h1
  have k4 := tm_bd h4
  have e1 : c.put ++ rest = Nm.text (sb c.N) ++ (c.V.put ++ (Nm.num c.T ++ ((if 0 < c.T then c.W.put else []) ++ rest))) := by simp [put]
  have g1 := Nm.getText_text (sb c.N) (c.V.put ++ (Nm.num c.T ++ ((if 0 < c.T then c.W.put else []) ++ rest))) (by rw [sb_len]; omega)
  have g2 := Va.get_put hx h2 (Nm.num c.T ++ ((if 0 < c.T then c.W.put else []) ++ rest))
  have g3 := Nm.get_num c.T (by omega) (by omega) ((if 0 < c.T then c.W.put else []) ++ rest)
  have d1 : (c.put ++ rest).drop (((Nm.text (sb c.N)).length : Int)).toNat = c.V.put ++ (Nm.num c.T ++ ((if 0 < c.T then c.W.put else []) ++ rest)) := by
    rw [Int.toNat_natCast, e1, List.drop_left]
  have d2 : (c.put ++ rest).drop (((Nm.text (sb c.N)).length : Int) + (c.V.put.length : Int)).toNat = Nm.num c.T ++ ((if 0 < c.T then c.W.put else []) ++ rest) := by
    rw [show (((Nm.text (sb c.N)).length : Int) + (c.V.put.length : Int)).toNat = (Nm.text (sb c.N)).length + c.V.put.length by omega, ← List.drop_drop, e1, List.drop_left, List.drop_left]
  have d3 : (c.put ++ rest).drop (((Nm.text (sb c.N)).length : Int) + (c.V.put.length : Int) + ((Nm.num c.T).length : Int)).toNat = (if 0 < c.T then c.W.put else []) ++ rest := by
    rw [show (((Nm.text (sb c.N)).length : Int) + (c.V.put.length : Int) + ((Nm.num c.T).length : Int)).toNat = (Nm.text (sb c.N)).length + c.V.put.length + (Nm.num c.T).length by omega, ← List.drop_drop, ← List.drop_drop, e1, List.drop_left, List.drop_left, List.drop_left]
  rw [← e1] at g1
  rw [← d1] at g2
  rw [← d2] at g3
  by_cases ht : 0 < c.T
  · have g4 := Va.get_put hy h3 rest
    rw [if_pos ht] at d3
    rw [← d3] at g4
    have hp := parts_5 g1 g2 g3 ht g4
    rw [sb_back] at hp
    rw [get_3 hp h]
    simp only [put, if_pos ht, List.length_append, Prod.mk.injEq, and_true, true_and]
    omega
  · obtain ⟨t0, t1, -⟩ := tm_none h4 ht
    have hw := Va.put_none h3 t1
    have hp := parts_4 g1 g2 g3 ht
    rw [sb_back, ← hw] at hp
    rw [get_3 hp h]
    simp only [put, if_neg ht, List.length_append, List.length_nil, Prod.mk.injEq, and_true, true_and]
    omega

theorem eq_refl (c : Ce) : c.eq c = true := by simp [eq, Va.eq_refl]

/-- One text of bytes just if they are the same. -/
theorem put_eq {c d : Ce} (hc : c.Ok) (hd : d.Ok) (h : c.may = true) (g : d.may = true) : ((strOfNums d.put).toList == (strOfNums c.put).toList) = c.eq d := by
  rw [Bool.eq_iff_iff]
  simp only [beq_iff_eq]
  constructor
  · intro q
    have q2 : d.put = c.put := Fl.str_inj (put_bd g) (put_bd h) (by
      apply ByteArray.ext
      apply Array.toList_inj.1
      rw [← ByteArray.toList_eq, ← ByteArray.toList_eq, q])
    have e1 := get_put hc.v.x hc.w.x h []
    rw [← q2, get_put hd.v.x hd.w.x g []] at e1
    simp only [Prod.mk.injEq] at e1
    rw [e1.1]
    exact eq_refl c
  · intro q
    simp [eq] at q
    obtain ⟨q1, q2, q3, q4⟩ := q
    unfold put
    rw [q1, q2, Va.put_of_eq q3, Va.put_of_eq q4]

theorem parts_bd (zs : List Int) (hb : ∀ z ∈ zs, 0 ≤ z ∧ z ≤ 255) : (parts zs).1.Ok := by
  have ht := Dt.getText_bd zs hb
  have hv := fun n => Va.get_bd (zs.drop n) (fun z hz => hb z (List.mem_of_mem_drop hz))
  have hn := fun n => Nm.get_bd (zs.drop n) 0 0 (by omega) (by decide) (by omega) (fun z hz => hb z (List.mem_of_mem_drop hz))
  have hs : (strOfNums (Nm.getText zs).1).size ≤ maxLen := by
    rw [Dt.size_nums]
    unfold maxLen
    omega
  have h0 := ok_zero
  unfold parts
  split
  · exact h0
  · split
    · exact h0
    · split
      · exact h0
      · rename_i h3
        have hn' := hn ((Nm.getText zs).2.1 + (Va.get (zs.drop (Nm.getText zs).2.1.toNat)).2.1).toNat
        rcases hn' with hn' | hn'
        · obtain ⟨-, -, -, -, n4, n5⟩ := hn'
          simp only
          split
          · exact ⟨hs, (hv _).2.2, n4, n5, (hv _).2.2⟩
          · exact ⟨hs, (hv _).2.2, n4, n5, Va.ok_zero⟩
        · omega
theorem get_ok (zs : List Int) (hb : ∀ z ∈ zs, 0 ≤ z ∧ z ≤ 255) : (get zs).1.Ok := by
  have hp := parts_bd zs hb
  unfold get
  split
  · exact ok_zero
  · split
    · exact hp
    · exact ok_zero

/-- Committed or undone it is no longer than it was. -/
theorem settle_len {n : ByteArray} {v : Va} (hk : v.K ≠ 0) : (settle n v).put.length = (Nm.text (sb n)).length + v.put.length + 1 := by
  have : (Nm.num 0).length = 1 := Dt.num_small.1
  simp [settle, hk, put, this]
  omega
theorem undo_len (c : Ce) (hk : c.V.K ≠ 0) : (undo c).put.length ≤ c.put.length := by
  have h6 := Nm.num_len c.T
  unfold undo
  rw [settle_len hk]
  unfold put
  simp only [List.length_append]
  omega
theorem commit_len (c : Ce) (hl : left c = true) : (commit c).put.length ≤ c.put.length := by
  unfold commit
  unfold left at hl
  split
  · rename_i ht
    rw [if_pos ht] at hl
    simp at hl
    rw [settle_len hl]
    have h6 := Nm.num_len c.T
    have h4 := c.V.put_len
    unfold put
    simp only [List.length_append, if_pos ht]
    omega
  · exact Nat.le_refl _
end Ce
end Go.Proofs.Ytbddghdkmakjlab

namespace Go.Proofs.Ytbddghdkmakjlab
set_option maxRecDepth 100000
set_option linter.unusedVariables false
open Go.RowKit

/-- A variable of several cells that is there. -/
def Bx (w : World) (b : Nat) (cs : Array Value) : Prop := ∃ t, w.heap[b]? = some (.cells cs t (0, 0))

theorem Bx.lt {w : World} {b : Nat} {cs : Array Value} (h : Bx w b cs) : b < w.heap.size := by obtain ⟨t, h⟩ := h; exact blk_lt h
theorem Bx.later {w w' : World} {b : Nat} {cs : Array Value} (h : Bx w b cs) (hb : Below w.heap.size w w') : Bx w' b cs := by
  have hl := h.lt
  obtain ⟨t, h⟩ := h
  exact ⟨t, (hb.block b hl).trans h⟩
theorem Bx.but {w w' : World} {b : Nat} {cs : Array Value} {S : Nat → Prop} (h : Bx w b cs) (hb : But S w w') (hs : ¬ S b) : Bx w' b cs := by
  have hl := h.lt
  obtain ⟨t, h⟩ := h
  exact ⟨t, (hb.block b hl hs).trans h⟩
theorem Bx.new (w : World) (cs : Array Value) (t : TypeId) : Bx (w.alloc (.cells cs t)) w.heap.size cs := ⟨t, heap_alloc_new w _⟩
theorem Bx.cell {w : World} {b : Nat} {cs : Array Value} (h : Bx w b cs) {k : Nat} {v : Value} (hk : cs[k]? = some v) : w.cell? ⟨b, k, none⟩ = some v := by obtain ⟨t, h⟩ := h; exact cell_blk h hk
theorem Bx.frozen {w : World} {b : Nat} {cs : Array Value} (h : Bx w b cs) (k : Nat) : w.frozen? ⟨b, k, none⟩ = false := by obtain ⟨t, h⟩ := h; exact frozen_blk k h
theorem Bx.range {w : World} {b : Nat} {cs : Array Value} (h : Bx w b cs) {o : Nat} {l : List Value} (hl : ∀ j v, l[j]? = some v → cs[o + j]? = some v) : w.rangeAt b o l := fun j v hv => h.cell (hl j v hv)

theorem Below.but {B : Nat} {w0 w w' : World} {S : Nat → Prop} (h : Below B w0 w) (hB : B ≤ w.heap.size) (hb : But S w w') (hs : ∀ k, S k → B ≤ k) : Below B w0 w' := h.trans (hb.below hB fun k hk e => by have := hs k e; omega)

/-- A variable that was laid and written at once. -/
theorem newput {w W W' : World} (h : Below w.heap.size w W) (hb : But (· = w.heap.size) W W') : Below w.heap.size w W' := Below.but h h.size hb (fun k e => by omega)

/-- A type of as many cells, with its zero. -/
structure Ty (ty : TypeId) (z : Array Value) : Prop where
  zero : (Try.prog.info? ty).map (fun i => (i.zero, i.size)) = some (some (.agg z), z.size)
  row : ∃ d, Try.prog.underlying ty = some d ∧ d.isRow = true

theorem Ty.size {ty : TypeId} {z : Array Value} (h : Ty ty z) : (Try.prog.info? ty).map (·.size) = some z.size := by
  have := h.zero
  cases hq : Try.prog.info? ty with
  | none => simp [hq] at this
  | some i => simp [hq] at this ⊢; exact this.2
theorem Ty.zeroVal {ty : TypeId} {z : Array Value} (h : Ty ty z) (w : World) : (zeroValue ty).run Try.prog w = .ok (.agg z) w := by
  have := h.zero
  cases hq : Try.prog.info? ty with
  | none => simp [hq] at this
  | some i =>
    simp [hq] at this
    simp [zeroValue, typeInfo, hq, this.1]

theorem tyV : Ty 32 (va Va.zero) := ⟨by kernel_rfl, _, Try.underlying32, rfl⟩

theorem tyC : Ty 46 (cv Ce.zero) := ⟨by kernel_rfl, _, Try.underlying46, rfl⟩

theorem tyR : Ty 34 (cv Ce.zero) := ⟨by kernel_rfl, _, Try.underlying34, rfl⟩

/-- Read as a whole. -/
theorem Bx.load {w : World} {b : Nat} {cs z : Array Value} {ty : TypeId} (h : Bx w b cs) (ht : Ty ty z) (hs : cs.size = z.size) : (Instr.loadAt ty (.pointer (some ⟨b, 0, none⟩))).run Try.prog w = .ok (.agg cs) w := by
  obtain ⟨d, hu, hd⟩ := ht.row
  have := run_loadAt_mid (P := Try.prog) w b 0 ty cs.toList d (h.range (by intro j v hv; simpa using hv)) hu hd (by rw [ht.size, ← hs]; simp)
  simpa using this
theorem Bx.ldC {w : World} {b : Nat} {c : Ce} (h : Bx w b (cv c)) : (Instr.loadAt 46 (.pointer (some ⟨b, 0, none⟩))).run Try.prog w = .ok (.agg (cv c)) w := h.load tyC rfl
theorem Bx.ldR {w : World} {b : Nat} {c : Ce} (h : Bx w b (cv c)) : (Instr.loadAt 34 (.pointer (some ⟨b, 0, none⟩))).run Try.prog w = .ok (.agg (cv c)) w := h.load tyR rfl
theorem Bx.ldV {w : World} {b : Nat} {v : Va} (h : Bx w b (va v)) : (Instr.loadAt 32 (.pointer (some ⟨b, 0, none⟩))).run Try.prog w = .ok (.agg (va v)) w := h.load tyV rfl
/-- What all see, what one sees, out of a cell. -/
theorem Bx.part {w : World} {b o : Nat} {cs : Array Value} {v : Va} (h : Bx w b cs) (hl : ∀ j u, [Value.int .i64 v.K, .float .f64 v.X, .string v.S][j]? = some u → cs[o + j]? = some u) : (Instr.loadAt 32 (.pointer (some ⟨b, o, none⟩))).run Try.prog w = .ok (.agg (va v)) w := by
  obtain ⟨d, hu, hd⟩ := tyV.row
  exact run_loadAt_mid (P := Try.prog) w b o _ [.int .i64 v.K, .float .f64 v.X, .string v.S] d (h.range hl) hu hd tyV.size
theorem Bx.ld1 {w : World} {b : Nat} {c : Ce} (h : Bx w b (cv c)) : (Instr.loadAt 32 (.pointer (some ⟨b, 1, none⟩))).run Try.prog w = .ok (.agg (va c.V)) w := h.part (by
  intro j u hj
  match j, hj with
  | 0, hj => exact hj
  | 1, hj => exact hj
  | 2, hj => exact hj
  | n + 3, hj => simp at hj)
theorem Bx.ld5 {w : World} {b : Nat} {c : Ce} (h : Bx w b (cv c)) : (Instr.loadAt 32 (.pointer (some ⟨b, 5, none⟩))).run Try.prog w = .ok (.agg (va c.W)) w := h.part (by
  intro j u hj
  match j, hj with
  | 0, hj => exact hj
  | 1, hj => exact hj
  | 2, hj => exact hj
  | n + 3, hj => simp at hj)

/-- Cell by cell. -/
theorem Bx.c0 {w : World} {b : Nat} {c : Ce} (h : Bx w b (cv c)) : w.cell? ⟨b, 0, none⟩ = some (.string c.N) := h.cell rfl
theorem Bx.c1 {w : World} {b : Nat} {c : Ce} (h : Bx w b (cv c)) : w.cell? ⟨b, 1, none⟩ = some (.int .i64 c.V.K) := h.cell rfl
theorem Bx.c2 {w : World} {b : Nat} {c : Ce} (h : Bx w b (cv c)) : w.cell? ⟨b, 2, none⟩ = some (.float .f64 c.V.X) := h.cell rfl
theorem Bx.c3 {w : World} {b : Nat} {c : Ce} (h : Bx w b (cv c)) : w.cell? ⟨b, 3, none⟩ = some (.string c.V.S) := h.cell rfl
theorem Bx.c4 {w : World} {b : Nat} {c : Ce} (h : Bx w b (cv c)) : w.cell? ⟨b, 4, none⟩ = some (.int .i64 c.T) := h.cell rfl
theorem Bx.c5 {w : World} {b : Nat} {c : Ce} (h : Bx w b (cv c)) : w.cell? ⟨b, 5, none⟩ = some (.int .i64 c.W.K) := h.cell rfl
theorem Bx.c6 {w : World} {b : Nat} {c : Ce} (h : Bx w b (cv c)) : w.cell? ⟨b, 6, none⟩ = some (.float .f64 c.W.X) := h.cell rfl
theorem Bx.c7 {w : World} {b : Nat} {c : Ce} (h : Bx w b (cv c)) : w.cell? ⟨b, 7, none⟩ = some (.string c.W.S) := h.cell rfl
theorem Bx.v0 {w : World} {b : Nat} {v : Va} (h : Bx w b (va v)) : w.cell? ⟨b, 0, none⟩ = some (.int .i64 v.K) := h.cell rfl
theorem Bx.v1 {w : World} {b : Nat} {v : Va} (h : Bx w b (va v)) : w.cell? ⟨b, 1, none⟩ = some (.float .f64 v.X) := h.cell rfl
theorem Bx.v2 {w : World} {b : Nat} {v : Va} (h : Bx w b (va v)) : w.cell? ⟨b, 2, none⟩ = some (.string v.S) := h.cell rfl

theorem Bx.cells {w : World} {b : Nat} {c : Ce} (h : Bx w b (cv c)) : w.cell? ⟨b, 0, none⟩ = some (.string c.N) ∧ w.cell? ⟨b, 1, none⟩ = some (.int .i64 c.V.K) ∧ w.cell? ⟨b, 2, none⟩ = some (.float .f64 c.V.X) ∧ w.cell? ⟨b, 3, none⟩ = some (.string c.V.S) ∧
    w.cell? ⟨b, 4, none⟩ = some (.int .i64 c.T) ∧ w.cell? ⟨b, 5, none⟩ = some (.int .i64 c.W.K) ∧ w.cell? ⟨b, 6, none⟩ = some (.float .f64 c.W.X) ∧ w.cell? ⟨b, 7, none⟩ = some (.string c.W.S) := ⟨h.c0, h.c1, h.c2, h.c3, h.c4, h.c5, h.c6, h.c7⟩
theorem Bx.vals {w : World} {b : Nat} {v : Va} (h : Bx w b (va v)) : w.cell? ⟨b, 0, none⟩ = some (.int .i64 v.K) ∧ w.cell? ⟨b, 1, none⟩ = some (.float .f64 v.X) ∧ w.cell? ⟨b, 2, none⟩ = some (.string v.S) := ⟨h.v0, h.v1, h.v2⟩

/-- Behind a store of the whole: nothing but this variable has turned. -/
theorem setRow_but (w : World) (b : Nat) (cs : Array Value) : But (· = b) w (w.setRow b cs) :=
  ⟨rfl, rfl, rfl, by simp [World.setRow], fun k _ hk => by simp [World.setRow, Array.getElem?_modify, show ¬ b = k from fun e => hk e.symm]⟩
theorem Bx.set {w : World} {b : Nat} {old : Array Value} (h : Bx w b old) (cs : Array Value) : Bx (w.setRow b cs) b cs := by
  obtain ⟨t, h⟩ := h
  exact ⟨t, by simp [World.setRow, Array.getElem?_modify, h]⟩
theorem Bx.store {w : World} {b : Nat} {old cs z : Array Value} {ty : TypeId} (h : Bx w b old) (ht : Ty ty z) (ho : old.size = cs.size) (hs : cs.size = z.size) (h1 : ∀ u ∈ cs.toList, u.oneCell' = true) : (Instr.storeAt ty (.pointer (some ⟨b, 0, none⟩)) (.agg cs)).run Try.prog w = .ok () (w.setRow b cs) := by
  obtain ⟨t, h⟩ := h
  simp only [Instr.storeAt, Instr.sureAddr, Sem.run_bind, Sem.run_pure, Result.andThen_ok]
  exact run_storeVar_row w b t ty old cs h (by rw [ht.size, hs]) ho (Array.all_eq_true_iff_forall_mem.2 (fun v hv => h1 v (by simpa using hv)))

section
variable {w : World} {ops : Array Oper} {rest : List Oper} {o : Oper} {a : Act} {Q : Exit → Act → World → Prop}

/-- A variable is laid, its zero in it. -/
theorem wpList_new (ty : TypeId) (z : Array Value) (hg : o.guard = none) (hop : o.op = Op.alloc ty) (ht : Ty ty z)
    (hK : ∀ W, Below w.heap.size w W → Bx W w.heap.size z → wpList Try.prog ops Q rest (a.put o.dst (.pointer (some ⟨w.heap.size, 0, none⟩))) W) : wpList Try.prog ops Q (o :: rest) a w := by
  refine wpList_plain hg fun K' hK' => ?_
  have hr : (Instr.alloc ty true (.tuple #[])).run Try.prog w = .ok (.pointer (some ⟨w.heap.size, 0, none⟩)) (w.alloc (.cells z ty)) := by
    simp [Instr.alloc, newVar, newRow, Value.cells, go_sem, Result.andThen, ht.zeroVal]
  unfold Oper.wp
  simp [execOp, hop, hr, Result.andThen]
  exact hK' _ _ (hK _ ((Below.refl _ _).alloc (Nat.le_refl _) _) (Bx.new _ _ _))

/-- A variable is laid, a value in it. -/
theorem wpList_box (ty : TypeId) (x : Operand) (cs : Array Value) (hg : o.guard = none) (hop : o.op = Op.box ty x) (hx : a.eval x = .agg cs)
    (hK : ∀ W, Below w.heap.size w W → Bx W w.heap.size cs → wpList Try.prog ops Q rest (a.put o.dst (.pointer (some ⟨w.heap.size, 0, none⟩))) W) : wpList Try.prog ops Q (o :: rest) a w := by
  refine wpList_plain hg fun K' hK' => ?_
  have hr : (Instr.box ty (.agg cs)).run Try.prog w = .ok (.pointer (some ⟨w.heap.size, 0, none⟩)) (w.alloc (.cells cs ty)) := by
    simp [Instr.box, newVar, newRow, Value.cells, go_sem, Result.andThen]
  unfold Oper.wp
  simp [execOp, hop, hx, hr, Result.andThen]
  exact hK' _ _ (hK _ ((Below.refl _ _).alloc (Nat.le_refl _) _) (Bx.new _ _ _))

/-- A variable is read as a whole. -/
theorem wpList_get (ty : TypeId) (z : Array Value) (x : Operand) (b : Nat) (cs : Array Value) (hg : o.guard = none) (hop : o.op = Op.load ty x) (hx : a.eval x = .pointer (some ⟨b, 0, none⟩)) (h : Bx w b cs) (ht : Ty ty z) (hs : cs.size = z.size)
    (hK : wpList Try.prog ops Q rest (a.put o.dst (.agg cs)) w) : wpList Try.prog ops Q (o :: rest) a w := by
  have hr := h.load ht hs
  refine wpList_plain hg fun K' hK' => ?_
  unfold Oper.wp
  simp [execOp, hop, hx, hr, Result.andThen]
  exact hK' _ _ hK

/-- A variable is written as a whole. -/
theorem wpList_put (ty : TypeId) (z : Array Value) (x y : Operand) (b : Nat) (cs old : Array Value) (hg : o.guard = none) (hop : o.op = Op.store ty x y) (hx : a.eval x = .pointer (some ⟨b, 0, none⟩)) (hy : a.eval y = .agg cs) (h : Bx w b old) (ht : Ty ty z)
    (ho : old.size = cs.size) (hs : cs.size = z.size) (h1 : ∀ u ∈ cs.toList, u.oneCell' = true)
    (hK : ∀ W, But (· = b) w W → W.heap.size = w.heap.size → Bx W b cs → wpList Try.prog ops Q rest (a.put o.dst undef) W) : wpList Try.prog ops Q (o :: rest) a w := by
  have hr := h.store ht ho hs h1
  refine wpList_plain hg fun K' hK' => ?_
  unfold Oper.wp
  simp [execOp, hop, hx, hy, hr, Result.andThen]
  exact hK' _ _ (hK _ (setRow_but _ _ _) (by simp [World.setRow]) (h.set cs))
end

/-- What a result's variable tells. -/
theorem results_bx {fn : Func} {p : Tmp} {ty : TypeId} {z : Array Value} (h : fn.results = #[.cell p ty]) (tmps : Array Value) (w : World) (b : Nat) (cs : Array Value) (hp : tmps.getD p undef = .pointer (some ⟨b, 0, none⟩)) (hb : Bx w b cs) (ht : Ty ty z) (hs : cs.size = z.size) : (results fn tmps).run Try.prog w = .ok (.agg cs) w := by
  obtain ⟨t, hb⟩ := hb
  obtain ⟨d, hu, hd⟩ := ht.row
  exact results_cell_row h tmps w b t cs (0, 0) d hp hb hu (by cases d <;> simp_all) (by rw [ht.size, hs])
theorem Bx.ldVar {w : World} {b : Nat} {cs z : Array Value} {ty : TypeId} (h : Bx w b cs) (ht : Ty ty z) (hs : cs.size = z.size) : (loadVar ty ⟨b, 0, none⟩).run Try.prog w = .ok (.agg cs) w := by
  have := h.load ht hs
  simpa [Instr.loadAt, Instr.sureAddr, Sem.run_bind, Sem.run_pure, Result.andThen_ok] using this

theorem results2_bx {fn : Func} {p q : Tmp} {ty : TypeId} {z : Array Value} (h : fn.results = #[.cell p ty, .tmp q]) (tmps : Array Value) (w : World) (b : Nat) (cs : Array Value) (u : Value) (hp : tmps.getD p undef = .pointer (some ⟨b, 0, none⟩)) (hq : tmps.getD q undef = u) (hb : Bx w b cs) (ht : Ty ty z) (hs : cs.size = z.size) : (results fn tmps).run Try.prog w = .ok (.tuple #[.agg cs, u]) w := by
  have hp' : tmps[p]?.getD undef = .pointer (some ⟨b, 0, none⟩) := by simpa using hp
  have hq' : tmps[q]?.getD undef = u := by simpa using hq
  simp [results, h, hp', hq', asAddr, hb.ldVar ht hs]
theorem results3_bx {fn : Func} {p q r : Tmp} {ty : TypeId} {z : Array Value} (h : fn.results = #[.cell p ty, .tmp q, .tmp r]) (tmps : Array Value) (w : World) (b : Nat) (cs : Array Value) (u x : Value) (hp : tmps.getD p undef = .pointer (some ⟨b, 0, none⟩)) (hq : tmps.getD q undef = u) (hr : tmps.getD r undef = x) (hb : Bx w b cs) (ht : Ty ty z) (hs : cs.size = z.size) : (results fn tmps).run Try.prog w = .ok (.tuple #[.agg cs, u, x]) w := by
  have hp' : tmps[p]?.getD undef = .pointer (some ⟨b, 0, none⟩) := by simpa using hp
  have hq' : tmps[q]?.getD undef = u := by simpa using hq
  have hr' : tmps[r]?.getD undef = x := by simpa using hr
  simp [results, h, hp', hq', hr', asAddr, hb.ldVar ht hs]

/-- One cell of it is written. -/
theorem Bx.setCell {w : World} {b : Nat} {cs : Array Value} (h : Bx w b cs) (o : Nat) (v : Value) : Bx (w.setCell ⟨b, o, none⟩ v) b (cs.setIfInBounds o v) := by
  obtain ⟨t, h⟩ := h
  exact ⟨t, by simp [World.setCell, Array.getElem?_modify, h]⟩
theorem setCell_but (w : World) (b o : Nat) (v : Value) : But (· = b) w (w.setCell ⟨b, o, none⟩ v) := But.setCell (S := (· = b)) (p := ⟨b, o, none⟩) (But.refl _ _) (.inl rfl) v
theorem setCell_size (w : World) (p : Addr) (v : Value) : (w.setCell p v).heap.size = w.heap.size := by simp [World.setCell]
theorem Bx.store1 {w : World} {b o : Nat} {cs : Array Value} {ty : TypeId} {v : Value} (h : Bx w b cs) (ho : o < cs.size) (hi : (Try.prog.info? ty).map (·.size) = some 1) (hv : v.cells = #[v]) (hr : ∀ a W, (Go.store a v).run Try.prog W = stored Try.prog W a v .plain) :
    (Instr.storeAt ty (.pointer (some ⟨b, o, none⟩)) v).run Try.prog w = .ok () (w.setCell ⟨b, o, none⟩ v) := by
  have hc : w.cell? ⟨b, o, none⟩ = some cs[o] := h.cell (Array.getElem?_eq_getElem ho)
  have hf := h.frozen o
  cases hq : Try.prog.info? ty with
  | none => simp [hq] at hi
  | some i =>
    have hs : i.size = 1 := by simpa [hq] using hi
    simp [Instr.storeAt, Instr.sureAddr, storeVar, sizeOf, typeInfo, hq, hs, hv, storeCells, hr, stored, hc, hf, add_plain]

section
variable {w : World} {ops : Array Oper} {rest : List Oper} {o : Oper} {a : Act} {Q : Exit → Act → World → Prop}

/-- 'c.Key = s', 'c.Txn = t'. -/
theorem wpList_put1 (ty : TypeId) (x y : Operand) (b k : Nat) (v : Value) (cs : Array Value) (hg : o.guard = none) (hop : o.op = Op.store ty x y) (hx : a.eval x = .pointer (some ⟨b, k, none⟩)) (hy : a.eval y = v) (h : Bx w b cs) (hk : k < cs.size)
    (hi : (Try.prog.info? ty).map (·.size) = some 1) (hv : v.cells = #[v]) (hr : ∀ a W, (Go.store a v).run Try.prog W = stored Try.prog W a v .plain)
    (hK : ∀ W, But (· = b) w W → W.heap.size = w.heap.size → Bx W b (cs.setIfInBounds k v) → wpList Try.prog ops Q rest (a.put o.dst undef) W) : wpList Try.prog ops Q (o :: rest) a w := by
  have hr := h.store1 hk hi hv hr
  refine wpList_plain hg fun K' hK' => ?_
  unfold Oper.wp
  simp [execOp, hop, hx, hy, hr, Result.andThen]
  exact hK' _ _ (hK _ (setCell_but _ _ _ _) (setCell_size _ _ _) (h.setCell k v))

/-- 'c.Val = v', 'c.New = v'. -/
theorem wpList_putV (x y : Operand) (b k : Nat) (v : Va) (cs : Array Value) (hg : o.guard = none) (hop : o.op = Op.store 32 x y) (hx : a.eval x = .pointer (some ⟨b, k, none⟩)) (hy : a.eval y = .agg (va v)) (h : Bx w b cs) (hk : k + 3 ≤ cs.size)
    (hK : ∀ W, But (· = b) w W → W.heap.size = w.heap.size → Bx W b (((cs.setIfInBounds k (.int .i64 v.K)).setIfInBounds (k + 1) (.float .f64 v.X)).setIfInBounds (k + 1 + 1) (.string v.S)) → wpList Try.prog ops Q rest (a.put o.dst undef) W) : wpList Try.prog ops Q (o :: rest) a w := by
  refine wpList_store_mid hg _ x y hop b k (va v) hx hy ?_ tyV.size (Array.all_eq_true_iff_forall_mem.2 (fun u hu => va_one v u (by simpa using hu))) ?_
  · intro j hj
    have hj' : j < 3 := hj
    refine ⟨?_, h.frozen _⟩
    rw [h.cell (Array.getElem?_eq_getElem (show k + j < cs.size by omega))]
    rfl
  · show wpList Try.prog ops Q rest (a.put o.dst undef) (((w.setCell ⟨b, k, none⟩ (.int .i64 v.K)).setCell ⟨b, k + 1, none⟩ (.float .f64 v.X)).setCell ⟨b, k + 1 + 1, none⟩ (.string v.S))
    refine hK _ ?_ (by simp only [setCell_size]) (((h.setCell _ _).setCell _ _).setCell _ _)
    exact ((setCell_but _ _ _ _).trans ((setCell_but _ _ _ _).mono fun _ _ h => h)).trans ((setCell_but _ _ _ _).mono fun _ _ h => h)
end

section
variable {w : World} {o : Oper} {a : Act} {Q : Exit → Act → World → Prop} {K : Act → World → Prop}

/-- The same at one operation alone. -/
theorem wp_put (ty : TypeId) (z : Array Value) (x y : Operand) (b : Nat) (cs old : Array Value) (hop : o.op = Op.store ty x y) (hx : a.eval x = .pointer (some ⟨b, 0, none⟩)) (hy : a.eval y = .agg cs) (h : Bx w b old) (ht : Ty ty z)
    (ho : old.size = cs.size) (hs : cs.size = z.size) (h1 : ∀ u ∈ cs.toList, u.oneCell' = true)
    (hK : ∀ W, But (· = b) w W → W.heap.size = w.heap.size → Bx W b cs → K (a.put o.dst undef) W) : o.wp Try.prog a w K Q := by
  have hr := h.store ht ho hs h1
  unfold Oper.wp
  simp [execOp, hop, hx, hy, hr, Result.andThen]
  exact hK _ (setRow_but _ _ _) (by simp [World.setRow]) (h.set cs)
theorem wp_put1 (ty : TypeId) (x y : Operand) (b k : Nat) (v : Value) (cs : Array Value) (hop : o.op = Op.store ty x y) (hx : a.eval x = .pointer (some ⟨b, k, none⟩)) (hy : a.eval y = v) (h : Bx w b cs) (hk : k < cs.size)
    (hi : (Try.prog.info? ty).map (·.size) = some 1) (hv : v.cells = #[v]) (hr : ∀ a W, (Go.store a v).run Try.prog W = stored Try.prog W a v .plain)
    (hK : ∀ W, But (· = b) w W → W.heap.size = w.heap.size → Bx W b (cs.setIfInBounds k v) → K (a.put o.dst undef) W) : o.wp Try.prog a w K Q := by
  have hr := h.store1 hk hi hv hr
  unfold Oper.wp
  simp [execOp, hop, hx, hy, hr, Result.andThen]
  exact hK _ (setCell_but _ _ _ _) (setCell_size _ _ _) (h.setCell k v)
theorem wp_putV (x y : Operand) (b k : Nat) (v : Va) (cs : Array Value) (hop : o.op = Op.store 32 x y) (hx : a.eval x = .pointer (some ⟨b, k, none⟩)) (hy : a.eval y = .agg (va v)) (h : Bx w b cs) (hk : k + 3 ≤ cs.size)
    (hK : ∀ W, But (· = b) w W → W.heap.size = w.heap.size → Bx W b (((cs.setIfInBounds k (.int .i64 v.K)).setIfInBounds (k + 1) (.float .f64 v.X)).setIfInBounds (k + 1 + 1) (.string v.S)) → K (a.put o.dst undef) W) : o.wp Try.prog a w K Q := by
  refine wp_store_mid _ x y hop b k (va v) hx hy ?_ tyV.size (Array.all_eq_true_iff_forall_mem.2 (fun u hu => va_one v u (by simpa using hu))) ?_
  · intro j hj
    have hj' : j < 3 := hj
    refine ⟨?_, h.frozen _⟩
    rw [h.cell (Array.getElem?_eq_getElem (show k + j < cs.size by omega))]
    rfl
  · show K (a.put o.dst undef) (((w.setCell ⟨b, k, none⟩ (.int .i64 v.K)).setCell ⟨b, k + 1, none⟩ (.float .f64 v.X)).setCell ⟨b, k + 1 + 1, none⟩ (.string v.S))
    refine hK _ ?_ (by simp only [setCell_size]) (((h.setCell _ _).setCell _ _).setCell _ _)
    exact ((setCell_but _ _ _ _).trans ((setCell_but _ _ _ _).mono fun _ _ h => h)).trans ((setCell_but _ _ _ _).mono fun _ _ h => h)
theorem wp_new (ty : TypeId) (z : Array Value) (hop : o.op = Op.alloc ty) (ht : Ty ty z)
    (hK : ∀ W, Below w.heap.size w W → Bx W w.heap.size z → K (a.put o.dst (.pointer (some ⟨w.heap.size, 0, none⟩))) W) : o.wp Try.prog a w K Q := by
  have hr : (Instr.alloc ty true (.tuple #[])).run Try.prog w = .ok (.pointer (some ⟨w.heap.size, 0, none⟩)) (w.alloc (.cells z ty)) := by
    simp [Instr.alloc, newVar, newRow, Value.cells, go_sem, Result.andThen, ht.zeroVal]
  unfold Oper.wp
  simp [execOp, hop, hr, Result.andThen]
  exact hK _ ((Below.refl _ _).alloc (Nat.le_refl _) _) (Bx.new _ _ _)
end

/-- In a region that draws its order: read as a whole, it may be taken first. -/
theorem yields_bx {ops : Array Oper} {S : World → Prop} {op : Oper} {a : Act} (hw : Region.wanted op (yielded ops a.tmps) = true) (ty : TypeId) (z : Array Value) (x : Operand) (ho : op.op = .load ty x)
    (b : Nat) (hx : a.eval x = .pointer (some ⟨b, 0, none⟩)) (cs : Array Value) (hS : ∀ w, S w → Bx w b cs) (ht : Ty ty z) (hs : cs.size = z.size) : YieldsIf Try.prog ops S op (.agg cs) a := by
  obtain ⟨d, hu, hd⟩ := ht.row
  have := yieldsIf_load_mid (P := Try.prog) (S := S) hw ty x ho b 0 hx cs.toList d (fun w h => (hS w h).range (by intro j v hv; simpa using hv)) hu hd (by rw [ht.size, ← hs]; simp)
  simpa using this
end Go.Proofs.Ytbddghdkmakjlab

namespace Go.Proofs.Ytbddghdkmakjlab
set_option maxRecDepth 100000
set_option linter.unusedVariables false
open Go.RowKit

set_option maxHeartbeats 400000 in
theorem kmay_any (s : ByteArray) (w : World) (_h : s.size ≤ 9223372036854775807) :
    Calls Try.prog 32 #[.string s] w fun e w' => e = .returned (.bool (decide (1 ≤ (s.size : Int)) && decide ((s.size : Int) ≤ 16))) ∧ w' = w := by
  cases h1 : decide (1 ≤ (s.size : Int))
  all_goals
    have H1 := hide h1
    go_enter Try.func32, Try.ntmps32
    go_wp2_with fail
    go_ret
    exact ⟨rfl, rfl⟩

set_option maxHeartbeats 400000 in
theorem refMayKey_any (s : ByteArray) (w : World) (_h : s.size ≤ 9223372036854775807) :
    Calls Try.prog 18 #[.string s] w fun e w' => e = .returned (.bool (decide (1 ≤ (s.size : Int)) && decide ((s.size : Int) ≤ 16))) ∧ w' = w := by
  cases h1 : decide (1 ≤ (s.size : Int))
  all_goals
    go_enter Try.func18, Try.ntmps18
    go_wp2_with fail
    go_ret
    exact ⟨rfl, rfl⟩
end Go.Proofs.Ytbddghdkmakjlab

namespace Go.Proofs.Ytbddghdkmakjlab
set_option maxRecDepth 100000
set_option linter.unusedVariables false
open Go.RowKit

set_option maxHeartbeats 400000 in
theorem hasTxn_any (c : Ce) (w : World) :
    Calls Try.prog 56 #[.agg (cv c)] w fun e w' => e = .returned (.bool (decide (0 < c.T))) ∧ Below w.heap.size w w' := by
  go_enter Try.func56, Try.ntmps56
  go_wp2_with (refine wpList_box 46 (.tmp 0) (cv c) rfl rfl rfl ?_; intro W1 hB1 hX1; have c4 := hX1.c4)
  go_ret
  exact ⟨rfl, hB1⟩

set_option maxHeartbeats 400000 in
theorem isNone_any (v : Va) (w : World) :
    Calls Try.prog 44 #[.agg (va v)] w fun e w' => e = .returned (.bool (decide (v.K = 0))) ∧ Below w.heap.size w w' := by
  go_enter Try.func44, Try.ntmps44
  go_wp2_with (refine wpList_box 32 (.tmp 0) (va v) rfl rfl rfl ?_; intro W1 hB1 hX1; have c0 := hX1.v0)
  go_ret
  exact ⟨rfl, hB1⟩

set_option maxHeartbeats 400000 in
theorem of_cell (c : Ce) (w : World) :
    Calls Try.prog 20 #[.agg (cv c)] w fun e w' => e = .returned (.agg (cv c)) ∧ Below w.heap.size w w' := by
  go_enter Try.func20, Try.ntmps20
  go_wp2_with (first
    | (refine wpList_box 34 (.tmp 0) (cv c) rfl rfl rfl ?_; intro W1 hB1 hX1)
    | (refine wpList_new 46 _ rfl rfl tyC ?_; intro W2 hB2 hX2; replace hX1 := hX1.later hB2; obtain ⟨c0, c1, c2, c3, c4, c5, c6, c7⟩ := hX1.cells)
    | (refine wpList_put 46 _ (.tmp 2) (.tmp 11) _ (cv c) _ rfl rfl rfl rfl hX2 tyC rfl rfl (cv_one c) ?_; intro W3 hb3 hs3 hX3))
  refine bodyPost_ret (v := .agg (cv c)) (results_bx Try.results20 _ _ _ _ rfl hX3 tyC rfl) rfl ⟨rfl, ?_⟩
  exact Below.but (hB1.trans (hB2.mono hB1.size)) (by have := hB1.size; have := hB2.size; omega) hb3 (fun k e => by have := hB1.size; omega)

theorem see_new {c : Ce} {t : Int} (h : 0 < c.T) (ht : t = c.T) : Ce.see c t = c.W := by unfold Ce.see; rw [if_pos ⟨by omega, ht.symm⟩]
theorem see_old {c : Ce} {t : Int} (h : ¬ (0 < c.T ∧ t = c.T)) : Ce.see c t = c.V := by unfold Ce.see; rw [if_neg (by omega)]

end Go.Proofs.Ytbddghdkmakjlab
