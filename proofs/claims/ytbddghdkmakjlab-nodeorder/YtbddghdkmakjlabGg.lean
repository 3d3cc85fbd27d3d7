/-
  Plain functions on nodes: which may be, their bytes, the page, the way back; no program is named here.
  Variables that hold a node, slices of cells, texts, ints; a slice of the call's own that grows by one; laws of the walk at these operations.
  How many bytes nodes have: plain functions, no program is named here.
  Guards that stand, fields of a value, a slice of the call's own written out; no function of the program is named here.
  As Ord: an operation that the first of the stores waits for by way of others may be taken first; no program is named here.
  As Orw: an operation that comes up alone in a region that draws its order and whose guard does not stand; a new variable there; no program is named here.
-/
import Derived.Test.YtbddghdkmakjlabGf
import Derived.Test.YtbddghdkmakjlabGd
import Derived.Great.BuildSlice
import Derived.Laws.OwnMore
import Derived.Test.YtbddghdkmakjlabGe
import Derived.Test.YtbddghdkmakjlabGa
namespace Go.Proofs.Ytbddghdkmakjlab
set_option maxRecDepth 100000
set_option linter.unusedVariables false
open Go.RowKit

theorem all_no {p : Nat → Bool} {n i : Nat} (hi : i < n) (h : p i = false) : (List.range n).all p = false := by
  rw [List.all_eq_false]
  exact ⟨i, List.mem_range.2 hi, by rw [h]; simp⟩
theorem all_yes {p : Nat → Bool} {n : Nat} (h : ∀ i, i < n → p i = true) : (List.range n).all p = true := by
  rw [List.all_eq_true]
  exact fun i hi => h i (List.mem_range.1 hi)
theorem all_at {p : Nat → Bool} {n i : Nat} (h : (List.range n).all p = true) (hi : i < n) : p i = true := List.all_eq_true.1 h i (List.mem_range.2 hi)

/-- A node: is it a leaf; its cells, its keys, its kids. -/
structure No where
  L : Bool
  C : List Ce
  K : List ByteArray
  I : List Int

namespace No
def zero : No := ⟨false, [], [], []⟩
structure Ok (n : No) : Prop where
  c : ∀ c ∈ n.C, c.Ok
  k : ∀ s ∈ n.K, s.size ≤ maxLen
  i : ∀ z ∈ n.I, -9223372036854775808 ≤ z ∧ z ≤ 9223372036854775807
theorem ok_zero : zero.Ok := ⟨by simp [zero], by simp [zero], by simp [zero]⟩

def bz : ByteArray := ⟨#[]⟩
/-- Is the text at place i above the one ahead of it? -/
def up (K : List ByteArray) (i : Nat) : Bool := decide (i = 0) || Ky.bl (K.getD (i - 1) bz).toList (K.getD i bz).toList
def cok (C : List Ce) (i : Nat) : Bool := (C.getD i Ce.zero).may && (decide (i = 0) || Ky.bl (C.getD (i - 1) Ce.zero).N.toList (C.getD i Ce.zero).N.toList)
def mayC (C : List Ce) : Bool := (List.range C.length).all (cok C)
def kok (K : List ByteArray) (i : Nat) : Bool := Ce.km (K.getD i bz) && up K i
def mayK (K : List ByteArray) : Bool := (List.range K.length).all (kok K)
def iok (I : List Int) (i : Nat) : Bool := decide (2 ≤ I.getD i 0) && decide (I.getD i 0 ≤ 31)
def allI (I : List Int) : Bool := (List.range I.length).all (iok I)
def mayI (I : List Int) : Bool := decide (1 ≤ I.length) && (decide (I.length ≤ 32) && allI I)
def may (n : No) : Bool := if n.L then decide (n.K.length = 0) && (decide (n.I.length = 0) && mayC n.C) else decide (n.C.length = 0) && (mayI n.I && (decide (n.K.length + 1 = n.I.length) && mayK n.K))

def tx (K : List ByteArray) : List Int := K.flatMap fun s => Nm.text (sb s)
def nn (I : List Int) : List Int := I.flatMap Nm.num
theorem tx_snoc (A : List ByteArray) (s : ByteArray) : tx (A ++ [s]) = tx A ++ Nm.text (sb s) := by simp [tx]
theorem tx_cons (s : ByteArray) (A : List ByteArray) : tx (s :: A) = Nm.text (sb s) ++ tx A := by simp [tx]
theorem nn_snoc (A : List Int) (z : Int) : nn (A ++ [z]) = nn A ++ Nm.num z := by simp [nn]
theorem nn_cons (z : Int) (A : List Int) : nn (z :: A) = Nm.num z ++ nn A := by simp [nn]

/-- The bytes ahead of the noughts. -/
def leafB (C : List Ce) : List Int := 1 :: (Nm.num C.length ++ Ce.cat C)
def forkB (I : List Int) (K : List ByteArray) : List Int := 2 :: (Nm.num I.length ++ (nn I ++ tx K))
def bytes (n : No) : List Int := if n.L then leafB n.C else forkB n.I n.K
def pad (zs : List Int) : List Int := zs ++ List.replicate (256 - zs.length) 0

theorem leafB_eq (C : List Ce) : leafB C = ([1] ++ Nm.num C.length) ++ Ce.cat C := by simp [leafB]
theorem forkB_eq (I : List Int) (K : List ByteArray) : forkB I K = (([2] ++ Nm.num I.length) ++ nn I) ++ tx K := by simp [forkB]
theorem pad_len {zs : List Int} (h : zs.length ≤ 256) : (pad zs).length = 256 := by simp [pad]; omega
theorem pad_bd {zs : List Int} (h : ∀ z ∈ zs, 0 ≤ z ∧ z ≤ 255) : ∀ z ∈ pad zs, 0 ≤ z ∧ z ≤ 255 := bd_app h (by intro z hz; have := List.eq_of_mem_replicate hz; omega)

/-- As many cells as are told. -/
def rdC : Nat → List Int → Option (List Ce)
  | 0, _ => some []
  | k + 1, zs => if (Ce.get zs).2.2 ≠ 0 then none else (rdC k (zs.drop (Ce.get zs).2.1.toNat)).map ((Ce.get zs).1 :: ·)
def rdI : Nat → List Int → Option (List Int × List Int)
  | 0, zs => some ([], zs)
  | k + 1, zs => if (Nm.get 0 0 zs).2.2 ≠ 0 then none else (rdI k (zs.drop (Nm.get 0 0 zs).2.1.toNat)).map fun r => ((Nm.get 0 0 zs).1 :: r.1, r.2)
def rdK : Nat → List Int → Option (List ByteArray)
  | 0, _ => some []
  | k + 1, zs => if (Nm.getText zs).2.2 ≠ 0 then none else (rdK k (zs.drop (Nm.getText zs).2.1.toNat)).map (strOfNums (Nm.getText zs).1 :: ·)

theorem rdC_no {k : Nat} {zs : List Int} {c : Ce} {n e : Int} (h : Ce.get zs = (c, n, e)) (he : e ≠ 0) : rdC (k + 1) zs = none := by simp [rdC, h, he]
theorem rdC_go {k : Nat} {zs : List Int} {c : Ce} {n : Int} (h : Ce.get zs = (c, n, 0)) : rdC (k + 1) zs = (rdC k (zs.drop n.toNat)).map (c :: ·) := by simp [rdC, h]
theorem rdI_no {k : Nat} {zs : List Int} {c n e : Int} (h : Nm.get 0 0 zs = (c, n, e)) (he : e ≠ 0) : rdI (k + 1) zs = none := by simp [rdI, h, he]
theorem rdI_go {k : Nat} {zs : List Int} {c n : Int} (h : Nm.get 0 0 zs = (c, n, 0)) : rdI (k + 1) zs = (rdI k (zs.drop n.toNat)).map fun r => (c :: r.1, r.2) := by simp [rdI, h]
theorem rdK_no {k : Nat} {zs s : List Int} {n e : Int} (h : Nm.getText zs = (s, n, e)) (he : e ≠ 0) : rdK (k + 1) zs = none := by simp [rdK, h, he]
theorem rdK_go {k : Nat} {zs s : List Int} {n : Int} (h : Nm.getText zs = (s, n, 0)) : rdK (k + 1) zs = (rdK k (zs.drop n.toNat)).map (strOfNums s :: ·) := by simp [rdK, h]

theorem rdC_cat : ∀ (L : List Ce) (rest : List Int), (∀ c ∈ L, c.Ok ∧ c.may = true) → rdC L.length (Ce.cat L ++ rest) = some L
  | [], _, _ => rfl
  | c :: L, rest, h => by
    have hc := h c (List.mem_cons_self ..)
    have hg := Ce.get_put hc.1.v.x hc.1.w.x hc.2 (Ce.cat L ++ rest)
    rw [List.length_cons, Ce.cat_cons, List.append_assoc, rdC_go hg, Int.toNat_natCast, List.drop_left, rdC_cat L rest (fun d hd => h d (List.mem_cons_of_mem _ hd))]
    rfl
theorem rdI_nn : ∀ (I : List Int) (rest : List Int), (∀ z ∈ I, -9223372036854775808 ≤ z ∧ z ≤ 9223372036854775807) → rdI I.length (nn I ++ rest) = some (I, rest)
  | [], _, _ => rfl
  | z :: I, rest, h => by
    have hz := h z (List.mem_cons_self ..)
    have hg := Nm.get_num z hz.1 hz.2 (nn I ++ rest)
    rw [List.length_cons, nn_cons, List.append_assoc, rdI_go hg, Int.toNat_natCast, List.drop_left, rdI_nn I rest (fun d hd => h d (List.mem_cons_of_mem _ hd))]
    rfl
theorem rdK_tx : ∀ (K : List ByteArray) (rest : List Int), (∀ s ∈ K, s.size ≤ 65536) → rdK K.length (tx K ++ rest) = some K
  | [], _, _ => rfl
  | s :: K, rest, h => by
    have hs := h s (List.mem_cons_self ..)
    have hg := Nm.getText_text (sb s) (tx K ++ rest) (by rw [sb_len]; exact hs)
    rw [List.length_cons, tx_cons, List.append_assoc, rdK_go hg, Int.toNat_natCast, List.drop_left, rdK_tx K rest (fun d hd => h d (List.mem_cons_of_mem _ hd)), sb_back]
    rfl

/-- The node at the head of a page. -/
def rdN (one : Int) (k : Int) (zs : List Int) : Option No :=
  if one = 1 then (rdC k.toNat zs).map fun C => ⟨true, C, [], []⟩
  else if one = 2 then (rdI k.toNat zs).bind fun r => (rdK (r.1.length - 1) r.2).map fun K => ⟨false, [], K, r.1⟩
  else none
def rd (zs : List Int) : Option No := if (Nm.get 0 0 (zs.drop 1)).2.2 ≠ 0 then none else rdN (zs.getD 0 0) (Nm.get 0 0 (zs.drop 1)).1 ((zs.drop 1).drop (Nm.get 0 0 (zs.drop 1)).2.1.toNat)
/-- Encode's answer. -/
def enc (n : No) : List Int × Int := if n.may = true then (if 256 < n.bytes.length then ([], 4) else (pad n.bytes, 0)) else ([], 1)
def dec (zs : List Int) : No × Int :=
  if zs.length = 256 then (match rd zs with | none => (zero, 8) | some n => if n.enc = (zs, 0) then (n, 0) else (zero, 8)) else (zero, 8)

theorem enc_bad {n : No} (h : n.may = false) : n.enc = ([], 1) := by simp [enc, h]
theorem enc_full {n : No} (h : n.may = true) (hl : 256 < n.bytes.length) : n.enc = ([], 4) := by simp [enc, h, hl]
theorem enc_ok {n : No} (h : n.may = true) (hl : n.bytes.length ≤ 256) : n.enc = (pad n.bytes, 0) := by simp [enc, h, show ¬ 256 < n.bytes.length by omega]

theorem may_leaf {n : No} (hl : n.L = true) (h : n.may = true) : n.K = [] ∧ n.I = [] ∧ mayC n.C = true := by
  simp [may, hl] at h
  exact ⟨h.1, h.2.1, h.2.2⟩
theorem may_fork {n : No} (hl : n.L = false) (h : n.may = true) : n.C = [] ∧ mayI n.I = true ∧ n.K.length + 1 = n.I.length ∧ mayK n.K = true := by
  simp [may, hl] at h
  exact ⟨h.1, h.2.1, h.2.2.1, h.2.2.2⟩
theorem mayC_each {C : List Ce} (h : mayC C = true) : ∀ c ∈ C, c.may = true := by
  intro c hc
  obtain ⟨i, hi, rfl⟩ := List.getElem_of_mem hc
  have := all_at h hi
  simp [cok, List.getD, List.getElem?_eq_getElem hi] at this
  exact this.1
theorem mayK_each {K : List ByteArray} (h : mayK K = true) : ∀ s ∈ K, 1 ≤ s.size ∧ s.size ≤ 16 := by
  intro c hc
  obtain ⟨i, hi, rfl⟩ := List.getElem_of_mem hc
  have := all_at h hi
  simp [kok, List.getD, List.getElem?_eq_getElem hi] at this
  exact Ce.km_size this.1
theorem mayI_each {I : List Int} (h : mayI I = true) : 1 ≤ I.length ∧ I.length ≤ 32 ∧ ∀ z ∈ I, 2 ≤ z ∧ z ≤ 31 := by
  simp only [mayI, Bool.and_eq_true, decide_eq_true_eq] at h
  refine ⟨h.1, h.2.1, fun z hz => ?_⟩
  obtain ⟨i, hi, rfl⟩ := List.getElem_of_mem hz
  have := all_at h.2.2 hi
  simp [iok, List.getD, List.getElem?_eq_getElem hi] at this
  exact this

/-- There and back. -/
theorem rd_page {n : No} (hok : n.Ok) (h : n.may = true) (hl : n.bytes.length ≤ 256) : rd (pad n.bytes) = some n := by
  obtain ⟨L, C, K, I⟩ := n
  cases L
  · obtain ⟨hC, hI, hk, hK⟩ := may_fork rfl h
    simp only at hC hI hk hK
    subst hC
    have hi := mayI_each hI
    have e : pad (bytes ⟨false, [], K, I⟩) = 2 :: (Nm.num I.length ++ (nn I ++ (tx K ++ List.replicate (256 - (bytes ⟨false, [], K, I⟩).length) 0))) := by simp [pad, bytes, forkB]
    have hg := Nm.get_num (I.length : Int) (by omega) (by omega) (nn I ++ (tx K ++ List.replicate (256 - (bytes ⟨false, [], K, I⟩).length) 0))
    have h1 := rdI_nn I (tx K ++ List.replicate (256 - (bytes ⟨false, [], K, I⟩).length) 0) (fun z hz => by have := hi.2.2 z hz; omega)
    have h2 := rdK_tx K (List.replicate (256 - (bytes ⟨false, [], K, I⟩).length) 0) (fun s hs => by have := mayK_each hK s hs; omega)
    rw [e]
    unfold rd
    rw [List.drop_succ_cons, List.drop_zero, hg]
    simp only [ne_eq, not_true_eq_false, if_false, Int.toNat_natCast, List.drop_left, List.getD_cons_zero]
    unfold rdN
    rw [if_neg (by decide), if_pos rfl, Int.toNat_natCast, h1]
    simp only [Option.bind_some]
    rw [show I.length - 1 = K.length by omega, h2]
    rfl
  · obtain ⟨hK, hI, hC⟩ := may_leaf rfl h
    simp only at hK hI hC
    subst hK hI
    have e : pad (bytes ⟨true, C, [], []⟩) = 1 :: (Nm.num C.length ++ (Ce.cat C ++ List.replicate (256 - (bytes ⟨true, C, [], []⟩).length) 0)) := by simp [pad, bytes, leafB]
    have hcl : C.length ≤ 256 := by
      have : C.length ≤ (Ce.cat C).length := by
        clear hl h e
        have hm := mayC_each hC
        clear hC hok
        induction C with
        | nil => simp
        | cons c C ih =>
          rw [Ce.cat_cons, List.length_append, List.length_cons]
          have := ih (fun d hd => hm d (List.mem_cons_of_mem _ hd))
          have := (Ce.put_small (hm c (List.mem_cons_self ..))).1
          omega
      simp [bytes, leafB] at hl
      omega
    have hg := Nm.get_num (C.length : Int) (by omega) (by omega) (Ce.cat C ++ List.replicate (256 - (bytes ⟨true, C, [], []⟩).length) 0)
    have h1 := rdC_cat C (List.replicate (256 - (bytes ⟨true, C, [], []⟩).length) 0) (fun c hc => ⟨hok.c c hc, mayC_each hC c hc⟩)
    rw [e]
    unfold rd
    rw [List.drop_succ_cons, List.drop_zero, hg]
    simp only [ne_eq, not_true_eq_false, if_false, Int.toNat_natCast, List.drop_left, List.getD_cons_zero]
    unfold rdN
    rw [if_pos rfl, Int.toNat_natCast, h1]
    rfl
theorem dec_page {n : No} (hok : n.Ok) (h : n.may = true) (hl : n.bytes.length ≤ 256) : dec (pad n.bytes) = (n, 0) := by
  unfold dec
  rw [if_pos (pad_len hl), rd_page hok h hl]
  simp [enc_ok h hl]

theorem dec_long {zs : List Int} (h : zs.length ≠ 256) : dec zs = (zero, 8) := by simp [dec, h]
theorem dec_none {zs : List Int} (h : rd zs = none) : dec zs = (zero, 8) := by
  unfold dec
  split
  · rw [h]
  · rfl
theorem dec_other {zs : List Int} {n : No} (h : rd zs = some n) (hn : n.enc ≠ (zs, 0)) : dec zs = (zero, 8) := by
  unfold dec
  split
  · rw [h]; simp [hn]
  · rfl
theorem dec_some {zs : List Int} (hl : zs.length = 256) {n : No} (h : rd zs = some n) (hn : n.enc = (zs, 0)) : dec zs = (n, 0) := by
  unfold dec
  rw [if_pos hl, h]
  simp [hn]
theorem dec_said {zs : List Int} {n : No} {e : Int} (h : dec zs = (n, e)) : (e = 8 ∧ n = zero) ∨ (e = 0 ∧ n.enc = (zs, 0) ∧ rd zs = some n ∧ zs.length = 256) := by
  unfold dec at h
  split at h
  · rename_i hl
    split at h
    · simp at h; exact .inl ⟨h.2.symm, h.1.symm⟩
    · rename_i m hm
      split at h
      · rename_i hq
        simp at h
        obtain ⟨rfl, rfl⟩ := h
        exact .inr ⟨rfl, hq, hm, hl⟩
      · simp at h; exact .inl ⟨h.2.symm, h.1.symm⟩
  · simp at h; exact .inl ⟨h.2.symm, h.1.symm⟩
theorem enc_said {n : No} {p : List Int} (h : n.enc = (p, 0)) : n.may = true ∧ n.bytes.length ≤ 256 ∧ p = pad n.bytes := by
  unfold enc at h
  split at h
  · rename_i hm
    split at h
    · simp at h
    · simp at h
      exact ⟨hm, by omega, h.symm⟩
  · simp at h

/-- What one get takes. -/
theorem getText_pos {zs : List Int} (hb : ∀ z ∈ zs, 0 ≤ z ∧ z ≤ 255) (h : (Nm.getText zs).2.2 = 0) : 1 ≤ (Nm.getText zs).2.1 := by
  have hg := Nm.get_bd zs 0 0 (by omega) (by decide) (by omega) hb
  obtain ⟨r, hr⟩ : ∃ r, r = Nm.get 0 0 zs := ⟨_, rfl⟩
  rw [← hr] at hg
  obtain ⟨n, k, e⟩ := r
  simp only at hg
  by_cases he : e = 0
  · subst he
    by_cases hn : n < 0 ∨ 65536 < n
    · rw [Nm.getText_form hr.symm hn] at h
      simp at h
    · by_cases hl : (zs.length : Int) < k + n
      · rw [Nm.getText_more hr.symm hn hl] at h
        simp at h
      · rw [Nm.getText_ok hr.symm hn hl]
        simp only
        omega
  · rw [Nm.getText_err hr.symm he] at h
    exact absurd h he
theorem cget_pos {zs : List Int} (hb : ∀ z ∈ zs, 0 ≤ z ∧ z ≤ 255) (h : (Ce.get zs).2.2 = 0) : 1 ≤ (Ce.get zs).2.1 ∧ (Ce.get zs).2.1 ≤ zs.length := by
  have hbd : ∀ n, ∀ z ∈ zs.drop n, 0 ≤ z ∧ z ≤ 255 := fun n z hz => hb z (List.mem_of_mem_drop hz)
  obtain ⟨s, k, e, hE⟩ : ∃ s k e, Nm.getText zs = (s, k, e) := ⟨_, _, _, rfl⟩
  by_cases he : e = 0
  · subst he
    have ht := Dt.getText_bd zs hb
    have hp := getText_pos hb (by rw [hE])
    rw [hE] at ht hp
    simp only at ht hp
    obtain ⟨u, l, e2, hE2⟩ : ∃ u l e2, Va.get (zs.drop k.toNat) = (u, l, e2) := ⟨_, _, _, rfl⟩
    have hv := Va.get_bd (zs.drop k.toNat) (hbd _)
    rw [hE2, List.length_drop] at hv
    simp only at hv
    by_cases he2 : e2 = 0
    · subst he2
      obtain ⟨t, m, e3, hE3⟩ : ∃ t m e3, Nm.get 0 0 (zs.drop (k + l).toNat) = (t, m, e3) := ⟨_, _, _, rfl⟩
      have hn := Nm.get_bd (zs.drop (k + l).toNat) 0 0 (by omega) (by decide) (by omega) (hbd _)
      rw [hE3, List.length_drop] at hn
      simp only at hn
      by_cases he3 : e3 = 0
      · subst he3
        have hm : 1 ≤ m ∧ k + l + m ≤ zs.length := by
          rcases hn with hn | hn
          · obtain ⟨-, g1, -, g3, -⟩ := hn
            simp at g1 g3
            omega
          · omega
        by_cases h0 : 0 < t
        · obtain ⟨u2, j, e4, hE4⟩ : ∃ u2 j e4, Va.get (zs.drop (k + l + m).toNat) = (u2, j, e4) := ⟨_, _, _, rfl⟩
          have hv2 := Va.get_bd (zs.drop (k + l + m).toNat) (hbd _)
          rw [hE4, List.length_drop] at hv2
          simp only at hv2
          have hp := Ce.parts_5 hE hE2 hE3 h0 hE4
          by_cases he4 : e4 = 0
          · subst he4
            cases hmy : (⟨strOfNums s, u, t, u2⟩ : Ce).may
            · rw [Ce.get_2 hp hmy] at h
              simp at h
            · rw [Ce.get_3 hp hmy]
              simp only
              omega
          · rw [Ce.get_1 hp he4] at h
            exact absurd h he4
        · have hp := Ce.parts_4 hE hE2 hE3 h0
          cases hmy : (⟨strOfNums s, u, t, Va.zero⟩ : Ce).may
          · rw [Ce.get_2 hp hmy] at h
            simp at h
          · rw [Ce.get_3 hp hmy]
            simp only
            omega
      · rw [Ce.get_1 (Ce.parts_3 hE hE2 hE3 he3) he3] at h
        exact absurd h he3
    · rw [Ce.get_1 (Ce.parts_2 hE hE2 he2) he2] at h
      exact absurd h he2
  · rw [Ce.get_1 (Ce.parts_1 hE he) he] at h
    exact absurd h he

theorem bytes_bd {n : No} (hok : n.Ok) (h : n.may = true) (hl : n.C.length ≤ 9223372036854775807) : ∀ z ∈ n.bytes, 0 ≤ z ∧ z ≤ 255 := by
  unfold bytes
  split
  · rename_i hL
    obtain ⟨-, -, hC⟩ := may_leaf hL h
    rw [leafB_eq]
    exact bd_app (bd_app (by simp) (Nm.num_bd _ (by omega) (by omega))) (Ce.cat_bd fun c hc => ⟨hok.c c hc, mayC_each hC c hc⟩)
  · rename_i hL
    obtain ⟨-, hI, -, hK⟩ := may_fork (by simpa using hL) h
    have hi := mayI_each hI
    rw [forkB_eq]
    refine bd_app (bd_app (bd_app (by simp) (Nm.num_bd _ (by omega) (by omega))) ?_) ?_
    · intro z hz
      obtain ⟨q, hq, hz⟩ := List.mem_flatMap.1 hz
      have := hi.2.2 q hq
      exact Nm.num_bd _ (by omega) (by omega) z hz
    · intro z hz
      obtain ⟨q, hq, hz⟩ := List.mem_flatMap.1 hz
      have := mayK_each hK q hq
      exact bd_app (Nm.num_bd _ (by omega) (by rw [sb_len]; omega)) (sb_bd q) z hz

/-- The same, as the document asks it. -/
def eqn (a b : No) : Bool := decide (a.L = b.L) && (decide (a.C.length = b.C.length) && (decide (a.K.length = b.K.length) && (decide (a.I.length = b.I.length) &&
  ((List.range a.C.length).all (fun i => (a.C.getD i Ce.zero).eq (b.C.getD i Ce.zero)) && ((List.range a.K.length).all (fun i => decide (a.K.getD i bz = b.K.getD i bz)) && (List.range a.I.length).all (fun i => decide (a.I.getD i 0 = b.I.getD i 0)))))))

theorem eqn_refl (a : No) : a.eqn a = true := by
  unfold eqn
  simp [Ce.eq_refl]
theorem put_of_ceq {c d : Ce} (q : c.eq d = true) : c.put = d.put := by
  simp [Ce.eq] at q
  obtain ⟨q1, q2, q3, q4⟩ := q
  unfold Ce.put
  rw [q1, q2, Va.put_of_eq q3, Va.put_of_eq q4]
theorem list_same {α : Type} {A B : List α} {d : α} (hl : A.length = B.length) (h : ∀ i, i < A.length → A.getD i d = B.getD i d) : A = B := by
  apply List.ext_getElem hl
  intro i h1 h2
  have := h i h1
  simpa [List.getD, List.getElem?_eq_getElem h1, List.getElem?_eq_getElem h2] using this
theorem cat_same : ∀ {A B : List Ce}, A.length = B.length → (∀ i, i < A.length → (A.getD i Ce.zero).eq (B.getD i Ce.zero) = true) → Ce.cat A = Ce.cat B
  | [], [], _, _ => rfl
  | [], _ :: _, h, _ => by simp at h
  | _ :: _, [], h, _ => by simp at h
  | a :: A, b :: B, h, g => by
    rw [Ce.cat_cons, Ce.cat_cons]
    have h0 := g 0 (by simp)
    simp at h0
    rw [put_of_ceq h0, cat_same (A := A) (B := B) (by simpa using h) (fun i hi => by have := g (i + 1) (by simp; omega); simpa using this)]
/-- One page just if they are the same. -/
theorem eqn_bytes {a b : No} (h : a.eqn b = true) : a.bytes = b.bytes := by
  simp only [eqn, Bool.and_eq_true, decide_eq_true_eq] at h
  obtain ⟨h1, h2, h3, h4, h5, h6, h7⟩ := h
  have e5 := cat_same h2 (fun i hi => all_at h5 hi)
  have e6 : a.K = b.K := list_same (d := bz) h3 (fun i hi => by have := all_at h6 hi; simpa using this)
  have e7 : a.I = b.I := list_same (d := 0) h4 (fun i hi => by have := all_at h7 hi; simpa using this)
  unfold bytes leafB forkB
  rw [h1, h2, e5, e6, e7]
theorem page_same {a b : No} (ha : a.Ok) (hb : b.Ok) (h : a.may = true) (g : b.may = true) (hl : a.bytes.length ≤ 256) (gl : b.bytes.length ≤ 256) (q : pad a.bytes = pad b.bytes) : a = b := by
  have := rd_page ha h hl
  rw [q, rd_page hb g gl] at this
  simpa using this.symm
end No
end Go.Proofs.Ytbddghdkmakjlab

namespace Go.Proofs.Ytbddghdkmakjlab
set_option maxRecDepth 100000
set_option linter.unusedVariables false
open Go.RowKit

def nv (l : Bool) (vc vk vi : Value) : Array Value := #[.bool l, vc, vk, vi]
def nn0 : Array Value := nv false (.slice none 0 0) (.slice none 0 0) (.slice none 0 0)
theorem nv_size (l : Bool) (vc vk vi : Value) : (nv l vc vk vi).size = 4 := rfl

/-- A slice of texts that is there. -/
def Ts (w : World) (v : Value) (K : List ByteArray) : Prop := Rw w v (K.map Value.string) ∧ ∀ s ∈ K, s.size ≤ maxLen
theorem Ts.later {w w' : World} {v : Value} {K : List ByteArray} (h : Ts w v K) (hb : Below w.heap.size w w') : Ts w' v K := ⟨h.1.later hb, h.2⟩
theorem Is.later {w w' : World} {v : Value} {I : List Int} (h : Is w v I) (hb : Below w.heap.size w w') : Is w' v I := ⟨h.1.later hb, h.2⟩
theorem Cs.later {w w' : World} {v : Value} {C : List Ce} (h : Cs w v C) (hb : Below w.heap.size w w') : Cs w' v C := by
  obtain ⟨a, cap, e, h1, h2, h3, h4⟩ := h
  refine ⟨a, cap, e, h1, h2, h3, fun i c hc => ?_⟩
  obtain ⟨b, off, ea, hr⟩ := h4 i c hc
  exact ⟨b, off, ea, rangeAt_later hr hb (rangeAt_lt hr)⟩
theorem Cs.nil (w : World) : Cs w (.slice none 0 0) [] := ⟨none, 0, rfl, Nat.le_refl _, Nat.zero_le _, by simp, by simp⟩
theorem Ts.nil (w : World) : Ts w (.slice none 0 0) [] := ⟨Rw.nil w, by simp⟩
theorem Is.nil (w : World) : Is w (.slice none 0 0) [] := ⟨Rw.nil w, by simp⟩
theorem Cs.ok {w : World} {v : Value} {C : List Ce} (h : Cs w v C) : ∀ c ∈ C, c.Ok := by obtain ⟨_, _, _, _, _, h3, _⟩ := h; exact h3
theorem Cs.opens {w : World} {v : Value} {C : List Ce} (h : Cs w v C) : ∃ p n cp, v = .slice p n cp ∧ n ≤ cp ∧ cp ≤ 9223372036854775807 ∧ Hid (n = C.length) ∧ Hid (Cs w (.slice p n cp) C) := by
  have h' := h
  obtain ⟨a, cap, rfl, h1, h2, -, -⟩ := h
  unfold maxLen at h2
  exact ⟨a, _, cap, rfl, h1, by omega, rfl, h'⟩
theorem Cs.at_ {w : World} {p : Option Addr} {n cp : Nat} {C : List Ce} (h : Cs w (.slice p n cp) C) {i : Nat} (hi : i < C.length) : ∃ b off, p = some ⟨b, off, none⟩ ∧ w.rangeAt b (off + i * 8) (cv (C.getD i Ce.zero)).toList ∧ (C.getD i Ce.zero).Ok := by
  obtain ⟨a, cap, e, -, -, h3, h4⟩ := h
  simp only [Value.slice.injEq] at e
  obtain ⟨rfl, -, -⟩ := e
  have hg : C.getD i Ce.zero = C[i] := by simp [List.getD, List.getElem?_eq_getElem hi]
  rw [hg]
  obtain ⟨b, off, ea, hr⟩ := h4 i _ (List.getElem?_eq_getElem hi)
  exact ⟨b, off, ea, hr, h3 _ (List.getElem_mem hi)⟩
theorem Ts.at_ {w : World} {p : Option Addr} {n cp : Nat} {K : List ByteArray} (h : Ts w (.slice p n cp) K) {i : Nat} (hi : i < K.length) : ∃ b off, p = some ⟨b, off, none⟩ ∧ w.cell? ⟨b, off + i, none⟩ = some (.string (K.getD i No.bz)) ∧ (K.getD i No.bz).size ≤ maxLen := by
  obtain ⟨b, off, ea, hr⟩ := h.1.cell (i := i) (by simpa using hi)
  have hg : K.getD i No.bz = K[i] := by simp [List.getD, List.getElem?_eq_getElem hi]
  rw [hg]
  exact ⟨b, off, ea, by simpa using hr, h.2 _ (List.getElem_mem hi)⟩
theorem Is.at_ {w : World} {p : Option Addr} {n cp : Nat} {I : List Int} (h : Is w (.slice p n cp) I) {i : Nat} (hi : i < I.length) : ∃ b off, p = some ⟨b, off, none⟩ ∧ w.cell? ⟨b, off + i, none⟩ = some (.int .i64 (I.getD i 0)) ∧ -9223372036854775808 ≤ I.getD i 0 ∧ I.getD i 0 ≤ 9223372036854775807 := by
  obtain ⟨b, off, ea, hr⟩ := h.1.cell (i := i) (by simpa using hi)
  have hg : I.getD i 0 = I[i] := by simp [List.getD, List.getElem?_eq_getElem hi]
  rw [hg]
  exact ⟨b, off, ea, by simpa using hr, h.2 _ (List.getElem_mem hi)⟩
theorem Ts.opens {w : World} {v : Value} {K : List ByteArray} (h : Ts w v K) : ∃ p n cp, v = .slice p n cp ∧ n ≤ cp ∧ cp ≤ 9223372036854775807 ∧ Hid (n = K.length) ∧ Hid (Ts w (.slice p n cp) K) := by
  obtain ⟨p, n, cp, rfl, h1, h2, h3, h4⟩ := h.1.opens
  exact ⟨p, n, cp, rfl, h1, h2, by show _ = _; have := h3.out; simpa using this, h4.out, h.2⟩
theorem Is.opens {w : World} {v : Value} {I : List Int} (h : Is w v I) : ∃ p n cp, v = .slice p n cp ∧ n ≤ cp ∧ cp ≤ 9223372036854775807 ∧ Hid (n = I.length) ∧ Hid (Is w (.slice p n cp) I) := by
  obtain ⟨p, n, cp, rfl, h1, h2, h3, h4⟩ := h.1.opens
  exact ⟨p, n, cp, rfl, h1, h2, by show _ = _; have := h3.out; simpa using this, h4.out, h.2⟩

theorem Ts.own {w : World} {base : Nat} {e : TypeId} {v : Value} {n : Nat} {K : List ByteArray} (h : w.ownsRow base e 1 v n (K.map Value.string)) (hk : ∀ s ∈ K, s.size ≤ maxLen) : Ts w v K := ⟨Rw.own h, hk⟩
theorem Is.own {w : World} {base : Nat} {e : TypeId} {v : Value} {n : Nat} {I : List Int} (h : w.ownsRow base e 1 v n (I.map (Value.int .i64))) (hk : ∀ z ∈ I, -9223372036854775808 ≤ z ∧ z ≤ 9223372036854775807) : Is w v I := ⟨Rw.own h, hk⟩

/-- What a node's slices hold. -/
structure Nb (w : World) (vc vk vi : Value) (n : No) : Prop where
  c : Cs w vc n.C
  k : Ts w vk n.K
  i : Is w vi n.I
theorem Nb.later {w w' : World} {vc vk vi : Value} {n : No} (h : Nb w vc vk vi n) (hb : Below w.heap.size w w') : Nb w' vc vk vi n := ⟨h.c.later hb, h.k.later hb, h.i.later hb⟩
theorem Nb.ok {w : World} {vc vk vi : Value} {n : No} (h : Nb w vc vk vi n) : n.Ok := ⟨h.c.ok, h.k.2, h.i.2⟩
theorem Nb.nil (w : World) : Nb w (.slice none 0 0) (.slice none 0 0) (.slice none 0 0) No.zero := ⟨Cs.nil w, Ts.nil w, Is.nil w⟩
theorem nv_one {w : World} {l : Bool} {vc vk vi : Value} {n : No} (h : Nb w vc vk vi n) : ∀ u ∈ (nv l vc vk vi).toList, u.oneCell' = true := by
  obtain ⟨_, _, _, rfl, -⟩ := h.c.opens
  obtain ⟨_, _, _, rfl, -⟩ := h.k.opens
  obtain ⟨_, _, _, rfl, -⟩ := h.i.opens
  intro u hu
  simp [nv] at hu
  rcases hu with rfl | rfl | rfl | rfl <;> rfl
theorem nn0_one : ∀ u ∈ nn0.toList, u.oneCell' = true := by
  intro u hu
  simp [nn0, nv] at hu
  rcases hu with rfl | rfl <;> rfl

theorem tyN : Ty 41 nn0 := ⟨by kernel_rfl, _, Try.underlying41, rfl⟩

theorem tyM : Ty 26 nn0 := ⟨by kernel_rfl, _, Try.underlying26, rfl⟩

theorem Bx.nodes {w : World} {b : Nat} {l : Bool} {vc vk vi : Value} (h : Bx w b (nv l vc vk vi)) : w.cell? ⟨b, 0, none⟩ = some (.bool l) ∧ w.cell? ⟨b, 1, none⟩ = some vc ∧ w.cell? ⟨b, 2, none⟩ = some vk ∧ w.cell? ⟨b, 3, none⟩ = some vi := ⟨h.cell rfl, h.cell rfl, h.cell rfl, h.cell rfl⟩

/-- What belongs to the call lies apart from the blocks that turn. -/
theorem own_but' {w w' : World} {base size : Nat} {e : TypeId} {v : Value} {n : Nat} {vs : List Value} {S : Nat → Prop} (h : w.ownsRow base e size v n vs) (hb : But S w w') (hs : ∀ k, base ≤ k → ¬ S k) : w'.ownsRow base e size v n vs := by
  obtain ⟨hl, h⟩ := h
  refine ⟨hl, ?_⟩
  rcases h with h | ⟨g, cap, cur, rfl, hbase, hh, r⟩
  · exact .inl h
  · exact .inr ⟨g, cap, cur, rfl, hbase, (hb.block g (blk_lt hh) (hs g hbase)).trans hh, r⟩

theorem infoV : (Try.prog.info? 46).map (fun i => (i.zero, i.size, i.bytes)) = some (some (.agg (cv Ce.zero)), 8, 88) := by kernel_rfl

theorem infoT : (Try.prog.info? 9).map (fun i => (i.zero, i.size, i.bytes)) = some (some (.string ⟨#[]⟩), 1, 16) := by kernel_rfl

theorem infoI : (Try.prog.info? 3).map (fun i => (i.zero, i.size, i.bytes)) = some (some (.int .i64 0), 1, 8) := by kernel_rfl

section
variable {w : World} {o : Oper} {a : Act} {Q : Exit → Act → World → Prop} {K : Act → World → Prop} {ops : Array Oper} {rest : List Oper}

/-- '[]T{x}'. -/
theorem wp_buildN (t e : TypeId) (z : Value) (size by_ : Nat) (ht : Try.prog.underlying t = some (.slice e)) (hinfo : (Try.prog.info? e).map (fun i => (i.zero, i.size, i.bytes)) = some (some z, size, by_)) (_hz : z.cells.size = size) (hs0 : 0 < size) (hs1 : size ≤ 1000) (y : Operand)
    (hop : o.op = Op.buildSlice t 1 #[(0, y)]) (u : Value) (hu : a.eval y = u) (h1 : u.cells.size = size)
    (h : K (a.put o.dst (.slice (some ⟨w.heap.size, 0, none⟩) 1 1)) (w.alloc (.cells u.cells e))) : o.wp Try.prog a w K Q := by
  obtain ⟨i0, hi, hz0, hz1, hz2⟩ := info_parts hinfo
  refine wp_buildSlice t e 1 #[(0, y)] hop u.cells i0 z ht hi hz0 (by rw [hz1]; omega) (by rw [hz1]; omega) ?_ h
  rw [hz1]
  have hf := Great.fill_whole hs0 [u] ((Array.range (1 * size)).map (z.cells[· % z.cells.size]!)) (by intro v hv; rw [List.mem_singleton] at hv; rw [hv]; exact h1) (by simp)
  simpa [hu] using hf
theorem wpList_buildN (hg : o.guard = none) (t e : TypeId) (z : Value) (size by_ : Nat) (ht : Try.prog.underlying t = some (.slice e)) (hinfo : (Try.prog.info? e).map (fun i => (i.zero, i.size, i.bytes)) = some (some z, size, by_)) (hz : z.cells.size = size) (hs0 : 0 < size) (hs1 : size ≤ 1000) (y : Operand)
    (hop : o.op = Op.buildSlice t 1 #[(0, y)]) (u : Value) (hu : a.eval y = u) (h1 : u.cells.size = size)
    (h : wpList Try.prog ops Q rest (a.put o.dst (.slice (some ⟨w.heap.size, 0, none⟩) 1 1)) (w.alloc (.cells u.cells e))) : wpList Try.prog ops Q (o :: rest) a w :=
  wpList_plain hg fun _ hK => wp_buildN t e z size by_ ht hinfo hz hs0 hs1 y hop u hu h1 (hK _ _ h)

/-- 'append(own, x)' of one element that was laid. -/
theorem wp_appN (t e : TypeId) (z : Value) (size by_ : Nat) (ht : Try.prog.underlying t = some (.slice e)) (hinfo : (Try.prog.info? e).map (fun i => (i.zero, i.size, i.bytes)) = some (some z, size, by_)) (hz : z.cells.size = size) (hs0 : 0 < size) (s x : Operand)
    (hop : o.op = .call { callee := .builtin .append, args := #[s, x], argTypes := #[t, t] }) (B : Nat) (v : Value) (k : Nat) (l : List Value) (c : Nat) (cs : Array Value) (hs : a.eval s = v) (hx : a.eval x = .slice (some ⟨c, 0, none⟩) 1 1)
    (hk : (k + 1) * by_ ≤ 140737488355328) (hk2 : k + 1 ≤ 140737488355328) (hown : w.ownsRow B e size v k l) (hc : w.heap[c]? = some (.cells cs e (0, 0))) (hcs : cs.size = size) (h1 : ∀ u ∈ cs.toList, u.oneCell' = true) (hB : B ≤ w.heap.size)
    (h : ∀ v' w', w'.ownsRow B e size v' (k + 1) (l ++ cs.toList) → w.grownBy w' v.ownBlock → K (a.put o.dst v') w') : o.wp Try.prog a w K Q := by
  obtain ⟨i0, hi, hz0, hz1, hz2⟩ := info_parts hinfo
  refine wp_append_own w s x t hop B e i0 z size by_ ht hi hz0 hz1 hz2 hz hs0 v k l hs hown ⟨c, 0, none⟩ 1 1 cs.toList hx (by simp [hcs]) ?_ h1 (by unfold maxLen; omega) hk hB (fun v' w' h2 h3 _ => h v' w' h2 h3)
  intro j u hj
  rw [add_plain, Nat.zero_add]
  exact cell_blk hc (by simpa using hj)
theorem wpList_appN (hg : o.guard = none) (t e : TypeId) (z : Value) (size by_ : Nat) (ht : Try.prog.underlying t = some (.slice e)) (hinfo : (Try.prog.info? e).map (fun i => (i.zero, i.size, i.bytes)) = some (some z, size, by_)) (hz : z.cells.size = size) (hs0 : 0 < size) (s x : Operand)
    (hop : o.op = .call { callee := .builtin .append, args := #[s, x], argTypes := #[t, t] }) (B : Nat) (v : Value) (k : Nat) (l : List Value) (c : Nat) (cs : Array Value) (hs : a.eval s = v) (hx : a.eval x = .slice (some ⟨c, 0, none⟩) 1 1)
    (hk : (k + 1) * by_ ≤ 140737488355328) (hk2 : k + 1 ≤ 140737488355328) (hown : w.ownsRow B e size v k l) (hc : w.heap[c]? = some (.cells cs e (0, 0))) (hcs : cs.size = size) (h1 : ∀ u ∈ cs.toList, u.oneCell' = true) (hB : B ≤ w.heap.size)
    (h : ∀ v' w', w'.ownsRow B e size v' (k + 1) (l ++ cs.toList) → w.grownBy w' v.ownBlock → wpList Try.prog ops Q rest (a.put o.dst v') w') : wpList Try.prog ops Q (o :: rest) a w :=
  wpList_plain hg fun _ hK => wp_appN t e z size by_ ht hinfo hz hs0 s x hop B v k l c cs hs hx hk hk2 hown hc hcs h1 hB fun v' w' h2 h3 => hK _ _ (h v' w' h2 h3)

/-- A cell out of a slice of the program's cells is read. -/
theorem wpList_getC (x : Operand) (b k : Nat) (c : Ce) (hg : o.guard = none) (hop : o.op = Op.load 46 x) (hx : a.eval x = .pointer (some ⟨b, k, none⟩)) (h : w.rangeAt b k (cv c).toList)
    (hK : wpList Try.prog ops Q rest (a.put o.dst (.agg (cv c))) w) : wpList Try.prog ops Q (o :: rest) a w := by
  obtain ⟨d, hu, hd⟩ := tyC.row
  exact wpList_load_mid hg _ x hop b k hx (cv c).toList d h hu hd tyC.size (by simpa using hK)
end
theorem yields_midC {ops : Array Oper} {S : World → Prop} {op : Oper} {a : Act} {c : Ce} (hw : Region.wanted op (yielded ops a.tmps) = true) (x : Operand) (ho : op.op = .load 46 x)
    (b k : Nat) (hx : a.eval x = .pointer (some ⟨b, k, none⟩)) (hS : ∀ w, S w → w.rangeAt b k (cv c).toList) : YieldsIf Try.prog ops S op (.agg (cv c)) a := by
  obtain ⟨d, hu, hd⟩ := tyC.row
  have := yieldsIf_load_mid (P := Try.prog) (S := S) hw _ x ho b k hx (cv c).toList d hS hu hd tyC.size
  simpa using this
end Go.Proofs.Ytbddghdkmakjlab

namespace Go.Proofs.Ytbddghdkmakjlab
set_option maxRecDepth 100000
set_option linter.unusedVariables false
open Go.RowKit

theorem Nm.enc_upto : ∀ (f k : Nat) (u : Int), u < 128 ^ (k + 1) → (Nm.enc f u).length ≤ k + 1
  | 0, k, u, _ => by simp [Nm.enc]
  | f + 1, 0, u, h => by
    have h' : u < 128 := by simpa using h
    rw [Nm.enc_last h']
    simp
  | f + 1, k + 1, u, h => by
    unfold Nm.enc
    split
    · simp
    · have e : (128 : Int) ^ (k + 1 + 1) = 128 ^ (k + 1) * 128 := Int.pow_succ _ _
      have := Nm.enc_upto f k (u / 128) (Int.ediv_lt_of_lt_mul (by omega) (by rw [← e]; exact h))
      simp
      omega
theorem Nm.num_1 {z : Int} (h0 : 0 ≤ z) (h1 : z ≤ 63) : (Nm.num z).length = 1 := by
  unfold Nm.num
  rw [← Nm.fold_pos h0, Nm.enc_last (by omega)]
  rfl
theorem Nm.num_6 {z : Int} (h0 : 0 ≤ z) (h1 : z ≤ 1099511627776) : (Nm.num z).length ≤ 6 := by
  unfold Nm.num
  rw [← Nm.fold_pos h0]
  exact Nm.enc_upto 9 5 _ (by omega)
theorem Nm.text_1 (s : ByteArray) (h : s.size ≤ 63) : (Nm.text (sb s)).length = 1 + s.size := by
  have := Nm.num_1 (z := ((sb s).length : Int)) (by omega) (by rw [sb_len]; omega)
  rw [Nm.text_len, this, sb_len]
theorem Va.put_22 {v : Va} (h : v.may = true) : v.put.length ≤ 22 := by
  obtain ⟨h1, h2, h3⟩ := Va.may_ok h
  have h4 := Fl.be_len (Fl.rk v.X)
  have h5 := Nm.text_1 v.S (by omega)
  unfold Va.put Dt.put
  rcases Dt.may_kind h with e | e | e
  · rw [e]; simp [Nm.num_1 (z := 0) (by omega) (by omega)]
  · rw [e]; simp [Nm.num_1 (z := 1) (by omega) (by omega), h4]
  · rw [e]; simp [Nm.num_1 (z := 2) (by omega) (by omega), h5]; omega
theorem Ce.put_67 {c : Ce} (h : c.may = true) : c.put.length ≤ 67 := by
  obtain ⟨h1, h2, h3, h4⟩ := Ce.may_parts h
  have k1 := Ce.km_size h1
  have k2 := Va.put_22 h2
  have k3 := Va.put_22 h3
  have k4 := Ce.tm_bd h4
  have k5 := Nm.num_6 k4.1 k4.2
  have k6 := Nm.text_1 c.N (by omega)
  unfold Ce.put
  simp only [List.length_append]
  split <;> simp <;> omega
/-- Three have room. -/
theorem No.three {a b c : Ce} (h : No.may ⟨true, [a, b, c], [], []⟩ = true) : (No.bytes ⟨true, [a, b, c], [], []⟩).length ≤ 256 := by
  obtain ⟨-, -, hm⟩ := No.may_leaf rfl h
  have hm := No.mayC_each hm
  simp only [List.mem_cons, List.not_mem_nil, or_false] at hm
  have ha := Ce.put_67 (hm a (.inl rfl))
  have hb := Ce.put_67 (hm b (.inr (.inl rfl)))
  have hc := Ce.put_67 (hm c (.inr (.inr rfl)))
  have hn := Nm.num_1 (z := 3) (by omega) (by omega)
  simp [No.bytes, No.leafB, Ce.cat]
  omega
end Go.Proofs.Ytbddghdkmakjlab

namespace Go.Proofs.Ytbddghdkmakjlab
set_option maxRecDepth 100000
set_option linter.unusedVariables false
open Go.RowKit

/-- The value of a slice of the call's own, written out. -/
theorem own_opens {w : World} {base : Nat} {e : TypeId} {v : Value} {n : Nat} {vs : List Value} (h : w.ownsRow base e 1 v n vs) : ∃ p cp, v = .slice p n cp ∧ n ≤ cp ∧ cp ≤ 9223372036854775807 := by
  rcases h.2 with ⟨rfl, h0⟩ | ⟨g, cap, cur, rfl, _, _, h1, h2, _⟩
  · exact ⟨none, 0, by rw [h0], by omega, by omega⟩
  · unfold maxLen at h2
    exact ⟨_, cap, rfl, h1, by omega⟩

/-- A guard that stands. -/
theorem wanted_of {ops : Array Oper} {o : Oper} {a : Act} {j s : Nat} {b : Bool} (hg : o.guard = some (j, b)) (hj : (ops[j]?).bind (·.dst) = some s) (hs : a.tmps[s]? = some (.bool b)) : Region.wanted o (yielded ops a.tmps) = true := by
  simp [Region.wanted, hg, yielded, hj, hs]

/-- A variable is read as a whole, behind a guard that stands. -/
theorem wpList_getG {w : World} {ops : Array Oper} {rest : List Oper} {o : Oper} {a : Act} {Q : Exit → Act → World → Prop} (ty : TypeId) (z : Array Value) (x : Operand) (b : Nat) (cs : Array Value) {j s : Nat} {bb : Bool} (hg : o.guard = some (j, bb)) (hj : (ops[j]?).bind (·.dst) = some s) (hsl : a.tmps[s]? = some (.bool bb)) (hop : o.op = Op.load ty x) (hx : a.eval x = .pointer (some ⟨b, 0, none⟩)) (h : Bx w b cs) (ht : Ty ty z) (hs : cs.size = z.size)
    (hK : wpList Try.prog ops Q rest (a.put o.dst (.agg cs)) w) : wpList Try.prog ops Q (o :: rest) a w := by
  have hr := h.load ht hs
  refine wpList_step fun K' hK' => ?_
  rw [if_pos (wanted_of hg hj hsl)]
  unfold Oper.wp
  simp [execOp, hop, hx, hr, Result.andThen]
  exact hK' _ _ hK

theorem field_K (v : Va) (W : World) : (Instr.field 32 (.agg (va v)) 0).run Try.prog W = .ok (.int .i64 v.K) W := by kernel_rfl
theorem field_X (v : Va) (W : World) : (Instr.field 32 (.agg (va v)) 1).run Try.prog W = .ok (.float .f64 v.X) W := by kernel_rfl
end Go.Proofs.Ytbddghdkmakjlab

namespace Go.Proofs.Ytbddghdkmakjlab
set_option maxRecDepth 100000
set_option linter.unusedVariables false

section
variable {P : Program} {ops : Array Oper} {Q : Exit → Act → World → Prop} {md : Region.Mode} {p : Nat} {S : World → Prop}

/-- Each of D waits for i, or for one of D. -/
def depB (md : Region.Mode) (ops : Array Oper) (i : Nat) (D : List Nat) : Bool := D.all fun q => q != i && (waits md ops q i || D.any fun r => waits md ops q r)

theorem not_ready {i : Nat} {D : List Nat} (hD : depB md ops i D = true) {listed : Array Bool} (hi : i ∈ Region.ready md ops listed) (hl : ∀ q ∈ D, listed.getD q true = false) {j : Nat} (hj : j ∈ Region.ready md ops listed) : j ∉ D := by
  intro hjD
  obtain ⟨-, oj, hoj, hall⟩ := mem_ready.1 hj
  have h1 := List.all_eq_true.1 hD j hjD
  simp only [Bool.and_eq_true, Bool.or_eq_true, List.any_eq_true] at h1
  have hun : ∀ r, listed.getD r true = false → waits md ops j r = true → False := fun r hr hw => by
    obtain ⟨e, he, hb, hon⟩ := waits_spec hw hoj
    have h2 := hall e he hb
    rw [hon] at h2
    rcases Nat.lt_or_ge r listed.size with h' | h'
    · simp [h'] at hr h2; rw [hr] at h2; cases h2
    · simp [Array.getElem?_eq_none h'] at h2
  rcases h1.2 with h2 | ⟨r, hr, h2⟩
  · exact hun i (mem_ready.1 hi).1 h2
  · exact hun r (hl r hr) h2

theorem wpAnyP_firstD {i : Nat} {oi : Oper} {v : Value} {D : List Nat} (hi : ops[i]? = some oi) (hsel : ∀ (j : Nat) (o : Oper) cs b, ops[j]? = some o → o.op ≠ .select cs b)
    (hQ : ∀ c a w, Q (.panic c) (a.put oi.dst v) w → Q (.panic c) a w) (hD : depB md ops i D = true) (hpD : p ∈ D) :
    ∀ (fuel : Nat) (listed : Array Bool) (a : Act) (w : World),
      (∀ j oj, ops[j]? = some oj → j ≠ i → listed.getD j true = false → (∀ e ∈ oj.after, Region.binds md e = true → e.on ≠ i) → oi.apart ops oj = true) →
      i ∈ Region.ready md ops listed → (∀ q ∈ D, listed.getD q true = false) → YieldsIf P ops S oi v a → S w →
      wpAnyP P md ops Q p S fuel (listed.setIfInBounds i true) (a.put oi.dst v) w → wpAnyP P md ops Q p S (fuel + 1) listed a w := by
  have hpi : p ≠ i := by
    have := List.all_eq_true.1 hD p hpD
    simp at this
    exact this.1
  intro fuel
  induction fuel with
  | zero =>
    intro listed a w _ hr hp hy hS H
    refine ⟨fun h => (by rw [h] at hr; cases hr), fun j hj => ?_⟩
    by_cases hji : j = i
    · subst hji; exact hy.wpOp hi hS ⟨fun _ => hS, H⟩
    · have := ready_mono hj hji
      rw [H.1] at this
      cases this
  | succ fuel ih =>
    intro listed a w hfree hr hp hy hS H
    refine ⟨fun h => (by rw [h] at hr; cases hr), fun j hj => ?_⟩
    by_cases hji : j = i
    · subst hji; exact hy.wpOp hi hS ⟨fun _ => hS, H⟩
    · have h1 := H.2 j (ready_mono hj hji)
      have hjD := not_ready hD hr hp hj
      obtain ⟨hjun, oj, hoj, hall⟩ := mem_ready.1 hj
      have hnot : ∀ e ∈ oj.after, Region.binds md e = true → e.on ≠ i := fun e he hb heq => by
        have h1 := hall e he hb
        have h0 := (mem_ready.1 hr).1
        rw [heq] at h1
        rcases Nat.lt_or_ge i listed.size with h' | h'
        · simp [h'] at h0 h1; rw [h0] at h1; cases h1
        · simp [Array.getElem?_eq_none h'] at h1
      have hjp : j ≠ p := fun e => hjD (e ▸ hpD)
      have h2 := wpOp_putIf hoj (hfree j oj hoj hji hjun hnot) (fun cs b => hsel i oi cs b hi) (fun cs b => hsel j oj cs b hoj) hQ hy h1
      have hfree' : ∀ k ok, ops[k]? = some ok → k ≠ i → (listed.setIfInBounds j true).getD k true = false →
          (∀ e ∈ ok.after, Region.binds md e = true → e.on ≠ i) → oi.apart ops ok = true := fun k ok hk hki hun hno => by
        refine hfree k ok hk hki ?_ hno
        by_cases hjk : j = k
        · subst hjk; exact hjun
        · rw [getD_set_ne true hjk] at hun; exact hun
      have hp' : ∀ q ∈ D, (listed.setIfInBounds j true).getD q true = false := fun q hq => by
        have hjq : j ≠ q := fun e => hjD (e ▸ hq)
        rw [getD_set_ne true hjq]
        exact hp q hq
      have hpH : ((listed.setIfInBounds i true).setIfInBounds j true).getD p true = false := by rw [getD_set_ne true hjp, getD_set_ne true (Ne.symm hpi)]; exact hp p hpD
      refine wpOp_mono (fun a' w' h3 => ?_) h2
      have hS' := h3.2.1 hpH
      refine ⟨fun _ => hS', ih (listed.setIfInBounds j true) a' w' hfree' (ready_mono hr (Ne.symm hji)) hp' h3.1 hS' ?_⟩
      rw [Array.setIfInBounds_comm _ _ hji]
      exact h3.2.2

theorem wpAnyP_takeD (D : List Nat) {i : Nat} {oi : Oper} {v : Value} {fuel : Nat} {listed : Array Bool} {a : Act} {w : World} (hi : ops[i]? = some oi)
    (hs : Region.noSelect ops = true) (hf : Region.free md ops listed i = true) (hr : (Region.ready md ops listed).contains i = true) (hD : depB md ops i D = true) (hpD : D.contains p = true) (hl : (D.all fun q => !listed.getD q true) = true)
    (hQ : ∀ c a w, Q (.panic c) (a.put oi.dst v) w → Q (.panic c) a w) (hy : YieldsIf P ops S oi v a) (hS : S w)
    (h : wpAnyP P md ops Q p S fuel (listed.setIfInBounds i true) (a.put oi.dst v) w) : wpAnyP P md ops Q p S (fuel + 1) listed a w :=
  wpAnyP_firstD hi (Region.noSelect_spec hs) hQ hD (by simpa using hpD) fuel listed a w (Region.free_spec hi hf) (by simpa using hr) (fun q hq => by have := List.all_eq_true.1 hl q hq; simpa using this) hy hS h
end

open Go.RowKit in
/-- A call that comes up alone in a region that draws its order; it makes memory and gives r. -/
theorem wpAnyH_callB {P : Program} {md : Region.Mode} {ops : Array Oper} {Q : Exit → Act → World → Prop} {i : Nat} {o : Oper} {fuel : Nat} {listed : Array Bool} {a : Act} {X w : World} {f : FuncId} {vs : Array Value} {r : Value}
    (ho : ops[i]? = some o) (hr : Region.ready md ops listed = [i]) (hw : Region.wanted o (yielded ops a.tmps) = true) (hrun : (execOp a.eval o).run P w = .ok (.enter f vs) w)
    (hc : Calls P f vs w fun e w' => e = .returned r ∧ Below w.heap.size w w') (hX : Below X.heap.size X w)
    (h : ∀ x, Below w.heap.size w x → Below X.heap.size X x → wpAnyH P md ops Q (fun W => Below x.heap.size x W) fuel (listed.setIfInBounds i true) (a.put o.dst r) x) :
    wpAnyH P md ops Q (fun W => Below X.heap.size X W) (fuel + 1) listed a w := by
  refine ⟨fun h0 => (by rw [hr] at h0; cases h0), fun j hj => ?_⟩
  rw [hr, List.mem_singleton] at hj
  subst hj
  refine wpOp_step ho fun K hK => ?_
  rw [if_pos hw]
  unfold Oper.wp
  rw [hrun]
  refine hc.mono ?_
  rintro e x ⟨rfl, hb⟩
  have hx := hX.trans (hb.mono hX.size)
  exact hK _ _ ⟨hx, held_mono (fun W h => hx.trans (h.mono hx.size)) _ _ _ _ (h x hb hx)⟩

open Go.RowKit in
/-- The same; what holds behind every operation stays as it was. -/
theorem wpAnyH_callS {P : Program} {md : Region.Mode} {ops : Array Oper} {Q : Exit → Act → World → Prop} {i : Nat} {o : Oper} {fuel : Nat} {listed : Array Bool} {a : Act} {X w : World} {f : FuncId} {vs : Array Value} {r : Value}
    (ho : ops[i]? = some o) (hw : Region.wanted o (yielded ops a.tmps) = true) (hrun : (execOp a.eval o).run P w = .ok (.enter f vs) w)
    (hc : Calls P f vs w fun e w' => e = .returned r ∧ Below w.heap.size w w') (hX : Below X.heap.size X w)
    (h : ∀ x, Below w.heap.size w x → Below X.heap.size X x → wpAnyH P md ops Q (fun W => Below X.heap.size X W) fuel (listed.setIfInBounds i true) (a.put o.dst r) x) :
    wpOp P ops Q i (fun a' w' => (fun W => Below X.heap.size X W) w' ∧ wpAnyH P md ops Q (fun W => Below X.heap.size X W) fuel (listed.setIfInBounds i true) a' w') a w := by
  refine wpOp_step ho fun K hK => ?_
  rw [if_pos hw]
  unfold Oper.wp
  rw [hrun]
  refine hc.mono ?_
  rintro e x ⟨rfl, hb⟩
  have hx := hX.trans (hb.mono hX.size)
  exact hK _ _ ⟨hx, h x hb hx⟩
end Go.Proofs.Ytbddghdkmakjlab

namespace Go.Proofs.Ytbddghdkmakjlab
set_option maxRecDepth 100000
set_option linter.unusedVariables false

theorem wpAnyH_off {P : Program} {md : Region.Mode} {ops : Array Oper} {Q : Exit → Act → World → Prop} {S : World → Prop} {i : Nat} {o : Oper} {fuel : Nat} {listed : Array Bool} {a : Act} {w : World}
    (ho : ops[i]? = some o) (hr : Region.ready md ops listed = [i]) (hw : Region.wanted o (yielded ops a.tmps) = false) (hS : S w)
    (h : wpAnyH P md ops Q S fuel (listed.setIfInBounds i true) (a.put o.dst undef) w) : wpAnyH P md ops Q S (fuel + 1) listed a w := by
  refine ⟨fun h0 => (by rw [hr] at h0; cases h0), fun j hj => ?_⟩
  rw [hr, List.mem_singleton] at hj
  subst hj
  refine wpOp_step ho fun K hK => ?_
  rw [if_neg (by rw [hw]; simp)]
  exact hK _ _ ⟨hS, h⟩

theorem allReady2 {P : Program} {md : Region.Mode} {ops : Array Oper} {Q : Exit → Act → World → Prop} {S : World → Prop} {fuel : Nat} {listed : Array Bool} {a : Act} {w : World} {i : Nat} {rs : List Nat}
    (h : wpOp P ops Q i (fun a' w' => S w' ∧ wpAnyH P md ops Q S fuel (listed.setIfInBounds i true) a' w') a w) (hs : AllReadyH P md ops Q S fuel listed a w rs) : AllReadyH P md ops Q S fuel listed a w (i :: rs) := fun j hj => by
  rcases List.mem_cons.1 hj with rfl | hj
  · exact h
  · exact hs j hj
end Go.Proofs.Ytbddghdkmakjlab
