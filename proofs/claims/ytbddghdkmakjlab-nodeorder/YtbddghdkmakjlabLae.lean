/-
  Leaves of cells that are told by their places, nodes of ways with keys of one length; no program is named here.
-/
import Derived.Test.YtbddghdkmakjlabLad
namespace Go.Proofs.Ytbddghdkmakjlab
set_option maxRecDepth 100000
set_option linter.unusedVariables false
open Go.RowKit

def keyF (j : Nat) : List Int := [97 + ((j / 26 : Nat) : Int), 97 + ((j % 26 : Nat) : Int)]
def celF (t j : Nat) : Ce := ⟨strOfNums (keyF j), ⟨2, 0, strOfNums (List.replicate t 0)⟩, 0, Va.zero⟩
def celsF (t n : Nat) : List Ce := (List.range n).map (celF t)
theorem nums_le (zs : List Int) (h : zs.length ≤ 1000000) : (strOfNums zs).size ≤ maxLen := by rw [strOfNums_size]; unfold maxLen; omega
theorem celF_ok (t j : Nat) (ht : t ≤ 20) : (celF t j).Ok := by
  refine ⟨nums_le _ (by simp [keyF]), ⟨by simp [celF], by simp [celF], by simp [celF], nums_le _ (by simp; omega)⟩, by simp [celF], by simp [celF], Va.ok_zero⟩
theorem celF_may (t j : Nat) (ht : t ≤ 20) : (celF t j).may = true := by
  have h1 : Ce.km (strOfNums (keyF j)) = true := by
    unfold Ce.km
    rw [strOfNums_size]
    simp [keyF]
  have h2 : Va.may ⟨2, 0, strOfNums (List.replicate t 0)⟩ = true := by
    unfold Va.may Dt.may
    rw [strOfNums_size, List.length_replicate]
    simp
    omega
  have h3 : Va.zero.may = true := by decide
  unfold Ce.may
  rw [show (celF t j).N = strOfNums (keyF j) from rfl, show (celF t j).V = ⟨2, 0, strOfNums (List.replicate t 0)⟩ from rfl, show (celF t j).W = Va.zero from rfl, h1, h2, h3]
  simp [Ce.tm, celF, Va.zero]
theorem celF_len (t j : Nat) (ht : t ≤ 20) : (celF t j).put.length = 6 + t := by
  have h1 := Nm.text_1 (strOfNums (keyF j)) (by rw [strOfNums_size]; simp [keyF])
  have h2 := Nm.text_1 (strOfNums (List.replicate t 0)) (by rw [strOfNums_size]; simp; omega)
  have h3 := Nm.num_1 (z := 2) (by omega) (by omega)
  have h4 := Nm.num_1 (z := 0) (by omega) (by omega)
  rw [strOfNums_size] at h1 h2
  rw [List.length_replicate] at h2
  have e1 : (keyF j).length = 2 := rfl
  unfold Ce.put Va.put Dt.put
  rw [show (celF t j).N = strOfNums (keyF j) from rfl, show (celF t j).V = ⟨2, 0, strOfNums (List.replicate t 0)⟩ from rfl, show (celF t j).T = 0 from rfl]
  simp only [List.length_append, h1, e1, if_neg (show ¬ (0 : Int) < 0 by omega), if_neg (show ¬ (2 : Int) = 1 by omega), if_true, h2, h3, h4, List.length_nil]
  omega
theorem celsF_ok (t n : Nat) (ht : t ≤ 20) : No.Ok ⟨true, celsF t n, [], []⟩ := by
  refine ⟨fun c hc => ?_, fun s hs => absurd hs List.not_mem_nil, fun z hz => absurd hz List.not_mem_nil⟩
  obtain ⟨j, -, rfl⟩ := List.mem_map.1 hc
  exact celF_ok t j ht
theorem celsF_may (t n : Nat) (ht : t ≤ 20) (hn : n ≤ 60) : No.may ⟨true, celsF t n, [], []⟩ = true := by
  refine may_cells (mayC_map (fun j _ => celF_may t j ht) fun j hj => ?_)
  show Ky.bl (strOfNums (keyF j)).toList (strOfNums (keyF (j + 1))).toList = true
  unfold keyF
  by_cases h : (j + 1) % 26 = 0
  · exact bl_head (by omega) (by omega) (by omega) _ _
  · have e : (j + 1) / 26 = j / 26 := by omega
    rw [e, bl_tail]
    exact bl_head (by omega) (by omega) (by omega) [] []
theorem celsF_len (t n : Nat) (ht : t ≤ 20) (hn : n ≤ 60) : (No.bytes ⟨true, celsF t n, [], []⟩).length = 2 + n * (6 + t) := by
  have h1 := Nm.num_1 (z := ((celsF t n).length : Int)) (by omega) (by simp [celsF]; omega)
  have h2 : (Ce.cat (celsF t n)).length = n * (6 + t) := by
    unfold Ce.cat
    rw [flat_len _ _ (6 + t) (fun c hc => by obtain ⟨j, -, rfl⟩ := List.mem_map.1 hc; exact celF_len t j ht)]
    simp [celsF]
  simp only [No.bytes, if_true, No.leafB, List.length_cons, List.length_append, h1, h2]
  omega
theorem celsF_size (t n : Nat) (ht : t ≤ 20) (hn : n ≤ 60) : No.size ⟨true, celsF t n, [], []⟩ = ((2 + n * (6 + t) : Nat) : Int) := by rw [No.size_is (celsF_may t n ht hn), celsF_len t n ht hn]

/-- What Encode tells of a node that may be, by its length. -/
theorem enc_by {n : No} {k : Nat} (h : n.may = true) (hl : n.bytes.length = k) : (k ≤ 256 → n.enc = (No.pad n.bytes, 0)) ∧ (¬ k ≤ 256 → n.enc = ([], 4)) :=
  ⟨fun h2 => No.enc_ok h (by omega), fun h2 => No.enc_full h (by omega)⟩

def longk (m j : Nat) : ByteArray := strOfNums (List.replicate m (97 + ((j : Int) + 1)))
def kidi (j : Nat) : Int := 2 + ((j % 30 : Nat) : Int)
def keysW (m n : Nat) : List ByteArray := (List.range (n - 1)).map (longk m)
def kidsW (n : Nat) : List Int := (List.range n).map kidi
theorem keysW_step (m : Nat) {j : Nat} (h : 1 ≤ j) : keysW m (j + 1) = keysW m j ++ [strOfNums (List.replicate m (97 + (j : Int)))] := by
  obtain ⟨i, rfl⟩ : ∃ i, j = i + 1 := ⟨j - 1, by omega⟩
  exact range_snoc (longk m) i
theorem ways_may {m n : Nat} (h0 : 1 ≤ n) (h1 : n ≤ 32) (hm0 : 1 ≤ m) (hm1 : m ≤ 16) : No.may ⟨false, [], keysW m n, kidsW n⟩ = true := by
  refine may_ways (mayI_map h0 (by omega) fun j hj => by unfold kidi; omega) (mayK_map (fun j hj => ?_) fun j hj => ?_) (by simp [keysW, kidsW]; omega)
  · unfold longk
    rw [strOfNums_size, List.length_replicate]
    omega
  · unfold longk
    obtain ⟨i, rfl⟩ : ∃ i, m = i + 1 := ⟨m - 1, by omega⟩
    rw [List.replicate_succ, List.replicate_succ]
    exact bl_head (by omega) (by omega) (by omega) _ _
theorem ways_ok (m n : Nat) (hm : m ≤ 16) : No.Ok ⟨false, [], keysW m n, kidsW n⟩ := by
  refine ⟨fun c hc => absurd hc List.not_mem_nil, fun s hs => ?_, fun z hz => ?_⟩
  · obtain ⟨j, -, rfl⟩ := List.mem_map.1 hs
    unfold longk
    exact nums_le _ (by simp; omega)
  · obtain ⟨j, hj, rfl⟩ := List.mem_map.1 hz
    unfold kidi
    omega
theorem ways_len {m n : Nat} (h0 : 1 ≤ n) (h1 : n ≤ 32) (hm1 : m ≤ 16) : (No.bytes ⟨false, [], keysW m n, kidsW n⟩).length = 2 + n + (n - 1) * (1 + m) := by
  have e1 := Nm.num_1 (z := ((kidsW n).length : Int)) (by omega) (by simp [kidsW]; omega)
  have e2 : (No.nn (kidsW n)).length = n := by
    unfold No.nn
    rw [flat_len _ _ 1 (fun z hz => by obtain ⟨j, -, rfl⟩ := List.mem_map.1 hz; exact Nm.num_1 (by unfold kidi; omega) (by unfold kidi; omega))]
    simp [kidsW]
  have e3 : (No.tx (keysW m n)).length = (n - 1) * (1 + m) := by
    unfold No.tx
    rw [flat_len _ _ (1 + m) (fun s hs => by
      obtain ⟨j, -, rfl⟩ := List.mem_map.1 hs
      have := Nm.text_1 (longk m j) (by unfold longk; rw [strOfNums_size, List.length_replicate]; omega)
      rw [this]
      unfold longk
      rw [strOfNums_size, List.length_replicate])]
    simp [keysW]
  simp only [No.bytes, if_neg (show ¬ (false = true) by decide), No.forkB, List.length_cons, List.length_append, e1, e2, e3]
  omega
end Go.Proofs.Ytbddghdkmakjlab
