/-
  Nodes whose parts are told by their places: which may be, how many bytes they have; no program is named here.
-/
import Derived.Test.YtbddghdkmakjlabGg
import Derived.Test.YtbddghdkmakjlabGk
namespace Go.Proofs.Ytbddghdkmakjlab
set_option maxRecDepth 100000
set_option linter.unusedVariables false
open Go.RowKit

theorem nums_list (xs : List Int) : (strOfNums xs).toList = xs.map fun n => UInt8.ofNat n.toNat := by rw [ByteArray.toList_eq]; rfl
theorem bl_head {a b : Int} (h0 : 0 ≤ a) (h : a < b) (h1 : b ≤ 255) (x y : List Int) : Ky.bl (strOfNums (a :: x)).toList (strOfNums (b :: y)).toList = true := by
  rw [nums_list, nums_list, List.map_cons, List.map_cons, Ky.bl_cons]
  have : UInt8.ofNat a.toNat < UInt8.ofNat b.toNat := by
    rw [UInt8.lt_iff_toNat_lt, UInt8.toNat_ofNat', UInt8.toNat_ofNat', Nat.mod_eq_of_lt (by omega), Nat.mod_eq_of_lt (by omega)]
    omega
  rw [decide_eq_true this]
  rfl
theorem bl_tail (a : Int) (x y : List Int) : Ky.bl (strOfNums (a :: x)).toList (strOfNums (a :: y)).toList = Ky.bl (strOfNums x).toList (strOfNums y).toList := by
  rw [nums_list, nums_list, nums_list, nums_list, List.map_cons, List.map_cons, Ky.bl_cons]
  have : ¬ UInt8.ofNat a.toNat < UInt8.ofNat a.toNat := by rw [UInt8.lt_iff_toNat_lt]; omega
  rw [decide_eq_false this]
  simp

theorem range_get {α : Type} (f : Nat → α) {m i : Nat} (h : i < m) (d : α) : ((List.range m).map f).getD i d = f i := by
  simp [List.getD, List.getElem?_map, List.getElem?_range h]
theorem range_snoc {α : Type} (f : Nat → α) (m : Nat) : (List.range (m + 1)).map f = (List.range m).map f ++ [f m] := by rw [List.range_succ, List.map_append]; rfl
theorem flat_len {α : Type} (f : α → List Int) (l : List α) (k : Nat) (h : ∀ x ∈ l, (f x).length = k) : (l.flatMap f).length = l.length * k := by
  induction l with
  | nil => simp
  | cons a l ih =>
    rw [List.flatMap_cons, List.length_append, h a (List.mem_cons_self ..), ih (fun x hx => h x (List.mem_cons_of_mem _ hx)), List.length_cons, Nat.add_mul]
    omega

theorem mayK_map {f : Nat → ByteArray} {m : Nat} (h1 : ∀ j, j < m → 1 ≤ (f j).size ∧ (f j).size ≤ 16) (h2 : ∀ j, j + 1 < m → Ky.bl (f j).toList (f (j + 1)).toList = true) : No.mayK ((List.range m).map f) = true := by
  unfold No.mayK
  refine all_yes fun i hi => ?_
  rw [List.length_map, List.length_range] at hi
  unfold No.kok No.up
  rw [range_get f hi]
  have hk : Ce.km (f i) = true := by
    have := h1 i hi
    unfold Ce.km
    rw [decide_eq_true (by omega), decide_eq_true (by omega)]
    rfl
  rw [hk]
  cases i with
  | zero => simp
  | succ j => rw [show j + 1 - 1 = j from rfl, range_get f (by omega), h2 j hi]; simp
theorem mayI_map {f : Nat → Int} {m : Nat} (h0 : 1 ≤ m) (h1 : m ≤ 32) (h : ∀ j, j < m → 2 ≤ f j ∧ f j ≤ 31) : No.mayI ((List.range m).map f) = true := by
  unfold No.mayI No.allI
  rw [List.length_map, List.length_range, decide_eq_true h0, decide_eq_true h1]
  refine all_yes fun i hi => ?_
  unfold No.iok
  rw [range_get f hi, decide_eq_true (h i hi).1, decide_eq_true (h i hi).2]
  rfl
theorem mayC_map {f : Nat → Ce} {m : Nat} (h1 : ∀ j, j < m → (f j).may = true) (h2 : ∀ j, j + 1 < m → Ky.bl (f j).N.toList (f (j + 1)).N.toList = true) : No.mayC ((List.range m).map f) = true := by
  unfold No.mayC
  refine all_yes fun i hi => ?_
  rw [List.length_map, List.length_range] at hi
  unfold No.cok
  rw [range_get f hi, h1 i hi]
  cases i with
  | zero => simp
  | succ j => rw [show j + 1 - 1 = j from rfl, range_get f (by omega), h2 j hi]; simp

theorem may_ways {K : List ByteArray} {I : List Int} (hi : No.mayI I = true) (hk : No.mayK K = true) (hl : K.length + 1 = I.length) : No.may ⟨false, [], K, I⟩ = true := by
  unfold No.may
  simp [hi, hk, hl]
theorem may_cells {C : List Ce} (hc : No.mayC C = true) : No.may ⟨true, C, [], []⟩ = true := by
  unfold No.may
  simp [hc]

theorem No.lead_spec : ∀ (K : List ByteArray) (s : ByteArray), No.lead K s ≤ K.length ∧ (∀ j, j < No.lead K s → Ky.bl s.toList (K.getD j No.bz).toList = false) ∧ (No.lead K s < K.length → Ky.bl s.toList (K.getD (No.lead K s) No.bz).toList = true)
  | [], s => ⟨Nat.le_refl _, fun j hj => absurd hj (by simp [No.lead]), fun h => absurd h (by simp)⟩
  | k :: K, s => by
    have ih := No.lead_spec K s
    unfold No.lead
    split
    · rename_i h
      exact ⟨by simp, fun j hj => by omega, fun _ => by simpa using h⟩
    · rename_i h
      refine ⟨by simp; exact ih.1, fun j hj => ?_, fun hl => ?_⟩
      · cases j with
        | zero => simpa using h
        | succ j => simpa using ih.2.1 j (by omega)
      · simpa using ih.2.2 (by simpa using hl)

/-- The keys of one letter each. -/
def onek (j : Nat) : ByteArray := strOfNums [97 + ((j : Int) + 1)]
def twoi (j : Nat) : Int := 2 + (j : Int)
def keysK (n : Nat) : List ByteArray := (List.range (n - 1)).map onek
def kidsI (n : Nat) : List Int := (List.range n).map twoi
theorem kids_may {n : Nat} (h0 : 1 ≤ n) (h1 : n ≤ 20) : No.may ⟨false, [], keysK n, kidsI n⟩ = true := by
  refine may_ways (mayI_map h0 (by omega) fun j hj => by unfold twoi; omega) (mayK_map (fun j hj => ?_) fun j hj => ?_) (by simp [keysK, kidsI]; omega)
  · unfold onek
    rw [strOfNums_size]
    simp
  · unfold onek
    exact bl_head (by omega) (by omega) (by omega) [] []
theorem kids_ok (n : Nat) (h : n ≤ 1000) : No.Ok ⟨false, [], keysK n, kidsI n⟩ := by
  refine ⟨fun c hc => absurd hc List.not_mem_nil, fun s hs => ?_, fun z hz => ?_⟩
  · obtain ⟨j, -, rfl⟩ := List.mem_map.1 hs
    unfold onek maxLen
    rw [strOfNums_size]
    simp
  · obtain ⟨j, hj, rfl⟩ := List.mem_map.1 hz
    have := List.mem_range.1 hj
    unfold twoi
    omega
theorem kids_kid {n : Nat} (h0 : 1 ≤ n) (h1 : n ≤ 20) (s : ByteArray) : No.kid ⟨false, [], keysK n, kidsI n⟩ s = (No.lead (keysK n) s : Int) := by
  unfold No.kid
  rw [kids_may h0 h1]
  rfl
end Go.Proofs.Ytbddghdkmakjlab
