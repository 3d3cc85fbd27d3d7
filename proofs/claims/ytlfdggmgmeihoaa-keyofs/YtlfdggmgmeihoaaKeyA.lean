/-
  Texts in the order of their bytes: what stands between two of them. No program is named here.
-/
import Derived.Test.YtlfdggmgmeihoaaBas
import Derived.Test.YtlfdggmgmeihoaaFltB
namespace Go.Proofs.Ytlfdggmgmeihoaa
namespace Ky

abbrev bl := Op.bytesLess

theorem bl_nil (x : List UInt8) : bl x [] = false := by cases x <;> rfl
theorem bl_cons (a b : UInt8) (x y : List UInt8) : bl (a :: x) (b :: y) = (decide (a < b) || (a == b && bl x y)) := rfl
theorem bl_first (b : UInt8) (y : List UInt8) : bl [] (b :: y) = true := rfl
theorem bl_irr (x : List UInt8) : bl x x = false := by
  induction x with
  | nil => rfl
  | cons a x ih => simp [bl_cons, ih]
theorem bl_trans {x y z : List UInt8} (h : bl x y = true) (g : bl y z = true) : bl x z = true := by
  induction x generalizing y z with
  | nil =>
    cases z with
    | nil => rw [bl_nil] at g; cases g
    | cons c z => rfl
  | cons a x ih =>
    cases y with
    | nil => rw [bl_nil] at h; cases h
    | cons b y =>
      cases z with
      | nil => rw [bl_nil] at g; cases g
      | cons c z =>
        rw [bl_cons] at h g ⊢
        simp only [Bool.or_eq_true, decide_eq_true_eq, Bool.and_eq_true, beq_iff_eq, UInt8.lt_iff_toNat_lt] at h g ⊢
        rcases h with h | ⟨rfl, h⟩
        · rcases g with g | ⟨rfl, g⟩
          · left; omega
          · left; exact h
        · rcases g with g | ⟨rfl, g⟩
          · left; exact g
          · right; exact ⟨rfl, ih h g⟩
theorem bl_tri {x y : List UInt8} (h : bl x y = false) (g : bl y x = false) : x = y := by
  induction x generalizing y with
  | nil =>
    cases y with
    | nil => rfl
    | cons b y => cases h
  | cons a x ih =>
    cases y with
    | nil => cases g
    | cons b y =>
      rw [bl_cons] at h g
      simp only [Bool.or_eq_false_iff, decide_eq_false_iff_not, Bool.and_eq_false_imp, beq_iff_eq, UInt8.lt_iff_toNat_lt] at h g
      have e : a = b := UInt8.toNat_inj.1 (by omega)
      subst e
      rw [ih (h.2 rfl) (g.2 rfl)]
/-- 'x <= y' is 'not y < x'. -/
theorem le_not (x y : List UInt8) : (bl x y || x == y) = !bl y x := by
  cases h : bl y x
  · cases g : bl x y
    · have := bl_tri g h
      simp [this]
    · rfl
  · cases g : bl x y
    · have : x ≠ y := by
        rintro rfl
        rw [bl_irr] at h
        cases h
      simp [this]
    · have := bl_trans h g
      rw [bl_irr] at this
      cases this
theorem bl_asym {x y : List UInt8} (h : bl x y = true) : bl y x = false := by
  cases g : bl y x
  · rfl
  · have := bl_trans h g
    rw [bl_irr] at this
    cases this
/-- 'not x < y, not y < z': 'not x < z'. -/
theorem ge_trans {x y z : List UInt8} (h : bl x y = false) (g : bl y z = false) : bl x z = false := by
  cases k : bl x z
  · rfl
  · cases j : bl y x
    · have := bl_tri h j
      subst this
      rw [g] at k
      cases k
    · rw [bl_trans j k] at g
      cases g

/-- How far two texts are one. -/
def cp : List UInt8 → List UInt8 → Nat
  | a :: x, b :: y => if a = b then cp x y + 1 else 0
  | _, _ => 0

theorem cp_lt {x y : List UInt8} (h : bl x y = true) : cp x y < y.length := by
  induction x generalizing y with
  | nil =>
    cases y with
    | nil => cases h
    | cons b y => simp [cp]
  | cons a x ih =>
    cases y with
    | nil => cases h
    | cons b y =>
      rw [bl_cons] at h
      simp only [cp, List.length_cons]
      split
      · rename_i e
        subst e
        simp only [Bool.or_eq_true, decide_eq_true_eq, Bool.and_eq_true, beq_iff_eq, UInt8.lt_iff_toNat_lt] at h
        rcases h with h | ⟨_, h⟩
        · omega
        · have := ih h
          omega
      · omega
theorem cp_le (x y : List UInt8) : cp x y ≤ x.length := by
  induction x generalizing y with
  | nil => simp [cp]
  | cons a x ih =>
    cases y with
    | nil => simp [cp]
    | cons b y =>
      have := ih y
      simp only [cp, List.length_cons]
      split <;> omega
/-- Up to there they are one. -/
theorem cp_same {x y : List UInt8} {k : Nat} (h : k < cp x y) : x.getD k 0 = y.getD k 0 := by
  induction x generalizing y k with
  | nil => simp [cp] at h
  | cons a x ih =>
    cases y with
    | nil => simp [cp] at h
    | cons b y =>
      simp only [cp] at h
      split at h
      · rename_i e
        subst e
        cases k with
        | zero => rfl
        | succ k => simpa using ih (y := y) (k := k) (by omega)
      · omega
/-- There they part. -/
theorem cp_other {x y : List UInt8} (h : cp x y < x.length) (g : cp x y < y.length) : x.getD (cp x y) 0 ≠ y.getD (cp x y) 0 := by
  induction x generalizing y with
  | nil => simp at h
  | cons a x ih =>
    cases y with
    | nil => simp at g
    | cons b y =>
      simp only [cp] at h g ⊢
      split at h
      · rename_i e
        rw [if_pos e] at g ⊢
        simp only [List.length_cons] at h g
        simpa using ih (y := y) (by omega) (by omega)
      · rename_i e
        rw [if_neg e]
        simpa using e
/-- Which beginnings of the greater one are above the other one. -/
theorem bl_take {x y : List UInt8} (h : bl x y = true) (n : Nat) : bl x (y.take n) = decide (cp x y < n) := by
  induction x generalizing y n with
  | nil =>
    cases y with
    | nil => cases h
    | cons b y =>
      cases n with
      | zero => rfl
      | succ n => simp [cp, bl_first]
  | cons a x ih =>
    cases y with
    | nil => cases h
    | cons b y =>
      cases n with
      | zero => simp [bl_nil]
      | succ n =>
        rw [bl_cons] at h
        rw [List.take_succ_cons, bl_cons]
        simp only [Bool.or_eq_true, decide_eq_true_eq, Bool.and_eq_true, beq_iff_eq] at h
        by_cases e : a = b
        · subst e
          have hi : ¬ a < a := by rw [UInt8.lt_iff_toNat_lt]; omega
          rcases h with h | ⟨_, h⟩
          · exact absurd h hi
          · rw [ih h n]
            simp [cp, hi]
        · rcases h with h | ⟨h, _⟩
          · simp [cp, e, h]
          · exact absurd h e
/-- A beginning is not above the whole. -/
theorem bl_head (y : List UInt8) (n : Nat) : bl y (y.take n) = false := by
  induction y generalizing n with
  | nil => simp [bl_nil]
  | cons b y ih =>
    cases n with
    | zero => rfl
    | succ n =>
      have hi : ¬ b < b := by rw [UInt8.lt_iff_toNat_lt]; omega
      rw [List.take_succ_cons, bl_cons, ih]
      simp [hi]

/-- A text's beginning, and what is left. -/
theorem ext_head (s : ByteArray) (n : Nat) : (s.extract 0 n).toList = s.toList.take n := by
  rw [ByteArray.toList_eq, ByteArray.toList_eq]
  simp
theorem ext_rest (s : ByteArray) (n : Nat) : (s.extract n s.size).toList = s.toList.drop n := by
  rw [ByteArray.toList_eq, ByteArray.toList_eq]
  simp
  exact List.take_of_length_le (by simp)
theorem list_len (s : ByteArray) : s.toList.length = s.size := by rw [ByteArray.toList_eq]; simp
theorem list_inj {s t : ByteArray} (h : s.toList = t.toList) : s = t := by
  rw [ByteArray.toList_eq, ByteArray.toList_eq] at h
  exact ByteArray.ext (Array.toList_inj.1 h)
theorem sb_list (s : ByteArray) : sb s = s.toList.map fun b => (b.toNat : Int) := by rw [ByteArray.toList_eq]; rfl

/-- The text between two. -/
def mid (s t : ByteArray) : ByteArray := if bl s.toList t.toList then t.extract 0 (cp s.toList t.toList + 1) else ⟨#[]⟩

/-- What a key of a float says. -/
def kf (zs : List Int) : Nat × Bool := if zs.head? = some 102 then Fl.fo zs.tail else (0, false)
def key (x : Nat) : List Int := 102 :: Fl.be (Fl.rk x)
theorem key_bd (x : Nat) : ∀ z ∈ key x, 0 ≤ z ∧ z ≤ 255 := by
  intro z hz
  simp only [key, List.mem_cons] at hz
  rcases hz with rfl | hz
  · decide
  · exact Fl.be_bd _ z hz
theorem key_len (x : Nat) : (key x).length = 9 := by simp [key, Fl.be_len]
theorem kf_key {x : Nat} (hx : x < 18446744073709551616) : kf (key x) = (Fl.cl x, true) := by
  unfold kf key
  simp [Fl.fo_be hx]
end Ky
end Go.Proofs.Ytlfdggmgmeihoaa
