/-
  The floats of 64 bits as numbers of their bits: which are none, their place in the order, their eight bytes, their value, their sum. No program is named here.
-/
import Derived.WalkLawsBesides
import Derived.Laws.BitsAllLaws
namespace Go.Proofs.Ytlefhhmggaaiiab
namespace Fl

abbrev F : Ieee.Format := FloatKind.f64.format

/-- The sign and the rung of a word. -/
def sg (x : Nat) : Bool := x / 9223372036854775808 % 2 == 1
def rg (x : Nat) : Nat := x % 9223372036854775808
def nan (x : Nat) : Bool := decide (9218868437227405312 < rg x)
def cl (x : Nat) : Nat := if nan x then 9221120237041090560 else x
/-- The place in the order. -/
def rk (x : Nat) : Nat := if nan x then 0 else if x < 9223372036854775808 then x + 9223372036854775808 else 18446744073709551615 - x

def mant (r : Nat) : Nat := if r < 4503599627370496 then r else 4503599627370496 + r % 4503599627370496
def ex (r : Nat) : Nat := if r < 4503599627370496 then 0 else r / 4503599627370496 - 1
def val (r : Nat) : Nat := mant r * 2 ^ ex r
/-- The value, in the least unit. -/
def V (x : Nat) : Int := if sg x then -(val (rg x) : Int) else (val (rg x) : Int)

theorem f_sw : F.signWeight = 9223372036854775808 := by decide
theorem f_bin : F.binade = 4503599627370496 := by decide
theorem f_inf : F.infRung = 9218868437227405312 := by decide
theorem f_lp : F.leastPlace = -1074 := by decide
theorem f_fb : F.fractionBits = 52 := rfl

theorem read_num {x : Nat} (h : rg x < 9218868437227405312) : F.read x = .number (sg x) (mant (rg x)) (-1074 + (ex (rg x) : Int)) := by
  unfold Ieee.Format.read
  rw [f_sw, f_bin, f_inf, f_lp]
  unfold rg at *
  unfold sg mant ex
  simp only
  split
  · simp
  · first
      | rfl
      | (rw [if_pos h]; simp)

theorem read_inf {x : Nat} (h : rg x = 9218868437227405312) : F.read x = .infinity (sg x) := by
  unfold Ieee.Format.read
  rw [f_sw, f_bin, f_inf, f_lp]
  unfold rg at *
  unfold sg
  simp only [h]
  simp

theorem read_nan {x : Nat} (h : nan x = true) : ∃ f, F.read x = .nan (sg x) f := by
  unfold nan at h
  simp at h
  unfold Ieee.Format.read
  rw [f_sw, f_bin, f_inf, f_lp]
  unfold rg at *
  unfold sg
  simp only
  rw [if_neg (by omega), if_neg (by omega), if_neg (by omega)]
  exact ⟨_, rfl⟩

theorem not_nan {x : Nat} (h : nan x = false) : rg x < 9218868437227405312 ∨ rg x = 9218868437227405312 := by
  unfold nan at h
  simp at h
  omega

/-- The values rise with the rungs. -/
theorem val_step (r : Nat) : val r < val (r + 1) := by
  unfold val mant ex
  by_cases h1 : r + 1 < 4503599627370496
  · rw [if_pos h1, if_pos h1, if_pos (by omega), if_pos (by omega)]
    simp
  · rw [if_neg h1, if_neg h1]
    by_cases h2 : r < 4503599627370496
    · have : r = 4503599627370495 := by omega
      subst this
      decide
    · rw [if_neg h2, if_neg h2]
      by_cases h3 : r % 4503599627370496 = 4503599627370495
      · have e1 : (r + 1) % 4503599627370496 = 0 := by omega
        have e2 : (r + 1) / 4503599627370496 - 1 = (r / 4503599627370496 - 1) + 1 := by omega
        rw [e1, e2, h3, Nat.pow_succ]
        have := Nat.two_pow_pos (r / 4503599627370496 - 1)
        omega
      · have e1 : (r + 1) % 4503599627370496 = r % 4503599627370496 + 1 := by omega
        have e2 : (r + 1) / 4503599627370496 - 1 = (r / 4503599627370496 - 1) := by omega
        rw [e1, e2]
        have := Nat.two_pow_pos (r / 4503599627370496 - 1)
        exact Nat.mul_lt_mul_of_pos_right (by omega) this

theorem val_lt {r s : Nat} (h : r < s) : val r < val s := by
  induction s with
  | zero => omega
  | succ s ih =>
    have := val_step s
    rcases Nat.lt_or_ge r s with h1 | h1
    · have := ih h1
      omega
    · have : r = s := by omega
      subst this
      assumption

theorem val_le {r s : Nat} (h : r ≤ s) : val r ≤ val s := by
  rcases Nat.lt_or_ge r s with h1 | h1
  · exact Nat.le_of_lt (val_lt h1)
  · have : r = s := by omega
    subst this
    exact Nat.le_refl _

theorem val_inj {r s : Nat} (h : val r = val s) : r = s := by
  rcases Nat.lt_trichotomy r s with h1 | h1 | h1
  · have := val_lt h1; omega
  · exact h1
  · have := val_lt h1; omega

theorem val_zero : val 0 = 0 := by decide
theorem val_pos {r : Nat} (h : 0 < r) : 0 < val r := by have := val_lt h; omega

theorem signed_eq (s : Bool) (m k : Nat) : Ieee.signed s m k = (if s then -((m * 2 ^ k : Nat) : Int) else ((m * 2 ^ k : Nat) : Int)) := by
  unfold Ieee.signed
  rw [Nat.shiftLeft_eq]

theorem signed_scale (s : Bool) (m e k : Nat) (h : k ≤ e) : Ieee.signed s m (e - k) * 2 ^ k = (if s then -((m * 2 ^ e : Nat) : Int) else ((m * 2 ^ e : Nat) : Int)) := by
  rw [signed_eq]
  have e1 : m * 2 ^ e = m * 2 ^ (e - k) * 2 ^ k := by rw [Nat.mul_assoc, ← Nat.pow_add]; congr 2; omega
  rw [e1]
  split
  · push_cast
    rw [Int.neg_mul]
  · push_cast
    rfl

theorem cmp_scale (a b : Int) (k : Nat) : compare a b = compare (a * 2 ^ k) (b * 2 ^ k) := by
  have hp : (0 : Int) < 2 ^ k := Int.pow_pos (by decide)
  have h1 : a < b ↔ a * 2 ^ k < b * 2 ^ k := ⟨fun h => Int.mul_lt_mul_of_pos_right h hp, fun h => Int.lt_of_mul_lt_mul_right h (Int.le_of_lt hp)⟩
  have h2 : a = b ↔ a * 2 ^ k = b * 2 ^ k := ⟨fun h => by rw [h], fun h => Int.eq_of_mul_eq_mul_right (by omega) h⟩
  simp only [compare, compareOfLessAndEq]
  by_cases h : a < b
  · rw [if_pos h, if_pos (h1.1 h)]
  · rw [if_neg h, if_neg (fun q => h (h1.2 q))]
    by_cases h' : a = b
    · rw [if_pos h', if_pos (h2.1 h')]
    · rw [if_neg h', if_neg (fun q => h' (h2.2 q))]

theorem base_min (a b : Nat) : min (-1074 + (a : Int)) (-1074 + (b : Int)) = -1074 + ((min a b : Nat) : Int) := by omega
theorem base_off (a k : Nat) : (-1074 + (a : Int) - (-1074 + (k : Int))).toNat = a - k := by omega

theorem V_eq (x : Nat) : V x = (if sg x then -((mant (rg x) * 2 ^ ex (rg x) : Nat) : Int) else ((mant (rg x) * 2 ^ ex (rg x) : Nat) : Int)) := rfl

theorem ord_num {x y : Nat} (hx : rg x < 9218868437227405312) (hy : rg y < 9218868437227405312) : F.order x y = some (compare (V x) (V y)) := by
  unfold Ieee.Format.order
  rw [read_num hx, read_num hy]
  simp only [Ieee.Datum.order]
  rw [base_min, base_off, base_off, cmp_scale _ _ (min (ex (rg x)) (ex (rg y))), signed_scale _ _ _ _ (by omega), signed_scale _ _ _ _ (by omega), ← V_eq, ← V_eq]

theorem cmp_lt {a b : Int} (h : a < b) : compare a b = .lt := by simp only [compare, compareOfLessAndEq]; rw [if_pos h]
theorem cmp_gt {a b : Int} (h : b < a) : compare a b = .gt := by simp only [compare, compareOfLessAndEq]; rw [if_neg (by omega), if_neg (by omega)]
theorem cmp_eq (a : Int) : compare a a = .eq := by simp only [compare, compareOfLessAndEq]; rw [if_neg (by omega)]; simp

theorem V_bd {x : Nat} : -(val (rg x) : Int) ≤ V x ∧ V x ≤ (val (rg x) : Int) := by
  unfold V
  split <;> omega

theorem ord_eq {x y : Nat} (hx : nan x = false) (hy : nan y = false) : F.order x y = some (compare (V x) (V y)) := by
  rcases not_nan hx with h1 | h1
  · rcases not_nan hy with h2 | h2
    · exact ord_num h1 h2
    · unfold Ieee.Format.order
      rw [read_num h1, read_inf h2]
      simp only [Ieee.Datum.order]
      have a := val_lt h1
      have b := @V_bd x
      have c : V y = if sg y then -(val 9218868437227405312 : Int) else (val 9218868437227405312 : Int) := by unfold V; rw [h2]
      generalize val 9218868437227405312 = q at *
      congr 1
      cases hs : sg y
      · rw [hs] at c; simp at c; rw [cmp_lt (by omega)]; rfl
      · rw [hs] at c; simp at c; rw [cmp_gt (by omega)]; rfl
  · rcases not_nan hy with h2 | h2
    · unfold Ieee.Format.order
      rw [read_inf h1, read_num h2]
      simp only [Ieee.Datum.order]
      have a := val_lt h2
      have b := @V_bd y
      have c : V x = if sg x then -(val 9218868437227405312 : Int) else (val 9218868437227405312 : Int) := by unfold V; rw [h1]
      generalize val 9218868437227405312 = q at *
      congr 1
      cases hs : sg x
      · rw [hs] at c; simp at c; rw [cmp_gt (by omega)]; rfl
      · rw [hs] at c; simp at c; rw [cmp_lt (by omega)]; rfl
    · unfold Ieee.Format.order
      rw [read_inf h1, read_inf h2]
      simp only [Ieee.Datum.order]
      have c : V x = if sg x then -(val 9218868437227405312 : Int) else (val 9218868437227405312 : Int) := by unfold V; rw [h1]
      have d : V y = if sg y then -(val 9218868437227405312 : Int) else (val 9218868437227405312 : Int) := by unfold V; rw [h2]
      have a : 0 < val 9218868437227405312 := val_pos (by decide)
      generalize val 9218868437227405312 = q at *
      congr 1
      cases hs : sg x <;> cases ht : sg y <;> rw [hs] at c <;> rw [ht] at d <;> simp at c d
      · rw [c, d, cmp_eq]; rfl
      · rw [cmp_gt (by omega)]; rfl
      · rw [cmp_lt (by omega)]; rfl
      · rw [c, d, cmp_eq]; rfl

theorem ord_nan {x y : Nat} (h : nan x = true ∨ nan y = true) : F.order x y = none := by
  unfold Ieee.Format.order
  rcases h with h | h
  · obtain ⟨f, e⟩ := read_nan h
    rw [e]
    simp [Ieee.Datum.order]
  · obtain ⟨f, e⟩ := read_nan h
    rw [e]
    cases F.read x <;> simp [Ieee.Datum.order]

/-- 'f != f'. -/
theorem is_nan (x : Nat) : (F.order x x != some .eq) = nan x := by
  cases h : nan x
  · rw [ord_eq h h, cmp_eq]; rfl
  · rw [ord_nan (.inl h)]; rfl

/-- Places: by the values. -/
theorem rk_lt_V {x y : Nat} (hx : x < 18446744073709551616) (hy : y < 18446744073709551616) (nx : nan x = false) (ny : nan y = false) (h : V x < V y) : rk x < rk y := by
  have mx : rg x ≤ rg y → val (rg x) ≤ val (rg y) := val_le
  have my : rg y ≤ rg x → val (rg y) ≤ val (rg x) := val_le
  have px : 0 < rg x → 0 < val (rg x) := val_pos
  have py : 0 < rg y → 0 < val (rg y) := val_pos
  unfold V at h
  unfold rk
  rw [nx, ny]
  simp only [Bool.false_eq_true, if_false]
  generalize val (rg x) = a at *
  generalize val (rg y) = b at *
  unfold sg at h
  unfold nan at nx ny
  simp only [decide_eq_false_iff_not] at nx ny
  unfold rg at *
  cases s : (x / 9223372036854775808 % 2 == 1) <;> cases t : (y / 9223372036854775808 % 2 == 1) <;> rw [s, t] at h <;> simp at h s t
  · rw [if_pos (by omega), if_pos (by omega)]; omega
  · omega
  · rw [if_neg (by omega), if_pos (by omega)]; omega
  · rw [if_neg (by omega), if_neg (by omega)]; omega

theorem V_eq_rg {x y : Nat} (h : V x = V y) : rg x = rg y ∧ (rg x = 0 ∨ sg x = sg y) := by
  have z : val (rg x) = val (rg y) := by
    unfold V at h
    split at h <;> split at h <;> omega
  refine ⟨val_inj z, ?_⟩
  rcases Nat.eq_zero_or_pos (rg x) with h0 | h0
  · exact .inl h0
  · right
    have := val_pos h0
    unfold V at h
    cases hs : sg x <;> cases ht : sg y <;> rw [hs, ht] at h <;> simp at h <;> first | rfl | omega

theorem word_of {x : Nat} (hx : x < 18446744073709551616) : x = if sg x then 9223372036854775808 + rg x else rg x := by
  unfold sg rg
  cases s : (x / 9223372036854775808 % 2 == 1) <;> simp at s ⊢ <;> omega

theorem rk_lo {x : Nat} (nx : nan x = false) (h : x < 9223372036854775808) : rk x = x + 9223372036854775808 := by
  unfold rk
  rw [nx, if_pos h]
  rfl
theorem rk_hi {x : Nat} (hx : x < 18446744073709551616) (nx : nan x = false) (h : ¬ x < 9223372036854775808) : rk x + x = 18446744073709551615 := by
  unfold rk
  rw [nx, if_neg h]
  simp only [Bool.false_eq_true, if_false]
  omega
theorem rk_inj {x y : Nat} (hx : x < 18446744073709551616) (hy : y < 18446744073709551616) (nx : nan x = false) (ny : nan y = false) (h : rk x = rk y) : x = y := by
  unfold rk at h
  rw [nx, ny] at h
  simp only [Bool.false_eq_true, if_false] at h
  split at h <;> split at h <;> omega

theorem rk_bd {x : Nat} (hx : x < 18446744073709551616) : rk x < 18446744073709551616 := by
  unfold rk
  split
  · omega
  · split <;> omega

/-- Only of a NaN the place is nought. -/
theorem rk_pos {x : Nat} (hx : x < 18446744073709551616) (nx : nan x = false) : 0 < rk x := by
  unfold rk
  rw [nx]
  simp only [Bool.false_eq_true, if_false]
  unfold nan rg at nx
  simp at nx
  split <;> omega
theorem rk_nan {x : Nat} (nx : nan x = true) : rk x = 0 := by unfold rk; rw [if_pos nx]
theorem cl_nan {x : Nat} (nx : nan x = true) : cl x = 9221120237041090560 := by unfold cl; rw [if_pos nx]
theorem cl_not {x : Nat} (nx : nan x = false) : cl x = x := by unfold cl; rw [nx]; rfl
theorem cl_cl (x : Nat) : cl (cl x) = cl x := by
  cases h : nan x
  · rw [cl_not h, cl_not h]
  · rw [cl_nan h]; decide
theorem cl_bd {x : Nat} (hx : x < 18446744073709551616) : cl x < 18446744073709551616 := by unfold cl; split <;> omega

end Fl
end Go.Proofs.Ytlefhhmggaaiiab
