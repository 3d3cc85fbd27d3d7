/-
  Sums of floats of 64 bits, by their bits. No program is named here.
-/
import Derived.Test.YtnkmfaddgodefaaFltA
namespace Go.Proofs.Ytnkmfaddgodefaa
namespace Fl

/-- n / 2^d, to the nearest, of two to the even one. -/
def rnd (n d : Nat) : Nat := n / 2 ^ d + (2 ^ d < 2 * (n % 2 ^ d) || (2 ^ d == 2 * (n % 2 ^ d) && n / 2 ^ d % 2 == 1)).toNat

theorem cut_rnd (s : Bool) (n d : Nat) (h : d ≤ n.log2 + 2) : Ieee.Toward.even.cut s n d = rnd n d := by
  unfold Ieee.Toward.cut rnd
  have e : (1 : Nat) <<< min d (n.log2 + 2) = 2 ^ d := by rw [Nat.min_eq_left h, Nat.one_shiftLeft]
  simp only [e]

theorem rnd_zero (n : Nat) : rnd n 0 = n := by simp [rnd, Nat.mod_one]

theorem rnd_exact (n d : Nat) : rnd (n * 2 ^ d) d = n := by
  have hp := Nat.two_pow_pos d
  unfold rnd
  rw [Nat.mul_mod_left, Nat.mul_div_cancel _ hp]
  simp

theorem rnd_scale (n d k : Nat) : rnd (n * 2 ^ k) (d + k) = rnd n d := by
  have hp := Nat.two_pow_pos k
  unfold rnd
  rw [Nat.pow_add, Nat.mul_div_mul_right _ _ hp, Nat.mul_mod_mul_right]
  have e1 : (2 ^ d * 2 ^ k < 2 * (n % 2 ^ d * 2 ^ k)) ↔ (2 ^ d < 2 * (n % 2 ^ d)) := by
    rw [← Nat.mul_assoc]
    exact ⟨fun h => Nat.lt_of_mul_lt_mul_right h, fun h => Nat.mul_lt_mul_of_pos_right h hp⟩
  have e2 : (2 ^ d * 2 ^ k = 2 * (n % 2 ^ d * 2 ^ k)) ↔ (2 ^ d = 2 * (n % 2 ^ d)) := by
    rw [← Nat.mul_assoc]
    exact ⟨fun h => Nat.eq_of_mul_eq_mul_right hp h, fun h => congrArg (· * 2 ^ k) h⟩
  congr 2
  rw [decide_eq_decide.2 e1]
  congr 2
  rw [Bool.eq_iff_iff]
  simp only [beq_iff_eq]
  exact e2

theorem rnd_le (n d : Nat) : rnd n d ≤ n / 2 ^ d + 1 := by
  unfold rnd
  have : ∀ b : Bool, b.toNat ≤ 1 := by decide
  have := this (2 ^ d < 2 * (n % 2 ^ d) || (2 ^ d == 2 * (n % 2 ^ d) && n / 2 ^ d % 2 == 1))
  omega

def wd (s : Bool) (r : Nat) : Nat := if s then 9223372036854775808 + r else r
theorem f_wd (s : Bool) (r : Nat) : F.word s r = wd s r := by
  unfold Ieee.Format.word wd
  rw [f_sw]

/-- The word nearest to M least units. -/
def nr (s : Bool) (M : Nat) : Nat := if M = 0 then wd s 0 else wd s (min ((M.log2 - 52) * 4503599627370496 + rnd M (M.log2 - 52)) 9218868437227405312)

theorem log2_mul (m k : Nat) (h : m ≠ 0) : (m * 2 ^ k).log2 = m.log2 + k := by
  have h1 := Nat.log2_self_le h
  have h2 : m < 2 ^ (m.log2 + 1) := Nat.lt_log2_self
  have hp := Nat.two_pow_pos k
  have h0 : m * 2 ^ k ≠ 0 := by
    intro q
    rcases Nat.mul_eq_zero.1 q with q | q <;> omega
  rw [Nat.log2_eq_iff h0]
  constructor
  · rw [Nat.pow_add]; exact Nat.mul_le_mul_right _ h1
  · rw [show m.log2 + k + 1 = m.log2 + 1 + k by omega, Nat.pow_add]; exact Nat.mul_lt_mul_of_pos_right h2 hp

theorem nearest_eq (s : Bool) (m k : Nat) : F.nearest s m (-1074 + (k : Int)) = nr s (m * 2 ^ k) := by
  have hp := Nat.two_pow_pos k
  unfold Ieee.Format.nearest nr
  by_cases h : m = 0
  · subst h
    simp [f_wd]
  · have h' : ¬ m * 2 ^ k = 0 := by
      intro q
      rcases Nat.mul_eq_zero.1 q with q | q <;> omega
    rw [if_neg h, if_neg h', f_lp, f_fb, f_bin, f_inf]
    have hl : (m * 2 ^ k).log2 = m.log2 + k := log2_mul m k h
    rw [hl]
    have e0 : max (-1074 + (k : Int) + (m.log2 : Int) - (52 : Nat)) (-1074) = -1074 + ((m.log2 + k - 52 : Nat) : Int) := by omega
    simp only [e0]
    rw [f_wd]
    have e1 : (-1074 + (k : Int) - (-1074 + ((m.log2 + k - 52 : Nat) : Int))).toNat = k - (m.log2 + k - 52) := by omega
    have e2 : (-1074 + ((m.log2 + k - 52 : Nat) : Int) - (-1074 + (k : Int))).toNat = (m.log2 + k - 52) - k := by omega
    have e3 : (-1074 + ((m.log2 + k - 52 : Nat) : Int) - -1074).toNat = m.log2 + k - 52 := by omega
    rw [e1, e2, e3, Nat.shiftLeft_eq]
    generalize hd : m.log2 + k - 52 = d
    congr 3
    rcases Nat.lt_or_ge k d with hk | hk
    · have z : k - d = 0 := by omega
      rw [z, Nat.pow_zero, Nat.mul_one, cut_rnd _ _ _ (by omega)]
      have := rnd_scale m (d - k) k
      rw [show d - k + k = d by omega] at this
      exact this.symm
    · have z : d - k = 0 := by omega
      rw [z, cut_rnd _ _ _ (by omega), rnd_zero]
      have e : m * 2 ^ k = m * 2 ^ (k - d) * 2 ^ d := by rw [Nat.mul_assoc, ← Nat.pow_add]; congr 2; omega
      rw [e, rnd_exact]

theorem nr_zero (s : Bool) : nr s 0 = wd s 0 := by unfold nr; rw [if_pos rfl]

theorem rg_wd (s : Bool) {r : Nat} (h : r < 9223372036854775808) : rg (wd s r) = r := by unfold rg wd; split <;> omega
theorem sg_wd (s : Bool) {r : Nat} (h : r < 9223372036854775808) : sg (wd s r) = s := by
  unfold sg wd
  cases s
  · simp; omega
  · simp; omega
theorem wd_lt (s : Bool) {r : Nat} (h : r < 9223372036854775808) : wd s r < 18446744073709551616 := by unfold wd; split <;> omega
theorem wd_of {x : Nat} (hx : x < 18446744073709551616) : wd (sg x) (rg x) = x := (word_of hx).symm

/-- A word's own value gives that word. -/
theorem nr_val (s : Bool) {r : Nat} (h : r < 9218868437227405312) : nr s (val r) = wd s r := by
  rcases Nat.eq_zero_or_pos r with h0 | h0
  · subst h0
    rw [val_zero, nr_zero]
  · have hv := val_pos h0
    unfold nr
    rw [if_neg (by omega)]
    congr 1
    unfold val mant ex
    by_cases h1 : r < 4503599627370496
    · rw [if_pos h1, if_pos h1, Nat.pow_zero, Nat.mul_one]
      have : r.log2 < 52 := (Nat.log2_lt (by omega)).2 (by omega)
      have z : r.log2 - 52 = 0 := by omega
      rw [z, rnd_zero]
      omega
    · rw [if_neg h1, if_neg h1]
      have hm : (4503599627370496 + r % 4503599627370496).log2 = 52 := by
        rw [Nat.log2_eq_iff (by omega)]
        omega
      rw [log2_mul _ _ (by omega), hm]
      have z : 52 + (r / 4503599627370496 - 1) - 52 = r / 4503599627370496 - 1 := by omega
      rw [z, rnd_exact]
      omega

/-- How far a rung may come. -/
theorem nr_rung (s : Bool) {M c : Nat} (h : M < 2 ^ (53 + c)) : ∃ r, nr s M = wd s r ∧ r ≤ (c + 2) * 4503599627370496 ∧ r ≤ 9218868437227405312 := by
  unfold nr
  by_cases h0 : M = 0
  · rw [if_pos h0]
    exact ⟨0, rfl, by omega, by omega⟩
  · rw [if_neg h0]
    refine ⟨_, rfl, ?_, by omega⟩
    have hl : M.log2 < 53 + c := (Nat.log2_lt h0).2 h
    have h1 := rnd_le M (M.log2 - 52)
    have h2 : M / 2 ^ (M.log2 - 52) < 9007199254740992 := by
      have hp := Nat.two_pow_pos (M.log2 - 52)
      rw [Nat.div_lt_iff_lt_mul hp]
      have : M < 2 ^ (M.log2 + 1) := Nat.lt_log2_self
      refine Nat.lt_of_lt_of_le this ?_
      have e : (9007199254740992 : Nat) = 2 ^ 53 := by decide
      rw [e, ← Nat.pow_add]
      exact Nat.pow_le_pow_right (by omega) (by omega)
    have h3 : (M.log2 - 52) * 4503599627370496 ≤ c * 4503599627370496 := Nat.mul_le_mul_right _ (by omega)
    omega

theorem nr_some (s : Bool) (M : Nat) : ∃ r, nr s M = wd s r ∧ r ≤ 9218868437227405312 := by
  unfold nr
  split
  · exact ⟨0, rfl, by omega⟩
  · exact ⟨_, rfl, by omega⟩

theorem nr_lt (s : Bool) (M : Nat) : nr s M < 18446744073709551616 := by
  obtain ⟨r, e, h⟩ := nr_some s M
  rw [e]
  exact wd_lt s (by omega)

theorem nan_wd (s : Bool) {r : Nat} (h : r ≤ 9218868437227405312) : nan (wd s r) = false := by
  unfold nan
  rw [rg_wd s (by omega)]
  simp
  exact h

theorem write_inf (s : Bool) : F.write (.infinity s) = wd s 9218868437227405312 := by
  show F.word s F.infRung = _
  rw [f_inf, f_wd]

/-- The sum of two numbers. -/
theorem add_num {x y : Nat} (hx : rg x < 9218868437227405312) (hy : rg y < 9218868437227405312) :
    F.add x y = some (nr (if V x + V y = 0 then sg x && sg y else decide (V x + V y < 0)) (V x + V y).natAbs) := by
  unfold Ieee.Format.add
  rw [read_num hx, read_num hy]
  simp only [Ieee.Datum.sum, Option.map_some]
  rw [base_min, base_off, base_off]
  have hk1 : min (ex (rg x)) (ex (rg y)) ≤ ex (rg x) := by omega
  have hk2 : min (ex (rg x)) (ex (rg y)) ≤ ex (rg y) := by omega
  generalize min (ex (rg x)) (ex (rg y)) = k at *
  have e1 := signed_scale (sg x) (mant (rg x)) _ _ hk1
  have e2 := signed_scale (sg y) (mant (rg y)) _ _ hk2
  rw [← V_eq] at e1 e2
  generalize ha : Ieee.signed (sg x) (mant (rg x)) (ex (rg x) - k) = a at *
  generalize hb : Ieee.signed (sg y) (mant (rg y)) (ex (rg y) - k) = b at *
  have hp : (0 : Int) < 2 ^ k := Int.pow_pos (by decide)
  have et : V x + V y = (a + b) * 2 ^ k := by rw [Int.add_mul, e1, e2]
  rw [et]
  have z : ((a + b) * 2 ^ k = 0) ↔ (a + b = 0) := by
    constructor
    · intro h
      rcases Int.mul_eq_zero.1 h with h | h
      · exact h
      · omega
    · intro h; rw [h]; simp
  have l : ((a + b) * 2 ^ k < 0) ↔ (a + b < 0) := by
    constructor
    · intro h
      exact Int.lt_of_mul_lt_mul_right (a := 2 ^ k) (by rw [Int.zero_mul]; exact h) (Int.le_of_lt hp)
    · intro h
      have := Int.mul_lt_mul_of_pos_right h hp
      rw [Int.zero_mul] at this
      exact this
  show some (F.nearest _ _ _) = _
  rw [nearest_eq]
  congr 2
  · simp only [z, l]
  · rw [Int.natAbs_mul]
    congr 1

/-- The sum as the one NaN or what it is. -/
def ad (x y : Nat) : Nat := match F.add x y with
  | some r => r
  | none => 9221120237041090560

theorem add_nan {x y : Nat} (h : nan x = true ∨ nan y = true) : F.add x y = none := by
  unfold Ieee.Format.add
  rcases h with h | h
  · obtain ⟨f, e⟩ := read_nan h
    rw [e]
    simp [Ieee.Datum.sum]
  · obtain ⟨f, e⟩ := read_nan h
    rw [e]
    cases F.read x <;> simp [Ieee.Datum.sum]

theorem add_some {x y r : Nat} (h : F.add x y = some r) : nan r = false ∧ r < 18446744073709551616 := by
  cases hx : nan x
  · cases hy : nan y
    · rcases not_nan hx with h1 | h1
      · rcases not_nan hy with h2 | h2
        · rw [add_num h1 h2] at h
          simp only [Option.some.injEq] at h
          subst h
          obtain ⟨r, e, hr⟩ := nr_some (if V x + V y = 0 then sg x && sg y else decide (V x + V y < 0)) (V x + V y).natAbs
          rw [e]
          exact ⟨nan_wd _ hr, wd_lt _ (by omega)⟩
        · unfold Ieee.Format.add at h
          rw [read_num h1, read_inf h2] at h
          simp only [Ieee.Datum.sum, Option.map_some, Option.some.injEq, write_inf] at h
          subst h
          exact ⟨nan_wd _ (Nat.le_refl _), wd_lt _ (by omega)⟩
      · rcases not_nan hy with h2 | h2
        · unfold Ieee.Format.add at h
          rw [read_inf h1, read_num h2] at h
          simp only [Ieee.Datum.sum, Option.map_some, Option.some.injEq, write_inf] at h
          subst h
          exact ⟨nan_wd _ (Nat.le_refl _), wd_lt _ (by omega)⟩
        · unfold Ieee.Format.add at h
          rw [read_inf h1, read_inf h2] at h
          simp only [Ieee.Datum.sum] at h
          split at h
          · simp only [Option.map_some, Option.some.injEq, write_inf] at h
            subst h
            exact ⟨nan_wd _ (Nat.le_refl _), wd_lt _ (by omega)⟩
          · simp at h
    · rw [add_nan (.inr hy)] at h
      cases h
  · rw [add_nan (.inl hx)] at h
    cases h

theorem ad_lt (x y : Nat) : ad x y < 18446744073709551616 := by
  unfold ad
  split
  · rename_i r h
    exact (add_some h).2
  · omega

theorem cl_ad (x y : Nat) : cl (ad x y) = ad x y := by
  unfold ad
  split
  · rename_i r h
    exact cl_not (add_some h).1
  · decide

/-- A NaN of any bits, added, is as the one NaN. -/
theorem ad_cl (x y : Nat) : ad (cl x) y = ad x y := by
  cases h : nan x
  · rw [cl_not h]
  · unfold ad
    rw [add_nan (.inl h), add_nan (x := cl x) (.inl (by rw [cl_nan h]; decide))]

/-- All of a row, from nought on. -/
def sm (l : List Nat) : Nat := l.foldl ad 0
theorem sm_app (l : List Nat) (x : Nat) : sm (l ++ [x]) = ad (sm l) x := by simp [sm]
theorem sm_cl (l : List Nat) : cl (sm l) = sm l := by
  rcases List.eq_nil_or_concat l with h | ⟨m, x, h⟩
  · subst h; decide
  · rw [h, List.concat_eq_append, sm_app, cl_ad]
theorem sm_lt (l : List Nat) : sm l < 18446744073709551616 := by
  rcases List.eq_nil_or_concat l with h | ⟨m, x, h⟩
  · subst h; decide
  · rw [h, List.concat_eq_append, sm_app]; exact ad_lt _ _

theorem V_zero : V 0 = 0 := by decide

/-- Nought and a number. -/
theorem ad_nought {x : Nat} (hx : x < 18446744073709551616) (nx : nan x = false) (h : x ≠ 9223372036854775808) : ad 0 x = x := by
  rcases not_nan nx with h1 | h1
  · unfold ad
    rw [add_num (by decide) h1, V_zero]
    simp only [Int.zero_add]
    rcases Nat.eq_zero_or_pos (rg x) with h0 | h0
    · have hv : V x = 0 := by unfold V; rw [h0, val_zero]; split <;> rfl
      rw [hv, if_pos rfl]
      have e : (sg 0 && sg x) = false := rfl
      rw [e, Int.natAbs_zero, nr_zero]
      have hw := word_of hx
      rw [h0] at hw
      cases hs : sg x
      · rw [hs] at hw; simp at hw; rw [hw]; rfl
      · rw [hs] at hw; simp at hw; omega
    · have hv := val_pos h0
      have e1 : (V x).natAbs = val (rg x) := by unfold V; split <;> omega
      have e2 : (if V x = 0 then sg 0 && sg x else decide (V x < 0)) = sg x := by
        cases hs : sg x
        · have : V x = val (rg x) := by unfold V; rw [hs]; rfl
          rw [if_neg (by omega)]; simp; omega
        · have : V x = -(val (rg x) : Int) := by unfold V; rw [hs]; rfl
          rw [if_neg (by omega)]; simp; omega
      rw [e1, e2, nr_val _ h1, wd_of hx]
  · unfold ad Ieee.Format.add
    rw [read_num (by decide), read_inf h1]
    simp only [Ieee.Datum.sum, Option.map_some, write_inf]
    rw [← h1, wd_of hx]

/-- Whole numbers. -/
theorem fi_eq {k : Nat} (hk : k = 1074) (n : Int) : floatOfInt .f64 n = nr (decide (n < 0)) (n.natAbs * 2 ^ k) := by
  show F.nearest (decide (n < 0)) n.natAbs 0 = _
  have := nearest_eq (decide (n < 0)) n.natAbs k
  rw [show (-1074 + (k : Int)) = 0 by omega] at this
  exact this

theorem val_norm (e m : Nat) (h : m < 4503599627370496) : val ((e + 1) * 4503599627370496 + m) = (4503599627370496 + m) * 2 ^ e := by
  unfold val mant ex
  rw [if_neg (by omega), if_neg (by omega)]
  have e1 : ((e + 1) * 4503599627370496 + m) % 4503599627370496 = m := by omega
  have e2 : ((e + 1) * 4503599627370496 + m) / 4503599627370496 - 1 = e := by omega
  rw [e1, e2]

/-- Each whole number of less than 53 bits is a word's value. -/
theorem fits {k : Nat} (hk : k = 1074) (n : Nat) (h : n < 9007199254740992) : ∃ r, r < 9218868437227405312 ∧ val r = n * 2 ^ k := by
  rcases Nat.eq_zero_or_pos n with h0 | h0
  · subst h0
    exact ⟨0, by decide, by rw [val_zero, Nat.zero_mul]⟩
  · have hl : n.log2 < 53 := (Nat.log2_lt (by omega)).2 (by omega)
    have h1 : 2 ^ n.log2 ≤ n := Nat.log2_self_le (by omega)
    have h2 : n < 2 ^ (n.log2 + 1) := Nat.lt_log2_self
    have hp := Nat.two_pow_pos (52 - n.log2)
    have h3 : 4503599627370496 ≤ n * 2 ^ (52 - n.log2) := by
      have := Nat.mul_le_mul_right (2 ^ (52 - n.log2)) h1
      rw [← Nat.pow_add, show n.log2 + (52 - n.log2) = 52 by omega] at this
      omega
    have h4 : n * 2 ^ (52 - n.log2) < 9007199254740992 := by
      have := Nat.mul_lt_mul_of_pos_right h2 hp
      rw [← Nat.pow_add, show n.log2 + 1 + (52 - n.log2) = 53 by omega] at this
      omega
    refine ⟨(n.log2 + 1022 + 1) * 4503599627370496 + (n * 2 ^ (52 - n.log2) - 4503599627370496), by omega, ?_⟩
    rw [val_norm _ _ (by omega), show 4503599627370496 + (n * 2 ^ (52 - n.log2) - 4503599627370496) = n * 2 ^ (52 - n.log2) by omega, Nat.mul_assoc, ← Nat.pow_add, show 52 - n.log2 + (n.log2 + 1022) = k by omega]

theorem fi_is {k : Nat} (hk : k = 1074) (n : Int) (h : n.natAbs < 9007199254740992) : ∃ r, r < 9218868437227405312 ∧ val r = n.natAbs * 2 ^ k ∧ floatOfInt .f64 n = wd (decide (n < 0)) r := by
  obtain ⟨r, h1, h2⟩ := fits hk n.natAbs h
  exact ⟨r, h1, h2, by rw [fi_eq hk, ← h2, nr_val _ h1]⟩

/-- What such a word is. -/
theorem fi_all {k : Nat} (hk : k = 1074) (n : Int) (h : n.natAbs < 9007199254740992) : floatOfInt .f64 n < 18446744073709551616 ∧ rg (floatOfInt .f64 n) < 9218868437227405312 ∧ sg (floatOfInt .f64 n) = decide (n < 0) ∧ V (floatOfInt .f64 n) = n * ((2 ^ k : Nat) : Int) := by
  obtain ⟨r, h1, h2, e⟩ := fi_is hk n h
  rw [e]
  refine ⟨wd_lt _ (by omega), by rw [rg_wd _ (by omega)]; exact h1, sg_wd _ (by omega), ?_⟩
  unfold V
  rw [rg_wd _ (by omega), sg_wd _ (by omega), h2]
  generalize 2 ^ k = q
  by_cases hn : n < 0
  · rw [decide_eq_true hn, if_pos rfl]
    have : (n.natAbs : Int) = -n := by omega
    push_cast
    rw [this, Int.neg_mul, Int.neg_neg]
  · rw [decide_eq_false hn]
    have : (n.natAbs : Int) = n := by omega
    simp only [Bool.false_eq_true, if_false]
    push_cast
    rw [this]

theorem fi_nan (n : Int) (h : n.natAbs < 9007199254740992) : nan (floatOfInt .f64 n) = false := by
  have := (fi_all rfl n h).2.1
  unfold nan
  simp
  omega

theorem fi_rk (a b : Int) (ha : a.natAbs < 9007199254740992) (hb : b.natAbs < 9007199254740992) (h : a < b) : rk (floatOfInt .f64 a) < rk (floatOfInt .f64 b) := by
  obtain ⟨k, hk⟩ : ∃ k : Nat, k = 1074 := ⟨_, rfl⟩
  have hp0 := Nat.two_pow_pos k
  obtain ⟨a1, a2, a3, a4⟩ := fi_all hk a ha
  obtain ⟨b1, b2, b3, b4⟩ := fi_all hk b hb
  refine rk_lt_V a1 b1 (fi_nan a ha) (fi_nan b hb) ?_
  rw [a4, b4]
  exact Int.mul_lt_mul_of_pos_right h (by omega)

theorem fi_sum (a b : Int) (ha : a.natAbs < 4503599627370496) (hb : b.natAbs < 4503599627370496) : sm [floatOfInt .f64 a, floatOfInt .f64 b] = floatOfInt .f64 (a + b) := by
  obtain ⟨k, hk⟩ : ∃ k : Nat, k = 1074 := ⟨_, rfl⟩
  have hp0 := Nat.two_pow_pos k
  obtain ⟨a1, a2, a3, a4⟩ := fi_all hk a (by omega)
  obtain ⟨b1, b2, b3, b4⟩ := fi_all hk b (by omega)
  have hz : floatOfInt .f64 a ≠ 9223372036854775808 := by
    intro q
    have hs : sg (floatOfInt .f64 a) = true := by rw [q]; decide
    have hv : V (floatOfInt .f64 a) = 0 := by rw [q]; decide
    rw [a3] at hs
    rw [a4] at hv
    simp at hs
    rcases Int.mul_eq_zero.1 hv with h | h
    · omega
    · omega
  show ad (ad 0 (floatOfInt .f64 a)) (floatOfInt .f64 b) = _
  rw [ad_nought a1 (fi_nan a (by omega)) hz]
  unfold ad
  rw [add_num a2 b2, a4, b4, a3, b3, ← Int.add_mul, fi_eq hk]
  simp only
  have hp : (0 : Int) < ((2 ^ k : Nat) : Int) := by omega
  congr 1
  · by_cases h0 : a + b = 0
    · rw [if_pos (by rw [h0, Int.zero_mul]), h0]
      by_cases hn : a < 0
      · have : ¬ b < 0 := by omega
        simp [this]
      · simp [hn]
    · rw [if_neg (fun q => by rcases Int.mul_eq_zero.1 q with q | q <;> omega)]
      rw [decide_eq_decide]
      constructor
      · intro q
        exact Int.lt_of_mul_lt_mul_right (a := ((2 ^ k : Nat) : Int)) (by rw [Int.zero_mul]; exact q) (Int.le_of_lt hp)
      · intro q
        have := Int.mul_lt_mul_of_pos_right q hp
        rw [Int.zero_mul] at this
        exact this
  · rw [Int.natAbs_mul]
    rfl

/-- Small numbers, added, stay small. -/
theorem val_top (c : Nat) : val ((c + 1) * 4503599627370496) = 2 ^ (52 + c) := by
  have := val_norm c 0 (by decide)
  rw [Nat.add_zero, Nat.add_zero] at this
  rw [this, Nat.pow_add]

theorem ad_small {s x c : Nat} (hs : rg s ≤ (c + 1) * 4503599627370496) (hc : c ≤ 1000) (hx : rg x < 4503599627370496) : rg (ad s x) ≤ (c + 3) * 4503599627370496 := by
  have v1 := val_le hs
  rw [val_top] at v1
  have v2 : val (rg x) < 2 ^ (52 + c) := by
    have := val_lt hx
    rw [show (4503599627370496 : Nat) = (0 + 1) * 4503599627370496 by decide, val_top] at this
    exact Nat.lt_of_lt_of_le this (Nat.pow_le_pow_right (by omega) (by omega))
  have b1 := @V_bd s
  have b2 := @V_bd x
  have hM : (V s + V x).natAbs < 2 ^ (53 + c) := by
    have : (2 : Nat) ^ (53 + c) = 2 ^ (52 + c) + 2 ^ (52 + c) := by rw [show 53 + c = (52 + c) + 1 by omega, Nat.pow_succ]; omega
    rw [this]
    generalize (2 : Nat) ^ (52 + c) = q at *
    omega
  unfold ad
  rw [add_num (by omega) (by omega)]
  obtain ⟨r, e, h1, h2⟩ := nr_rung (if V s + V x = 0 then sg s && sg x else decide (V s + V x < 0)) hM
  simp only [e]
  clear hM v1 v2 b1 b2 e hs hx
  rw [rg_wd _ (by omega)]
  exact Nat.le_trans h1 (Nat.mul_le_mul_right _ (by omega))

theorem sm_small (l : List Nat) (h : ∀ x ∈ l, rg x < 4503599627370496) (hl : l.length ≤ 40) : rg (sm l) ≤ (2 * l.length + 1) * 4503599627370496 := by
  have key : ∀ n, n ≤ l.length → rg (sm (l.take n)) ≤ (2 * n + 1) * 4503599627370496 := by
    intro n
    induction n with
    | zero => intro _; simp [sm, rg]
    | succ n ih =>
      intro hn
      have hlt : n < l.length := by omega
      rw [List.take_succ_eq_append_getElem hlt, sm_app]
      have := ad_small (ih (by omega)) (by omega) (h _ (List.getElem_mem hlt))
      omega
  have := key l.length (Nat.le_refl _)
  rw [List.take_length] at this
  exact this

/-- And infinities. -/
theorem ad_inf {s x : Nat} (hx : x < 18446744073709551616) (h1 : rg s < 9218868437227405312) (h2 : rg x = 9218868437227405312) : ad s x = x := by
  unfold ad Ieee.Format.add
  rw [read_num h1, read_inf h2]
  simp only [Ieee.Datum.sum, Option.map_some, write_inf]
  rw [← h2, wd_of hx]
theorem ad_nan {s x : Nat} (h : nan s = true ∨ nan x = true) : ad s x = 9221120237041090560 := by
  unfold ad
  rw [add_nan h]

end Fl
end Go.Proofs.Ytnkmfaddgodefaa
