/-
  Plain functions on numbers and lists: how package num writes a number into bytes and reads it back; no program is named here.
-/
import Derived.WalkKit
namespace Go.Proofs.Ytlefhhmggaaiiab.Nm

/-- n doubled, or -2 n - 1 of n below 0. -/
def fold (n : Int) : Int := if n < 0 then -2 * n - 1 else 2 * n
/-- back. -/
def unfold (u : Int) : Int := if u % 2 = 1 then -(u / 2) - 1 else u / 2

theorem fold_neg {n : Int} (h : n < 0) : 2 * -(n + 1) + 1 = fold n := by unfold fold; rw [if_pos h]; omega
theorem fold_pos {n : Int} (h : 0 ≤ n) : 2 * n = fold n := by unfold fold; rw [if_neg (by omega)]
theorem unfold_odd {u : Int} (h : (u % 2 == 1) = true) : -(u / 2) - 1 = unfold u := by unfold unfold; rw [if_pos (by simpa using h)]
theorem unfold_even {u : Int} (h : (u % 2 == 1) = false) : u / 2 = unfold u := by unfold unfold; rw [if_neg (by simpa using h)]
theorem fold_bd (n : Int) (h0 : -9223372036854775808 ≤ n) (h1 : n ≤ 9223372036854775807) : 0 ≤ fold n ∧ fold n ≤ 18446744073709551615 := by
  unfold fold; split <;> omega
theorem unfold_fold (n : Int) : unfold (fold n) = n := by
  unfold fold unfold; split <;> split <;> omega

/-- Seven bits a byte, the lowest first, 128 more in each but the last. -/
def enc : Nat → Int → List Int
  | 0, u => [u]
  | f + 1, u => if u < 128 then [u] else (u % 128 + 128) :: enc f (u / 128)

/-- f bytes more are enough. -/
def fits : Nat → Int → Prop
  | 0, u => u < 128
  | f + 1, u => fits f (u / 128)

theorem fits9 (u : Int) (h : u ≤ 18446744073709551615) : fits 9 u := by unfold fits fits fits fits fits fits fits fits fits fits; omega

theorem enc_len : ∀ (f : Nat) (u : Int), 1 ≤ (enc f u).length ∧ (enc f u).length ≤ f + 1
  | 0, u => by simp [enc]
  | f + 1, u => by
    have := enc_len f (u / 128)
    unfold enc; split <;> simp <;> omega

theorem enc_bd : ∀ (f : Nat) (u : Int), 0 ≤ u → fits f u → ∀ z ∈ enc f u, 0 ≤ z ∧ z ≤ 255
  | 0, u, h, k => by simp [enc]; simp [fits] at k; omega
  | f + 1, u, h, k => by
    have := enc_bd f (u / 128) (by omega) k
    unfold enc; split
    · simp; omega
    · intro z hz
      rcases List.mem_cons.1 hz with rfl | hz
      · omega
      · exact this z hz

theorem enc_last {f : Nat} {u : Int} (h : u < 128) : enc f u = [u] := by
  cases f with
  | zero => rfl
  | succ f => simp [enc, h]

theorem enc_more {f : Nat} {u : Int} (h : 128 ≤ u) (k : fits f u) : ∃ g, f = g + 1 ∧ enc f u = (u % 128 + 128) :: enc g (u / 128) ∧ fits g (u / 128) := by
  cases f with
  | zero => simp [fits] at k; omega
  | succ f => exact ⟨f, rfl, by simp [enc, show ¬ u < 128 by omega], k⟩

/-- The bytes of a number that is folded. -/
def num (n : Int) : List Int := enc 9 (fold n)

theorem num_len (n : Int) : 1 ≤ (num n).length ∧ (num n).length ≤ 10 := enc_len 9 _
theorem num_bd (n : Int) (h0 : -9223372036854775808 ≤ n) (h1 : n ≤ 9223372036854775807) : ∀ z ∈ num n, 0 ≤ z ∧ z ≤ 255 :=
  enc_bd 9 _ (fold_bd n h0 h1).1 (fits9 _ (fold_bd n h0 h1).2)

theorem xor_max (b : Int) (h0 : 0 ≤ b) (h1 : b ≤ 18446744073709551615) : bits .xor .u64 IntKind.u64.max b = 18446744073709551615 - b := by
  obtain ⟨n, rfl⟩ := Int.eq_ofNat_of_zero_le h0
  have h2 : (BitVec.ofInt 64 (n : Int)).toNat = n := by
    rw [BitVec.ofInt_natCast, BitVec.toNat_ofNat]; exact Nat.mod_eq_of_lt (by omega)
  have h3 : BitVec.ofInt 64 (IntKind.u64.max) = BitVec.allOnes 64 := by decide
  show IntKind.u64.wrap ((BitVec.ofInt 64 (IntKind.u64.max) ^^^ BitVec.ofInt 64 (n : Int)).toNat : Int) = _
  rw [h3, BitVec.allOnes_xor, BitVec.toNat_not, h2, IntKind.wrap_u64]
  omega

theorem ref_neg {n : Int} (h0 : -9223372036854775808 ≤ n) (hn : n < 0) : bits .xor .u64 IntKind.u64.max (IntKind.u64.wrap (IntKind.u64.wrap n * 2)) = fold n := by
  rw [IntKind.wrap_u64, IntKind.wrap_u64, xor_max _ (by omega) (by omega), ← fold_neg hn]
  omega

/-- What stands at the head: the number, how many bytes, the error (0: OK, 1: ErrForm, 2: ErrMore). i bytes were read, they are worth u. -/
def get : Nat → Int → List Int → Int × Int × Int
  | _, _, [] => (0, 0, 2)
  | i, u, c :: cs => if i = 9 ∧ 1 < c then (0, 0, 1) else if 128 ≤ c then get (i + 1) (u + (c - 128) * 128 ^ i) cs else if c = 0 ∧ 0 < i then (0, 0, 1) else (unfold (u + c * 128 ^ i), i + 1, 0)

theorem pow_nat (k : Nat) : ((128 : Int) ^ k) = ((2 ^ (7 * k) : Nat) : Int) := by
  rw [Nat.pow_mul]; simp

theorem pow_int (k : Nat) : (2 : Int) ^ (7 * k) = ((2 ^ (7 * k) : Nat) : Int) := by simp

theorem and127 (c : Int) (h0 : 0 ≤ c) (h1 : c ≤ 255) : bits .and .u8 c 127 = c % 128 := bits_mask .u8 8 (by decide) wraps_u8 7 (by decide) c h0 (by omega)

theorem u64_id (n : Int) (h0 : 0 ≤ n) (h1 : n ≤ 18446744073709551615) : IntKind.u64.wrap n = n := by rw [IntKind.wrap_u64]; omega

theorem room (k : Nat) (d : Nat) (hk : k ≤ 9) (hd : d < 128) (h9 : k = 9 → d ≤ 1) : d * 2 ^ (7 * k) ≤ 9223372036854775808 := by
  by_cases h : k = 9
  · subst h
    have := h9 rfl
    have : d * 2 ^ (7 * 9) ≤ 1 * 2 ^ (7 * 9) := Nat.mul_le_mul_right _ this
    omega
  · have h8 : 7 * k ≤ 56 := by omega
    have h1 : 2 ^ (7 * k) ≤ 2 ^ 56 := Nat.pow_le_pow_right (by omega) h8
    have h2 : d * 2 ^ (7 * k) ≤ 128 * 2 ^ 56 := Nat.mul_le_mul (by omega) h1
    omega

/-- One byte more. -/
theorem or_step (t c : Int) (k : Nat) (ht0 : 0 ≤ t) (ht : t < 128 ^ k) (hc0 : 0 ≤ c) (hc : c ≤ 255) (hk : k ≤ 9) (h9 : k = 9 → c ≤ 1) :
    bits .or .u64 t (IntKind.u64.wrap (IntKind.u64.wrap (bits .and .u8 c 127) * 2 ^ (7 * k))) = t + (c % 128) * 128 ^ k := by
  rw [and127 c hc0 hc, u64_id (c % 128) (by omega) (by omega), pow_int, pow_nat]
  rw [pow_nat] at ht
  obtain ⟨T, rfl⟩ := Int.eq_ofNat_of_zero_le ht0
  obtain ⟨d, hd⟩ := Int.eq_ofNat_of_zero_le (show 0 ≤ c % 128 by omega)
  have hT : T < 2 ^ (7 * k) := by exact_mod_cast ht
  have hr := room k d hk (by omega) (by intro h; have := h9 h; omega)
  have hM : 2 ^ (7 * k) ≤ 9223372036854775808 := by
    have : 2 ^ (7 * k) ≤ 2 ^ 63 := Nat.pow_le_pow_right (by omega) (by omega)
    omega
  rw [hd]
  generalize hm : 2 ^ (7 * k) = M at *
  have e1 : ((d : Int) * (M : Int)) = ((d * M : Nat) : Int) := by simp
  rw [e1, u64_id _ (by omega) (by omega), u64_or_nat T (d * M) (by omega) (by omega)]
  have e2 : d * M = d <<< (7 * k) := by rw [Nat.shiftLeft_eq, hm]
  rw [Nat.or_comm, e2, ← Nat.shiftLeft_add_eq_or_of_lt (by omega)]
  omega

theorem step_bd (t c : Int) (k : Nat) (ht0 : 0 ≤ t) (ht : t < 128 ^ k) (hc0 : 0 ≤ c) (hk : k ≤ 9) (h9 : k = 9 → c ≤ 1) :
    0 ≤ t + (c % 128) * 128 ^ k ∧ t + (c % 128) * 128 ^ k ≤ 18446744073709551615 ∧ t + (c % 128) * 128 ^ k < 128 ^ (k + 1) := by
  have hp : (128 : Int) ^ (k + 1) = 128 * 128 ^ k := by rw [Int.pow_succ]; omega
  rw [hp]
  rw [pow_nat] at *
  obtain ⟨d, hd⟩ := Int.eq_ofNat_of_zero_le (show 0 ≤ c % 128 by omega)
  have hr := room k d hk (by omega) (by intro h; have := h9 h; omega)
  have hM : 2 ^ (7 * k) ≤ 9223372036854775808 := by
    have : 2 ^ (7 * k) ≤ 2 ^ 63 := Nat.pow_le_pow_right (by omega) (by omega)
    omega
  rw [hd]
  have h127 : d ≤ 127 := by omega
  generalize hm : 2 ^ (7 * k) = M at *
  have h3 : d * M ≤ 127 * M := Nat.mul_le_mul_right _ h127
  have e1 : ((d : Int) * (M : Int)) = ((d * M : Nat) : Int) := by simp
  rw [e1]
  omega

theorem get_end (i : Nat) (u : Int) : get i u [] = (0, 0, 2) := by simp [get]
theorem get_far {c : Int} {cs : List Int} {i : Nat} {u : Int} (h : i = 9) (hc : 1 < c) : get i u (c :: cs) = (0, 0, 1) := by simp [get, h, hc]
theorem get_more {c : Int} {cs : List Int} {i : Nat} {u : Int} (h9 : ¬ i = 9) (hc : 128 ≤ c) (hc1 : c ≤ 255) : get i u (c :: cs) = get (i + 1) (u + (c % 128) * 128 ^ i) cs := by
  have : c % 128 = c - 128 := by omega
  rw [this]; simp [get, h9, hc]
theorem get_long {c : Int} {cs : List Int} {i : Nat} {u : Int} (hi : 0 < i) (hc : c = 0) : get i u (c :: cs) = (0, 0, 1) := by simp [get, hc, hi]
theorem get_last {c : Int} {cs : List Int} {i : Nat} {u : Int} (h9 : i = 9 → c ≤ 1) (hc0 : 0 ≤ c) (hc : c < 128) (hz : c = 0 → i = 0) : get i u (c :: cs) = (unfold (u + (c % 128) * 128 ^ i), (i : Int) + 1, 0) := by
  have e : c % 128 = c := by omega
  rw [e]
  have a1 : ¬ (i = 9 ∧ 1 < c) := fun h => by have := h9 h.1; omega
  have a2 : ¬ (c = 0 ∧ 0 < i) := fun h => by have := hz h.1; omega
  simp [get, a1, a2, show ¬ 128 ≤ c by omega]

theorem unfold_bd (u : Int) (h0 : 0 ≤ u) (h1 : u ≤ 18446744073709551615) : -9223372036854775808 ≤ unfold u ∧ unfold u ≤ 9223372036854775807 := by
  unfold unfold; split <;> omega

theorem get_bd : ∀ (zs : List Int) (i : Nat) (t : Int), 0 ≤ t → t < 128 ^ i → i ≤ 9 → (∀ z ∈ zs, 0 ≤ z ∧ z ≤ 255) →
    ((get i t zs).2.2 = 0 ∧ (i : Int) + 1 ≤ (get i t zs).2.1 ∧ (get i t zs).2.1 ≤ 10 ∧ (get i t zs).2.1 ≤ i + zs.length ∧ -9223372036854775808 ≤ (get i t zs).1 ∧ (get i t zs).1 ≤ 9223372036854775807) ∨
    ((get i t zs).2.2 = 1 ∧ (get i t zs).2.1 = 0 ∧ (get i t zs).1 = 0) ∨ ((get i t zs).2.2 = 2 ∧ (get i t zs).2.1 = 0 ∧ (get i t zs).1 = 0)
  | [], i, t, _, _, _, _ => by simp [get]
  | c :: cs, i, t, h0, h1, h9, hz => by
    have hc := hz c (by simp)
    by_cases hA : i = 9 ∧ 1 < c
    · rw [get_far hA.1 hA.2]; simp
    · have hi9 : i = 9 → c ≤ 1 := fun h => by omega
      have hs := step_bd t c i h0 h1 hc.1 h9 hi9
      by_cases hB : 128 ≤ c
      · rw [get_more (by omega) hB hc.2]
        have := get_bd cs (i + 1) (t + (c % 128) * 128 ^ i) hs.1 hs.2.2 (by omega) (fun z hz' => hz z (by simp [hz']))
        simp only [List.length_cons]
        generalize get (i + 1) (t + (c % 128) * 128 ^ i) cs = r at *
        rcases this with h | h | h
        · left; exact ⟨h.1, by omega, by omega, by omega, h.2.2.2.2⟩
        · right; left; exact h
        · right; right; exact h
      · by_cases hC : c = 0 ∧ 0 < i
        · rw [get_long hC.2 hC.1]; simp
        · rw [get_last hi9 hc.1 (by omega) (fun h => by omega)]
          left
          have := unfold_bd _ hs.1 hs.2.1
          simp only [List.length_cons]
          refine ⟨trivial, by omega, by omega, by omega, this.1, this.2⟩

theorem nine_small {t u : Int} {i : Nat} (h0 : 0 ≤ t) (hU : t + u * 128 ^ i ≤ 18446744073709551615) : i = 9 → u ≤ 1 := by
  intro h
  subst h
  have e : (128 : Int) ^ 9 = 9223372036854775808 := by decide
  rw [e] at hU
  omega

theorem part_up (u : Int) (i : Nat) : u * 128 ^ i = (u % 128) * 128 ^ i + (u / 128) * 128 ^ (i + 1) := by
  have h : u = u % 128 + (u / 128) * 128 := by omega
  have e : (u % 128) * 128 ^ i + (u / 128) * 128 ^ (i + 1) = (u % 128 + (u / 128) * 128) * 128 ^ i := by
    rw [Int.pow_succ, Int.add_mul, Int.mul_assoc, Int.mul_comm (128 ^ i) 128]
  rw [e, ← h]

theorem mod_up (u : Int) : (u % 128 + 128) % 128 = u % 128 := by omega

/-- What is written is read, whatever stands behind. -/
theorem get_enc : ∀ (f : Nat) (u : Int) (i : Nat) (t : Int) (rest : List Int), 0 ≤ u → fits f u → i + f ≤ 9 → (i = 0 ∨ 0 < u) → 0 ≤ t → t < 128 ^ i → t + u * 128 ^ i ≤ 18446744073709551615 →
    get i t (enc f u ++ rest) = (unfold (t + u * 128 ^ i), (i : Int) + ((enc f u).length : Int), 0)
  | 0, u, i, t, rest, h0, hf, hi, hp, ht0, ht, hU => by
    simp [fits] at hf
    have e : enc 0 u = [u] := rfl
    rw [e]
    simp only [List.cons_append, List.nil_append, List.length_cons, List.length_nil]
    rw [get_last (nine_small ht0 hU) h0 hf (fun h => by omega)]
    rw [show u % 128 = u by omega]
    rfl
  | f + 1, u, i, t, rest, h0, hf, hi, hp, ht0, ht, hU => by
    by_cases hu : u < 128
    · rw [enc_last hu]
      simp only [List.cons_append, List.nil_append, List.length_cons, List.length_nil]
      rw [get_last (nine_small ht0 hU) h0 hu (fun h => by omega)]
      rw [show u % 128 = u by omega]
      rfl
    · have e : enc (f + 1) u = (u % 128 + 128) :: enc f (u / 128) := by simp [enc, hu]
      have hs := step_bd t u i ht0 ht h0 (by omega) (nine_small ht0 hU)
      rw [e, List.cons_append, get_more (by omega) (by omega) (by omega), mod_up]
      have hr := get_enc f (u / 128) (i + 1) (t + (u % 128) * 128 ^ i) rest (by omega) hf (by omega) (.inr (by omega)) hs.1 hs.2.2 (by
        have := part_up u i
        rw [Int.add_assoc, ← this]; exact hU)
      rw [hr]
      have := part_up u i
      rw [Int.add_assoc, ← this]
      simp only [List.length_cons]
      have e2 : ((i + 1 : Nat) : Int) + ((enc f (u / 128)).length : Int) = (i : Int) + (((enc f (u / 128)).length + 1 : Nat) : Int) := by omega
      rw [e2]

/-- What is cut off is not all there. -/
theorem get_cut : ∀ (f : Nat) (u : Int) (i : Nat) (t : Int) (m : Nat), i + f ≤ 9 → fits f u → m < (enc f u).length → get i t ((enc f u).take m) = (0, 0, 2)
  | 0, u, i, t, m, _, _, hm => by
    have : m = 0 := by simp [enc] at hm; omega
    subst this
    simp [get]
  | f + 1, u, i, t, m, hi, hf, hm => by
    cases m with
    | zero => simp [get]
    | succ m =>
      by_cases hu : u < 128
      · rw [enc_last hu] at hm; simp at hm
      · have e : enc (f + 1) u = (u % 128 + 128) :: enc f (u / 128) := by simp [enc, hu]
        rw [e] at hm ⊢
        simp only [List.length_cons] at hm
        rw [List.take_succ_cons, get_more (by omega) (by omega) (by omega)]
        exact get_cut f (u / 128) (i + 1) _ m (by omega) hf (by omega)

theorem get_num (n : Int) (h0 : -9223372036854775808 ≤ n) (h1 : n ≤ 9223372036854775807) (rest : List Int) : get 0 0 (num n ++ rest) = (n, ((num n).length : Int), 0) := by
  have hb := fold_bd n h0 h1
  have := get_enc 9 (fold n) 0 0 rest hb.1 (fits9 _ hb.2) (by omega) (.inl rfl) (by omega) (by decide) (by simpa using hb.2)
  unfold num
  rw [this]
  simp [unfold_fold]

theorem get_num_cut (n : Int) (h0 : -9223372036854775808 ≤ n) (h1 : n ≤ 9223372036854775807) (m : Nat) (hm : m < (num n).length) : get 0 0 ((num n).take m) = (0, 0, 2) :=
  get_cut 9 (fold n) 0 0 m (by omega) (fits9 _ (fold_bd n h0 h1).2) hm

/-- A text at the head: its bytes, how many bytes with its length, the error. -/
def getText (zs : List Int) : List Int × Int × Int :=
  if (get 0 0 zs).2.2 ≠ 0 then ([], 0, (get 0 0 zs).2.2)
  else if (get 0 0 zs).1 < 0 ∨ 65536 < (get 0 0 zs).1 then ([], 0, 1)
  else if (zs.length : Int) < (get 0 0 zs).2.1 + (get 0 0 zs).1 then ([], 0, 2)
  else ((zs.drop (get 0 0 zs).2.1.toNat).take (get 0 0 zs).1.toNat, (get 0 0 zs).2.1 + (get 0 0 zs).1, 0)

theorem getText_err {zs : List Int} {n k e : Int} (h : get 0 0 zs = (n, k, e)) (he : e ≠ 0) : getText zs = ([], 0, e) := by simp [getText, h, he]
theorem getText_form {zs : List Int} {n k : Int} (h : get 0 0 zs = (n, k, 0)) (hn : n < 0 ∨ 65536 < n) : getText zs = ([], 0, 1) := by simp [getText, h, hn]
theorem getText_more {zs : List Int} {n k : Int} (h : get 0 0 zs = (n, k, 0)) (hn : ¬ (n < 0 ∨ 65536 < n)) (hl : (zs.length : Int) < k + n) : getText zs = ([], 0, 2) := by simp [getText, h, hn, hl]
theorem getText_ok {zs : List Int} {n k : Int} (h : get 0 0 zs = (n, k, 0)) (hn : ¬ (n < 0 ∨ 65536 < n)) (hl : ¬ (zs.length : Int) < k + n) : getText zs = ((zs.drop k.toNat).take n.toNat, k + n, 0) := by simp [getText, h, hn, hl]

/-- A text's bytes: its length, itself. -/
def text (s : List Int) : List Int := num s.length ++ s

theorem text_len (s : List Int) : (text s).length = (num s.length).length + s.length := by simp [text]

theorem getText_text (s rest : List Int) (h : s.length ≤ 65536) : getText (text s ++ rest) = (s, ((text s).length : Int), 0) := by
  have hg := get_num (s.length : Int) (by omega) (by omega) (s ++ rest)
  have e : text s ++ rest = num s.length ++ (s ++ rest) := by simp [text]
  unfold getText
  rw [e, hg]
  have hl := text_len s
  have n2 : ¬ ((s.length : Int) < 0 ∨ 65536 < (s.length : Int)) := by omega
  have n3 : ¬ (((num s.length ++ (s ++ rest)).length : Int) < ((num s.length).length : Int) + (s.length : Int)) := by simp; omega
  simp only [ne_eq, not_true_eq_false, if_false, n2, n3, Int.toNat_natCast]
  rw [hl]
  simp

theorem getText_cut (s : List Int) (m : Nat) (h : s.length ≤ 65536) (hm : m < (text s).length) : getText ((text s).take m) = ([], 0, 2) := by
  have hl := text_len s
  by_cases h1 : m < (num s.length).length
  · have e : (text s).take m = (num s.length).take m := by
      unfold text; rw [List.take_append_of_le_length (by omega)]
    have hg := get_num_cut (s.length : Int) (by omega) (by omega) m h1
    unfold getText
    rw [e, hg]
    simp
  · have e : (text s).take m = num s.length ++ s.take (m - (num s.length).length) := by
      unfold text; rw [List.take_append, List.take_of_length_le (by omega)]
    have hg := get_num (s.length : Int) (by omega) (by omega) (s.take (m - (num s.length).length))
    unfold getText
    rw [e, hg]
    have n2 : ¬ ((s.length : Int) < 0 ∨ 65536 < (s.length : Int)) := by omega
    have n3 : (((num s.length ++ s.take (m - (num s.length).length)).length : Int) < ((num s.length).length : Int) + (s.length : Int)) := by
      simp; omega
    simp only [ne_eq, not_true_eq_false, if_false, n2, n3, if_true]

end Go.Proofs.Ytlefhhmggaaiiab.Nm
