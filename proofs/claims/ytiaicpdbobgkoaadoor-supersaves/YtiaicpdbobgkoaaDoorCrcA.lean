/-
  The mathematics of CRC-32, over natural numbers; no program is named here.
-/
import Derived.Laws.BitsAllLaws
namespace Go.Proofs.YtiaicpdbobgkoaaDoor
namespace Cr

/-- One bit. -/
def st (r : Nat) : Nat := if r % 2 = 1 then r / 2 ^^^ 3988292384 else r / 2
def st4 (r : Nat) : Nat := st (st (st (st r)))
def st8 (r : Nat) : Nat := st4 (st4 r)
def its : Nat → Nat → Nat
  | 0, r => r
  | n + 1, r => its n (st r)
/-- The bytes, one behind the other. -/
def run (r : Nat) : List Int → Nat
  | [] => r
  | z :: zs => run (st8 (r ^^^ z.toNat)) zs
theorem run_cons (r : Nat) (z : Int) (zs : List Int) : run r (z :: zs) = run (st8 (r ^^^ z.toNat)) zs := rfl
def more (s : Nat) (zs : List Int) : Nat := 4294967295 ^^^ run (4294967295 ^^^ s) zs
def sum (zs : List Int) : Nat := more 0 zs

theorem x0 (a : Nat) : 0 ^^^ a = a := Nat.zero_xor a
theorem x0' (a : Nat) : a ^^^ 0 = a := Nat.xor_zero a
theorem xcan (a b : Nat) : a ^^^ (a ^^^ b) = b := by rw [← Nat.xor_assoc, Nat.xor_self, Nat.zero_xor]
theorem x4 (a b c d : Nat) : (a ^^^ b) ^^^ (c ^^^ d) = (a ^^^ c) ^^^ (b ^^^ d) := by
  rw [Nat.xor_assoc, Nat.xor_assoc, ← Nat.xor_assoc b, ← Nat.xor_assoc c, Nat.xor_comm b c]
theorem xeq {a b : Nat} (h : a ^^^ b = 0) : a = b := by
  have := xcan a b
  rw [h, Nat.xor_zero] at this
  exact this
theorem xinj {a b c : Nat} (h : a ^^^ b = a ^^^ c) : b = c := by rw [← xcan a b, h, xcan]

theorem st_xor (a b : Nat) : st (a ^^^ b) = st a ^^^ st b := by
  unfold st
  have h := Nat.xor_mod_two_eq_one (a := a) (b := b)
  have hd := Nat.xor_div_two (a := a) (b := b)
  have hP := Nat.xor_self 3988292384
  by_cases ha : a % 2 = 1 <;> by_cases hb : b % 2 = 1 <;> simp only [ha, hb, iff_true, not_true_eq_false, iff_false, not_false_eq_true] at h
  · rw [if_neg h, if_pos ha, if_pos hb, x4, hd, hP, Nat.xor_zero]
  · rw [if_pos h, if_pos ha, if_neg hb, hd, Nat.xor_assoc, Nat.xor_assoc, Nat.xor_comm (b / 2)]
  · rw [if_pos h, if_neg ha, if_pos hb, hd, Nat.xor_assoc]
  · rw [if_neg h, if_neg ha, if_neg hb, hd]
theorem st4_xor (a b : Nat) : st4 (a ^^^ b) = st4 a ^^^ st4 b := by unfold st4; rw [st_xor, st_xor, st_xor, st_xor]
theorem st8_xor (a b : Nat) : st8 (a ^^^ b) = st8 a ^^^ st8 b := by unfold st8; rw [st4_xor, st4_xor]
theorem st_dbl (q : Nat) : st (2 * q) = q := by unfold st; rw [if_neg (by omega)]; omega
theorem st4_16 (q : Nat) : st4 (16 * q) = q := by
  unfold st4
  rw [show 16 * q = 2 * (2 * (2 * (2 * q))) by omega, st_dbl, st_dbl, st_dbl, st_dbl]
theorem st8_256 (q : Nat) : st8 (256 * q) = q := by unfold st8; rw [show 256 * q = 16 * (16 * q) by omega, st4_16, st4_16]

theorem join (k q m : Nat) (h : m < 2 ^ k) : 2 ^ k * q ^^^ m = 2 ^ k * q + m := by
  have h1 : (2 ^ k * q ^^^ m) / 2 ^ k = q := by
    rw [Nat.xor_div_two_pow, Nat.mul_div_cancel_left _ (Nat.two_pow_pos k), Nat.div_eq_of_lt h, Nat.xor_zero]
  have h2 : (2 ^ k * q ^^^ m) % 2 ^ k = m := by
    rw [Nat.xor_mod_two_pow, Nat.mul_mod_right, Nat.mod_eq_of_lt h, Nat.zero_xor]
  have := Nat.div_add_mod (2 ^ k * q ^^^ m) (2 ^ k)
  rw [h1, h2] at this
  exact this.symm

def tab : List Int := [0, 498536548, 997073096, 651767980, 1994146192, 1802195444, 1303535960, 1342533948, 3988292384, 4027552580, 3604390888, 3412177804, 2607071920, 2262029012, 2685067896, 3183342108]
theorem tab_small : ∀ m, m < 16 → (tab.getD m 0) = ((st4 m : Nat) : Int) := by decide
theorem st4_tab (r : Nat) : st4 r = r / 16 ^^^ (tab.getD (r % 16) 0).toNat := by
  rw [tab_small _ (Nat.mod_lt _ (by decide))]
  have h := join 4 (r / 16) (r % 16) (Nat.mod_lt _ (by decide))
  have e : 2 ^ 4 * (r / 16) + r % 16 = r := Nat.div_add_mod r 16
  rw [e] at h
  have h2 := st4_xor (16 * (r / 16)) (r % 16)
  have e2 : (16 * (r / 16) ^^^ r % 16) = r := h
  rw [e2, st4_16] at h2
  rw [h2]
  simp
theorem st_lt {r : Nat} (h : r < 4294967296) : st r < 4294967296 := by
  unfold st
  split
  · exact Nat.xor_lt_two_pow (n := 32) (by omega) (by omega)
  · omega
theorem st4_lt {r : Nat} (h : r < 4294967296) : st4 r < 4294967296 := st_lt (st_lt (st_lt (st_lt h)))
theorem st8_lt {r : Nat} (h : r < 4294967296) : st8 r < 4294967296 := st4_lt (st4_lt h)
theorem x_lt {a b : Nat} (h : a < 4294967296) (h' : b < 4294967296) : a ^^^ b < 4294967296 := Nat.xor_lt_two_pow (n := 32) h h'
theorem run_lt {r : Nat} : ∀ {zs : List Int}, r < 4294967296 → (∀ z ∈ zs, 0 ≤ z ∧ z ≤ 255) → run r zs < 4294967296 := by
  intro zs
  induction zs generalizing r with
  | nil => intro h _; exact h
  | cons z zs ih =>
    intro h hz
    have := hz z (by simp)
    exact ih (st8_lt (x_lt h (by omega))) (fun y hy => hz y (by simp [hy]))
theorem more_lt {s : Nat} {zs : List Int} (h : s < 4294967296) (hz : ∀ z ∈ zs, 0 ≤ z ∧ z ≤ 255) : more s zs < 4294967296 := x_lt (by decide) (run_lt (x_lt (by decide) h) hz)
theorem run_app (r : Nat) (a b : List Int) : run r (a ++ b) = run (run r a) b := by
  induction a generalizing r with
  | nil => rfl
  | cons z zs ih => exact ih _
theorem more_app (s : Nat) (a b : List Int) : more (more s a) b = more s (a ++ b) := by
  unfold more
  rw [xcan, run_app]
theorem more_sum (a b : List Int) : more (sum a) b = sum (a ++ b) := more_app 0 a b

/-- st4 is told by nought alone. -/
theorem st_zero {d : Nat} (h : d < 4294967296) (h0 : st d = 0) : d = 0 := by
  unfold st at h0
  split at h0
  · have := xeq h0
    omega
  · omega
theorem st4_zero {d : Nat} (h : d < 4294967296) (h0 : st4 d = 0) : d = 0 := st_zero h (st_zero (st_lt h) (st_zero (st_lt (st_lt h)) (st_zero (st_lt (st_lt (st_lt h))) h0)))
theorem st8_zero {d : Nat} (h : d < 4294967296) (h0 : st8 d = 0) : d = 0 := st4_zero h (st4_zero (st4_lt h) h0)
theorem st8_inj {a b : Nat} (ha : a < 4294967296) (hb : b < 4294967296) (h : st8 a = st8 b) : a = b := by
  apply xeq
  apply st8_zero (x_lt ha hb)
  rw [st8_xor, h, Nat.xor_self]

/-- The exclusive or of two bytes. -/
def xr (a b : Int) : Int := ((a.toNat ^^^ b.toNat : Nat) : Int)
theorem xr_nat (a b : Int) : (xr a b).toNat = a.toNat ^^^ b.toNat := by simp [xr]
theorem xr_bd {a b : Int} (ha : 0 ≤ a ∧ a ≤ 255) (hb : 0 ≤ b ∧ b ≤ 255) : 0 ≤ xr a b ∧ xr a b ≤ 255 := by
  have : a.toNat ^^^ b.toNat < 2 ^ 8 := Nat.xor_lt_two_pow (by omega) (by omega)
  unfold xr
  omega
theorem run_xor : ∀ (r s : Nat) (a b : List Int), a.length = b.length → run (r ^^^ s) (List.zipWith xr a b) = run r a ^^^ run s b := by
  intro r s a
  induction a generalizing r s with
  | nil => intro b h; cases b with
    | nil => rfl
    | cons => simp at h
  | cons z zs ih =>
    intro b h
    cases b with
    | nil => simp at h
    | cons y ys =>
      have e : st8 ((r ^^^ s) ^^^ (xr z y).toNat) = st8 (r ^^^ z.toNat) ^^^ st8 (s ^^^ y.toNat) := by rw [xr_nat, x4 r s, st8_xor (r ^^^ z.toNat)]
      have h' := ih (st8 (r ^^^ z.toNat)) (st8 (s ^^^ y.toNat)) ys (by simpa using h)
      rw [List.zipWith_cons_cons, run_cons, run_cons, run_cons, e]
      exact h'

theorem three (k x y z : Nat) : k ^^^ ((x ^^^ y) ^^^ z) = ((k ^^^ x) ^^^ (k ^^^ y)) ^^^ (k ^^^ z) := by
  rw [x4 k x, Nat.xor_self, Nat.zero_xor, Nat.xor_comm k, Nat.xor_comm k z, Nat.xor_assoc]
theorem run_three (k : Nat) (a b c : List Int) (h1 : a.length = b.length) (h2 : a.length = c.length) :
    run k (List.zipWith xr (List.zipWith xr a b) c) = (run k a ^^^ run k b) ^^^ run k c := by
  rw [← run_xor _ _ _ _ h1, ← run_xor _ _ _ _ (by simp; omega), Nat.xor_self, Nat.zero_xor]
theorem sum_three (a b c : List Int) (h1 : a.length = b.length) (h2 : a.length = c.length) :
    sum (List.zipWith xr (List.zipWith xr a b) c) = (sum a ^^^ sum b) ^^^ sum c := by
  unfold sum more
  generalize 4294967295 ^^^ 0 = k
  rw [run_three k a b c h1 h2]
  exact three _ _ _ _

/-- Noughts. -/
theorem run_zeros (n : Nat) : run 0 (List.replicate n 0) = 0 := by
  induction n with
  | zero => rfl
  | succ n ih => rw [List.replicate_succ]; exact ih
theorem zeros_run {r : Nat} : ∀ {n : Nat}, r < 4294967296 → run r (List.replicate n 0) = 0 → r = 0 := by
  intro n
  induction n generalizing r with
  | zero => intro _ h; exact h
  | succ n ih =>
    intro hr h
    rw [List.replicate_succ] at h
    have h' : run (st8 (r ^^^ 0)) (List.replicate n 0) = 0 := h
    rw [Nat.xor_zero] at h'
    exact st8_zero hr (ih (st8_lt hr) h')

def le : List Int → Nat
  | [] => 0
  | z :: zs => 256 * le zs + z.toNat
theorem le_lt : ∀ (x : List Int), (∀ z ∈ x, 0 ≤ z ∧ z ≤ 255) → le x < 256 ^ x.length := by
  intro x
  induction x with
  | nil => intro _; decide
  | cons z zs ih =>
    intro h
    have h1 := ih (fun y hy => h y (by simp [hy]))
    have h2 := h z (by simp)
    simp only [le, List.length_cons, Nat.pow_succ]
    omega
theorem run_le {r : Nat} : ∀ {x : List Int}, r < 4294967296 → x.length ≤ 4 → (∀ z ∈ x, 0 ≤ z ∧ z ≤ 255) → run r x = 0 → r = le x := by
  intro x
  induction x generalizing r with
  | nil => intro _ _ _ h; exact h
  | cons z zs ih =>
    intro hr hl hz h
    have hz1 := hz z (by simp)
    have hz2 : ∀ y ∈ zs, 0 ≤ y ∧ y ≤ 255 := fun y hy => hz y (by simp [hy])
    simp only [List.length_cons] at hl
    have hlt := le_lt zs hz2
    have hp : 256 ^ zs.length ≤ 256 ^ 3 := Nat.pow_le_pow_right (by decide) (by omega)
    have h1 := ih (st8_lt (x_lt hr (by omega))) (by omega) hz2 h
    have h2 : st8 (r ^^^ z.toNat) = st8 (256 * le zs) := by rw [h1, st8_256]
    have h3 := st8_inj (x_lt hr (by omega)) (by omega) h2
    have h4 : r = 256 * le zs ^^^ z.toNat := by rw [← h3, Nat.xor_assoc, Nat.xor_self, Nat.xor_zero]
    rw [h4]
    exact join 8 (le zs) z.toNat (by omega)
theorem le_zero : ∀ {x : List Int}, (∀ z ∈ x, 0 ≤ z ∧ z ≤ 255) → le x = 0 → ∀ z ∈ x, z = 0 := by
  intro x
  induction x with
  | nil => intro _ _ z hz; simp at hz
  | cons z zs ih =>
    intro h h0 y hy
    have h1 := h z (by simp)
    simp only [le] at h0
    rcases List.mem_cons.1 hy with rfl | hy
    · omega
    · exact ih (fun y hy => h y (by simp [hy])) (by omega) y hy

theorem burst (n m : Nat) (x : List Int) (hl : x.length ≤ 4) (hx : ∀ z ∈ x, 0 ≤ z ∧ z ≤ 255) (h : run 0 (List.replicate n 0 ++ x ++ List.replicate m 0) = 0) : ∀ z ∈ x, z = 0 := by
  rw [run_app, run_app, run_zeros] at h
  have h1 := zeros_run (run_lt (by decide) hx) h
  have h2 := run_le (by decide) hl hx h1
  exact le_zero hx h2.symm

/-- x laid over b at the place t, its first i bytes. -/
def over (b : List Int) (t : Nat) (x : List Int) : Nat → List Int
  | 0 => b
  | i + 1 => (over b t x i).set (t + i) (xr ((over b t x i).getD (t + i) 0) (x.getD i 0))
theorem over_len (b : List Int) (t : Nat) (x : List Int) (i : Nat) : (over b t x i).length = b.length := by
  induction i with
  | zero => rfl
  | succ i ih => simp [over, ih]
theorem getD_set (l : List Int) (k j : Nat) (v : Int) (hk : k < l.length) : (l.set k v).getD j 0 = if j = k then v else l.getD j 0 := by
  simp only [List.getD, List.getElem?_set]
  by_cases h : j = k
  · subst h; simp [hk]
  · simp [h, Ne.symm h]
theorem over_get (b : List Int) (t : Nat) (x : List Int) (ht : t + x.length ≤ b.length) (i : Nat) (hi : i ≤ x.length) (j : Nat) :
    (over b t x i).getD j 0 = if t ≤ j ∧ j < t + i then xr (b.getD j 0) (x.getD (j - t) 0) else b.getD j 0 := by
  induction i with
  | zero => rw [if_neg (by omega)]; rfl
  | succ i ih =>
    have ih' := ih (by omega)
    rw [over, getD_set _ _ _ _ (by rw [over_len]; omega)]
    by_cases h : j = t + i
    · subst h
      rw [if_pos rfl, if_pos (by omega), ih', if_neg (by omega), Nat.add_sub_cancel_left]
    · rw [if_neg h, ih']
      by_cases h2 : t ≤ j ∧ j < t + i
      · rw [if_pos h2, if_pos (by omega)]
      · rw [if_neg h2, if_neg (by omega)]
theorem over_bd {b : List Int} {t : Nat} {x : List Int} (hb : ∀ z ∈ b, 0 ≤ z ∧ z ≤ 255) (hx : ∀ z ∈ x, 0 ≤ z ∧ z ≤ 255) (ht : t + x.length ≤ b.length) (i : Nat) (hi : i ≤ x.length) : ∀ z ∈ over b t x i, 0 ≤ z ∧ z ≤ 255 := by
  have hat : ∀ (l : List Int) (j : Nat), (∀ z ∈ l, 0 ≤ z ∧ z ≤ 255) → 0 ≤ l.getD j 0 ∧ l.getD j 0 ≤ 255 := by
    intro l j h
    by_cases hj : j < l.length
    · have : l.getD j 0 = l[j] := by simp [List.getD, List.getElem?_eq_getElem hj]
      rw [this]
      exact h _ (List.getElem_mem hj)
    · have : l.getD j 0 = 0 := by simp [List.getD, List.getElem?_eq_none (Nat.le_of_not_lt hj)]
      rw [this]; decide
  intro z hz
  obtain ⟨j, hj, rfl⟩ := List.getElem_of_mem hz
  have h1 : (over b t x i)[j] = (over b t x i).getD j 0 := by simp [List.getD, List.getElem?_eq_getElem hj]
  rw [h1, over_get b t x ht i hi]
  split
  · exact xr_bd (hat _ _ hb) (hat _ _ hx)
  · exact hat _ _ hb
theorem over_zip (b : List Int) (t : Nat) (x : List Int) (hx : ∀ z ∈ x, 0 ≤ z ∧ z ≤ 255) (ht : t + x.length ≤ b.length) :
    List.zipWith xr b (over b t x x.length) = List.replicate t 0 ++ x ++ List.replicate (b.length - (t + x.length)) 0 := by
  apply List.ext_getElem
  · simp [over_len]; omega
  · intro j h1 h2
    have hj : j < b.length := by simp at h1; omega
    have hj2 : j < (over b t x x.length).length := by rw [over_len]; exact hj
    have e0 : (over b t x x.length)[j] = (over b t x x.length).getD j 0 := by simp [List.getD, List.getElem?_eq_getElem hj2]
    have eb : b.getD j 0 = b[j] := by simp [List.getD, List.getElem?_eq_getElem hj]
    rw [List.getElem_zipWith, e0, over_get b t x ht _ (Nat.le_refl _), eb]
    by_cases h : t ≤ j ∧ j < t + x.length
    · have hk : j - t < x.length := by omega
      have ex : x.getD (j - t) 0 = x[j - t] := by simp [List.getD, List.getElem?_eq_getElem hk]
      rw [if_pos h, ex, List.getElem_append_left (by simp; omega), List.getElem_append_right (by simp; omega)]
      have := hx x[j - t] (List.getElem_mem hk)
      unfold xr
      simp only [Int.toNat_natCast, List.length_replicate]
      rw [xcan]
      omega
    · rw [if_neg h]
      have ez : xr b[j] b[j] = 0 := by simp [xr]
      rw [ez]
      by_cases h3 : j < t
      · rw [List.getElem_append_left (by simp; omega), List.getElem_append_left (by simp; omega)]; simp
      · rw [List.getElem_append_right (by simp; omega)]; simp
theorem sum_over (b : List Int) (t : Nat) (x : List Int) (hl : x.length ≤ 4) (hx : ∀ z ∈ x, 0 ≤ z ∧ z ≤ 255) (ht : t + x.length ≤ b.length) (h : sum b = sum (over b t x x.length)) : ∀ z ∈ x, z = 0 := by
  have h1 := xinj h
  have h2 := run_xor (4294967295 ^^^ 0) (4294967295 ^^^ 0) b (over b t x x.length) (over_len ..).symm
  rw [h1, Nat.xor_self, Nat.xor_self, over_zip b t x hx ht] at h2
  exact burst _ _ x hl hx h2

/-- A row of noughts that is filled from its beginning. -/
def fill (D : List Int) (k : Nat) : List Int := D.take k ++ List.replicate (D.length - k) 0
theorem fill_zero (D : List Int) : fill D 0 = List.replicate D.length 0 := by simp [fill]
theorem fill_all (D : List Int) : fill D D.length = D := by simp [fill]
theorem fill_len (D : List Int) (k : Nat) (h : k ≤ D.length) : (fill D k).length = D.length := by simp [fill]; omega
theorem fill_set (D : List Int) (k : Nat) (h : k < D.length) : (fill D k).set k (D.getD k 0) = fill D (k + 1) := by
  unfold fill
  have e1 : D.length - k = (D.length - (k + 1)) + 1 := by omega
  have e2 : D.getD k 0 = D[k] := by simp [List.getD, List.getElem?_eq_getElem h]
  rw [List.set_append_right _ _ (by simp; omega), e1, List.replicate_succ, e2, List.take_succ_eq_append_getElem h, List.append_assoc]
  have e3 : k - (D.take k).length = 0 := by simp; omega
  rw [e3]
  rfl
theorem zip_getD (a b : List Int) (k : Nat) (h1 : k < a.length) (h2 : k < b.length) : (List.zipWith xr a b).getD k 0 = xr (a.getD k 0) (b.getD k 0) := by
  simp [List.getD, List.getElem?_zipWith, List.getElem?_eq_getElem h1, List.getElem?_eq_getElem h2]
theorem take_getD (a : List Int) (n k : Nat) (h : k < n) : (a.take n).getD k 0 = a.getD k 0 := by simp [List.getD, List.getElem?_take_of_lt h]
theorem zip_bd {a b : List Int} (ha : ∀ z ∈ a, 0 ≤ z ∧ z ≤ 255) (hb : ∀ z ∈ b, 0 ≤ z ∧ z ≤ 255) : ∀ z ∈ List.zipWith xr a b, 0 ≤ z ∧ z ≤ 255 := by
  intro z hz
  obtain ⟨j, hj, rfl⟩ := List.getElem_of_mem hz
  rw [List.getElem_zipWith]
  exact xr_bd (ha _ (List.getElem_mem _)) (hb _ (List.getElem_mem _))
theorem x8 {a b : Int} (ha : 0 ≤ a ∧ a ≤ 255) (hb : 0 ≤ b ∧ b ≤ 255) : bits .xor .u8 a b = xr a b := u8_xor a b ha.1 (by omega) hb.1 (by omega)
end Cr
end Go.Proofs.YtiaicpdbobgkoaaDoor
