/-
  Bits of a page, as mathematics; contracts of alloc.bit, is, mayBegin, used, read, OnesCount8.
-/
import Derived.Test.YtiggannhanfolaaShtT
import Derived.Deep.QuietTactic
import Derived.BigQuiet
namespace Go.Proofs.Ytiggannhanfolaa
set_option maxRecDepth 100000
set_option linter.unusedVariables false
open Go.RowKit
set_option linter.unusedVariables false

theorem below_dn {B : Nat} {w w' : World} (h : Below B w w') (n : Nat) : Below B w (w'.drewN n) := h.trans ⟨rfl, rfl, rfl, Nat.le_refl _, fun _ _ => rfl⟩

/-- How many bits are set. -/
def pc (n : Nat) : Nat := (List.range 8).countP fun k => n.testBit k

theorem tab_at (t : ByteArray) (n : Nat) (h : n < t.size) : t[n] = t.data.toList.getD n 0 := by
  have h' : n < t.data.toList.length := by simpa using h
  rw [List.getD_eq_getElem?_getD, List.getElem?_eq_getElem h']
  rfl

theorem pops_any (w : World) (n : Nat) (hn : n < 256) : Calls Try.prog 27 #[.int .u8 (n : Int)] w fun e w' => e = .returned (.int .i64 (pc n : Int)) ∧ w' = w := by
  have h0 : 0 ≤ (n : Int) ∧ (n : Int) < 256 := by omega
  go_enter Try.func27, Try.ntmps27
  go_wp2_with fail
  go_ret
  refine ⟨ret_int ?_, rfl⟩
  simp only [tab_at]
  obtain ⟨i, rfl⟩ : ∃ i : Fin 256, (i : Nat) = n := ⟨⟨n, hn⟩, rfl⟩
  clear h0 hn
  revert i
  decide +kernel

theorem bit_any (w : World) (no : Nat) : Calls Try.prog 22 #[.int .i64 (no : Int)] w fun e w' => e = .returned (.int .u8 ((2 ^ (no % 8) : Nat) : Int)) ∧ w' = w := by
  go_enter Try.func22, Try.ntmps22
  go_wp2_with fail
  go_ret
  refine ⟨ret_int ?_, rfl⟩
  have h1 : 2 ^ (no % 8) < 256 := Nat.lt_of_lt_of_le (Nat.pow_lt_pow_right (by omega) (Nat.mod_lt no (by omega))) (Nat.le_refl _)
  have h2 : (2 : Int) ^ (no % 8) = ((2 ^ (no % 8) : Nat) : Int) := (Int.natCast_pow 2 (no % 8)).symm
  rw [h2]
  clear h2
  generalize 2 ^ (no % 8) = m at *
  omega

theorem ais_any (w : World) (z : Int) : Calls Try.prog 20 #[.int .i64 z] w fun e w' => e = .returned (.bool (decide (2 ≤ z) && decide (z < 32))) ∧ w' = w := by
  by_cases h0 : 2 ≤ z
  · have h1 : decide (2 ≤ z) = true := by simpa using h0
    go_enter Try.func20, Try.ntmps20
    go_wp2_with fail
    go_ret
    exact ⟨ret_bool (by simp [h1]), rfl⟩
  · have h1 : decide (2 ≤ z) = false := by simpa using h0
    go_enter Try.func20, Try.ntmps20
    go_wp2_with fail
    go_ret
    exact ⟨ret_bool (by simp), rfl⟩

/-- Where a tree may begin. -/
def mb (z : Int) : Bool := z == 0 || (decide (2 ≤ z) && decide (z < 32))
theorem mayb_any (w : World) (z : Int) : Calls Try.prog 26 #[.int .i64 z] w fun e w' => e = .returned (.bool (mb z)) ∧ w' = w := by
  by_cases h0 : z = 0
  · subst h0
    go_enter Try.func26, Try.ntmps26
    go_wp2_with fail
    go_ret
    exact ⟨rfl, rfl⟩
  · have h1 : (z == 0) = false := by simpa using h0
    go_enter Try.func26, Try.ntmps26
    go_wp2_with fail
    refine (ais_any _ _).mono ?_
    rintro e w ⟨rfl, rfl⟩
    go_wp2_with fail
    go_ret
    exact ⟨ret_bool (by simp [mb, h1]), rfl⟩

/-- The page no is in use, the bytes say. -/
def us (zs : List Int) (no : Nat) : Bool := (zs.getD (no / 8) 0).toNat.testBit (no % 8)

theorem pow_int (k : Nat) : (2 : Int) ^ k = ((2 ^ k : Nat) : Int) := (Int.natCast_pow 2 k).symm

theorem and_bit {x : Int} (h0 : 0 ≤ x) (h1 : x ≤ 255) {k : Nat} (hk : k < 8) : (bits .and .u8 x (2 ^ k) != 0) = x.toNat.testBit k := by
  have : ∀ (n : Fin 256) (k : Fin 8), (bits .and .u8 ((n : Nat) : Int) ((2 ^ (k : Nat) : Nat) : Int) != 0) = (n : Nat).testBit k := by decide +kernel
  obtain ⟨n, rfl⟩ := Int.eq_ofNat_of_zero_le h0
  rw [pow_int]
  exact this ⟨n, by omega⟩ ⟨k, hk⟩

/-- A byte with a bit set, without it. -/
def orb (x : Int) (k : Nat) : Int := ((x.toNat ||| 2 ^ k : Nat) : Int)
def anb (x : Int) (k : Nat) : Int := ((x.toNat &&& (255 - 2 ^ k) : Nat) : Int)

theorem or_bit {x : Int} (h0 : 0 ≤ x) (h1 : x ≤ 255) {k : Nat} (hk : k < 8) : bits .or .u8 x (2 ^ k) = orb x k ∧ 0 ≤ orb x k ∧ orb x k ≤ 255 ∧ ∀ j, j < 8 → (orb x k).toNat.testBit j = (j == k || x.toNat.testBit j) := by
  have : ∀ (n : Fin 256) (k : Fin 8), bits .or .u8 ((n : Nat) : Int) ((2 ^ (k : Nat) : Nat) : Int) = orb ((n : Nat) : Int) k ∧ orb ((n : Nat) : Int) k ≤ 255 ∧ ∀ j : Fin 8, (orb ((n : Nat) : Int) k).toNat.testBit j = ((j : Nat) == (k : Nat) || (n : Nat).testBit j) := by decide +kernel
  obtain ⟨n, rfl⟩ := Int.eq_ofNat_of_zero_le h0
  obtain ⟨q1, q2, q3⟩ := this ⟨n, by omega⟩ ⟨k, hk⟩
  rw [pow_int]
  exact ⟨q1, Int.natCast_nonneg _, q2, fun j hj => q3 ⟨j, hj⟩⟩

theorem an_bit {x : Int} (h0 : 0 ≤ x) (h1 : x ≤ 255) {k : Nat} (hk : k < 8) : bits .andNot .u8 x (2 ^ k) = anb x k ∧ 0 ≤ anb x k ∧ anb x k ≤ 255 ∧ ∀ j, j < 8 → (anb x k).toNat.testBit j = (j != k && x.toNat.testBit j) := by
  have : ∀ (n : Fin 256) (k : Fin 8), bits .andNot .u8 ((n : Nat) : Int) ((2 ^ (k : Nat) : Nat) : Int) = anb ((n : Nat) : Int) k ∧ anb ((n : Nat) : Int) k ≤ 255 ∧ ∀ j : Fin 8, (anb ((n : Nat) : Int) k).toNat.testBit j = ((j : Nat) != (k : Nat) && (n : Nat).testBit j) := by decide +kernel
  obtain ⟨n, rfl⟩ := Int.eq_ofNat_of_zero_le h0
  obtain ⟨q1, q2, q3⟩ := this ⟨n, by omega⟩ ⟨k, hk⟩
  rw [pow_int]
  exact ⟨q1, Int.natCast_nonneg _, q2, fun j hj => q3 ⟨j, hj⟩⟩

/-- A page's mark, set and struck. -/
def mark (zs : List Int) (a : Nat) : List Int := zs.set (a / 8) (orb (zs.getD (a / 8) 0) (a % 8))
def strike (zs : List Int) (a : Nat) : List Int := zs.set (a / 8) (anb (zs.getD (a / 8) 0) (a % 8))

theorem pg_at {zs : List Int} (h : Pg zs) {i : Nat} (hi : i < 256) : 0 ≤ zs.getD i 0 ∧ zs.getD i 0 ≤ 255 := by
  rw [getD_at (by rw [h.1]; exact hi)]
  exact h.2 _ (List.getElem_mem _)
theorem pg_set {zs : List Int} (h : Pg zs) (i : Nat) {x : Int} (h0 : 0 ≤ x ∧ x ≤ 255) : Pg (zs.set i x) :=
  ⟨by rw [List.length_set]; exact h.1, fun z hz => by
    rcases List.mem_or_eq_of_mem_set hz with hz | rfl
    · exact h.2 z hz
    · exact h0⟩
theorem getD_seti (zs : List Int) (i j : Nat) (v : Int) (hi : i < zs.length) : (zs.set i v).getD j 0 = if j = i then v else zs.getD j 0 := by
  by_cases h : j = i
  · subst h; simp [List.getD, hi]
  · simp [List.getD, h, show ¬ i = j from fun e => h e.symm]
theorem mark_pg {zs : List Int} (h : Pg zs) {a : Nat} (ha : a < 2048) : Pg (mark zs a) := by
  have hb := pg_at h (i := a / 8) (by omega)
  obtain ⟨-, q1, q2, -⟩ := or_bit hb.1 hb.2 (k := a % 8) (by omega)
  exact pg_set h _ ⟨q1, q2⟩
theorem strike_pg {zs : List Int} (h : Pg zs) {a : Nat} (ha : a < 2048) : Pg (strike zs a) := by
  have hb := pg_at h (i := a / 8) (by omega)
  obtain ⟨-, q1, q2, -⟩ := an_bit hb.1 hb.2 (k := a % 8) (by omega)
  exact pg_set h _ ⟨q1, q2⟩
theorem same_bit {a b : Nat} (h : a / 8 = b / 8) : (a % 8 == b % 8) = (a == b) := by
  rw [Bool.eq_iff_iff]
  simp
  omega
theorem us_mark {zs : List Int} (h : Pg zs) {a b : Nat} (ha : a < 2048) : us (mark zs a) b = (b == a || us zs b) := by
  have hb := pg_at h (i := a / 8) (by omega)
  obtain ⟨-, -, -, q3⟩ := or_bit hb.1 hb.2 (k := a % 8) (by omega)
  unfold us mark
  rw [getD_seti _ _ _ _ (by rw [h.1]; omega)]
  by_cases e : b / 8 = a / 8
  · rw [if_pos e, q3 _ (by omega), same_bit e, e]
  · rw [if_neg e, show (b == a) = false by simp; rintro rfl; exact e rfl]
    rfl
theorem us_strike {zs : List Int} (h : Pg zs) {a b : Nat} (ha : a < 2048) : us (strike zs a) b = (b != a && us zs b) := by
  have hb := pg_at h (i := a / 8) (by omega)
  obtain ⟨-, -, -, q3⟩ := an_bit hb.1 hb.2 (k := a % 8) (by omega)
  unfold us strike
  rw [getD_seti _ _ _ _ (by rw [h.1]; omega)]
  by_cases e : b / 8 = a / 8
  · rw [if_pos e, q3 _ (by omega), bne, same_bit e, e]
    rfl
  · rw [if_neg e, show (b != a) = true by simp; rintro rfl; exact e rfl]
    rfl
theorem mark_at {zs : List Int} (h : Pg zs) {a i : Nat} (ha : a < 2048) (hi : i ≠ a / 8) : (mark zs a).getD i 0 = zs.getD i 0 := by
  unfold mark
  rw [getD_seti _ _ _ _ (by rw [h.1]; omega), if_neg hi]
theorem strike_at {zs : List Int} (h : Pg zs) {a i : Nat} (ha : a < 2048) (hi : i ≠ a / 8) : (strike zs a).getD i 0 = zs.getD i 0 := by
  unfold strike
  rw [getD_seti _ _ _ _ (by rw [h.1]; omega), if_neg hi]

set_option maxHeartbeats 1000000 in
theorem used_any {w : World} {v : Value} {zs : List Int} (h : Sl w v zs) (hl : zs.length = 256) (no : Nat) (hno : no < 2048) :
    Calls Try.prog 21 #[v, .int .i64 (no : Int)] w fun e w' => e = .returned (.bool (us zs no)) ∧ ∃ n, w' = w.drewN n := by
  obtain ⟨p, n, cp, rfl, hnc, hcp, Hn, HV⟩ := h.opens
  obtain rfl : n = 256 := by rw [Hn.out, hl]
  have h8 : no / 8 < 256 := by omega
  obtain ⟨b, off, rfl, hc, hc0, hc1⟩ := HV.out.cell (i := no / 8) h8
  have HU : Hid (us zs no = (zs.getD (no / 8) 0).toNat.testBit (no % 8)) := rfl
  generalize zs.getD (no / 8) 0 = x at *
  have HX := hide (and_bit hc0 hc1 (k := no % 8) (by omega))
  generalize hk : no / 8 = k at *
  have h1 : (no : Int) / 8 = (k : Int) := by omega
  have h2 : (k : Int) < 256 := by omega
  go_enter Try.func21, Try.ntmps21
  go_wp2_with fail
  go_quiet ((go_at_call 22; exact Calls.quiet_of_same (bit_any _ no)))
  go_wp2_with fail
  go_ret
  exact ⟨ret_bool (by rw [HU.out, HX.out]), _, rfl⟩

set_option maxHeartbeats 1000000 in
theorem aread_any {w : World} {u : Value} {f : Nat → Option (List Int)} (hs : Src w u f) : Calls Try.prog 19 #[u] w fun e w' => Rep w w' e (f 1) := by
  generalize hfr : f 1 = fr
  rcases hs with ⟨rfl, hf⟩ | ⟨T, K, p, rfl, hm, hc, hs⟩
  · obtain rfl : none = fr := by rw [← hfr, hf]
    clear hf hfr
    go_enter Try.func19, Try.ntmps19
    go_wp2_with fail
    go_ret2
    exact ⟨rfl, Below.refl _ _⟩
  · have he : ∀ W : World, (binOp .eql 53 (.iface T p) .nilIface).run Try.prog W = .ok (.bool false) W := fun _ => rfl
    replace hs := hs w (Below.refl _ _) 1 (by omega)
    rw [hfr] at hs
    clear hfr
    go_enter Try.func19, Try.ntmps19
    go_wp2_with fail
    refine hs.mono ?_
    rintro e W' hr
    clear hs
    cases fr with
    | none =>
      obtain ⟨rfl, hb⟩ := hr
      have HB := hide hb
      clear hb
      go_wp2_with fail
      go_ret2
      exact ⟨rfl, HB.out⟩
    | some zs =>
      have HR := hide hr
      obtain ⟨v, rfl, ho, -⟩ := hr
      obtain ⟨b, c, us, rfl, -, hc0, hc1, -, -⟩ := own_row ho
      clear ho
      go_wp2_with fail
      go_ret2
      exact HR.out
end Go.Proofs.Ytiggannhanfolaa
