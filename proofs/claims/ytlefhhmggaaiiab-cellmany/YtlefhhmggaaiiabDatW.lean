/-
  Contracts of datum.May and datum.Eq over the translated program.
-/
import Derived.Test.YtlefhhmggaaiiabDatA
import Derived.Test.YtlefhhmggaaiiabFltC
import Derived.Test.YtlefhhmggaaiiabFltP
import Derived.Deep.QuietTactic
import Derived.BigQuiet
namespace Go.Proofs.Ytlefhhmggaaiiab
open Go.RowKit

set_option maxHeartbeats 400000 in
theorem sameBits_any (x y : Nat) (w : World) :
    Calls Try.prog 44 #[.float .f64 x, .float .f64 y] w fun e w' => e = .returned (.bool (decide (x = y))) ∧ w' = w := by
  have kb := run_bits
  go_enter Try.func44, Try.ntmps44
  go_wp2_with fail
  go_ret
  exact ⟨ret_bool (beq_nat _ _), rfl⟩

theorem below_dn {B : Nat} {a w : World} (h : Below B a w) (n : Nat) : Below B a (w.drewN n) := h.trans ⟨rfl, rfl, rfl, Nat.le_refl _, fun _ _ => rfl⟩

theorem str_empty (s : ByteArray) : s.toList.isEmpty = decide (s.size = 0) := by
  rw [ByteArray.toList_eq]
  have : s.size = s.data.toList.length := by simp
  rw [this]
  cases s.data.toList <;> rfl

theorem may_0 (x : Nat) (s : ByteArray) : Dt.may 0 x s = (decide (x = 0) && s.toList.isEmpty) := by rw [str_empty]; simp [Dt.may]
theorem may_1 (x : Nat) (s : ByteArray) : Dt.may 1 x s = (decide (x = Fl.cl x) && s.toList.isEmpty) := by rw [str_empty]; simp [Dt.may]
theorem may_2 (x : Nat) (s : ByteArray) : Dt.may 2 x s = (decide (x = 0) && decide ((s.size : Int) ≤ 20)) := by
  simp [Dt.may]
  congr 1
  rw [decide_eq_decide]
  omega
theorem may_other {k : Int} (x : Nat) (s : ByteArray) (h0 : ¬ k = 0) (h1 : ¬ k = 1) (h2 : ¬ k = 2) : Dt.may k x s = false := by simp [Dt.may, h0, h1, h2]

set_option maxHeartbeats 1000000 in
theorem may_any (k : Int) (x : Nat) (s : ByteArray) (w : World) (_hs : s.size ≤ maxLen) :
    Calls Try.prog 30 #[.agg #[.int .i64 k, .float .f64 x, .string s]] w fun e w' => e = .returned (.bool (Dt.may k x s)) ∧ Below w.heap.size w w' := by
  unfold maxLen at _hs
  have hB : Below w.heap.size w (w.alloc (Obj.cells #[Value.int IntKind.i64 k, Value.float FloatKind.f64 x, Value.string s] 27)) := (Below.refl _ _).alloc (Nat.le_refl _) _
  by_cases h0 : k = 0
  · subst h0
    have HM := hide (may_0 x s)
    cases hb : decide (x = 0)
    all_goals
      have HB := hide hb
      clear hb
      go_enter Try.func30, Try.ntmps30
      go_wp2_with fail
      with_reducible refine (sameBits_any x 0 _).mono ?_
      rintro e x ⟨rfl, rfl⟩
      rw [HB.out]
      go_wp2_with fail
      go_ret
      exact ⟨ret_bool (by rw [HM.out, HB.out]; rfl), hB⟩
  · by_cases h1 : k = 1
    · subst h1
      have HM := hide (may_1 x s)
      clear h0
      cases hb : decide (x = Fl.cl x)
      all_goals
        have HB := hide hb
        clear hb
        go_enter Try.func30, Try.ntmps30
        go_wp2_with fail
        go_quiet ((first | (go_at_call 45; exact Calls.quiet_of_same (clean_any x _)) | (go_at_call 44; exact Calls.quiet_of_same (by have := sameBits_any x (Fl.cl x); rw [HB.out] at this; exact this _))))
        go_wp2_with fail
        go_ret
        exact ⟨ret_bool (by rw [HM.out, HB.out]; rfl), below_dn hB _⟩
    · by_cases h2 : k = 2
      · subst h2
        have HM := hide (may_2 x s)
        clear h0 h1
        cases hb : decide (x = 0)
        all_goals
          have HB := hide hb
          clear hb
          go_enter Try.func30, Try.ntmps30
          go_wp2_with fail
          with_reducible refine (sameBits_any x 0 _).mono ?_
          rintro e x ⟨rfl, rfl⟩
          rw [HB.out]
          go_wp2_with fail
          go_ret
          exact ⟨ret_bool (by rw [HM.out, HB.out]; first | rfl | (simp; done)), hB⟩
      · have HM := hide (may_other x s h0 h1 h2)
        have h0' : (k == 0) = false := by simp; exact h0
        have h1' : (k == 1) = false := by simp; exact h1
        have h2' : (k == 2) = false := by simp; exact h2
        clear h0 h1 h2
        go_enter Try.func30, Try.ntmps30
        go_wp2_with fail
        go_ret
        exact ⟨ret_bool (by rw [HM.out]), hB⟩

set_option maxHeartbeats 1000000 in
theorem refMay_any (k : Int) (x : Nat) (s : ByteArray) (w : World) (_hs : s.size ≤ maxLen) (hx : x < 18446744073709551616) :
    Calls Try.prog 21 #[.agg #[.int .i64 k, .float .f64 x, .string s]] w fun e w' => e = .returned (.bool (Dt.may k x s)) ∧ Below w.heap.size w w' := by
  unfold maxLen at _hs
  have hB : Below w.heap.size w (w.alloc (Obj.cells #[Value.int IntKind.i64 k, Value.float FloatKind.f64 x, Value.string s] 27)) := (Below.refl _ _).alloc (Nat.le_refl _) _
  by_cases h0 : k = 0
  · subst h0
    have HM := hide (may_0 x s)
    cases hb : decide (x = 0)
    all_goals
      have HB := hide hb
      have hb' : ((x : Int) == 0) = _ := (beq_nat x 0).trans hb
      clear hb
      go_enter Try.func21, Try.ntmps21
      go_wp2_with fail
      with_reducible refine (bits_any x _).mono ?_
      rintro e x ⟨rfl, rfl⟩
      go_wp2_with fail
      go_ret
      exact ⟨ret_bool (by rw [HM.out, HB.out]; rfl), hB⟩
  · by_cases h1 : k = 1
    · subst h1
      have HM := hide (may_1 x s)
      clear h0
      cases he : s.toList.isEmpty
      all_goals
        have HE := hide he
        go_enter Try.func21, Try.ntmps21
        go_wp2_with fail
        go_quiet ((first | (go_at_call 35; exact Calls.quiet_of_same (refClean_any x _ hx)) | (go_at_call 34; exact Calls.quiet_of_same (eq_any (Fl.cl x) x _))))
        go_wp2_with fail
        go_ret
        exact ⟨ret_bool (by rw [HM.out, HE.out]; simp [eq_comm]), below_dn hB _⟩
    · by_cases h2 : k = 2
      · subst h2
        have HM := hide (may_2 x s)
        clear h0 h1
        cases hb : decide (x = 0)
        all_goals
          have HB := hide hb
          have hb' : ((x : Int) == 0) = _ := (beq_nat x 0).trans hb
          clear hb
          go_enter Try.func21, Try.ntmps21
          go_wp2_with fail
          with_reducible refine (bits_any x _).mono ?_
          rintro e x ⟨rfl, rfl⟩
          go_wp2_with fail
          go_ret
          exact ⟨ret_bool (by rw [HM.out, HB.out]; first | rfl | (simp; done)), hB⟩
      · have HM := hide (may_other x s h0 h1 h2)
        have h0' : (k == 0) = false := by simp; exact h0
        have h1' : (k == 1) = false := by simp; exact h1
        have h2' : (k == 2) = false := by simp; exact h2
        clear h0 h1 h2
        go_enter Try.func21, Try.ntmps21
        go_wp2_with fail
        go_ret
        exact ⟨ret_bool (by rw [HM.out]), hB⟩

/-- Two texts held against one another. -/
theorem str_same (s t : ByteArray) : (s.toList == t.toList) = decide (s = t) := by
  rw [Bool.eq_iff_iff]
  simp only [beq_iff_eq, decide_eq_true_eq]
  constructor
  · intro q
    apply ByteArray.ext
    apply Array.toList_inj.1
    rw [← ByteArray.toList_eq, ← ByteArray.toList_eq, q]
  · intro q
    rw [q]

theorem eq_k {k : Int} (x : Nat) (s : ByteArray) {l : Int} (y : Nat) (t : ByteArray) (h : (k == l) = false) : Dt.eq k x s l y t = false := by
  unfold Dt.eq
  simp at h
  simp [h]
theorem eq_s {k : Int} (x : Nat) {s : ByteArray} {l : Int} (y : Nat) {t : ByteArray} (h : (s.toList == t.toList) = false) : Dt.eq k x s l y t = false := by
  rw [str_same] at h
  simp at h
  simp [Dt.eq, h]
theorem eq_x {k : Int} {x : Nat} {s : ByteArray} {l : Int} {y : Nat} {t : ByteArray} (h : (k == l) = true) (g : (s.toList == t.toList) = true) : Dt.eq k x s l y t = decide (Fl.rk x = Fl.rk y) := by
  rw [str_same] at g
  simp at h g
  simp [Dt.eq, h, g]

set_option maxHeartbeats 1000000 in
theorem eqv_any (k : Int) (x : Nat) (s : ByteArray) (l : Int) (y : Nat) (t : ByteArray) (w : World) (hx : x < 18446744073709551616) (hy : y < 18446744073709551616) :
    Calls Try.prog 32 #[.agg #[.int .i64 k, .float .f64 x, .string s], .agg #[.int .i64 l, .float .f64 y, .string t]] w fun e w' => e = .returned (.bool (Dt.eq k x s l y t)) ∧ Below w.heap.size w w' := by
  have hB : Below w.heap.size w ((w.alloc (Obj.cells #[Value.int IntKind.i64 k, Value.float FloatKind.f64 x, Value.string s] 27)).alloc (Obj.cells #[Value.int IntKind.i64 l, Value.float FloatKind.f64 y, Value.string t] 27)) := ((Below.refl _ _).alloc (Nat.le_refl _) _).alloc (by simp) _
  cases hk : (k == l)
  · have HM := hide (eq_k x s y t hk)
    go_enter Try.func32, Try.ntmps32
    go_wp2_with fail
    go_ret
    exact ⟨ret_bool (by rw [HM.out]), hB⟩
  · cases hs : (s.toList == t.toList)
    · have HM := hide (eq_s (k := k) (l := l) x y hs)
      go_enter Try.func32, Try.ntmps32
      go_wp2_with fail
      go_ret
      exact ⟨ret_bool (by rw [HM.out]), hB⟩
    · have HM := hide (eq_x (x := x) (y := y) hk hs)
      go_enter Try.func32, Try.ntmps32
      go_wp2_with fail
      with_reducible refine (same_any x y _ hx hy).mono ?_
      rintro e x ⟨rfl, rfl⟩
      go_wp2_with fail
      go_ret
      exact ⟨ret_bool (by rw [HM.out]), hB⟩

/-- Where a float stands. -/
def pl (x : Nat) : Int := (Fl.rk x : Int) - 9223372036854775808

theorem place_pl (x : Nat) (w : World) (hx : x < 18446744073709551616) :
    Calls Try.prog 43 #[.float .f64 x] w fun e w' => e = .returned (.int .i64 (pl x)) ∧ w' = w := place_any x w hx

theorem rk_place (x y : Nat) : (pl x == pl y) = decide (Fl.rk x = Fl.rk y) := by
  unfold pl
  rw [Bool.eq_iff_iff]
  simp
  omega

set_option maxHeartbeats 1000000 in
theorem refEq_any (k : Int) (x : Nat) (s : ByteArray) (l : Int) (y : Nat) (t : ByteArray) (w : World) (hx : x < 18446744073709551616) (hy : y < 18446744073709551616) :
    Calls Try.prog 27 #[.agg #[.int .i64 k, .float .f64 x, .string s], .agg #[.int .i64 l, .float .f64 y, .string t]] w fun e w' => e = .returned (.bool (Dt.eq k x s l y t)) ∧ Below w.heap.size w w' := by
  have hB : Below w.heap.size w ((w.alloc (Obj.cells #[Value.int IntKind.i64 k, Value.float FloatKind.f64 x, Value.string s] 27)).alloc (Obj.cells #[Value.int IntKind.i64 l, Value.float FloatKind.f64 y, Value.string t] 27)) := ((Below.refl _ _).alloc (Nat.le_refl _) _).alloc (by simp) _
  have hP := rk_place x y
  cases hk : (k == l)
  · have HM := hide (eq_k x s y t hk)
    go_enter Try.func27, Try.ntmps27
    go_wp2_with fail
    go_quiet ((fail))
    go_wp2_with fail
    go_ret
    exact ⟨ret_bool (by rw [HM.out]), below_dn hB _⟩
  · cases hs : (s.toList == t.toList)
    · have HM := hide (eq_s (k := k) (l := l) x y hs)
      go_enter Try.func27, Try.ntmps27
      go_wp2_with fail
      go_quiet ((fail))
      go_wp2_with fail
      go_ret
      exact ⟨ret_bool (by rw [HM.out]), below_dn hB _⟩
    · have HM := hide (eq_x (x := x) (y := y) hk hs)
      cases hd : decide (Fl.rk x = Fl.rk y)
      all_goals
        rw [hd] at hP
        have HD := hide hd
        clear hd
        go_enter Try.func27, Try.ntmps27
        go_wp2_with fail
        go_quiet ((go_at_call 43; exact Calls.quiet_of_same (place_pl _ _ (by assumption))))
        go_wp2_with fail
        go_ret
        exact ⟨ret_bool (by rw [HM.out, HD.out]), below_dn hB _⟩
end Go.Proofs.Ytlefhhmggaaiiab
