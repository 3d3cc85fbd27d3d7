/-
  The edges: the helper of the laws of package float, over the translated program.
-/
import Derived.Test.YtnkmfaddgodefaaFltV
import Derived.Test.YtnkmfaddgodefaaFltR
namespace Go.Proofs.Ytnkmfaddgodefaa
open Go.RowKit

theorem neg_inf : Op.unary .neg (.float .f64 9218868437227405312) = pure (.float .f64 18442240474082181120) := rfl
theorem one_sl (w : World) (r : Nat × Nat) (x : Nat) : Fs (w.alloc (.cells #[.float .f64 x] 24 r)) (.slice (some ⟨w.heap.size, 0, none⟩) 1 1) [x] := by
  refine ⟨_, 1, rfl, Nat.le_refl _, by decide, fun i hi => ⟨w.heap.size, 0, rfl, ?_⟩⟩
  have hi0 : i = 0 := by simp at hi; exact hi
  subst hi0
  have hh : (w.alloc (.cells #[.float .f64 x] 24 r)).heap[w.heap.size]? = some (.cells #[.float .f64 x] 24 r) := by
    show (w.heap.push _)[w.heap.size]? = _
    simp
  simp only [World.cell?, hh]
  rfl
theorem sm_minus : Fl.sm [9223372036854775808] = 0 := by decide

set_option maxRecDepth 100000 in
set_option maxHeartbeats 1000000 in
theorem begun_any (w : World) :
    Calls Try.prog 9 #[] w fun e w' => e = .returned (.bool true) ∧ Below w.heap.size w w' := by
  have kf := run_frombits_int
  have hneg := neg_inf
  go_enter Try.func9, Try.ntmps9
  go_wp2_with fail
  refine (bytes_any 9223372036854775808 _ (by decide)).mono ?_
  rintro e w1 ⟨v1, rfl, ho1, hb1⟩
  have hs1 : Sl w1 v1 (Fl.be (Fl.rk 9223372036854775808)) := Sl.own ho1 (Fl.be_bd _)
  clear ho1
  go_wp2_with fail
  refine (ofBytes_any v1 _ _ hs1).mono ?_
  rintro e w2 ⟨rfl, rfl⟩
  rw [Fl.fo_be (by decide), Fl.cl_not (by decide)]
  go_wp2_with fail
  refine (less_any 18444492273895866369 18442240474082181120 _ (by decide) (by decide)).mono ?_
  rintro e x ⟨rfl, rfl⟩
  rw [show decide (Fl.rk 18444492273895866369 < Fl.rk 18442240474082181120) = true by decide]
  go_wp2_with fail
  refine (less_any 18442240474082181120 13830554455654793216 _ (by decide) (by decide)).mono ?_
  rintro e x ⟨rfl, rfl⟩
  rw [show decide (Fl.rk 18442240474082181120 < Fl.rk 13830554455654793216) = true by decide]
  go_wp2_with fail
  refine (less_any 9223372036854775808 0 _ (by decide) (by decide)).mono ?_
  rintro e x ⟨rfl, rfl⟩
  rw [show decide (Fl.rk 9223372036854775808 < Fl.rk 0) = true by decide]
  go_wp2_with fail
  refine (less_any 0 9223372036854775808 _ (by decide) (by decide)).mono ?_
  rintro e x ⟨rfl, rfl⟩
  rw [show decide (Fl.rk 0 < Fl.rk 9223372036854775808) = false by decide]
  go_wp2_with fail
  refine (less_any 4607182418800017408 9218868437227405312 _ (by decide) (by decide)).mono ?_
  rintro e x ⟨rfl, rfl⟩
  rw [show decide (Fl.rk 4607182418800017408 < Fl.rk 9218868437227405312) = true by decide]
  go_wp2_with fail
  refine (clean_any 18444492273895866369 _).mono ?_
  rintro e x ⟨rfl, rfl⟩
  rw [show Fl.cl 18444492273895866369 = 9221120237041090560 by decide]
  go_wp2_with fail
  refine (same_any 18444492273895866369 9221120237041090560 _ (by decide) (by decide)).mono ?_
  rintro e x ⟨rfl, rfl⟩
  rw [show decide (Fl.rk 18444492273895866369 = Fl.rk 9221120237041090560) = true by decide]
  go_wp2_with fail
  refine (same_any 9223372036854775808 0 _ (by decide) (by decide)).mono ?_
  rintro e x ⟨rfl, rfl⟩
  rw [show decide (Fl.rk 9223372036854775808 = Fl.rk 0) = false by decide]
  go_wp2_with fail
  refine (eq_any 9223372036854775808 9223372036854775808 _).mono ?_
  rintro e x ⟨rfl, rfl⟩
  rw [show decide ((9223372036854775808 : Nat) = 9223372036854775808) = true by decide]
  go_wp2_with fail
  refine (bytes_any 4607182418800017408 _ (by decide)).mono ?_
  rintro e w3 ⟨v3, rfl, ho3, hb3⟩
  obtain ⟨p, n, cp, rfl, hn, hc, Hn, -⟩ := (Sl.own ho3 (Fl.be_bd _)).opens
  obtain rfl : n = 8 := by rw [Hn.out, Fl.be_len]
  have hb13 := hb1.trans (hb3.mono hb1.size)
  clear ho3 hb3 hb1 hs1 Hn
  go_wp2_with fail
  refine (sum_any _ [9223372036854775808] _ (one_sl w3 (0, 0) _)).mono ?_
  rintro e w4 ⟨rfl, m, rfl⟩
  rw [sm_minus]
  go_wp2_with fail
  refine (eq_any 0 0 _).mono ?_
  rintro e x ⟨rfl, rfl⟩
  rw [show decide ((0 : Nat) = 0) = true by decide]
  go_wp2_with fail
  go_ret
  exact ⟨rfl, below_drewN (hb13.alloc hb13.size _) m⟩
end Go.Proofs.Ytnkmfaddgodefaa
