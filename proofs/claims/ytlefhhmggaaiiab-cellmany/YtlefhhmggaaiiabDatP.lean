/-
  The contract of datum.Put over the translated program.
-/
import Derived.Test.YtlefhhmggaaiiabDatW
import Derived.Test.YtlefhhmggaaiiabNumB
import Derived.Test.YtlefhhmggaaiiabFltV
namespace Go.Proofs.Ytlefhhmggaaiiab
open Go.RowKit

theorem own_mono {w : World} {base base' : Nat} {e : TypeId} {size : Nat} {v : Value} {n : Nat} {xs : List Value} (h : w.ownsRow base e size v n xs) (hb : base' ≤ base) : w.ownsRow base' e size v n xs := by
  obtain ⟨h1, h2⟩ := h
  refine ⟨h1, h2.imp id ?_⟩
  rintro ⟨g, cap, cur, a, b, c⟩
  exact ⟨g, cap, cur, a, Nat.le_trans hb b, c⟩

theorem own_below {w w' : World} {base : Nat} {e : TypeId} {size : Nat} {v : Value} {n : Nat} {xs : List Value} (h : w.ownsRow base e size v n xs) (hb : Below w.heap.size w w') : w'.ownsRow base e size v n xs := by
  obtain ⟨h1, h2⟩ := h
  refine ⟨h1, h2.imp id ?_⟩
  rintro ⟨g, cap, cur, a, b, c, d⟩
  have hg : g < w.heap.size := by
    rcases Nat.lt_or_ge g w.heap.size with hl | hl
    · exact hl
    · simp [Array.getElem?_eq_none hl] at c
  exact ⟨g, cap, cur, a, b, by rw [hb.block g hg]; exact c, d⟩

/-- The cells of a value that was boxed. -/
theorem box_cells {w w' : World} {a b c : Value} {t : TypeId} (hb : Below (w.alloc (.cells #[a, b, c] t)).heap.size (w.alloc (.cells #[a, b, c] t)) w') :
    w'.cell? ⟨w.heap.size, 0, none⟩ = some a ∧ w'.cell? ⟨w.heap.size, 1, none⟩ = some b ∧ w'.cell? ⟨w.heap.size, 2, none⟩ = some c := by
  refine ⟨?_, ?_, ?_⟩
  · rw [hb.cell (p := ⟨w.heap.size, 0, none⟩) (by simp)]; simp
  · rw [hb.cell (p := ⟨w.heap.size, 1, none⟩) (by simp)]; simp
  · rw [hb.cell (p := ⟨w.heap.size, 2, none⟩) (by simp)]; simp

theorem put_1 (x : Nat) (s : ByteArray) : Dt.put 1 x s = Nm.num 1 ++ Fl.be (Fl.rk x) := by simp [Dt.put]
theorem put_2 (x : Nat) (s : ByteArray) : Dt.put 2 x s = Nm.num 2 ++ Nm.text (sb s) := by simp [Dt.put]
theorem put_other {k : Int} (x : Nat) (s : ByteArray) (h1 : ¬ k = 1) (h2 : ¬ k = 2) : Dt.put k x s = Nm.num k := by simp [Dt.put, h1, h2]

set_option maxHeartbeats 1000000 in
theorem dput_any (v : Value) (zs : List Int) (k : Int) (x : Nat) (s : ByteArray) (w : World) (h : Sl w v zs) (hl : zs.length + s.size ≤ 140737488340000) (h0 : -9223372036854775808 ≤ k) (h1 : k ≤ 9223372036854775807) (hx : x < 18446744073709551616) :
    Calls Try.prog 23 #[v, .agg #[.int .i64 k, .float .f64 x, .string s]] w fun e w' => ∃ v', e = .returned v' ∧
      w'.ownsRow w.heap.size 5 1 v' (zs.length + (Dt.put k x s).length) (bv (zs ++ Dt.put k x s)) ∧ Below w.heap.size w w' := by
  have hbd := h.bd
  have hnb := Nm.num_bd k h0 h1
  have hnl := Nm.num_len k
  generalize hw0 : w.alloc (Obj.cells #[Value.int IntKind.i64 k, Value.float FloatKind.f64 x, Value.string s] 27) = W0
  have hB0 : Below w.heap.size w W0 := by rw [← hw0]; exact (Below.refl _ _).alloc (Nat.le_refl _) _
  have h' := h.later hB0
  have HC : Hid (∀ w', Below W0.heap.size W0 w' → w'.cell? ⟨w.heap.size, 0, none⟩ = some (Value.int IntKind.i64 k) ∧ w'.cell? ⟨w.heap.size, 1, none⟩ = some (Value.float FloatKind.f64 x) ∧ w'.cell? ⟨w.heap.size, 2, none⟩ = some (Value.string s)) := by
    intro w' hb
    rw [← hw0] at hb
    exact box_cells hb
  obtain ⟨d0, d1, d2⟩ := HC.out W0 (Below.refl _ _)
  have hs0 := hB0.size
  by_cases hk1 : k = 1
  · subst hk1
    have HP := hide (put_1 x s)
    go_enter Try.func23, Try.ntmps23
    go_wp2_with fail
    refine (put_any v zs 1 W0 h' (by omega) h0 h1).mono ?_
    rintro e w1 ⟨v1, rfl, ho1, hb1⟩
    obtain ⟨c0, c1, c2⟩ := HC.out _ hb1
    go_wp2_with fail
    refine (bytes_any x _ hx).mono ?_
    rintro e w2 ⟨v2, rfl, ho2, hb2⟩
    have hs2 : Sl w2 v2 (Fl.be (Fl.rk x)) := Sl.own ho2 (Fl.be_bd _)
    have hB2 := (hB0.trans (hb1.mono hs0)).trans (hb2.mono (Nat.le_trans hs0 hb1.size))
    have ho1' := own_mono (own_below ho1 hb2) hs0
    have hsz := hB2.size
    clear ho1 ho2
    go_wp2_with (refine wpList_append_sl rfl (.tmp 14) (.tmp 17) 24 rfl w.heap.size 5 Try.underlying24 Try.info5 _ _ _ rfl ho1' _ _ rfl hs2 (by rw [Fl.be_len]; omega) hsz ?_; intro v3 w3 ho3 hg3)
    have hB3 := hB2.grown hg3 hsz (fun j hj => (ho1'.lt j hj).1)
    go_ret
    refine ⟨_, rfl, ?_, hB3⟩
    rw [HP.out]
    simpa [bv, Nat.add_assoc] using ho3
  · by_cases hk2 : k = 2
    · subst hk2
      have HP := hide (put_2 x s)
      clear hk1
      go_enter Try.func23, Try.ntmps23
      go_wp2_with fail
      refine (put_any v zs 2 W0 h' (by omega) h0 h1).mono ?_
      rintro e w1 ⟨v1, rfl, ho1, hb1⟩
      obtain ⟨c0, c1, c2⟩ := HC.out _ hb1
      have hs1 : Sl w1 v1 (zs ++ Nm.num 2) := Sl.own ho1 (bd_app hbd hnb)
      clear ho1
      go_wp2_with fail
      refine (putText_any v1 (zs ++ Nm.num 2) s _ hs1 (by simp; omega)).mono ?_
      rintro e w2 ⟨v2, rfl, ho2, hb2⟩
      have hB2 := (hB0.trans (hb1.mono hs0)).trans (hb2.mono (Nat.le_trans hs0 hb1.size))
      have ho2' := own_mono ho2 (Nat.le_trans hs0 hb1.size)
      clear ho2 hs1
      go_wp2_with fail
      go_ret
      refine ⟨_, rfl, ?_, hB2⟩
      rw [HP.out]
      simpa [bv, Nat.add_assoc] using ho2'
    · have HP := hide (put_other x s hk1 hk2)
      have hk1' : (k == 1) = false := by simp; exact hk1
      have hk2' : (k == 2) = false := by simp; exact hk2
      clear hk1 hk2
      go_enter Try.func23, Try.ntmps23
      go_wp2_with fail
      refine (put_any v zs k W0 h' (by omega) h0 h1).mono ?_
      rintro e w1 ⟨v1, rfl, ho1, hb1⟩
      obtain ⟨c0, c1, c2⟩ := HC.out _ hb1
      have hB2 := hB0.trans (hb1.mono hs0)
      have ho2' := own_mono ho1 hs0
      clear ho1
      go_wp2_with fail
      go_ret
      refine ⟨_, rfl, ?_, hB2⟩
      rw [HP.out]
      exact ho2'
end Go.Proofs.Ytlefhhmggaaiiab
