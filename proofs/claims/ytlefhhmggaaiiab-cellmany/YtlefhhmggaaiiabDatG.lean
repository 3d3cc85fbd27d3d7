/-
  The contracts of datum.getFloat, datum.getContent and datum.Get over the translated program.
-/
import Derived.Test.YtlefhhmggaaiiabDatP
namespace Go.Proofs.Ytlefhhmggaaiiab
open Go.RowKit

theorem st_float (a : Addr) (b : Nat) (w : World) : (store a (.float .f64 b)).run Try.prog w = stored Try.prog w a (.float .f64 b) .plain := run_store Try.prog w a _ _ rfl
theorem nums_nil : strOfNums [] = ⟨#[]⟩ := rfl

/-- The marks of a variable of three cells. -/
theorem box_frozen {w w' : World} {a b c : Value} {t : TypeId} (hb : Below (w.alloc (.cells #[a, b, c] t)).heap.size (w.alloc (.cells #[a, b, c] t)) w') :
    w'.frozen? ⟨w.heap.size, 0, none⟩ = false ∧ w'.frozen? ⟨w.heap.size, 1, none⟩ = false ∧ w'.frozen? ⟨w.heap.size, 2, none⟩ = false := by
  refine ⟨?_, ?_, ?_⟩
  · rw [hb.frozen (p := ⟨w.heap.size, 0, none⟩) (by simp)]; simp
  · rw [hb.frozen (p := ⟨w.heap.size, 1, none⟩) (by simp)]; simp
  · rw [hb.frozen (p := ⟨w.heap.size, 2, none⟩) (by simp)]; simp

theorem below_set3 {B b : Nat} {a w : World} (h : Below B a w) (hb : B ≤ b) (u v t : Value) : Below B a (((w.setCell ⟨b, 0, none⟩ u).setCell ⟨b, 1, none⟩ v).setCell ⟨b, 2, none⟩ t) :=
  Below.setCell (p := ⟨b, 2, none⟩) (Below.setCell (p := ⟨b, 1, none⟩) (Below.setCell (p := ⟨b, 0, none⟩) h hb u) hb v) hb t

set_option maxHeartbeats 1000000 in
theorem getFloat_any (v : Value) (zs : List Int) (w : World) (h : Sl w v zs) :
    Calls Try.prog 54 #[v] w fun e w' => e = .returned (.tuple #[.agg #[.int .i64 (Dt.con 1 zs).1, .float .f64 (Dt.con 1 zs).2.1, .string (strOfNums (Dt.con 1 zs).2.2.1)], .int .i64 (Dt.con 1 zs).2.2.2.1, .int .i64 (Dt.con 1 zs).2.2.2.2]) ∧ Below w.heap.size w w' := by
  have hsf := st_float
  obtain ⟨p, n, cp, rfl, hn, hc, Hn, HS⟩ := h.opens
  clear h
  by_cases h8 : n < 8
  · have HF : Hid (Dt.con 1 zs = (0, 0, [], 0, 2)) := Dt.con_short (by rw [← Hn.out]; exact h8)
    go_enter Try.func54, Try.ntmps54
    go_wp2_with fail
    exact bodyPost_ret (v := .tuple #[.agg #[.int .i64 0, .float .f64 0, .string ⟨#[]⟩], .int .i64 0, .int .i64 2]) (by simp [results, Try.results54, go_sem]) rfl ⟨by rw [HF.out, nums_nil], (Below.refl _ _).alloc (Nat.le_refl _) _⟩
  · have hS8 := HS.out.head (m := 8) (by rw [← Hn.out]; omega)
    generalize hW : w.alloc (Obj.cells #[Value.int IntKind.i64 0, Value.float FloatKind.f64 0, Value.string { data := #[] }] 27) = W0
    have hB0 : Below w.heap.size w W0 := by rw [← hW]; exact (Below.refl _ _).alloc (Nat.le_refl _) _
    have hS8' := hide (hS8.later hB0)
    obtain ⟨c0, c1, c2⟩ : _ := box_cells (w' := W0) (by rw [hW]; exact Below.refl _ _)
    obtain ⟨f0, f1, f2⟩ : _ := box_frozen (w' := W0) (by rw [hW]; exact Below.refl _ _)
    clear hS8
    cases hf : (Fl.fo (zs.take 8)).2
    · have HO := hide hf
      have HF : Hid (Dt.con 1 zs = (0, 0, [], 0, 1)) := Dt.con_bad (by rw [← Hn.out]; exact h8) hf
      clear hf
      go_enter Try.func54, Try.ntmps54
      go_wp2_with fail
      with_reducible refine (ofBytes_any _ _ _ hS8'.out).mono ?_
      rintro e x ⟨rfl, rfl⟩
      rw [HO.out]
      go_wp2_with fail
      refine bodyPost_ret (v := .tuple #[.agg #[.int .i64 0, .float .f64 0, .string ⟨#[]⟩], .int .i64 0, .int .i64 1]) (by simp [results, Try.results54, go_sem, c0, c1, c2]) rfl ⟨by rw [HF.out, nums_nil], ?_⟩
      exact below_set3 hB0 (Nat.le_refl _) _ _ _
    · have HO := hide hf
      have HF : Hid (Dt.con 1 zs = (1, (Fl.fo (zs.take 8)).1, [], 8, 0)) := Dt.con_float (by rw [← Hn.out]; exact h8) hf
      clear hf
      go_enter Try.func54, Try.ntmps54
      go_wp2_with fail
      with_reducible refine (ofBytes_any _ _ _ hS8'.out).mono ?_
      rintro e x ⟨rfl, rfl⟩
      rw [HO.out]
      generalize (Fl.fo (zs.take 8)).1 = y at *
      go_wp2_with fail
      refine bodyPost_ret (v := .tuple #[.agg #[.int .i64 1, .float .f64 y, .string ⟨#[]⟩], .int .i64 8, .int .i64 0]) (by simp [results, Try.results54, go_sem, c0, c1, c2]) rfl ⟨by rw [HF.out, nums_nil], ?_⟩
      exact below_set3 hB0 (Nat.le_refl _) _ _ _
set_option maxHeartbeats 1000000 in
theorem content_any (k : Int) (v : Value) (zs : List Int) (w : World) (h : Sl w v zs) :
    Calls Try.prog 51 #[.int .i64 k, v] w fun e w' => e = .returned (.tuple #[.agg #[.int .i64 (Dt.raw k zs).1, .float .f64 (Dt.raw k zs).2.1, .string (strOfNums (Dt.raw k zs).2.2.1)], .int .i64 (Dt.raw k zs).2.2.2.1, .int .i64 (Dt.raw k zs).2.2.2.2]) ∧ Below w.heap.size w w' := by
  have hsf := st_float
  generalize hW : w.alloc (Obj.cells #[Value.int IntKind.i64 0, Value.float FloatKind.f64 0, Value.string { data := #[] }] 27) = W0
  have hB0 : Below w.heap.size w W0 := by rw [← hW]; exact (Below.refl _ _).alloc (Nat.le_refl _) _
  have hS := hide (h.later hB0)
  have hs0 := hB0.size
  have HC : Hid (∀ w', Below W0.heap.size W0 w' → _) := fun w' hb => box_cells (w := w) (w' := w') (by rw [hW]; exact hb)
  have HZ : Hid (∀ w', Below W0.heap.size W0 w' → _) := fun w' hb => box_frozen (w := w) (w' := w') (by rw [hW]; exact hb)
  obtain ⟨c0, c1, c2⟩ := HC.out W0 (Below.refl _ _)
  obtain ⟨f0, f1, f2⟩ := HZ.out W0 (Below.refl _ _)
  by_cases h0 : k = 0
  · subst h0
    have HF : Hid (Dt.raw 0 zs = (0, 0, [], 0, 0)) := (Dt.raw_not _ (by decide)).trans (Dt.con_none _)
    go_enter Try.func51, Try.ntmps51
    go_wp2_with fail
    refine bodyPost_ret (v := .tuple #[.agg #[.int .i64 0, .float .f64 0, .string ⟨#[]⟩], .int .i64 0, .int .i64 0]) (by simp [results, Try.results51, go_sem, c0, c1, c2]) rfl ⟨by rw [HF.out, nums_nil], ?_⟩
    exact below_set3 hB0 (Nat.le_refl _) _ _ _
  · by_cases h1 : k = 1
    · subst h1
      have HF : Hid (Dt.raw 1 zs = Dt.con 1 zs) := Dt.raw_not _ (by decide)
      clear h0
      go_enter Try.func51, Try.ntmps51
      go_wp2_with fail
      with_reducible refine (getFloat_any _ _ _ hS.out).mono ?_
      rintro e w1 ⟨rfl, hb1⟩
      clear c0 c1 c2 f0 f1 f2
      obtain ⟨c0, c1, c2⟩ := HC.out _ hb1
      obtain ⟨f0, f1, f2⟩ := HZ.out _ hb1
      obtain ⟨A, B, C, D, E, hE⟩ : ∃ A B C D E, Dt.con 1 zs = (A, B, C, D, E) := ⟨_, _, _, _, _, rfl⟩
      rw [hE] at HF ⊢
      go_wp2_with fail
      refine bodyPost_ret (v := .tuple #[.agg #[.int .i64 A, .float .f64 B, .string (strOfNums C)], .int .i64 D, .int .i64 E]) (by simp [results, Try.results51, go_sem, c0, c1, c2]) rfl ⟨by rw [HF.out], ?_⟩
      exact below_set3 (hB0.trans (hb1.mono hs0)) (Nat.le_refl _) _ _ _
    · by_cases h2 : k = 2
      · subst h2
        have HF := hide (Dt.raw_2 zs)
        clear h0 h1
        go_enter Try.func51, Try.ntmps51
        go_wp2_with fail
        with_reducible refine (getText_any _ _ _ hS.out).mono ?_
        rintro e x ⟨rfl, rfl⟩
        obtain ⟨C, D, E, hE⟩ : ∃ C D E, Nm.getText zs = (C, D, E) := ⟨_, _, _, rfl⟩
        rw [hE] at HF ⊢
        go_wp2_with fail
        refine bodyPost_ret (v := .tuple #[.agg #[.int .i64 2, .float .f64 0, .string (strOfNums C)], .int .i64 D, .int .i64 E]) (by simp [results, Try.results51, go_sem, c0, c1, c2]) rfl ⟨by rw [HF.out], ?_⟩
        exact below_set3 hB0 (Nat.le_refl _) _ _ _
      · have HF : Hid (Dt.raw k zs = (0, 0, [], 0, 1)) := (Dt.raw_not _ h2).trans (Dt.con_other _ h0 h1 h2)
        have h0' : (k == 0) = false := by simp; exact h0
        have h1' : (k == 1) = false := by simp; exact h1
        have h2' : (k == 2) = false := by simp; exact h2
        clear h0 h1 h2
        go_enter Try.func51, Try.ntmps51
        go_wp2_with fail
        refine bodyPost_ret (v := .tuple #[.agg #[.int .i64 0, .float .f64 0, .string ⟨#[]⟩], .int .i64 0, .int .i64 1]) (by simp [results, Try.results51, go_sem, c0, c1, c2]) rfl ⟨by rw [HF.out, nums_nil], ?_⟩
        exact below_set3 hB0 (Nat.le_refl _) _ _ _
set_option maxHeartbeats 2000000 in
theorem dget_any (v : Value) (zs : List Int) (w : World) (h : Sl w v zs) :
    Calls Try.prog 41 #[v] w fun e w' => e = .returned (.tuple #[.agg #[.int .i64 (Dt.get zs).1, .float .f64 (Dt.get zs).2.1, .string (strOfNums (Dt.get zs).2.2.1)], .int .i64 (Dt.get zs).2.2.2.1, .int .i64 (Dt.get zs).2.2.2.2]) ∧ Below w.heap.size w w' := by
  have hsf := st_float
  generalize hW : w.alloc (Obj.cells #[Value.int IntKind.i64 0, Value.float FloatKind.f64 0, Value.string { data := #[] }] 27) = W0
  have hB0 : Below w.heap.size w W0 := by rw [← hW]; exact (Below.refl _ _).alloc (Nat.le_refl _) _
  have hS := hide (h.later hB0)
  have hs0 := hB0.size
  have HC : Hid (∀ w', Below W0.heap.size W0 w' → _) := fun w' hb => box_cells (w := w) (w' := w') (by rw [hW]; exact hb)
  have HZ : Hid (∀ w', Below W0.heap.size W0 w' → _) := fun w' hb => box_frozen (w := w) (w' := w') (by rw [hW]; exact hb)
  obtain ⟨c0, c1, c2⟩ := HC.out W0 (Below.refl _ _)
  obtain ⟨f0, f1, f2⟩ := HZ.out W0 (Below.refl _ _)
  have hbd := h.bd
  have hg := Nm.get_bd zs 0 0 (by omega) (by decide) (by omega) hbd
  obtain ⟨p, n, cp, rfl, hn, hc, Hn, -⟩ := h.opens
  clear h
  have HG := hide (get_any _ _ _ hS.out)
  obtain ⟨r, hr⟩ : ∃ r, r = Nm.get 0 0 zs := ⟨_, rfl⟩
  rw [← hr] at HG hg
  obtain ⟨kk, k, x⟩ := r
  simp only at HG hg
  have HR := hide hr.symm
  clear hr
  rcases hg with ⟨rfl, hk1, hk10, hkl, -, -⟩ | hg
  · simp only [Int.natCast_zero, Int.zero_add] at hk1 hkl
    obtain ⟨k, rfl⟩ := Int.eq_ofNat_of_zero_le (show 0 ≤ k by omega)
    have hkn : k ≤ n := by rw [Hn.out]; omega
    have hR := hS.out.rest (l := k) (by rw [← Hn.out]; exact hkn) _ rfl
    have hrb := Dt.raw_bd kk (zs.drop k) (fun z hz => hbd z (List.mem_of_mem_drop hz))
    obtain ⟨A, B, C, D, E, hE⟩ : ∃ A B C D E, Dt.raw kk (zs.drop k) = (A, B, C, D, E) := ⟨_, _, _, _, _, rfl⟩
    rw [hE] at hrb
    simp only at hrb
    obtain ⟨hD0, hD1, hCl⟩ := hrb
    have hD2 : (k : Int) + D ≤ n := by rw [Hn.out]; rw [List.length_drop] at hD1; omega
    have hCs : (strOfNums C).size ≤ maxLen := by rw [Dt.size_nums]; unfold maxLen; omega
    have HE := hide hE
    have HF0 := hide fun (hm : Dt.may A B (strOfNums C) = false) (he : E = 0) => Dt.get_con_err HR.out (Dt.raw_not_may (he ▸ HE.out) hm) (by decide)
    have HF1 := hide fun (hm : Dt.may A B (strOfNums C) = true) (he : E = 0) => Dt.get_con HR.out (Dt.raw_may (he ▸ HE.out) hm)
    have HF2 := hide fun (he : E ≠ 0) => Dt.get_con_err HR.out (Dt.raw_err HE.out he) he
    have HV : ∃ V, Hid (Sl W0 V (zs.drop k)) ∧ ((cp = k ∧ V = .slice p 0 0) ∨ (¬ cp = k ∧ V = .slice (Option.map (fun x : Addr => x.add k) p) (n - k) (cp - k))) := by
      by_cases hcd : cp = k
      · rw [if_pos hcd, show n - k = 0 by omega, show cp - k = 0 by omega] at hR
        exact ⟨_, hR, .inl ⟨hcd, rfl⟩⟩
      · rw [if_neg hcd] at hR
        exact ⟨_, hR, .inr ⟨hcd, rfl⟩⟩
    obtain ⟨V, HV, hV⟩ := HV
    have HCT := hide (content_any kk V _ _ HV.out)
    rw [HE.out] at HCT
    clear hE hR hbd hCl hD1 HE HV HR hS
    generalize hS : strOfNums C = S at *
    have HSS := hide hS
    clear hS
    rcases hV with ⟨hcd, rfl⟩ | ⟨hcd, rfl⟩
    all_goals
      first | subst hcd | skip
      by_cases he : E = 0
      · subst he
        cases hm : Dt.may A B S
        · have HM := hide hm
          have HF := hide (HF0.out hm rfl)
          clear hm HF0 HF1 HF2
          go_enter Try.func41, Try.ntmps41
          go_wp2_with fail
          with_reducible refine (HG.out).mono ?_
          rintro e x ⟨rfl, rfl⟩
          go_wp2_with fail
          with_reducible refine (HCT.out).mono ?_
          rintro e w1 ⟨rfl, hb1⟩
          go_wp2_with fail
          with_reducible refine (may_any A B S _ hCs).mono ?_
          rintro e w2 ⟨rfl, hb2⟩
          rw [HM.out]
          clear c0 c1 c2 f0 f1 f2
          have hb3 : Below x.heap.size x w2 := (hb1.alloc hb1.size _).trans (hb2.mono (by simp; have := hb1.size; omega))
          obtain ⟨c0, c1, c2⟩ := HC.out _ hb3
          obtain ⟨f0, f1, f2⟩ := HZ.out _ hb3
          obtain ⟨d0, d1, d2⟩ := box_cells hb2
          go_wp2_with fail
          refine bodyPost_ret (v := .tuple #[.agg #[.int .i64 0, .float .f64 0, .string ⟨#[]⟩], .int .i64 0, .int .i64 1]) (by simp [results, Try.results41, go_sem, c0, c1, c2]) rfl ⟨by rw [HF.out, nums_nil], ?_⟩
          exact below_set3 (hB0.trans (hb3.mono hs0)) (Nat.le_refl _) _ _ _
        · have HM := hide hm
          have HF := hide (HF1.out hm rfl)
          clear hm HF0 HF1 HF2
          go_enter Try.func41, Try.ntmps41
          go_wp2_with fail
          with_reducible refine (HG.out).mono ?_
          rintro e x ⟨rfl, rfl⟩
          go_wp2_with fail
          with_reducible refine (HCT.out).mono ?_
          rintro e w1 ⟨rfl, hb1⟩
          go_wp2_with fail
          with_reducible refine (may_any A B S _ hCs).mono ?_
          rintro e w2 ⟨rfl, hb2⟩
          rw [HM.out]
          clear c0 c1 c2 f0 f1 f2
          have hb3 : Below x.heap.size x w2 := (hb1.alloc hb1.size _).trans (hb2.mono (by simp; have := hb1.size; omega))
          obtain ⟨c0, c1, c2⟩ := HC.out _ hb3
          obtain ⟨f0, f1, f2⟩ := HZ.out _ hb3
          obtain ⟨d0, d1, d2⟩ := box_cells hb2
          go_wp2_with fail
          refine bodyPost_ret (v := .tuple #[.agg #[.int .i64 A, .float .f64 B, .string S], .int .i64 _, .int .i64 0]) (by simp [results, Try.results41, go_sem, c0, c1, c2]; rfl) rfl ⟨by rw [HF.out, HSS.out], ?_⟩
          exact below_set3 (hB0.trans (hb3.mono hs0)) (Nat.le_refl _) _ _ _
      · have HF := hide (HF2.out he)
        have he' : (E != 0) = true := by simp; exact he
        clear he HF0 HF1 HF2
        go_enter Try.func41, Try.ntmps41
        go_wp2_with fail
        with_reducible refine (HG.out).mono ?_
        rintro e x ⟨rfl, rfl⟩
        go_wp2_with fail
        with_reducible refine (HCT.out).mono ?_
        rintro e w1 ⟨rfl, hb1⟩
        clear c0 c1 c2 f0 f1 f2
        have hb3 := fun o => hb1.alloc hb1.size o
        have c0 := fun o => (HC.out _ (hb3 o)).1
        have c1 := fun o => (HC.out _ (hb3 o)).2.1
        have c2 := fun o => (HC.out _ (hb3 o)).2.2
        have f0 := fun o => (HZ.out _ (hb3 o)).1
        have f1 := fun o => (HZ.out _ (hb3 o)).2.1
        have f2 := fun o => (HZ.out _ (hb3 o)).2.2
        go_wp2_with fail
        refine bodyPost_ret (v := .tuple #[.agg #[.int .i64 0, .float .f64 0, .string ⟨#[]⟩], .int .i64 0, .int .i64 E]) (by simp [results, Try.results41, go_sem, c0, c1, c2]) rfl ⟨by rw [HF.out, nums_nil], ?_⟩
        exact below_set3 (hB0.trans ((hb3 _).mono hs0)) (Nat.le_refl _) _ _ _
  · have HF : Hid (Dt.get zs = (0, 0, [], 0, x)) := Dt.get_err HR.out (by omega)
    have hx : (x != 0) = true := by simp; omega
    clear hg
    go_enter Try.func41, Try.ntmps41
    go_wp2_with fail
    with_reducible refine (HG.out).mono ?_
    rintro e x ⟨rfl, rfl⟩
    go_wp2_with fail
    refine bodyPost_ret (v := .tuple #[.agg #[.int .i64 0, .float .f64 0, .string ⟨#[]⟩], .int .i64 0, .int .i64 _]) (by simp [results, Try.results41, go_sem, c0, c1, c2]; rfl) rfl ⟨by rw [HF.out, nums_nil], ?_⟩
    exact below_set3 hB0 (Nat.le_refl _) _ _ _
end Go.Proofs.Ytlefhhmggaaiiab
