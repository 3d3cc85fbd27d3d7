/-
  The contracts of the reference's PutVal and GetVal over the translated program.
-/
import Derived.Test.YtlefhhmggaaiiaaDatG
import Derived.Test.YtlefhhmggaaiiaaDatR
import Derived.Test.YtlefhhmggaaiiaaFltX
namespace Go.Proofs.Ytlefhhmggaaiiaa
open Go.RowKit

set_option maxHeartbeats 1000000 in
theorem refPutVal_any (k : Int) (x : Nat) (s : ByteArray) (w : World) (hl : s.size ≤ 140737488340000) (h0 : -9223372036854775808 ≤ k) (h1 : k ≤ 9223372036854775807) (hx : x < 18446744073709551616) :
    Calls Try.prog 48 #[.agg #[.int .i64 k, .float .f64 x, .string s]] w fun e w' => ∃ v', e = .returned v' ∧
      w'.ownsRow w.heap.size 5 1 v' (Dt.put k x s).length (bv (Dt.put k x s)) ∧ Below w.heap.size w w' := by
  have hnl := Nm.num_len k
  generalize hw0 : w.alloc (Obj.cells #[Value.int IntKind.i64 k, Value.float FloatKind.f64 x, Value.string s] 24) = W0
  have hB0 : Below w.heap.size w W0 := by rw [← hw0]; exact (Below.refl _ _).alloc (Nat.le_refl _) _
  have HC : Hid (∀ w', Below W0.heap.size W0 w' → w'.cell? ⟨w.heap.size, 0, none⟩ = some (Value.int IntKind.i64 k) ∧ w'.cell? ⟨w.heap.size, 1, none⟩ = some (Value.float FloatKind.f64 x) ∧ w'.cell? ⟨w.heap.size, 2, none⟩ = some (Value.string s)) := by
    intro w' hb
    rw [← hw0] at hb
    exact box_cells hb
  obtain ⟨d0, d1, d2⟩ := HC.out W0 (Below.refl _ _)
  have hs0 := hB0.size
  by_cases hk1 : k = 1
  · subst hk1
    have HP := hide (put_1 x s)
    go_enter Try.func48, Try.ntmps48
    go_wp2_with fail
    refine (refPut_any 1 W0 h0 h1).mono ?_
    rintro e w1 ⟨v1, rfl, ho1, hb1⟩
    obtain ⟨c0, c1, c2⟩ := HC.out _ hb1
    go_wp2_with fail
    refine (refBytes_any x _ hx).mono ?_
    rintro e w2 ⟨v2, rfl, ho2, hb2⟩
    have hs2 : Sl w2 v2 (Fl.be (Fl.rk x)) := Sl.own ho2 (Fl.be_bd _)
    have hB2 := (hB0.trans (hb1.mono hs0)).trans (hb2.mono (Nat.le_trans hs0 hb1.size))
    have ho1' := own_mono (own_below ho1 hb2) hs0
    have hsz := hB2.size
    clear ho1 ho2
    go_wp2_with (refine wpList_append_sl rfl (.tmp 11) (.tmp 14) 47 rfl w.heap.size 5 Try.underlying47 Try.info5 _ _ _ rfl ho1' _ _ rfl hs2 (by rw [Fl.be_len]; omega) hsz ?_; intro v3 w3 ho3 hg3)
    have hB3 := hB2.grown hg3 hsz (fun j hj => (ho1'.lt j hj).1)
    go_ret
    refine ⟨_, rfl, ?_, hB3⟩
    rw [HP.out]
    simpa [bv, Nat.add_assoc] using ho3
  · by_cases hk2 : k = 2
    · subst hk2
      have HP := hide (put_2 x s)
      have htl := Nm.text_len (sb s)
      have htn := Nm.num_len ((sb s).length : Int)
      rw [sb_len] at htl htn
      clear hk1
      go_enter Try.func48, Try.ntmps48
      go_wp2_with fail
      refine (refPut_any 2 W0 h0 h1).mono ?_
      rintro e w1 ⟨v1, rfl, ho1, hb1⟩
      obtain ⟨c0, c1, c2⟩ := HC.out _ hb1
      go_wp2_with fail
      refine (refPutText_any s _ (by omega)).mono ?_
      rintro e w2 ⟨v2, rfl, ho2, hb2⟩
      have hs2 : Sl w2 v2 (Nm.text (sb s)) := Sl.own ho2 (text_bd s (by omega))
      have hB2 := (hB0.trans (hb1.mono hs0)).trans (hb2.mono (Nat.le_trans hs0 hb1.size))
      have ho1' := own_mono (own_below ho1 hb2) hs0
      have hsz := hB2.size
      clear ho1 ho2
      go_wp2_with (refine wpList_append_sl rfl (.tmp 18) (.tmp 21) 47 rfl w.heap.size 5 Try.underlying47 Try.info5 _ _ _ rfl ho1' _ _ rfl hs2 (by rw [htl]; omega) hsz ?_; intro v3 w3 ho3 hg3)
      have hB3 := hB2.grown hg3 hsz (fun j hj => (ho1'.lt j hj).1)
      go_ret
      refine ⟨_, rfl, ?_, hB3⟩
      rw [HP.out]
      simpa [bv, Nat.add_assoc] using ho3
    · have HP := hide (put_other x s hk1 hk2)
      have hk1' : (k == 1) = false := by simp; exact hk1
      have hk2' : (k == 2) = false := by simp; exact hk2
      clear hk1 hk2
      go_enter Try.func48, Try.ntmps48
      go_wp2_with fail
      refine (refPut_any k W0 h0 h1).mono ?_
      rintro e w1 ⟨v1, rfl, ho1, hb1⟩
      obtain ⟨c0, c1, c2⟩ := HC.out _ hb1
      have hB2 := hB0.trans (hb1.mono hs0)
      have ho2' := own_mono ho1 hs0
      clear ho1
      go_wp2_with fail
      go_ret
      refine ⟨_, rfl, ?_, hB2⟩
      rw [HP.out]
      exact ho2'

set_option maxHeartbeats 2000000 in
theorem refGetVal_any (v : Value) (zs : List Int) (w : World) (h : Sl w v zs) :
    Calls Try.prog 67 #[v] w fun e w' => e = .returned (.tuple #[.agg #[.int .i64 (Dt.get zs).1, .float .f64 (Dt.get zs).2.1, .string (strOfNums (Dt.get zs).2.2.1)], .int .i64 (Dt.get zs).2.2.2.1, .int .i64 (Dt.get zs).2.2.2.2]) ∧ Below w.heap.size w w' := by
  have hsf := st_float
  generalize hW : w.alloc (Obj.cells #[Value.int IntKind.i64 0, Value.float FloatKind.f64 0, Value.string { data := #[] }] 24) = W0
  have hB0 : Below w.heap.size w W0 := by rw [← hW]; exact (Below.refl _ _).alloc (Nat.le_refl _) _
  have hS := hide (h.later hB0)
  have hs0 := hB0.size
  have HC : Hid (∀ w', Below W0.heap.size W0 w' → _) := fun w' hb => box_cells (w := w) (w' := w') (by rw [hW]; exact hb)
  have HZ : Hid (∀ w', Below W0.heap.size W0 w' → _) := fun w' hb => box_frozen (w := w) (w' := w') (by rw [hW]; exact hb)
  obtain ⟨c0, c1, c2⟩ := HC.out W0 (Below.refl _ _)
  obtain ⟨f0, f1, f2⟩ := HZ.out W0 (Below.refl _ _)
  have hbd := h.bd
  have hg := Nm.get_bd zs 0 0 (by omega) (by decide) (by omega) hbd
  obtain ⟨p, n, cp, rfl, hn, hc, Hn, -⟩ := h.opens
  clear h
  have HG := hide (refGet_any _ _ _ hS.out)
  obtain ⟨r, hr⟩ : ∃ r, r = Nm.get 0 0 zs := ⟨_, rfl⟩
  rw [← hr] at HG hg
  obtain ⟨kk, k, x⟩ := r
  simp only at HG hg
  have HR := hide hr.symm
  clear hr
  rcases hg with ⟨rfl, hk1, hk10, hkl, -, -⟩ | hg
  · simp only [Int.natCast_zero, Int.zero_add] at hk1 hkl
    obtain ⟨k, rfl⟩ := Int.eq_ofNat_of_zero_le (show 0 ≤ k by omega)
    have hkn : k ≤ n := by rw [Hn.out]; omega
    have hdl : (zs.drop k).length = n - k := by rw [List.length_drop, Hn.out]
    have hkt : ((k : Int)).toNat = k := Int.toNat_natCast k
    by_cases h0 : kk = 0
    · subst h0
      have HF : Hid (Dt.get zs = (0, 0, [], (k : Int) + 0, 0)) := Dt.get_con HR.out (Dt.con_none _)
      go_enter Try.func67, Try.ntmps67
      go_wp2_with fail
      with_reducible refine (HG.out).mono ?_
      rintro e x ⟨rfl, rfl⟩
      go_wp2_with fail
      refine bodyPost_ret (v := .tuple #[.agg #[.int .i64 0, .float .f64 0, .string ⟨#[]⟩], .int .i64 k, .int .i64 0]) (by simp [results, Try.results67, go_sem, c0, c1, c2]) rfl ⟨by rw [HF.out, nums_nil, Int.add_zero], ?_⟩
      exact below_set3 hB0 (Nat.le_refl _) _ _ _
    · by_cases h1 : kk = 1
      · subst h1
        clear h0
        by_cases h8 : (n : Int) < k + 8
        · have HF : Hid (Dt.get zs = (0, 0, [], 0, 2)) := Dt.get_con_err HR.out (Dt.con_short (by rw [hkt, hdl]; omega)) (by decide)
          go_enter Try.func67, Try.ntmps67
          go_wp2_with fail
          with_reducible refine (HG.out).mono ?_
          rintro e x ⟨rfl, rfl⟩
          go_wp2_with fail
          refine bodyPost_ret (v := .tuple #[.agg #[.int .i64 0, .float .f64 0, .string ⟨#[]⟩], .int .i64 0, .int .i64 2]) (by simp [results, Try.results67, go_sem, c0, c1, c2]) rfl ⟨by rw [HF.out, nums_nil], ?_⟩
          exact below_set3 hB0 (Nat.le_refl _) _ _ _
        · have hcd : ¬ cp = k := by omega
          have hP := hS.out.part (l := k) (m := k + 8) (by omega) (by rw [← Hn.out]; omega) _ rfl
          rw [if_neg hcd, Nat.mul_one, Nat.add_sub_cancel_left] at hP
          have HPS := hide hP
          have hro := ro_fo ((zs.drop k).take 8)
          obtain ⟨r1, r2, r3⟩ := hro
          have HOF := hide (refOf_any _ _ _ HPS.out)
          cases hok : (Fl.fo ((zs.drop k).take 8)).2
          · have HF : Hid (Dt.get zs = (0, 0, [], 0, 1)) := Dt.get_con_err HR.out (Dt.con_bad (by rw [hkt, hdl]; omega) (by rw [hkt]; exact hok)) (by decide)
            rw [r1.trans hok] at HOF
            clear r1 r2 r3 hok hP hdl hkt
            go_enter Try.func67, Try.ntmps67
            go_wp2_with fail
            with_reducible refine (HG.out).mono ?_
            rintro e x ⟨rfl, rfl⟩
            go_wp2_with fail
            refine (HOF.out).mono ?_
            rintro e w1 ⟨rfl, hb1⟩
            clear c0 c1 c2 f0 f1 f2
            obtain ⟨c0, c1, c2⟩ := HC.out _ hb1
            obtain ⟨f0, f1, f2⟩ := HZ.out _ hb1
            go_wp2_with fail
            refine bodyPost_ret (v := .tuple #[.agg #[.int .i64 0, .float .f64 0, .string ⟨#[]⟩], .int .i64 0, .int .i64 1]) (by simp [results, Try.results67, go_sem, c0, c1, c2]) rfl ⟨by rw [HF.out, nums_nil], ?_⟩
            exact below_set3 (hB0.trans (hb1.mono hs0)) (Nat.le_refl _) _ _ _
          · have HF : Hid (Dt.get zs = (1, (ro ((zs.drop k).take 8)).1, [], (k : Int) + 8, 0)) := by
              have := Dt.get_con HR.out (Dt.con_float (by rw [hkt, hdl]; omega) (by rw [hkt]; exact hok))
              rw [hkt, r2 hok] at this
              exact this
            rw [r1.trans hok] at HOF
            clear r1 r2 r3 hok hP hdl hkt
            generalize (ro ((zs.drop k).take 8)).1 = y at *
            go_enter Try.func67, Try.ntmps67
            go_wp2_with fail
            with_reducible refine (HG.out).mono ?_
            rintro e x ⟨rfl, rfl⟩
            go_wp2_with fail
            refine (HOF.out).mono ?_
            rintro e w1 ⟨rfl, hb1⟩
            clear c0 c1 c2 f0 f1 f2
            obtain ⟨c0, c1, c2⟩ := HC.out _ hb1
            obtain ⟨f0, f1, f2⟩ := HZ.out _ hb1
            go_wp2_with fail
            refine bodyPost_ret (v := .tuple #[.agg #[.int .i64 1, .float .f64 y, .string ⟨#[]⟩], .int .i64 ((k : Int) + 8), .int .i64 0]) (by simp [results, Try.results67, go_sem, c0, c1, c2]) rfl ⟨by rw [HF.out, nums_nil], ?_⟩
            exact below_set3 (hB0.trans (hb1.mono hs0)) (Nat.le_refl _) _ _ _
      · by_cases h2 : kk = 2
        · subst h2
          clear h0 h1
          have hR := hS.out.rest (l := k) (by rw [← Hn.out]; exact hkn) _ rfl
          have HV : ∃ V, Hid (Sl W0 V (zs.drop k)) ∧ ((cp = k ∧ V = .slice p 0 0) ∨ (¬ cp = k ∧ V = .slice (Option.map (fun x : Addr => x.add k) p) (n - k) (cp - k))) := by
            by_cases hcd : cp = k
            · rw [if_pos hcd, show n - k = 0 by omega, show cp - k = 0 by omega] at hR
              exact ⟨_, hR, .inl ⟨hcd, rfl⟩⟩
            · rw [if_neg hcd] at hR
              exact ⟨_, hR, .inr ⟨hcd, rfl⟩⟩
          obtain ⟨V, HV, hV⟩ := HV
          have htb := Dt.getText_bd (zs.drop k) (fun z hz => hbd z (List.mem_of_mem_drop hz))
          have HCT := hide (refGetText_any V _ _ HV.out)
          obtain ⟨C, D, E, hE⟩ : ∃ C D E, Nm.getText (zs.drop k) = (C, D, E) := ⟨_, _, _, rfl⟩
          rw [hE] at HCT htb
          simp only at htb
          obtain ⟨hD0, hD1, hCl, -⟩ := htb
          rw [hdl] at hD1
          have hE' : Nm.getText (zs.drop ((k : Int)).toNat) = (C, D, E) := by rw [hkt]; exact hE
          have HF0 := hide fun (he : E ≠ 0) => Dt.get_con_err HR.out (Dt.con_terr hE' he) he
          have HF1 := hide fun (he : E = 0) (hl : 20 < C.length) => Dt.get_con_err HR.out (Dt.con_long (he ▸ hE') hl) (by decide)
          have HF2 := hide fun (he : E = 0) (hl : ¬ 20 < C.length) => Dt.get_con HR.out (Dt.con_text (he ▸ hE') hl)
          have hCs : (strOfNums C).size = C.length := Dt.size_nums C
          have HCs := hide hCs
          clear hE hE' hR HV HR hbd hdl hkt hS hCs
          generalize hSS : strOfNums C = S at *
          have HSS := hide hSS
          clear hSS
          rcases hV with ⟨hcd, rfl⟩ | ⟨hcd, rfl⟩
          all_goals
            first | subst hcd | skip
            by_cases he : E = 0
            · subst he
              by_cases hl : 20 < S.size
              · have HF := hide (HF1.out rfl (by rw [← HCs.out]; exact hl))
                have hlm : S.size ≤ 65536 := by rw [HCs.out]; exact hCl
                clear HF0 HF1 HF2
                go_enter Try.func67, Try.ntmps67
                go_wp2_with fail
                with_reducible refine (HG.out).mono ?_
                rintro e x ⟨rfl, rfl⟩
                go_wp2_with fail
                with_reducible refine (HCT.out).mono ?_
                rintro e x ⟨rfl, rfl⟩
                go_wp2_with fail
                refine bodyPost_ret (v := .tuple #[.agg #[.int .i64 0, .float .f64 0, .string ⟨#[]⟩], .int .i64 0, .int .i64 1]) (by simp [results, Try.results67, go_sem, c0, c1, c2]) rfl ⟨by rw [HF.out, nums_nil], ?_⟩
                exact below_set3 hB0 (Nat.le_refl _) _ _ _
              · have HF := hide (HF2.out rfl (by rw [← HCs.out]; exact hl))
                have hlm : S.size ≤ 20 := by omega
                clear HF0 HF1 HF2
                go_enter Try.func67, Try.ntmps67
                go_wp2_with fail
                with_reducible refine (HG.out).mono ?_
                rintro e x ⟨rfl, rfl⟩
                go_wp2_with fail
                with_reducible refine (HCT.out).mono ?_
                rintro e x ⟨rfl, rfl⟩
                go_wp2_with fail
                refine bodyPost_ret (v := .tuple #[.agg #[.int .i64 2, .float .f64 0, .string S], .int .i64 _, .int .i64 0]) (by simp [results, Try.results67, go_sem, c0, c1, c2]; rfl) rfl ⟨by rw [HF.out, HSS.out], ?_⟩
                exact below_set3 hB0 (Nat.le_refl _) _ _ _
            · have HF := hide (HF0.out he)
              have he' : (E != 0) = true := by simp; exact he
              clear he HF0 HF1 HF2
              go_enter Try.func67, Try.ntmps67
              go_wp2_with fail
              with_reducible refine (HG.out).mono ?_
              rintro e x ⟨rfl, rfl⟩
              go_wp2_with fail
              with_reducible refine (HCT.out).mono ?_
              rintro e x ⟨rfl, rfl⟩
              go_wp2_with fail
              refine bodyPost_ret (v := .tuple #[.agg #[.int .i64 0, .float .f64 0, .string ⟨#[]⟩], .int .i64 0, .int .i64 E]) (by simp [results, Try.results67, go_sem, c0, c1, c2]) rfl ⟨by rw [HF.out, nums_nil], ?_⟩
              exact below_set3 hB0 (Nat.le_refl _) _ _ _
        · have HF : Hid (Dt.get zs = (0, 0, [], 0, 1)) := Dt.get_con_err HR.out (Dt.con_other _ h0 h1 h2) (by decide)
          have h0' : (kk == 0) = false := by simp; exact h0
          have h1' : (kk == 1) = false := by simp; exact h1
          have h2' : (kk == 2) = false := by simp; exact h2
          clear h0 h1 h2
          go_enter Try.func67, Try.ntmps67
          go_wp2_with fail
          with_reducible refine (HG.out).mono ?_
          rintro e x ⟨rfl, rfl⟩
          go_wp2_with fail
          refine bodyPost_ret (v := .tuple #[.agg #[.int .i64 0, .float .f64 0, .string ⟨#[]⟩], .int .i64 0, .int .i64 1]) (by simp [results, Try.results67, go_sem, c0, c1, c2]) rfl ⟨by rw [HF.out, nums_nil], ?_⟩
          exact below_set3 hB0 (Nat.le_refl _) _ _ _
  · have HF : Hid (Dt.get zs = (0, 0, [], 0, x)) := Dt.get_err HR.out (by omega)
    have hx : (x != 0) = true := by simp; omega
    clear hg
    go_enter Try.func67, Try.ntmps67
    go_wp2_with fail
    with_reducible refine (HG.out).mono ?_
    rintro e x ⟨rfl, rfl⟩
    go_wp2_with fail
    refine bodyPost_ret (v := .tuple #[.agg #[.int .i64 0, .float .f64 0, .string ⟨#[]⟩], .int .i64 0, .int .i64 _]) (by simp [results, Try.results67, go_sem, c0, c1, c2]; rfl) rfl ⟨by rw [HF.out, nums_nil], ?_⟩
    exact below_set3 hB0 (Nat.le_refl _) _ _ _
end Go.Proofs.Ytlefhhmggaaiiaa
