/-
  Contracts of package page: is, place, Write; of the law's own Of.
-/
import Derived.Test.YtmaahgoeblhoaaaPagA
import Derived.Test.YtmaahgoeblhoaaaByt
import Derived.Test.YtmaahgoeblhoaaaDevT
namespace Go.Proofs.Ytmaahgoeblhoaaa
open Go.RowKit Go.Maps
set_option linter.unusedVariables false

theorem pis_any (w : World) (z : Int) : Calls Try.prog 17 #[.int .i64 z] w fun e w' => e = .returned (.bool (decide (0 ≤ z) && decide (z < 96))) ∧ w' = w := by
  by_cases h0 : 0 ≤ z
  · have h1 : decide (0 ≤ z) = true := by simpa using h0
    go_enter Try.func17, Try.ntmps17
    go_wp2_with fail
    go_ret
    exact ⟨ret_bool (by simp [h1]), rfl⟩
  · have h1 : decide (0 ≤ z) = false := by simpa using h0
    go_enter Try.func17, Try.ntmps17
    go_wp2_with fail
    go_ret
    exact ⟨ret_bool (by simp), rfl⟩

theorem place_any (w : World) (no : Nat) (h : no < 96) : Calls Try.prog 18 #[.int .i64 (no : Int)] w fun e w' => e = .returned (.int .i64 ((2 + 4 * no : Nat) : Int)) ∧ w' = w := by
  go_enter Try.func18, Try.ntmps18
  go_wp2_with fail
  go_ret
  exact ⟨ret_int (by omega), rfl⟩

def place_is (no P : Nat) : Prop := P = 2 + 4 * no
theorem place_of (w : World) (no : Nat) (h : no < 96) {P : Nat} (hP : place_is no P) : Calls Try.prog 18 #[.int .i64 (no : Int)] w fun e w' => e = .returned (.int .i64 (P : Int)) ∧ w' = w := by
  subst hP
  exact place_any w no h

/-- 'copy(p, b)' into a block of noughts. -/
theorem pad_eq (zs : List Int) : ((bv zer).toArray.toList.take 0 ++ (bv (zs.take 256) ++ (bv zer).toArray.toList.drop (0 + (bv (zs.take 256)).length))).toArray = (bv (pad zs)).toArray := by
  have e : (bv zer).drop (min 256 zs.length) = (bv zer).drop zs.length := by
    by_cases h : zs.length ≤ 256
    · rw [Nat.min_eq_right h]
    · rw [List.drop_of_length_le (by rw [bv_len, zer_len]; omega), List.drop_of_length_le (by rw [bv_len, zer_len]; omega)]
  rw [List.take_zero, List.nil_append, Nat.zero_add, bv_len, List.length_take, e, pad, bv_app]
  simp only [bv, List.map_drop]

theorem wpList_copy256 {w : World} {ops : Array Oper} {rest : List Oper} {o : Oper} {a : Act} {Q : Exit → Act → World → Prop} (d s : Operand) (hg : o.guard = none) (ho : o.op = .call { callee := .builtin .copy, args := #[d, s], argTypes := #[23, 23] })
    (b n cp : Nat) (p : Option Addr) (zs : List Int) (hd : a.eval d = .slice (some ⟨b, 0, none⟩) 256 256) (hs : a.eval s = .slice p n cp) (hb : Bk w b zer) (hz : Sl w (.slice p n cp) zs)
    (hK : ∀ W v, But (· = b) w W → Bk W b (pad zs) → wpList Try.prog ops Q rest (a.put o.dst v) W) : wpList Try.prog ops Q (o :: rest) a w := by
  have hn := hz.lens.1
  by_cases h0 : zs.length = 0
  · obtain rfl : zs = [] := List.eq_nil_of_length_eq_zero h0
    refine wpList_copy_nothing hg d s _ _ ho 5 Try.underlying23 info8 _ _ 256 256 n cp hd hs (by rw [hn]; rfl) ?_
    exact hK w _ (But.refl _ _) hb
  · obtain ⟨ad, rfl, hsrc⟩ := hz.src (Below.refl _ _) (by rw [bv_len]; omega)
    refine wpList_copy_own hg d s _ _ ho 5 Try.underlying23 info8 b 0 256 256 ad n cp hd hs _ _ hb (bv (zs.take 256)) (by rw [bv_len, hn, List.length_take]; exact Nat.min_comm _ _) (fun j u hj => hsrc j u ?_) (by rw [bv_len, List.length_take, List.size_toArray, bv_len, zer_len]; omega) (bv_one _) ?_
    · have hj' : j < (bv (zs.take 256)).length := (List.getElem?_eq_some_iff.1 hj).1
      rw [bv_len, List.length_take] at hj'
      rw [← hj, bv, bv, List.map_take, List.getElem?_take_of_lt (by omega)]
    · rw [pad_eq]
      have hb' : w.heap[b]? = some (.cells (bv zer).toArray 5 (0, 0)) := hb
      refine hK _ _ ⟨rfl, rfl, rfl, by simp [World.setRow], fun k _ hk => ?_⟩ ?_
      · simp [World.setRow, Array.getElem?_modify, show ¬ b = k from fun e => hk e.symm]
      · simp [Bk, World.setRow, Array.getElem?_modify, hb']

set_option maxHeartbeats 400000 in
theorem pof_any {w : World} {v : Value} {zs : List Int} (h : Sl w v zs) :
    Calls Try.prog 8 #[v] w fun e w' => ∃ b, e = .returned (.slice (some ⟨b, 0, none⟩) 256 256) ∧ Bk w' b (pad zs) ∧ w.heap.size ≤ b ∧ Below w.heap.size w w' := by
  obtain ⟨i0, hi, hz0, hz1, hz2⟩ := info_parts Try.info5
  obtain ⟨p, n, cp, rfl, hnc, hcp, Hn, HV⟩ := h.opens
  clear h
  have HN : Hid ((madeCells (Value.int IntKind.u8 0).cells (256 * 1)).toList = bv zer) := made_noughts 256
  go_enter Try.func8, Try.ntmps8
  go_wp2_with (first
    | (at_make; refine wpList_make_full _ rfl _ _ 23 rfl w.heap.size 5 i0 (.int .u8 0) 1 Try.underlying23 hi hz0 hz1 _ _ _ _ 256 rfl rfl rfl rfl (by rw [hz2]; omega) (by unfold maxLen; omega) (Nat.le_refl _) ?_; intro W1 ho1 hg1; have HO := hide ho1; have hB1 := hide (below_new hg1); clear ho1 hg1)
    | (refine wpList_copy256 (.tmp 5) (.tmp 6) rfl rfl w.heap.size n cp p zs rfl rfl (own_bk (by have := HO.out; rw [HN.out] at this; exact this)) (HV.out.later hB1.out) ?_; intro W2 u hb2 hK2))
  go_ret
  exact ⟨_, rfl, hK2, Nat.le_refl _, Below.but hB1.out hB1.out.size hb2 (fun k e => by omega)⟩

/-- What a Write of a page ends with: m sectors were written; it was all, or the device was dead. -/
structure Pwr (d : Dv) (p : Nat) (zs : List Int) (m : Nat) (e : Int) : Prop where
  le : m ≤ 4
  alive : ∀ j, j < m → (d.pw p zs j).dead = false
  all : m = 4 → e = 0
  down : m < 4 → e = 5 ∧ (d.pw p zs m).dead = true

set_option maxRecDepth 100000 in
set_option maxHeartbeats 1000000 in
theorem pwrite_any {w : World} {g bl bm : Nat} {d : Dv} (h : DevAt w g bl bm d) (hc : d.calls < 900000) (no : Nat) (hno : no < 96) (hr : 2 + 4 * no + 4 ≤ d.n) {v : Value} {zs : List Int} (hv : Sl w v zs) (hl : zs.length = 256) :
    Calls Try.prog 9 #[.pointer (some ⟨g, 0, none⟩), .int .i64 (no : Int), v] w fun e w' => ∃ m er, e = .returned (.int .i64 er) ∧ Pwr d (2 + 4 * no) zs m er ∧ DevAt w' g bl bm (d.pw (2 + 4 * no) zs m) ∧ But (fun k => k = g ∨ k = bm) w w' := by
  have H := hide h
  have hp1 : (decide (0 ≤ (no : Int)) && decide ((no : Int) < 96)) = true := by simp; omega
  have hZ := hv.bd
  have HZ := hide hZ
  have HL := hide hl
  obtain ⟨p, n, cp, rfl, hnc, hcp, Hn, HV⟩ := hv.opens
  obtain rfl : n = 256 := by rw [Hn.out, hl]
  obtain ⟨b, off, rfl, -⟩ := HV.out.cell (i := 0) (by omega)
  clear h hv hZ hl
  go_enter Try.func9, Try.ntmps9
  go_wp2_with (first
    | (with_reducible refine (pis_any _ _).mono ?_; rintro e w ⟨rfl, rfl⟩; rw [hp1]))
  go_loopw [15] (fun i wr => ∃ k : Nat, k ≤ 4 ∧ i = .int .i64 k ∧ Hid (DevAt wr g bl bm (d.pw (2 + 4 * no) zs k)) ∧ Hid (Sl wr (.slice (some ⟨b, off, none⟩) 256 cp) zs) ∧ Hid (But (fun k => k = g ∨ k = bm) w wr) ∧ Hid (∀ j, j < k → (d.pw (2 + 4 * no) zs j).dead = false)) (fun i _ => 4 - (RowKit.intOf i).toNat)
  case atStart => exact ⟨0, by omega, rfl, H, HV, But.refl _ _, fun j hj => by omega⟩
  case round =>
    obtain ⟨k, hk, rfl, HD, HS, HB, HA⟩ := hrel
    by_cases hlt : k < 4
    · have hk0 : ((k : Int) < 4) := by omega
      go_wp2_with fail
      obtain ⟨P, hP⟩ : ∃ P, P = 2 + 4 * no := ⟨_, rfl⟩
      obtain ⟨J, hJ⟩ : ∃ J, J = 2 + 4 * no + k := ⟨_, rfl⟩
      obtain ⟨A, hA⟩ : ∃ A, A = k * 64 := ⟨_, rfl⟩
      obtain ⟨K1, hK1⟩ : ∃ K1, K1 = k + 1 := ⟨_, rfl⟩
      obtain ⟨C, hC⟩ : ∃ C, C = K1 * 64 := ⟨_, rfl⟩
      have e1 : IntKind.i64.wrap ((P : Int) + (k : Int)) = (J : Int) := by rw [IntKind.wrap_i64]; omega
      have e2 : IntKind.i64.wrap ((k : Int) * 64) = (A : Int) := by rw [IntKind.wrap_i64]; omega
      have e3 : IntKind.i64.wrap ((k : Int) + 1) = (K1 : Int) := by rw [IntKind.wrap_i64]; omega
      have e4 : IntKind.i64.wrap ((K1 : Int) * 64) = (C : Int) := by rw [IntKind.wrap_i64]; omega
      have q1 : A ≤ C := by omega
      have q2 : C ≤ cp := by omega
      have q3 : ¬ cp = A := by omega
      have q4 : C - A = 64 := by omega
      have HE : Hid (P = 2 + 4 * no ∧ J = 2 + 4 * no + k ∧ A = k * 64 ∧ C - A = 64 ∧ C ≤ 256) := ⟨hP, hJ, hA, q4, by omega⟩
      have hPl : place_is no P := hP
      clear hP hJ hA hK1 hC
      refine wp_region_noPanic ?_
      refine wp_region_held_drew (S := fun W => But (fun k => k = g ∨ k = bm) wr W) (by kernel_rfl) ?_ (fun hHeld => ?_)
      · exact (But.refl _ _).drew
      refine wpAnyH_take (i := 0) (v := ?_) rfl (by kernel_rfl) (by kernel_rfl) (by kernel_rfl) (fun _ _ _ h => h) (Or.inl ⟨by kernel_rfl, ?_⟩) hHeld ?_
      rotate_left
      · intro W hW; go_simp; first | done | with_reducible rfl
      try simp only [Act.put, List.getElem_toArray, List.getElem_cons_zero, List.setIfInBounds_toArray, List.set_cons_succ, List.set_cons_zero]
      refine wpAnyH_take (i := 1) (v := ?_) rfl (by kernel_rfl) (by kernel_rfl) (by kernel_rfl) (fun _ _ _ h => h) (Or.inl ⟨by kernel_rfl, ?_⟩) hHeld ?_
      rotate_left
      · intro W hW; go_simp; first | done | with_reducible rfl
      try simp only [Act.put, List.getElem_toArray, List.getElem_cons_zero, List.getElem_cons_succ, List.setIfInBounds_toArray, List.set_cons_succ, List.set_cons_zero]
      refine wpAnyH_take (i := 3) (v := ?_) rfl (by kernel_rfl) (by kernel_rfl) (by kernel_rfl) (fun _ _ _ h => h) (Or.inl ⟨by kernel_rfl, ?_⟩) hHeld ?_
      rotate_left
      · intro W hW; go_simp; first | done | with_reducible rfl
      try simp only [Act.put, List.getElem_toArray, List.getElem_cons_zero, List.getElem_cons_succ, List.setIfInBounds_toArray, List.set_cons_succ, List.set_cons_zero]
      refine wpAnyH_take (i := 5) (v := ?_) rfl (by kernel_rfl) (by kernel_rfl) (by kernel_rfl) (fun _ _ _ h => h) (Or.inl ⟨by kernel_rfl, ?_⟩) hHeld ?_
      rotate_left
      · intro W hW; go_simp; first | done | with_reducible rfl
      try simp only [Act.put, List.getElem_toArray, List.getElem_cons_zero, List.getElem_cons_succ, List.setIfInBounds_toArray, List.set_cons_succ, List.set_cons_zero]
      refine wpAnyH_take (i := 6) (v := ?_) rfl (by kernel_rfl) (by kernel_rfl) (by kernel_rfl) (fun _ _ _ h => h) (Or.inl ⟨by kernel_rfl, ?_⟩) hHeld ?_
      rotate_left
      · intro W hW; go_simp; first | done | with_reducible rfl
      try simp only [Act.put, List.getElem_toArray, List.getElem_cons_zero, List.getElem_cons_succ, List.setIfInBounds_toArray, List.set_cons_succ, List.set_cons_zero]
      refine wpAnyH_take (i := 8) (v := ?_) rfl (by kernel_rfl) (by kernel_rfl) (by kernel_rfl) (fun _ _ _ h => h) (Or.inl ⟨by kernel_rfl, ?_⟩) hHeld ?_
      rotate_left
      · intro W hW; go_simp; first | done | with_reducible rfl
      try simp only [Act.put, List.getElem_toArray, List.getElem_cons_zero, List.getElem_cons_succ, List.setIfInBounds_toArray, List.set_cons_succ, List.set_cons_zero]
      refine wpAnyH_take (i := 7) (v := (.int .i64 (A : Int))) rfl (by kernel_rfl) (by kernel_rfl) (by kernel_rfl) (fun _ _ _ h => h) (Or.inl ⟨by kernel_rfl, ?_⟩) hHeld ?_
      · intro W hW; go_simp; first | done | with_reducible rfl
      try simp only [Act.put, List.getElem_toArray, List.getElem_cons_zero, List.getElem_cons_succ, List.setIfInBounds_toArray, List.set_cons_succ, List.set_cons_zero]
      refine wpAnyH_take (i := 9) (v := (.int .i64 (K1 : Int))) rfl (by kernel_rfl) (by kernel_rfl) (by kernel_rfl) (fun _ _ _ h => h) (Or.inl ⟨by kernel_rfl, ?_⟩) hHeld ?_
      · intro W hW; go_simp; first | done | with_reducible rfl
      try simp only [Act.put, List.getElem_toArray, List.getElem_cons_zero, List.getElem_cons_succ, List.setIfInBounds_toArray, List.set_cons_succ, List.set_cons_zero]
      refine wpAnyH_take (i := 10) (v := (.int .i64 (C : Int))) rfl (by kernel_rfl) (by kernel_rfl) (by kernel_rfl) (fun _ _ _ h => h) (Or.inl ⟨by kernel_rfl, ?_⟩) hHeld ?_
      · intro W hW; go_simp; first | done | with_reducible rfl
      try simp only [Act.put, List.getElem_toArray, List.getElem_cons_zero, List.getElem_cons_succ, List.setIfInBounds_toArray, List.set_cons_succ, List.set_cons_zero]
      refine wpAnyH_take (i := 11) (v := (.slice (some ⟨b, off + A, none⟩) 64 (cp - A))) rfl (by kernel_rfl) (by kernel_rfl) (by kernel_rfl) (fun _ _ _ h => h) (Or.inl ⟨by kernel_rfl, ?_⟩) hHeld ?_
      · intro W hW; go_simp; first | done | with_reducible rfl
      try simp only [Act.put, List.getElem_toArray, List.getElem_cons_zero, List.getElem_cons_succ, List.setIfInBounds_toArray, List.set_cons_succ, List.set_cons_zero]
      refine wpAnyH_ready (rs := [2]) (by kernel_rfl) (by simp) ?_
      refine AllReadyH.cons (o := _) rfl (fun K hK => ?_) AllReadyH.nil
      go_simp
      refine (place_of _ no hno hPl).mono ?_
      rintro e xc ⟨rfl, rfl⟩
      dsimp only
      refine hK.out _ _ ?_ (fun hHeld => ?_)
      · exact hHeld
      clear hK K
      try simp only [Act.put, List.getElem_toArray, List.getElem_cons_zero, List.getElem_cons_succ, List.setIfInBounds_toArray, List.set_cons_succ, List.set_cons_zero]
      refine wpAnyH_take (i := 4) (v := (.int .i64 (J : Int))) rfl (by kernel_rfl) (by kernel_rfl) (by kernel_rfl) (fun _ _ _ h => h) (Or.inl ⟨by kernel_rfl, ?_⟩) hHeld ?_
      · intro W hW; go_simp; first | done | with_reducible rfl
      try simp only [Act.put, List.getElem_toArray, List.getElem_cons_zero, List.getElem_cons_succ, List.setIfInBounds_toArray, List.set_cons_succ, List.set_cons_zero]
      refine wpAnyH_ready (rs := [12]) (by kernel_rfl) (by simp) ?_
      refine AllReadyH.cons (o := _) rfl (fun K hK => ?_) AllReadyH.nil
      go_simp
      obtain ⟨r1, r2, r3, r4, r5⟩ := HE.out
      have hcd : (d.pw (2 + 4 * no) zs k).calls < 999999 := by rw [Dv.pw_calls]; omega
      have hin : J < (d.pw (2 + 4 * no) zs k).n := by rw [Dv.pw_n]; omega
      have hcl : (Dv.chunk zs k).length = 64 := Dv.chunk_len HL.out hlt
      have hs1 : Sl wr.drew (.slice (some ⟨b, off + A, none⟩) 64 (cp - A)) (Dv.chunk zs k) := by
        have := (HS.out.later (Below.refl _ wr).drew).mid (l := A) (m := C) q1 r5 (by omega)
        rw [q4, r3] at this
        rw [r3]
        exact this
      have hd1 := HD.out.later (Below.refl _ wr).drew
      cases hd : (d.pw (2 + 4 * no) zs k).dead
      · have hwr := write_any hd1 hd hcd hin hs1 (by omega)
        refine hwr.mono ?_
        rintro e W2 ⟨rfl, h2, hb2⟩
        dsimp only
        have hb2' : But (fun k => k = g ∨ k = bm) wr W2 := (But.refl _ _).drew.trans hb2
        refine hK.out _ _ hb2' (fun hHeld => ?_)
        clear hK K hwr
        try simp only [Act.put, List.getElem_toArray, List.getElem_cons_zero, List.getElem_cons_succ, List.setIfInBounds_toArray, List.set_cons_succ, List.set_cons_zero]
        refine wpAnyH_take (i := 13) (v := ?_) rfl (by kernel_rfl) (by kernel_rfl) (by kernel_rfl) (fun _ _ _ h => h) (Or.inl ⟨by kernel_rfl, ?_⟩) hHeld ?_
        rotate_left
        · intro W hW; go_simp; first | done | with_reducible rfl
        try simp only [Act.put, List.getElem_toArray, List.getElem_cons_zero, List.getElem_cons_succ, List.setIfInBounds_toArray, List.set_cons_succ, List.set_cons_zero]
        refine wpAnyH_done (by kernel_rfl) ?_ _
        refine NoPanic.normal ?_
        go_simp
        have HD2 : Hid (DevAt W2 g bl bm (d.pw (2 + 4 * no) zs (k + 1))) := by rw [r2] at h2; exact h2
        have HS2 := hide (HS.out.beside HD.out hb2')
        have HB2 := hide (HB.out.trans hb2')
        have HA2 : Hid (∀ j, j < k + 1 → (d.pw (2 + 4 * no) zs j).dead = false) := fun j hj => by
          by_cases e : j = k
          · rw [e]; exact hd
          · exact HA.out j (by omega)
        clear hd1 hs1 h2 hb2 hb2' hHeld HD HS HB HA hcd hin hcl r1 r2 r3 r4 r5 HE hPl e1 e2 e3 e4 q1 q2 q3 q4 hd
        go_wp2_with fail
        go_roundw
        case rel => exact ⟨k + 1, by omega, by go_num, HD2, HS2, HB2, HA2⟩
        case measure => simp [RowKit.intOf]; omega
      · have hwr := write_dead hd1 hd (J : Int) (.slice (some ⟨b, off + A, none⟩) 64 (cp - A))
        refine hwr.mono ?_
        rintro e W2 ⟨rfl, rfl⟩
        dsimp only
        refine hK.out _ _ hHeld (fun hHeld => ?_)
        clear hK K hwr
        try simp only [Act.put, List.getElem_toArray, List.getElem_cons_zero, List.getElem_cons_succ, List.setIfInBounds_toArray, List.set_cons_succ, List.set_cons_zero]
        refine wpAnyH_take (i := 13) (v := ?_) rfl (by kernel_rfl) (by kernel_rfl) (by kernel_rfl) (fun _ _ _ h => h) (Or.inl ⟨by kernel_rfl, ?_⟩) hHeld ?_
        rotate_left
        · intro W hW; go_simp; first | done | with_reducible rfl
        try simp only [Act.put, List.getElem_toArray, List.getElem_cons_zero, List.getElem_cons_succ, List.setIfInBounds_toArray, List.set_cons_succ, List.set_cons_zero]
        refine wpAnyH_done (by kernel_rfl) ?_ _
        refine NoPanic.normal ?_
        go_simp
        have HX : Hid (DevAt wr.drew g bl bm (d.pw (2 + 4 * no) zs k)) := hd1
        have Hd := hide hd
        have HB2 : Hid (But (fun k => k = g ∨ k = bm) w wr.drew) := HB.out.drew
        clear hd1 hs1 hHeld HD HS HB hcd hin hcl r1 r2 r3 r4 r5 HE hPl e1 e2 e3 e4 q1 q2 q3 q4 hd
        go_wp2_with fail
        go_ret
        exact ⟨k, 5, rfl, ⟨by omega, HA.out, fun h => by omega, fun _ => ⟨rfl, Hd.out⟩⟩, HX.out, HB2.out⟩
    · obtain rfl : k = 4 := by omega
      go_wp2_with fail
      go_ret
      exact ⟨4, 0, rfl, ⟨by omega, HA.out, fun _ => rfl, fun h => by omega⟩, HD.out, HB.out⟩

end Go.Proofs.Ytmaahgoeblhoaaa
