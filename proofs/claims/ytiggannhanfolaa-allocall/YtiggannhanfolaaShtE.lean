/-
  Contracts of engrosslaw9.Of and of a book's Page; sheets and books as values that answer pages.
-/
import Derived.Test.YtiggannhanfolaaShtD
import Derived.Test.YtiggannhanfolaaApn
namespace Go.Proofs.Ytiggannhanfolaa
set_option maxRecDepth 100000
set_option linter.unusedVariables false
open Go.RowKit
set_option linter.unusedVariables false

theorem made_noughts (n : Nat) : (madeCells (Value.int IntKind.u8 0).cells (n * 1)).toList = bv (List.replicate n 0) := by
  rw [Nat.mul_one]
  show (madeCells #[Value.int IntKind.u8 0] n).toList = _
  rw [toList_madeCells_one]
  simp [bv]

theorem own_tb {w : World} {base g n : Nat} {zs : List Int} (h : w.ownsRow base 5 1 (.slice (some ⟨g, 0, none⟩) n n) n (bv zs)) : Tb w 5 g (bv zs) := by
  obtain ⟨hl, h⟩ := h
  rcases h with ⟨e, -⟩ | ⟨g', cap, cur, e, hb, hc, h1, h2, h3, h4⟩
  · simp at e
  · simp at e
    obtain ⟨rfl, rfl⟩ := e
    unfold Tb
    rw [hc, ← h4, List.take_of_length_le (by rw [Array.length_toList]; omega)]
theorem tb_own {w : World} {base g : Nat} {zs : List Int} (h : Tb w 5 g (bv zs)) (hz : Pg zs) (hb : base ≤ g) : w.ownsRow base 5 1 (.slice (some ⟨g, 0, none⟩) 256 256) 256 (bv zs) :=
  ⟨by rw [bv_len, hz.1], .inr ⟨g, 256, _, rfl, hb, h, Nat.le_refl _, by unfold maxLen; omega, by rw [List.size_toArray, bv_len, hz.1], List.take_of_length_le (by rw [bv_len, hz.1]; omega)⟩⟩

theorem info8 : (Try.prog.info? 5).map (·.size) = some 1 := by kernel_rfl

theorem pad_eq (zs : List Int) : ((bv zer).toArray.toList.take 0 ++ (bv (zs.take 256) ++ (bv zer).toArray.toList.drop (0 + (bv (zs.take 256)).length))).toArray = (bv (pad zs)).toArray := by
  have e : (bv zer).drop (min 256 zs.length) = (bv zer).drop zs.length := by
    by_cases h : zs.length ≤ 256
    · rw [Nat.min_eq_right h]
    · rw [List.drop_of_length_le (by rw [bv_len, zer_len]; omega), List.drop_of_length_le (by rw [bv_len, zer_len]; omega)]
  rw [List.take_zero, List.nil_append, Nat.zero_add, bv_len, List.length_take, e, pad, bv_app]
  simp only [bv, List.map_drop]

/-- 'copy(p, b)' into a block of noughts. -/
theorem wpList_copy256 {w : World} {ops : Array Oper} {rest : List Oper} {o : Oper} {a : Act} {Q : Exit → Act → World → Prop} (d s : Operand) (hg : o.guard = none) (ho : o.op = .call { callee := .builtin .copy, args := #[d, s], argTypes := #[25, 25] })
    (b n cp : Nat) (p : Option Addr) (zs : List Int) (hd : a.eval d = .slice (some ⟨b, 0, none⟩) 256 256) (hs : a.eval s = .slice p n cp) (hb : Tb w 5 b (bv zer)) (hz : Sl w (.slice p n cp) zs)
    (hK : ∀ W v, But (· = b) w W → Tb W 5 b (bv (pad zs)) → wpList Try.prog ops Q rest (a.put o.dst v) W) : wpList Try.prog ops Q (o :: rest) a w := by
  have hn := hz.lens.1
  by_cases h0 : zs.length = 0
  · obtain rfl : zs = [] := List.eq_nil_of_length_eq_zero h0
    refine wpList_copy_nothing hg d s _ _ ho 5 Try.underlying25 info8 _ _ 256 256 n cp hd hs (by rw [hn]; rfl) ?_
    exact hK w _ (But.refl _ _) hb
  · obtain ⟨ad, rfl, hsrc⟩ := hz.src (Below.refl _ _) (by rw [bv_len]; omega)
    refine wpList_copy_own hg d s _ _ ho 5 Try.underlying25 info8 b 0 256 256 ad n cp hd hs _ _ hb (bv (zs.take 256)) (by rw [bv_len, hn, List.length_take]; exact Nat.min_comm _ _) (fun j u hj => hsrc j u ?_) (by rw [bv_len, List.length_take, List.size_toArray, bv_len, zer_len]; omega) (bv_one _) ?_
    · have hj' : j < (bv (zs.take 256)).length := (List.getElem?_eq_some_iff.1 hj).1
      rw [bv_len, List.length_take] at hj'
      rw [← hj, bv, bv, List.map_take, List.getElem?_take_of_lt (by omega)]
    · rw [pad_eq]
      have hb' : w.heap[b]? = some (.cells (bv zer).toArray 5 (0, 0)) := hb
      refine hK _ _ ⟨rfl, rfl, rfl, by simp [World.setRow], fun k _ hk => ?_⟩ ?_
      · simp [World.setRow, Array.getElem?_modify, show ¬ b = k from fun e => hk e.symm]
      · simp [Tb, World.setRow, Array.getElem?_modify, hb']

set_option maxHeartbeats 1000000 in
theorem bpage_out {w : World} {g : Nat} {z : Int} (hz : ¬ (0 ≤ z ∧ z < 96)) :
    Calls Try.prog 46 #[.pointer (some ⟨g, 0, none⟩), .int .i64 z] w fun e w' => e = .returned (.tuple #[.slice none 0 0, .int .i64 3]) ∧ w' = w := by
  have hx : z < 0 ∨ (0 ≤ z ∧ 95 < z) := by omega
  clear hz
  rcases hx with hx | ⟨hx, hy⟩
  all_goals
    go_enter Try.func46, Try.ntmps46
    go_wp2_with fail
    go_ret2
    exact ⟨rfl, rfl⟩

set_option maxHeartbeats 2000000 in
theorem bpage_any {w : World} {g : Nat} {bad : Int} {m : Nat → Option (List Int)} {vs : List Value} (h : Book w g bad m vs) (no : Nat) (hno : no < 96) :
    Calls Try.prog 46 #[.pointer (some ⟨g, 0, none⟩), .int .i64 (no : Int)] w fun e w' => Rep w w' e (bookF bad m no) := by
  have c96 := h.at_.cell (i := 96) (by rw [h.len]; omega)
  rw [h.worse] at c96
  have c0 := h.at_.cell (i := no) (by rw [h.len]; omega)
  have hi0 : ¬ (no : Int) < 0 := by omega
  have hi1 : ¬ 95 < no := by omega
  by_cases hb : bad ≠ 0 ∧ (no : Int) = bad
  · rw [bookF, if_pos hb]
    obtain ⟨hb0, rfl⟩ := hb
    have d0 : ((no : Int) != 0) = true := by simpa using hb0
    clear h c0
    go_enter Try.func46, Try.ntmps46
    go_wp2_with fail
    go_ret2
    exact ⟨rfl, Below.refl _ _⟩
  · rw [bookF, if_neg hb]
    have qT : ∀ (w : World) (a : Option Addr) (n c n' c' : Nat), (binOp .eql 25 (.slice a n c) (.slice none n' c')).run Try.prog w = .ok (.bool a.isNone) w := fun w a n c n' c' => Lib.run_eql_slice_nil w _ _ a n c n' c' Try.underlying25
    obtain ⟨i0, hi, hz0, hz1, hz2⟩ := info_parts Try.info5
    have HN : Hid ((madeCells (Value.int IntKind.u8 0).cells (256 * 1)).toList = bv zer) := made_noughts 256
    rcases h.pages no hno with ⟨h1, h2⟩ | ⟨zs, ad, n, c, h1, h2, h3, h4⟩
    · rw [h1]
      rw [h2] at c0
      clear h h1 h2
      by_cases hb0 : bad = 0
      · subst hb0
        clear hb
        go_enter Try.func46, Try.ntmps46
        go_wp2_with (first
          | (at_make; refine wpList_make_full _ rfl _ _ 25 rfl w.heap.size 5 i0 (.int .u8 0) 1 Try.underlying25 hi hz0 hz1 _ _ _ _ 256 rfl rfl rfl rfl (by rw [hz2]; omega) (by unfold maxLen; omega) (Nat.le_refl _) ?_; intro W1 ho1 hg1; have HO := hide ho1; have hB1 := hide (below_new hg1); clear ho1 hg1))
        go_ret2
        exact ⟨_, rfl, by have := HO.out; rw [HN.out] at this; exact this, zer_pg, hB1.out⟩
      · have d0 : (bad != 0) = true := by simpa using hb0
        have d1 : ((no : Int) == bad) = false := by
          have : ¬ (no : Int) = bad := fun e => hb ⟨hb0, e⟩
          simpa using this
        clear hb hb0
        go_enter Try.func46, Try.ntmps46
        go_wp2_with (first
          | (at_make; refine wpList_make_full _ rfl _ _ 25 rfl w.heap.size 5 i0 (.int .u8 0) 1 Try.underlying25 hi hz0 hz1 _ _ _ _ 256 rfl rfl rfl rfl (by rw [hz2]; omega) (by unfold maxLen; omega) (Nat.le_refl _) ?_; intro W1 ho1 hg1; have HO := hide ho1; have hB1 := hide (below_new hg1); clear ho1 hg1))
        go_ret2
        exact ⟨_, rfl, by have := HO.out; rw [HN.out] at this; exact this, zer_pg, hB1.out⟩
    · rw [h1]
      rw [h3] at c0
      obtain ⟨hn, hnc, hcc⟩ := h4.lens
      obtain rfl : n = 256 := by rw [hn, h2.1]
      have HV := hide h4
      have HZ := hide h2
      clear h h1 h2 h3 h4 hn
      by_cases hb0 : bad = 0
      · subst hb0
        clear hb
        go_enter Try.func46, Try.ntmps46
        go_wp2_with (first
          | (at_builtin; refine wpList_append_sl rfl (.const (.slice none 0 0)) (.tmp 38) 25 rfl w.heap.size 5 Try.underlying25 Try.info5 _ 0 [] rfl (World.ownsRow_nil _ _ _ _) _ zs rfl HV.out (by rw [HZ.out.1]; omega) (Nat.le_refl _) ?_; intro v' w' ho' hg'; have HB' := hide (below_new hg')))
        go_ret2
        rw [HZ.out.1] at ho'
        exact ⟨_, rfl, ho', HZ.out, HB'.out⟩
      · have d0 : (bad != 0) = true := by simpa using hb0
        have d1 : ((no : Int) == bad) = false := by
          have : ¬ (no : Int) = bad := fun e => hb ⟨hb0, e⟩
          simpa using this
        clear hb hb0
        go_enter Try.func46, Try.ntmps46
        go_wp2_with (first
          | (at_builtin; refine wpList_append_sl rfl (.const (.slice none 0 0)) (.tmp 38) 25 rfl w.heap.size 5 Try.underlying25 Try.info5 _ 0 [] rfl (World.ownsRow_nil _ _ _ _) _ zs rfl HV.out (by rw [HZ.out.1]; omega) (Nat.le_refl _) ?_; intro v' w' ho' hg'; have HB' := hide (below_new hg')))
        go_ret2
        rw [HZ.out.1] at ho'
        exact ⟨_, rfl, ho', HZ.out, HB'.out⟩

theorem method_book (p : Value) (W : World) (h : ∃ a, p = .pointer a) : (method 186 24 p "Page").run Try.prog W = .ok (46, p) W := by
  obtain ⟨a, rfl⟩ := h
  kernel_rfl
theorem method_sheet (p : Value) (W : World) (h : ∃ a, p = .pointer a) : (method 186 29 p "Page").run Try.prog W = .ok (11, p) W := by
  obtain ⟨a, rfl⟩ := h
  kernel_rfl

/-- A book as a value that answers pages. -/
theorem Book.src {w : World} {g : Nat} {bad : Int} {m : Nat → Option (List Int)} {vs : List Value} (h : Book w g bad m vs) : Src w (.iface 24 (.pointer (some ⟨g, 0, none⟩))) (bookF bad m) :=
  .inr ⟨_, _, _, rfl, fun W => method_book _ W ⟨_, rfl⟩, fun a W => by kernel_rfl, fun W hW no hno => bpage_any (h.later hW) no hno⟩

/-- A sheet as such. -/
theorem Sheet.src {w : World} {g : Nat} {u : Value} {m f : Nat → Option (List Int)} {vs : List Value} (h : Sheet w g u m vs) (hs : Src w u f) : Src w (.iface 29 (.pointer (some ⟨g, 0, none⟩))) (orE m f) :=
  .inr ⟨_, _, _, rfl, fun W => method_sheet _ W ⟨_, rfl⟩, fun a W => by kernel_rfl, fun W hW no hno => page_any (h.later hW) (hs.later hW) no hno⟩
end Go.Proofs.Ytiggannhanfolaa
