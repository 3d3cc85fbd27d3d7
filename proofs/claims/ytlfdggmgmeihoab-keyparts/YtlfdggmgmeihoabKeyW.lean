/-
  Contracts of the functions of package key, and of those of package strings that it calls, each over the translated program.
-/
import Derived.Test.YtlfdggmgmeihoabRows
import Derived.Test.YtlfdggmgmeihoabKeyA
import Derived.Test.YtlfdggmgmeihoabFltV
import Derived.Lib.ConvBytes
import Derived.Lib.BufferWrite
import Derived.Lib.UnsafeStr
import Derived.Laws.MakeOwn
namespace Go.Proofs.Ytlfdggmgmeihoab
open Go.RowKit

set_option maxHeartbeats 400000 in
theorem cut_any (s : ByteArray) (n : Nat) (w : World) (_h : s.size ≤ maxLen) :
    Calls Try.prog 5 #[.string s, .int .i64 n] w fun e w' => ∃ s', e = .returned (.string s') ∧ s'.size ≤ n ∧ w' = w := by
  unfold maxLen at _h
  by_cases hn : n < s.size
  · go_enter Try.func5, Try.ntmps5
    go_wp2_with fail
    go_ret
    exact ⟨_, rfl, by simp; omega, rfl⟩
  · go_enter Try.func5, Try.ntmps5
    go_wp2_with fail
    go_ret
    exact ⟨_, rfl, by omega, rfl⟩

theorem cut20_any (s : ByteArray) (w : World) (h : s.size ≤ maxLen) :
    Calls Try.prog 5 #[.string s, .int .i64 20] w fun e w' => ∃ s', e = .returned (.string s') ∧ s'.size ≤ 20 ∧ w' = w := cut_any s 20 w h

set_option maxHeartbeats 400000 in
theorem kmay_any (s : ByteArray) (w : World) (_h : s.size ≤ 9223372036854775807) :
    Calls Try.prog 9 #[.string s] w fun e w' => e = .returned (.bool (decide (1 ≤ (s.size : Int)) && decide ((s.size : Int) ≤ 16))) ∧ w' = w := by
  cases h1 : decide (1 ≤ (s.size : Int))
  all_goals
    have H1 := hide h1
    go_enter Try.func9, Try.ntmps9
    go_wp2_with fail
    go_ret
    exact ⟨rfl, rfl⟩

/-- In a span. -/
def inb (s f t : ByteArray) : Bool := !Op.bytesLess s.toList f.toList && (t.toList.isEmpty || Op.bytesLess s.toList t.toList)

set_option maxHeartbeats 400000 in
theorem in_any (s f t : ByteArray) (w : World) :
    Calls Try.prog 10 #[.string s, .string f, .string t] w fun e w' => e = .returned (.bool (inb s f t)) ∧ w' = w := by
  unfold inb
  cases h1 : Op.bytesLess s.toList f.toList
  all_goals
    cases h2 : t.toList.isEmpty
    all_goals
      go_enter Try.func10, Try.ntmps10
      go_wp2_with fail
      go_ret
      exact ⟨rfl, rfl⟩

/-- Does a text begin with an f? -/
def hasf (s : ByteArray) : Bool := decide (1 ≤ (s.size : Int)) && ((s.extract 0 1).toList == [102])

theorem f_list : (⟨#[102]⟩ : ByteArray).toList = [102] := by rw [ByteArray.toList_eq]
theorem f_size : (⟨#[102]⟩ : ByteArray).size = 1 := rfl

set_option maxHeartbeats 400000 in
theorem hasPrefix_any (s : ByteArray) (w : World) (_h : s.size ≤ 9223372036854775807) :
    Calls Try.prog 20 #[.string s, .string ⟨#[102]⟩] w fun e w' => e = .returned (.bool (hasf s)) ∧ w' = w := by
  unfold hasf
  have hl := f_list
  have hz := f_size
  by_cases hs : 1 ≤ s.size
  · rw [decide_eq_true (show 1 ≤ (s.size : Int) by omega)]
    go_enter Try.func20, Try.ntmps20
    go_wp2_with fail
    go_ret
    exact ⟨rfl, rfl⟩
  · rw [decide_eq_false (show ¬ 1 ≤ (s.size : Int) by omega)]
    go_enter Try.func20, Try.ntmps20
    go_wp2_with fail
    go_ret
    exact ⟨rfl, rfl⟩

theorem hasf_size {s : ByteArray} (h : hasf s = true) : 1 ≤ s.size := by
  unfold hasf at h
  simp at h
  omega

set_option maxHeartbeats 400000 in
theorem cutPrefix_any (s : ByteArray) (w : World) (_h : s.size ≤ 9223372036854775807) :
    Calls Try.prog 16 #[.string s, .string ⟨#[102]⟩] w fun e w' => e = .returned (.tuple #[.string (if hasf s then s.extract 1 s.size else s), .bool (hasf s)]) ∧ w' = w := by
  have hz := f_size
  cases h1 : hasf s
  · have H1 := hide h1
    clear h1
    go_enter Try.func16, Try.ntmps16
    go_wp2_with fail
    with_reducible refine (hasPrefix_any s _ _h).mono ?_
    rintro e x ⟨rfl, rfl⟩
    rw [H1.out]
    go_wp2_with fail
    go_ret2
    exact ⟨rfl, rfl⟩
  · have H1 := hide h1
    have hs := hasf_size h1
    clear h1
    go_enter Try.func16, Try.ntmps16
    go_wp2_with fail
    with_reducible refine (hasPrefix_any s _ _h).mono ?_
    rintro e x ⟨rfl, rfl⟩
    rw [H1.out]
    go_wp2_with fail
    go_ret2
    exact ⟨rfl, rfl⟩

set_option maxHeartbeats 400000 in
theorem scutPrefix_any (s : ByteArray) (w : World) (_h : s.size ≤ 9223372036854775807) :
    Calls Try.prog 12 #[.string s, .string ⟨#[102]⟩] w fun e w' => e = .returned (.tuple #[.string (if hasf s then s.extract 1 s.size else s), .bool (hasf s)]) ∧ w' = w := by
  generalize hq : (if hasf s then s.extract 1 s.size else s) = q
  have HQ := hide hq
  clear hq
  go_enter Try.func12, Try.ntmps12
  go_wp2_with fail
  with_reducible refine (cutPrefix_any s _ _h).mono ?_
  rintro e x ⟨rfl, rfl⟩
  rw [HQ.out]
  go_wp2_with fail
  go_ret2
  exact ⟨rfl, rfl⟩

/-- '[]byte(s)'. -/
theorem conv_sl (w : World) (s : ByteArray) (h : s.size ≤ 9223372036854775807) : Sl (Lib.bytesWorld w 5 s) (.slice (some ⟨w.heap.size, 0, none⟩) s.size (grownCap w s.size 0 5)) (sb s) := by
  refine ⟨_, _, by rw [sb_len], by rw [sb_len]; exact grownCap_ge _ _ _ _, grownCap_le_maxLen _ _ _ _ (by unfold maxLen; omega), sb_bd s, fun i hi => ⟨w.heap.size, 0, rfl, ?_⟩⟩
  rw [sb_len] at hi
  rw [Nat.zero_add, Lib.bytesWorld_cell w _ s i hi, getD_at (by rw [sb_len]; exact hi)]
  have hd : i < s.data.size := hi
  simp [sb, List.getD, Array.getElem?_eq_getElem hd]
theorem conv_below (w : World) (s : ByteArray) : Below w.heap.size w (Lib.bytesWorld w 5 s) := by
  refine ⟨?_, ?_, ?_, by rw [Lib.bytesWorld_size]; omega, fun k hk => Lib.bytesWorld_at_old w _ s k hk⟩
  all_goals
    unfold Lib.bytesWorld World.freeze
    split <;> rfl

theorem hasf_kf {s : ByteArray} (h : hasf s = true) : Ky.kf (sb s) = Fl.fo (sb (s.extract 1 s.size)) := by
  have h1 := hasf_size h
  unfold hasf at h
  simp only [Bool.and_eq_true, beq_iff_eq] at h
  have h2 := h.2
  rw [Ky.ext_head] at h2
  rw [Ky.sb_list, Ky.sb_list, Ky.ext_rest]
  cases hl : s.toList with
  | nil => rw [hl] at h2; simp at h2
  | cons a l =>
    rw [hl] at h2
    simp at h2
    subst h2
    simp [Ky.kf]
theorem hasf_not {s : ByteArray} (h : hasf s = false) : Ky.kf (sb s) = (0, false) := by
  unfold hasf at h
  rw [Ky.sb_list]
  have hl := Ky.list_len s
  rw [Ky.ext_head] at h
  cases he : s.toList with
  | nil => simp [Ky.kf]
  | cons a l =>
    rw [he] at h hl
    simp at h hl
    have : a ≠ 102 := h (by omega)
    have : a.toNat ≠ 102 := fun q => this (UInt8.toNat_inj.1 q)
    unfold Ky.kf
    rw [if_neg]
    simp
    omega

set_option maxHeartbeats 1000000 in
theorem float_any (s : ByteArray) (w : World) (hs : s.size ≤ 9223372036854775807) :
    Calls Try.prog 7 #[.string s] w fun e w' => e = .returned (.tuple #[.float .f64 (Ky.kf (sb s)).1, .bool (Ky.kf (sb s)).2]) ∧ Below w.heap.size w w' := by
  cases h1 : hasf s
  · have HK := hide (hasf_not h1)
    have H1 := hide h1
    clear h1
    go_enter Try.func7, Try.ntmps7
    go_wp2_with fail
    with_reducible refine (scutPrefix_any s _ hs).mono ?_
    rintro e x ⟨rfl, rfl⟩
    rw [H1.out]
    go_wp2_with fail
    go_ret2
    exact ⟨by rw [HK.out]; rfl, Below.refl _ _⟩
  · have HK := hide (hasf_kf h1)
    have H1 := hide h1
    have h2 := hasf_size h1
    have hr : (s.extract 1 s.size).size ≤ 9223372036854775807 := by simp; omega
    clear h1
    generalize hq : s.extract 1 s.size = q at *
    have HQ := hide hq
    clear hq
    have hcv := fun (W : World) => Lib.run_convert_string_bytes (P := Try.prog) W 9 35 5 q Try.underlying9 Try.underlying35 Try.underlying5
    have HSL := hide (conv_sl w q hr)
    have HB := hide (conv_below w q)
    go_enter Try.func7, Try.ntmps7
    go_wp2_with fail
    with_reducible refine (scutPrefix_any s _ hs).mono ?_
    rintro e x ⟨rfl, rfl⟩
    rw [H1.out, if_pos rfl, HQ.out]
    go_wp2_with fail
    generalize Lib.bytesWorld x 5 q = W at *
    generalize grownCap x q.size 0 5 = gc at *
    refine (ofBytes_any _ _ _ HSL.out).mono ?_
    rintro e x3 ⟨rfl, rfl⟩
    go_wp2_with fail
    go_ret2
    exact ⟨by rw [HK.out]; rfl, HB.out⟩

theorem f_key (x : Nat) : (⟨#[102]⟩ : ByteArray) ++ strOfNums (Fl.be (Fl.rk x)) = strOfNums (Ky.key x) := by
  have : (⟨#[102]⟩ : ByteArray) = strOfNums [102] := by decide
  rw [this, nums_app]
  rfl

set_option maxHeartbeats 1000000 in
theorem kof_any (x : Nat) (w : World) (hx : x < 18446744073709551616) :
    Calls Try.prog 8 #[.float .f64 x] w fun e w' => e = .returned (.string (strOfNums (Ky.key x))) ∧ Below w.heap.size w w' := by
  have hk := f_key x
  go_enter Try.func8, Try.ntmps8
  go_wp2_with fail
  refine (bytes_any x _ hx).mono ?_
  rintro e x2 ⟨v2, rfl, ho2, hb2⟩
  have hs2 : Sl x2 v2 (Fl.be (Fl.rk x)) := Sl.own ho2 (Fl.be_bd _)
  clear ho2
  have HS := hide hs2
  clear hs2
  go_wp2_with (first | (refine wpList_conv rfl (.tmp 4) 35 9 5 rfl Try.underlying35 Try.underlying5 Try.underlying9 _ (Fl.be (Fl.rk x)) rfl ?_ ?_; exact HS.out) | fail)
  go_ret
  exact ⟨rfl, hb2⟩
end Go.Proofs.Ytlfdggmgmeihoab
