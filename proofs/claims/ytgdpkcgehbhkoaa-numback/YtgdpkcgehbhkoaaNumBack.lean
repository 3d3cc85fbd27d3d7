/-
  For all bytes ahead and rest, every int64 n and every text s NumBack returns true: num.Put and num.PutText write what the document says behind what stands ahead, and num.Get and num.GetText read it back whatever stands behind. No condition.
-/
import Derived.Test.YtgdpkcgehbhkoaaRows
import Derived.WalkKit
import Derived.ProofKit
import Derived.OpenShut
import Derived.ShutString
import Derived.ChangeOld
import Derived.Below
import Derived.Test.YtgdpkcgehbhkoaaNumB
namespace Go.Proofs.Ytgdpkcgehbhkoaa.numBack
open Go.ChangeShapes Go.WideShapes Go.ChangeAt Go.RowKit
open Go.ChangeMaps (open_string shut_string)
set_option linter.unusedVariables false

theorem own : ownKnob Try.prog.godebug = none := by kernel_rfl
theorem laidOut : laidOutB Try.prog = true := by kernel_rfl

/-- WHAT THE WALK IS TOLD OF A SLICE OF INTEGERS THAT CAME IN: it is nil; or it leads to a row of 'cap' cells, the numbers 'zs' (the first 'len' are its elements, the rest its spare room), each fitting its kind. -/
def IsRow (k : IntKind) (w : World) (a : Option Addr) (len cap : Nat) (zs : List Int) : Prop :=
  (a = none ∧ len = 0 ∧ cap = 0 ∧ zs = []) ∨
  ∃ x, a = some x ∧ len ≤ cap ∧ cap ≤ maxLen ∧ zs.length = cap ∧ (∀ i, i < zs.length → w.cell? (x.add i) = some (.int k (zs.getD i 0))) ∧ ∀ n ∈ zs, (Lit.int k n).wf = true

theorem row_sl {w : World} {a : Option Addr} {len cap : Nat} {zs : List Int} (h : IsRow .u8 w a len cap zs) : Sl w (.slice a len cap) (zs.take len) := by
  rcases h with ⟨rfl, rfl, rfl, rfl⟩ | ⟨x, rfl, hl, hm, hz, hcell, hwz⟩
  · exact Sl.nil _
  · have hlen : (zs.take len).length = len := by simp; omega
    refine ⟨some x, cap, by rw [hlen], by rw [hlen]; omega, hm, fun z hz' => bounds_u8 (hwz z (List.mem_of_mem_take hz')), fun i hi => ?_⟩
    rw [hlen] at hi
    have hc := hcell i (by omega)
    have hc0 := hcell 0 (by omega)
    obtain ⟨b, off, spot⟩ := x
    have hspot : spot = none := by simpa [Addr.add] using World.cell?_spot hc0
    subst hspot
    rw [add_plain] at hc
    exact ⟨b, off, rfl, by rw [hc]; simp [List.getD, List.getElem?_take_of_lt hi]⟩

set_option maxRecDepth 100000 in
set_option maxHeartbeats 2000000 in
theorem walk (a0 : Option Addr) (len0 cap0 : Nat) (z0 : List Int) (a1 : Option Addr) (len1 cap1 : Nat) (z1 : List Int) (a2 : Int) (a3 : ByteArray) (w : World) (w0 : IsRow .u8 w a0 len0 cap0 z0) (w1 : IsRow .u8 w a1 len1 cap1 z1) (w2 : (Lit.int .i64 a2).wf = true) (w3 : a3.size ≤ maxLen) :
    Calls Try.prog 3 #[.slice a0 len0 cap0, .slice a1 len1 cap1, .int .i64 a2, .string a3] w fun e w' => e = .returned (.bool true) ∧ Below w.heap.size w w' := by
  have S0 := hide (row_sl w0)
  have S1 := hide (row_sl w1)
  obtain ⟨h0, h1⟩ := bounds_i64 w2
  clear w0 w1 w2
  go_enter Try.func3, Try.ntmps3
  go_wp2_with fail
  refine (begun_any _).mono ?_
  rintro e x1 ⟨rfl, hb1⟩
  go_wp2_with fail
  refine (short_any _ _ 20 _ (S0.out.later hb1)).mono ?_
  rintro e x2 ⟨va, rfl, hA, rfl⟩
  go_wp2_with fail
  refine (short_any _ _ 20 _ (S1.out.later hb1)).mono ?_
  rintro e x3 ⟨vr, rfl, hR, rfl⟩
  go_wp2_with fail
  refine (cut_any _ 100 _ w3).mono ?_
  rintro e x4 ⟨s, rfl, hs, -, rfl⟩
  have hAl : ((z0.take len0).take 20).length ≤ 20 := List.length_take_le _ _
  have hRl : ((z1.take len1).take 20).length ≤ 20 := List.length_take_le _ _
  generalize (z0.take len0).take 20 = A at *
  generalize (z1.take len1).take 20 = R at *
  clear S0 S1 w3
  go_wp2_with (refine wpList_append_sl rfl (.const (.slice none 0 0)) (.tmp 27) 22 rfl x4.heap.size 5 Try.underlying22 Try.info5 _ 0 [] rfl (World.ownsRow_nil _ _ _ _) va A rfl hA (by omega) (Nat.le_refl _) ?_; intro v5 x5 ho5 hg5)
  have hb5 : Below x4.heap.size x4 x5 := below_new hg5
  have hS5 : Sl x5 v5 A := Sl.own (by simpa using ho5) hA.bd
  have hA5 := hA.later hb5
  have hR5 := hR.later hb5
  have hB5 := hb1.trans (hb5.mono hb1.size)
  clear ho5 hg5 hA hR hb1 hb5
  go_wp2_with fail
  refine (put_any v5 A a2 x5 hS5 (by omega) h0 h1).mono ?_
  rintro e x6 ⟨v6, rfl, ho6, hb6⟩
  have hS6 : Sl x6 v6 (A ++ Nm.num a2) := Sl.own ho6 (bd_app hA5.bd (Nm.num_bd a2 h0 h1))
  have hA6 := hA5.later hb6
  have hR6 := hR5.later hb6
  have hB6 := hB5.trans (hb6.mono hB5.size)
  clear ho6 hb6 hB5 hA5 hR5 hS5
  go_wp2_with (refine wpList_append_sl rfl (.const (.slice none 0 0)) (.tmp 31) 22 rfl x6.heap.size 5 Try.underlying22 Try.info5 _ 0 [] rfl (World.ownsRow_nil _ _ _ _) va A rfl hA6 (by omega) (Nat.le_refl _) ?_; intro v7 x7 ho7 hg7)
  have hb7 : Below x6.heap.size x6 x7 := below_new hg7
  have hS7 : Sl x7 v7 A := Sl.own (by simpa using ho7) hA6.bd
  have hA7 := hA6.later hb7
  have hR7 := hR6.later hb7
  have hP7 := hS6.later hb7
  have hB7 := hB6.trans (hb7.mono hB6.size)
  clear ho7 hg7 hb7 hB6 hA6 hR6 hS6
  go_wp2_with fail
  refine (putText_any v7 A s x7 hS7 (by omega)).mono ?_
  rintro e x8 ⟨v8, rfl, ho8, hb8⟩
  have hS8 : Sl x8 v8 (A ++ Nm.text (sb s)) := Sl.own ho8 (bd_app hA7.bd (text_bd s (by omega)))
  have hA8 := hA7.later hb8
  have hR8 := hR7.later hb8
  have hP8 := hP7.later hb8
  have hB8 := hB7.trans (hb8.mono hB7.size)
  clear ho8 hb8 hB7 hA7 hR7 hP7 hS7
  go_wp2_with fail
  refine wp_region_noPanic ?_
  refine wp_region_held_drew (S := fun W => Below x8.heap.size x8 W) (by kernel_rfl) ?_ (fun hHeld => ?_)
  · exact (Below.refl _ _).drew
  have hcat := nums_app A (Nm.num a2)
  refine wpAnyH_take (i := 0) (v := ?_) rfl (by kernel_rfl) (by kernel_rfl) (by kernel_rfl) (fun _ _ _ h => h) (Or.inl ⟨by kernel_rfl, ?_⟩) hHeld ?_
  rotate_left
  · intro W hW; go_simp; first | done | with_reducible rfl
  try simp only [Act.put]
  refine wpAnyH_take (i := 1) (v := .string (strOfNums (A ++ Nm.num a2))) rfl (by kernel_rfl) (by kernel_rfl) (by kernel_rfl) (fun _ _ _ h => h) (Or.inl ⟨by kernel_rfl, ?_⟩) hHeld ?_
  · intro W hW; have hcv := (hP8.later hW).conv (P := Try.prog) 22 9 5 Try.underlying22 Try.underlying5 Try.underlying9; go_simp
  try simp only [Act.put]
  refine wpAnyH_take (i := 2) (v := ?_) rfl (by kernel_rfl) (by kernel_rfl) (by kernel_rfl) (fun _ _ _ h => h) (Or.inl ⟨by kernel_rfl, ?_⟩) hHeld ?_
  rotate_left
  · intro W hW; go_simp; first | done | with_reducible rfl
  try simp only [Act.put]
  refine wpAnyH_take (i := 3) (v := .string (strOfNums (A))) rfl (by kernel_rfl) (by kernel_rfl) (by kernel_rfl) (fun _ _ _ h => h) (Or.inl ⟨by kernel_rfl, ?_⟩) hHeld ?_
  · intro W hW; have hcv := (hA8.later hW).conv (P := Try.prog) 22 9 5 Try.underlying22 Try.underlying5 Try.underlying9; go_simp
  try simp only [Act.put]
  refine wpAnyH_take (i := 4) (v := ?_) rfl (by kernel_rfl) (by kernel_rfl) (by kernel_rfl) (fun _ _ _ h => h) (Or.inl ⟨by kernel_rfl, ?_⟩) hHeld ?_
  rotate_left
  · intro W hW; go_simp; first | done | with_reducible rfl
  try simp only [Act.put]
  refine wpAnyH_ready (rs := [5]) (by kernel_rfl) (by simp) ?_
  refine AllReadyH.cons (o := _) rfl (fun K hK => ?_) AllReadyH.nil
  go_simp
  refine (refPut_any a2 _ h0 h1).mono ?_
  rintro e x9 ⟨v9, rfl, ho9, hb9⟩
  dsimp only
  refine hK.out _ _ ?_ (fun hHeld => ?_)
  · exact hHeld.trans (hb9.mono hHeld.size)
  clear hK K
  try simp only [Act.put]
  refine held_mono (S' := fun W => Below x9.heap.size x9 W) (fun W h => hHeld.trans (h.mono hHeld.size)) _ _ _ _ ?_
  have hB9 := hB8.trans (hHeld.mono hB8.size)
  have hS9 : Sl x9 v9 (Nm.num a2) := Sl.own ho9 (Nm.num_bd a2 h0 h1)
  have hA9 := hA8.later hHeld
  have hR9 := hR8.later hHeld
  have hP9 := hP8.later hHeld
  have hT9 := hS8.later hHeld
  clear hHeld hb9 ho9
  have hHeld : Below x9.heap.size x9 x9 := Below.refl _ _
  have hsz : ¬ 9223372036854775807 < (strOfNums A).size + (strOfNums (Nm.num a2)).size := by rw [strOfNums_size, strOfNums_size]; have := (Nm.num_len a2).2; omega
  refine wpAnyH_take (i := 6) (v := .string (strOfNums (Nm.num a2))) rfl (by kernel_rfl) (by kernel_rfl) (by kernel_rfl) (fun _ _ _ h => h) (Or.inl ⟨by kernel_rfl, ?_⟩) hHeld ?_
  · intro W hW; have hcv := (hS9.later hW).conv (P := Try.prog) 22 9 5 Try.underlying22 Try.underlying5 Try.underlying9; go_simp
  try simp only [Act.put]
  refine wpAnyH_take (i := 7) (v := .string (strOfNums (A ++ Nm.num a2))) rfl (by kernel_rfl) (by kernel_rfl) (by kernel_rfl) (fun _ _ _ h => h) (Or.inl ⟨by kernel_rfl, ?_⟩) hHeld ?_
  · intro W hW; go_simp; first | done | with_reducible rfl
  try simp only [Act.put]
  refine wpAnyH_take (i := 8) (v := .bool false) rfl (by kernel_rfl) (by kernel_rfl) (by kernel_rfl) (fun _ _ _ h => h) (Or.inl ⟨by kernel_rfl, ?_⟩) hHeld ?_
  · intro W hW; go_simp; first | done | with_reducible rfl
  try simp only [Act.put]
  refine wpAnyH_take (i := 9) (v := ?_) rfl (by kernel_rfl) (by kernel_rfl) (by kernel_rfl) (fun _ _ _ h => h) (Or.inl ⟨by kernel_rfl, ?_⟩) hHeld ?_
  rotate_left
  · intro W hW; go_simp; first | done | with_reducible rfl
  try simp only [Act.put]
  refine wpAnyH_take (i := 10) (v := ?_) rfl (by kernel_rfl) (by kernel_rfl) (by kernel_rfl) (fun _ _ _ h => h) (Or.inl ⟨by kernel_rfl, ?_⟩) hHeld ?_
  rotate_left
  · intro W hW; go_simp; first | done | with_reducible rfl
  try simp only [Act.put]
  refine wpAnyH_take (i := 11) (v := .string (strOfNums (A ++ Nm.text (sb s)))) rfl (by kernel_rfl) (by kernel_rfl) (by kernel_rfl) (fun _ _ _ h => h) (Or.inl ⟨by kernel_rfl, ?_⟩) hHeld ?_
  · intro W hW; have hcv := (hT9.later hW).conv (P := Try.prog) 22 9 5 Try.underlying22 Try.underlying5 Try.underlying9; go_simp
  try simp only [Act.put]
  refine wpAnyH_take (i := 12) (v := ?_) rfl (by kernel_rfl) (by kernel_rfl) (by kernel_rfl) (fun _ _ _ h => h) (Or.inl ⟨by kernel_rfl, ?_⟩) hHeld ?_
  rotate_left
  · intro W hW; go_simp; first | done | with_reducible rfl
  try simp only [Act.put]
  refine wpAnyH_take (i := 13) (v := .string (strOfNums (A))) rfl (by kernel_rfl) (by kernel_rfl) (by kernel_rfl) (fun _ _ _ h => h) (Or.inl ⟨by kernel_rfl, ?_⟩) hHeld ?_
  · intro W hW; have hcv := (hA9.later hW).conv (P := Try.prog) 22 9 5 Try.underlying22 Try.underlying5 Try.underlying9; go_simp
  try simp only [Act.put]
  refine wpAnyH_take (i := 14) (v := ?_) rfl (by kernel_rfl) (by kernel_rfl) (by kernel_rfl) (fun _ _ _ h => h) (Or.inl ⟨by kernel_rfl, ?_⟩) hHeld ?_
  rotate_left
  · intro W hW; go_simp; first | done | with_reducible rfl
  try simp only [Act.put]
  refine wpAnyH_ready (rs := [15]) (by kernel_rfl) (by simp) ?_
  refine AllReadyH.cons (o := _) rfl (fun K hK => ?_) AllReadyH.nil
  go_simp
  refine (refPutText_any s _ (by omega)).mono ?_
  rintro e x10 ⟨v10, rfl, ho10, hb10⟩
  dsimp only
  refine hK.out _ _ ?_ (fun hHeld => ?_)
  · exact hHeld.trans hb10
  clear hK K
  try simp only [Act.put]
  refine held_mono (S' := fun W => Below x10.heap.size x10 W) (fun W h => hHeld.trans (h.mono hHeld.size)) _ _ _ _ ?_
  have hB10 := hB9.trans (hHeld.mono hB9.size)
  have hS10 : Sl x10 v10 (Nm.text (sb s)) := Sl.own ho10 (text_bd s (by omega))
  have hA10 := hA9.later hHeld
  have hR10 := hR9.later hHeld
  have hP10 := hP9.later hHeld
  have hT10 := hT9.later hHeld
  clear hHeld hb10 ho10 hsz hcat hA8 hA9 hR8 hR9 hP8 hP9 hS8 hT9 hB8 hB9 hS9
  have hHeld : Below x10.heap.size x10 x10 := Below.refl _ _
  have hcat2 := nums_app A (Nm.text (sb s))
  have htl : (Nm.text (sb s)).length ≤ 110 := by
    have h1 := Nm.text_len (sb s)
    have h2 := (Nm.num_len ((sb s).length : Int)).2
    have h3 := sb_len s
    omega
  have hsz : ¬ 9223372036854775807 < (strOfNums A).size + (strOfNums (Nm.text (sb s))).size := by rw [strOfNums_size, strOfNums_size]; omega
  refine wpAnyH_take (i := 16) (v := .string (strOfNums (Nm.text (sb s)))) rfl (by kernel_rfl) (by kernel_rfl) (by kernel_rfl) (fun _ _ _ h => h) (Or.inl ⟨by kernel_rfl, ?_⟩) hHeld ?_
  · intro W hW; have hcv := (hS10.later hW).conv (P := Try.prog) 22 9 5 Try.underlying22 Try.underlying5 Try.underlying9; go_simp
  try simp only [Act.put]
  refine wpAnyH_take (i := 17) (v := .string (strOfNums (A ++ Nm.text (sb s)))) rfl (by kernel_rfl) (by kernel_rfl) (by kernel_rfl) (fun _ _ _ h => h) (Or.inl ⟨by kernel_rfl, ?_⟩) hHeld ?_
  · intro W hW; go_simp; first | done | with_reducible rfl
  try simp only [Act.put]
  refine wpAnyH_take (i := 18) (v := .bool false) rfl (by kernel_rfl) (by kernel_rfl) (by kernel_rfl) (fun _ _ _ h => h) (Or.inl ⟨by kernel_rfl, ?_⟩) hHeld ?_
  · intro W hW; go_simp; first | done | with_reducible rfl
  try simp only [Act.put]
  refine wpAnyH_take (i := 19) (v := .bool false) rfl (by kernel_rfl) (by kernel_rfl) (by kernel_rfl) (fun _ _ _ h => h) (Or.inl ⟨by kernel_rfl, ?_⟩) hHeld ?_
  · intro W hW; go_simp; first | done | with_reducible rfl
  try simp only [Act.put]
  refine wpAnyH_done (by kernel_rfl) ?_ _
  refine NoPanic.normal ?_
  clear hHeld hcat2 hsz hS10
  obtain ⟨pa, na, ca, rfl, hna, hca, Hna, HA⟩ := hA10.opens
  obtain ⟨pb, nb, cb, rfl, hnb, hcb, Hnb, HB⟩ := hP10.opens
  obtain ⟨pc, nc, cc, rfl, hnc, hcc, Hnc, HC⟩ := hT10.opens
  have hab : na ≤ nb := by rw [Hna.out, Hnb.out]; simp
  have hac : na ≤ nc := by rw [Hna.out, Hnc.out]; simp
  have hlb : nb - na = (Nm.num a2).length := by rw [Hna.out, Hnb.out]; simp
  have hlc : nc - na = (Nm.text (sb s)).length := by rw [Hna.out, Hnc.out]; simp
  have hneb : ¬ cb = na := by have := (Nm.num_len a2).1; omega
  have hnec : ¬ cc = na := by have := Nm.text_len (sb s); have := (Nm.num_len ((sb s).length : Int)).1; omega
  have hQb : Sl x10 (.slice (pb.map (·.add na)) (nb - na) (cb - na)) (Nm.num a2) := by
    have := HB.out.rest (l := na) (by rw [Hna.out]; simp) _ rfl
    rw [if_neg hneb, Hna.out, List.drop_left, ← Hna.out] at this
    exact this
  have hQc : Sl x10 (.slice (pc.map (·.add na)) (nc - na) (cc - na)) (Nm.text (sb s)) := by
    have := HC.out.rest (l := na) (by rw [Hna.out]; simp) _ rfl
    rw [if_neg hnec, Hna.out, List.drop_left, ← Hna.out] at this
    exact this
  have HQb := hide hQb
  have HQc := hide hQc
  have HLb := hide hlb
  have HLc := hide hlc
  have hn10 := (Nm.num_len a2).2
  clear hQb hQc hlb hlc hA10 hP10 hT10
  go_wp2_with (first | (refine wpList_append_sl rfl (.const (.slice none 0 0)) (.tmp 59) 22 rfl x10.heap.size 5 Try.underlying22 Try.info5 _ 0 [] rfl (World.ownsRow_nil _ _ _ _) _ (Nm.num a2) rfl HQb.out (by omega) (Nat.le_refl _) ?_; intro v11 x11 ho11 hg11) | (refine wpList_append_sl rfl (.tmp 60) (.tmp 61) 22 rfl x10.heap.size 5 Try.underlying22 Try.info5 v11 (0 + (Nm.num a2).length) ([] ++ Nm.num a2) rfl ho11 vr R rfl (hR10.later (below_new hg11)) (by omega) hg11.size ?_; intro v12 x12 ho12 hg12))
  have hb12 : Below x10.heap.size x10 x12 := (below_new hg11).grown hg12 hg11.size (fun k hk => (ho11.lt k hk).1)
  have hS12 : Sl x12 v12 (Nm.num a2 ++ R) := Sl.own (by simpa using ho12) (bd_app (Nm.num_bd a2 h0 h1) hR10.bd)
  have hB12 := hB10.trans (hb12.mono hB10.size)
  have hR12 := hR10.later hb12
  have HQc12 := hide (HQc.out.later hb12)
  clear ho11 hg11 ho12 hg12 hb12 HQc
  refine (get_at hS12 (Nm.get_num a2 h0 h1 R)).mono ?_
  rintro e x13 ⟨rfl, rfl⟩
  go_wp2_with (first | (refine wpList_append_sl rfl (.const (.slice none 0 0)) (.tmp 71) 22 rfl x13.heap.size 5 Try.underlying22 Try.info5 _ 0 [] rfl (World.ownsRow_nil _ _ _ _) _ (Nm.text (sb s)) rfl HQc12.out (by omega) (Nat.le_refl _) ?_; intro v14 x14 ho14 hg14) | (refine wpList_append_sl rfl (.tmp 72) (.tmp 73) 22 rfl x13.heap.size 5 Try.underlying22 Try.info5 v14 (0 + (Nm.text (sb s)).length) ([] ++ Nm.text (sb s)) rfl ho14 vr R rfl (hR12.later (below_new hg14)) (by omega) hg14.size ?_; intro v15 x15 ho15 hg15))
  have hb15 : Below x13.heap.size x13 x15 := (below_new hg14).grown hg15 hg14.size (fun k hk => (ho14.lt k hk).1)
  have hS15 : Sl x15 v15 (Nm.text (sb s) ++ R) := Sl.own (by simpa using ho15) (bd_app (text_bd s (by omega)) hR12.bd)
  have hB15 := hB12.trans (hb15.mono hB12.size)
  clear ho14 hg14 ho15 hg15 hb15 hR12 HQc12
  refine (getText_at hS15 (Nm.getText_text (sb s) R (by rw [sb_len]; omega))).mono ?_
  rintro e x16 ⟨rfl, rfl⟩
  have e1 : strOfNums (sb s) = s := sb_back s
  have e2 : ((Nm.num a2).length : Int) = (nb : Int) - (na : Int) := by have := HLb.out; omega
  have e3 : ((Nm.text (sb s)).length : Int) = (nc : Int) - (na : Int) := by have := HLc.out; omega
  rw [e2, e3, e1]
  clear e1 e2 e3
  go_wp2_with fail
  go_ret
  exact ⟨rfl, hB15⟩

set_option maxRecDepth 100000 in
theorem lifted (os : Os) (started : os.Started) (H : Type) (enc : TypeId × Value → H) :
    ReturnsInHanded {} Try.checked os 3 .any (Rows.numBackSpec.pre6 enc Try.prog Try.f3 Rows.numBackRow.domain false) (Rows.numBackSpec.post enc Try.prog Try.f3 false true false false) := by
  refine returnsInHanded_of_change (C := Try.checked) own started (by kernel_rfl) Try.func3
    (ChangeSpec.witness6 (enc := enc) (C := Try.checked) false ⟨#[], #[.slice none 0 0, .slice none 0 0, .int .i64 0, .string ByteArray.empty], []⟩ 8 (by kernel_rfl) (by kernel_rfl) (by kernel_rfl) (by kernel_rfl)) ?_
  intro W base args ds gs before hval0 hW hcnd _
  have hval : ∀ (j : Nat) t v, Try.f3.params[j]? = some t → args[j]? = some v → Value.okWide Try.prog W .any base t v := hval0
  have hW' := hW
  obtain ⟨p, q, hA0, hV, rfl, hfz, hnd⟩ := hW
  have hA : DataW.TrodAll enc Try.prog W 0 (fun _ => true) true Try.f3.params.toList args.toList ds p := hA0
  rw [Try.params3] at hA hval
  obtain ⟨v0, vs0, d0, ds0, p0, q0, hargs, rfl, rfl, h0, r0⟩ := trodAll_cons hA
  obtain ⟨v1, vs1, d1, ds1, p1, q1, rfl, rfl, rfl, h1, r1⟩ := trodAll_cons r0
  obtain ⟨v2, vs2, d2, ds2, p2, q2, rfl, rfl, rfl, h2, r2⟩ := trodAll_cons r1
  obtain ⟨v3, vs3, d3, ds3, p3, q3, rfl, rfl, rfl, h3, r3⟩ := trodAll_cons r2
  obtain ⟨rfl, rfl, rfl⟩ := trodAll_nil r3
  obtain rfl : args = #[v0, v1, v2, v3] := by cases args; simp_all
  obtain ⟨rfl, rfl⟩ := trodVars_none hV
  obtain ⟨a0, len0, cap0, rfl⟩ := okWide_slice Try.underlying22 (hval 0 22 v0 rfl rfl)
  have k0 := h0
  have lt0 : ∀ x ∈ p0, x.block < W.heap.size := by obtain ⟨m, hm⟩ := k0; exact DataW.trod_lt m _ _ _ hm
  obtain ⟨z0, w0⟩ : ∃ zs, IsRow .u8 W a0 len0 cap0 zs := by
    obtain ⟨fuel, hf⟩ := h0
    rcases open_ints Try.underlying22 Try.underlying5 (by kernel_rfl) hf with ⟨hcs, _⟩ | ⟨x, l, c, zs, hcs, _, hl, hm, hz, _, hcell, hwz⟩
    · simp [Value.cells] at hcs
      obtain ⟨rfl, rfl, rfl⟩ := hcs
      exact ⟨[], .inl ⟨rfl, rfl, rfl, rfl⟩⟩
    · simp [Value.cells] at hcs
      obtain ⟨rfl, rfl, rfl⟩ := hcs
      exact ⟨zs, .inr ⟨_, rfl, hl, hm, by simpa using hz, hcell, hwz⟩⟩
  obtain ⟨a1, len1, cap1, rfl⟩ := okWide_slice Try.underlying22 (hval 1 22 v1 rfl rfl)
  have k1 := h1
  have lt1 : ∀ x ∈ p1, x.block < W.heap.size := by obtain ⟨m, hm⟩ := k1; exact DataW.trod_lt m _ _ _ hm
  obtain ⟨z1, w1⟩ : ∃ zs, IsRow .u8 W a1 len1 cap1 zs := by
    obtain ⟨fuel, hf⟩ := h1
    rcases open_ints Try.underlying22 Try.underlying5 (by kernel_rfl) hf with ⟨hcs, _⟩ | ⟨x, l, c, zs, hcs, _, hl, hm, hz, _, hcell, hwz⟩
    · simp [Value.cells] at hcs
      obtain ⟨rfl, rfl, rfl⟩ := hcs
      exact ⟨[], .inl ⟨rfl, rfl, rfl, rfl⟩⟩
    · simp [Value.cells] at hcs
      obtain ⟨rfl, rfl, rfl⟩ := hcs
      exact ⟨zs, .inr ⟨_, rfl, hl, hm, by simpa using hz, hcell, hwz⟩⟩
  obtain ⟨a2, rfl, rfl, rfl, w2⟩ := open_int Try.underlying2 (hval 2 2 v2 rfl rfl) h2
  obtain ⟨a3, rfl, rfl, rfl, w3⟩ := open_string Try.underlying9 (hval 3 9 v3 rfl rfl) h3
  clear hA0 hval0
  refine (walk a0 len0 cap0 z0 a1 len1 cap1 z1 a2 a3 W w0 w1 w2 w3).mono fun e W' ⟨he, bel⟩ => ?_
  subst he
  exact ⟨_, rfl, _, _, _, [], _, [], hW', trodAll_mk1 (shut_bool Try.underlying4 _), (trodAll_cons_mk (Below.trod laidOut (by kernel_rfl) (of_decide_eq_true (by kernel_rfl)) k0 bel lt0) (trodAll_cons_mk (Below.trod laidOut (by kernel_rfl) (of_decide_eq_true (by kernel_rfl)) k1 bel lt1) (trodAll_cons_mk (shut_int Try.underlying2 w2) (trodAll_cons_mk (shut_string Try.underlying9 w3) trodAll_mk0)))), rfl, bel.frame _, fun h => by cases h⟩

theorem over : Rows.numBackRow.holds Try.pinned (OpenSpec.ofChange Rows.numBackSpec) :=
  OpenClaim.holds_of_wide 3 Try.f3 rfl rfl rfl rfl rfl rfl rfl ⟨rfl, rfl, rfl, rfl, rfl⟩ rfl rfl rfl rfl rfl (by kernel_rfl) Try.func3 (by kernel_rfl)
    (of_decide_eq_true (by kernel_rfl)) (by unfold Func.isWrapper; first | (rw [if_pos (by decide +kernel)]; kernel_rfl) | (rw [if_neg (by decide +kernel)]; exact ⟨rfl, rfl⟩))
    (fun os started H enc _ => lifted os started H enc)

theorem proved : Rows.NumBackSaid := over
#print axioms proved
end Go.Proofs.Ytgdpkcgehbhkoaa.numBack
