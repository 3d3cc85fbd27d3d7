/-
  Contracts of the law's own device: dead, next, writes.
-/
import Derived.Test.YtjgdbialapdggaaRefM
import Derived.Test.YtjgdbialapdggaaInf
namespace Go.Proofs.Ytjgdbialapdggaa
open Go.RowKit Go.Maps

section
variable {w : World} {q bn bs bo : Nat} {F : Nat → Prop} {n : Nat} {nw sf : Nat → List Int} {lo : Nat → Bool} {calls : Nat} {fu : Int}

theorem rdead_any (h : RefIn w q bn bs bo F n nw sf lo calls fu) : Calls Try.prog 12 #[.pointer (some ⟨q, 0, none⟩)] w fun e w' => e = .returned (.bool (fu == 0)) ∧ w' = w := by
  obtain ⟨_, _, _, -, -, -, -, c4, -⟩ := h.cells
  clear h
  go_enter Try.func12, Try.ntmps12
  go_wp2_with fail
  go_ret
  exact ⟨rfl, rfl⟩

/-- A call more. -/
def dn (fu : Int) : Int := if 0 < fu then fu - 1 else fu

set_option maxHeartbeats 400000 in
theorem next_any (h : RefIn w q bn bs bo F n nw sf lo calls fu) (hc : calls < 999999) (hf : -1 ≤ fu) (hf2 : fu ≤ 9223372036854775807) :
    Calls Try.prog 30 #[.pointer (some ⟨q, 0, none⟩)] w fun e w' => e = .returned (.tuple #[]) ∧ RefIn w' q bn bs bo F n nw sf lo (calls + 1) (dn fu) ∧ But (· = q) w w' := by
  obtain ⟨_, _, _, -, -, -, c3, c4, -⟩ := h.cells
  have f3 := (h.free 3).1
  have f4 := (h.free 4).1
  have H := hide h
  clear h
  by_cases h0 : 0 < fu
  · have Hd : Hid (dn fu = fu - 1) := by simp [Hid, dn, h0]
    go_enter Try.func30, Try.ntmps30
    go_wp2_with fail
    go_end0
    refine ⟨rfl, ?_, ((But.refl (· = q) _).me _ _).me _ _⟩
    rw [Hd.out]
    exact (H.out.setCalls (calls + 1) (by omega)).setFuse _
  · have Hd : Hid (dn fu = fu) := by simp [Hid, dn, h0]
    go_enter Try.func30, Try.ntmps30
    go_wp2_with fail
    go_end0
    refine ⟨rfl, ?_, (But.refl (· = q) _).me _ _⟩
    rw [Hd.out]
    exact H.out.setCalls (calls + 1) (by omega)

theorem bv_drop (l : List Int) (k : Nat) : bv (l.drop k) = (bv l).drop k := by simp [bv, List.map_drop]

/-- 'copy(c, b)' into bytes of the call's own. -/
theorem wpList_copy8 {w : World} {ops : Array Oper} {rest : List Oper} {o : Oper} {a : Act} {Q : Exit → Act → World → Prop} (d s : Operand) (hg : o.guard = none) (ho : o.op = .call { callee := .builtin .copy, args := #[d, s], argTypes := #[31, 31] })
    (base m cp : Nat) (p : Option Addr) (v1 : Value) (S zs : List Int) (hd : a.eval d = v1) (hs : a.eval s = .slice p m cp) (hown : w.ownsRow base 5 1 v1 64 (bv S)) (hz : Sl w (.slice p m cp) zs) (hl : zs.length ≤ 64)
    (hK : ∀ W, W.ownsRow base 5 1 v1 64 (bv (over zs S)) → But (fun k => base ≤ k) w W → wpList Try.prog ops Q rest (a.put o.dst (goInt zs.length)) W) : wpList Try.prog ops Q (o :: rest) a w := by
  have hn := hz.lens.1
  have hown' := hown
  obtain ⟨hlen, hown⟩ := hown
  rw [bv_len] at hlen
  rcases hown with ⟨-, h0⟩ | ⟨g, cap, cur, rfl, hb, hh, h1, h2, h3, h4⟩
  · omega
  by_cases h0 : zs.length = 0
  · obtain rfl : zs = [] := List.eq_nil_of_length_eq_zero h0
    refine wpList_copy_nothing hg d s _ _ ho 5 Try.underlying31 info8 _ _ 64 cap m cp hd hs (by rw [hn]; rfl) ?_
    exact hK w (by rw [over_nil]; exact hown') (But.refl _ _)
  · obtain ⟨ad, rfl, hsrc⟩ := hz.src (Below.refl _ _) (by rw [bv_len]; omega)
    refine wpList_copy_own hg d s _ _ ho 5 Try.underlying31 info8 g 0 64 cap ad m cp hd hs cur _ hh (bv zs) (by rw [bv_len, hn]; exact (Nat.min_eq_left hl).symm) hsrc (by rw [bv_len]; omega) (bv_one zs) ?_
    rw [bv_len]
    refine hK _ ⟨by simp [bv_len, over]; omega, .inr ⟨g, cap, _, rfl, hb, setRow_heap w g _ _ _ _ hh, h1, h2, ?_, ?_⟩⟩ ⟨rfl, rfl, rfl, by simp [World.setRow], fun k _ hk => ?_⟩
    · simp [bv_len]; omega
    · have e1 : (cur.toList.take 64) = bv S := by simpa using h4
      have e2 : cur.toList.drop zs.length = (cur.toList.take 64).drop zs.length ++ cur.toList.drop 64 := by
        rw [← List.drop_append_of_le_length (by simp; omega), List.take_append_drop]
      simp only [List.take_zero, List.nil_append, Nat.zero_add, Nat.mul_one]
      rw [e2, e1, ← List.append_assoc, ← bv_drop, ← bv_app]
      show List.take 64 (bv (over zs S) ++ _) = _
      rw [List.take_append_of_le_length (by simp [bv_len, over]; omega), List.take_of_length_le (by simp [bv_len, over]; omega)]
    · simp [World.setRow, Array.getElem?_modify, show ¬ g = k from fun e => hk (e ▸ hb)]

set_option maxHeartbeats 2000000 in
theorem writes_any (h : RefIn w q bn bs bo F n nw sf lo calls fu) (hc : calls < 999999) (hf : -1 ≤ fu) (hf2 : fu ≤ 9223372036854775807) {i : Nat} (hi : i < n) {v : Value} {zs : List Int} (hv : Sl w v zs) (hl : zs.length ≤ 64) (hF : ∀ b, w.heap.size ≤ b → ¬ F b) :
    Calls Try.prog 14 #[.pointer (some ⟨q, 0, none⟩), .int .i64 (i : Int), v] w fun e w' => e = .returned (.tuple #[]) ∧ RefIn w' q bn bs bo F n (fun j => if j = i then over zs (nw i) else nw j) sf (fun j => if j = i then true else lo j) (calls + 1) (dn fu) ∧ But (fun k => k = q ∨ k = bn ∨ k = bo) w w' := by
  obtain ⟨cn, cf, co, c0, c1, c2, -, -, k0, k1, k2, m0, m1, m2⟩ := h.cells
  obtain ⟨vi, hvi, hxi⟩ := h.now i hi
  have hm := h.most
  have HX := hide hxi
  have HS := hide hxi.sl
  have Hsec := hide hxi.sec
  have H := hide h
  obtain ⟨pv, nv, cv, rfl, hnv, hcv, Hnv, HV⟩ := hv.opens
  clear h hv hxi
  go_enter Try.func14, Try.ntmps14
  go_wp2_with (first
    | (refine wpList_append_sl rfl (.const (.slice none 0 0)) (.tmp 13) 31 rfl w.heap.size 5 Try.underlying31 Try.info5 _ 0 [] rfl (World.ownsRow_nil _ _ _ _) _ (nw i) rfl HS.out (by rw [Hsec.out.1]; omega) (Nat.le_refl _) ?_; intro v1 x1 ho1 hg1; rw [Nat.zero_add, List.nil_append, Hsec.out.1] at ho1; have hb1 : Below w.heap.size w x1 := below_new hg1)
    | (refine wpList_copy8 (.tmp 15) (.tmp 16) rfl rfl w.heap.size nv cv pv v1 (nw i) zs rfl rfl ho1 (HV.out.later hb1) hl ?_; intro x2 ho2 hb2))
  go_frame
  have hB2 : Below w.heap.size w x2 := Below.but hb1 hb1.size hb2 (fun k e => e)
  have hX2 : Sx x2 F v1 (over zs (nw i)) := Sx.own ho2 (Hsec.out.over hl HV.out.bd) (fun b hb _ => hF b hb)
  have h2 := H.out.later hB2
  have hne : ∀ W, But (fun _ => False) x2 W → W.cell? ⟨q, 0, none⟩ = some (.slice (some ⟨bn, 0, none⟩) n cn) ∧ W.cell? ⟨q, 2, none⟩ = some (.slice (some ⟨bo, 0, none⟩) n co) := fun W hW => by
    have hq := H.out.lts.1
    have hq2 : q < x2.heap.size := h2.lts.1
    exact ⟨by rw [hW.cell (p := ⟨q, 0, none⟩) hq2 id, hB2.cell (p := ⟨q, 0, none⟩) hq, c0], by rw [hW.cell (p := ⟨q, 2, none⟩) hq2 id, hB2.cell (p := ⟨q, 2, none⟩) hq, c2]⟩
  refine wp_region_noPanic ?_
  refine wp_region_P 12 (fun W => But (fun _ => False) x2 W) (by kernel_rfl) (But.refl _ _).drew (fun hHeld => ?_)
  refine wpAnyP_takeU (i := 0) (v := ?_) rfl (by kernel_rfl) (by kernel_rfl) (by kernel_rfl) (by decide) (fun _ _ _ h => h) (Or.inl ⟨by kernel_rfl, ?_⟩) hHeld ?_
  rotate_left
  · intro W hW; clear hW; go_simp; first | done | with_reducible rfl
  try simp only [Act.put, List.getElem_toArray, List.getElem_cons_zero, List.setIfInBounds_toArray, List.set_cons_succ, List.set_cons_zero]
  refine wpAnyP_takeU (i := 1) (v := ?_) rfl (by kernel_rfl) (by kernel_rfl) (by kernel_rfl) (by decide) (fun _ _ _ h => h) (Or.inl ⟨by kernel_rfl, ?_⟩) hHeld ?_
  rotate_left
  · intro W hW; clear hW; go_simp; first | done | with_reducible rfl
  try simp only [Act.put, List.getElem_toArray, List.getElem_cons_zero, List.getElem_cons_succ, List.setIfInBounds_toArray, List.set_cons_succ, List.set_cons_zero]
  refine wpAnyP_takeU (i := 2) (v := ?_) rfl (by kernel_rfl) (by kernel_rfl) (by kernel_rfl) (by decide) (fun _ _ _ h => h) (Or.inl ⟨by kernel_rfl, ?_⟩) hHeld ?_
  rotate_left
  · intro W hW; clear hW; go_simp; first | done | with_reducible rfl
  try simp only [Act.put, List.getElem_toArray, List.getElem_cons_zero, List.getElem_cons_succ, List.setIfInBounds_toArray, List.set_cons_succ, List.set_cons_zero]
  refine wpAnyP_take (i := 3) (v := .slice (some ⟨bn, 0, none⟩) n cn) rfl (by kernel_rfl) (by kernel_rfl) (by kernel_rfl) (by kernel_rfl) (by kernel_rfl) (by decide) (fun _ _ _ h => h) (Or.inl ⟨by kernel_rfl, ?_⟩) hHeld ?_
  · intro W hW; obtain ⟨e0, -⟩ := hne W hW; go_simp; first | done | with_reducible rfl
  try simp only [Act.put, List.getElem_toArray, List.getElem_cons_zero, List.getElem_cons_succ, List.setIfInBounds_toArray, List.set_cons_succ, List.set_cons_zero]
  refine wpAnyP_takeU (i := 4) (v := ?_) rfl (by kernel_rfl) (by kernel_rfl) (by kernel_rfl) (by decide) (fun _ _ _ h => h) (Or.inl ⟨by kernel_rfl, ?_⟩) hHeld ?_
  rotate_left
  · intro W hW; clear hW; go_simp; first | done | with_reducible rfl
  try simp only [Act.put, List.getElem_toArray, List.getElem_cons_zero, List.getElem_cons_succ, List.setIfInBounds_toArray, List.set_cons_succ, List.set_cons_zero]
  refine wpAnyP_takeU (i := 5) (v := ?_) rfl (by kernel_rfl) (by kernel_rfl) (by kernel_rfl) (by decide) (fun _ _ _ h => h) (Or.inl ⟨by kernel_rfl, ?_⟩) hHeld ?_
  rotate_left
  · intro W hW; clear hW; go_simp; first | done | with_reducible rfl
  try simp only [Act.put, List.getElem_toArray, List.getElem_cons_zero, List.getElem_cons_succ, List.setIfInBounds_toArray, List.set_cons_succ, List.set_cons_zero]
  refine wpAnyP_takeU (i := 6) (v := ?_) rfl (by kernel_rfl) (by kernel_rfl) (by kernel_rfl) (by decide) (fun _ _ _ h => h) (Or.inl ⟨by kernel_rfl, ?_⟩) hHeld ?_
  rotate_left
  · intro W hW; clear hW; go_simp; first | done | with_reducible rfl
  try simp only [Act.put, List.getElem_toArray, List.getElem_cons_zero, List.getElem_cons_succ, List.setIfInBounds_toArray, List.set_cons_succ, List.set_cons_zero]
  refine wpAnyP_takeU (i := 7) (v := ?_) rfl (by kernel_rfl) (by kernel_rfl) (by kernel_rfl) (by decide) (fun _ _ _ h => h) (Or.inl ⟨by kernel_rfl, ?_⟩) hHeld ?_
  rotate_left
  · intro W hW; clear hW; go_simp; first | done | with_reducible rfl
  try simp only [Act.put, List.getElem_toArray, List.getElem_cons_zero, List.getElem_cons_succ, List.setIfInBounds_toArray, List.set_cons_succ, List.set_cons_zero]
  refine wpAnyP_take (i := 8) (v := .slice (some ⟨bo, 0, none⟩) n co) rfl (by kernel_rfl) (by kernel_rfl) (by kernel_rfl) (by kernel_rfl) (by kernel_rfl) (by decide) (fun _ _ _ h => h) (Or.inl ⟨by kernel_rfl, ?_⟩) hHeld ?_
  · intro W hW; obtain ⟨-, e2⟩ := hne W hW; go_simp; first | done | with_reducible rfl
  try simp only [Act.put, List.getElem_toArray, List.getElem_cons_zero, List.getElem_cons_succ, List.setIfInBounds_toArray, List.set_cons_succ, List.set_cons_zero]
  refine wpAnyP_takeU (i := 9) (v := ?_) rfl (by kernel_rfl) (by kernel_rfl) (by kernel_rfl) (by decide) (fun _ _ _ h => h) (Or.inl ⟨by kernel_rfl, ?_⟩) hHeld ?_
  rotate_left
  · intro W hW; clear hW; go_simp; first | done | with_reducible rfl
  try simp only [Act.put, List.getElem_toArray, List.getElem_cons_zero, List.getElem_cons_succ, List.setIfInBounds_toArray, List.set_cons_succ, List.set_cons_zero]
  refine wpAnyP_takeU (i := 10) (v := ?_) rfl (by kernel_rfl) (by kernel_rfl) (by kernel_rfl) (by decide) (fun _ _ _ h => h) (Or.inl ⟨by kernel_rfl, ?_⟩) hHeld ?_
  rotate_left
  · intro W hW; clear hW; go_simp; first | done | with_reducible rfl
  try simp only [Act.put, List.getElem_toArray, List.getElem_cons_zero, List.getElem_cons_succ, List.setIfInBounds_toArray, List.set_cons_succ, List.set_cons_zero]
  refine wpAnyP_takeU (i := 11) (v := .pointer (some ⟨bn, i, none⟩)) rfl (by kernel_rfl) (by kernel_rfl) (by kernel_rfl) (by decide) (fun _ _ _ h => h) (Or.inl ⟨by kernel_rfl, ?_⟩) hHeld ?_
  · intro W hW; clear hW; go_simp; first | done | with_reducible rfl
  try simp only [Act.put, List.getElem_toArray, List.getElem_cons_zero, List.getElem_cons_succ, List.setIfInBounds_toArray, List.set_cons_succ, List.set_cons_zero]
  obtain ⟨vo, hvo, -⟩ := h2.now i hi
  have hfr := (h2.free i).2.1
  have h3 := h2.setNow hi hX2
  have hlo := h3.loo i hi
  have hfo := (h3.free i).2.2.2
  have hX2' := hX2
  obtain ⟨b1, cap1, rfl, -⟩ := hX2'
  refine wpAnyP_ready (rs := [12]) (by kernel_rfl) (by simp) ?_
  refine AllReadyP.late (o := _) rfl (by kernel_rfl) (fun K hK => ?_)
  rw [if_pos (by kernel_rfl)]
  go_simp
  refine hK.out _ _ ?_
  clear hK K
  try simp only [Act.put, List.getElem_toArray, List.getElem_cons_zero, List.getElem_cons_succ]
  refine wpAnyP_ready (rs := [13]) (by kernel_rfl) (by simp) ?_
  refine AllReadyP.late (o := _) rfl (by kernel_rfl) (fun K hK => ?_)
  rw [if_pos (by kernel_rfl)]
  go_simp
  refine hK.out _ _ ?_
  clear hK K
  try simp only [Act.put, List.getElem_toArray, List.getElem_cons_zero, List.getElem_cons_succ, List.setIfInBounds_toArray, List.set_cons_succ, List.set_cons_zero]
  refine wpAnyP_ready (rs := [14]) (by kernel_rfl) (by simp) ?_
  refine AllReadyP.late (o := _) rfl (by kernel_rfl) (fun K hK => ?_)
  rw [if_pos (by kernel_rfl)]
  go_simp
  refine hK.out _ _ ?_
  clear hK K
  try simp only [Act.put, List.getElem_toArray, List.getElem_cons_zero, List.getElem_cons_succ]
  refine wpAnyP_done (by kernel_rfl) ?_ _
  refine NoPanic.normal ?_
  have H5 : Hid (RefIn ((x2.setCell ⟨bn, i, none⟩ (.slice (some ⟨b1, 0, none⟩) 64 cap1)).setCell ⟨bo, i, none⟩ (.bool true)).drew q bn bs bo F n (fun j => if j = i then over zs (nw i) else nw j) sf (fun j => if j = i then true else lo j) calls fu) := (h3.setLoo hi true).drew
  have HB5 : Hid (But (fun k => k = q ∨ k = bn ∨ k = bo) w ((x2.setCell ⟨bn, i, none⟩ (.slice (some ⟨b1, 0, none⟩) 64 cap1)).setCell ⟨bo, i, none⟩ (.bool true)).drew) := (((But.of hB2).trans ((But.one x2 bn i _).mono fun k _ e => .inr (.inl e))).trans ((But.one _ bo i _).mono fun k _ e => .inr (.inr e))).drew
  generalize ((x2.setCell ⟨bn, i, none⟩ (.slice (some ⟨b1, 0, none⟩) 64 cap1)).setCell ⟨bo, i, none⟩ (.bool true)).drew = W5 at *
  clear hHeld hne h3 h2 hX2 hB2 hb2 ho2 hb1 ho1 hg1 hlo hfo hvo hfr H HX HS Hsec HV
  go_wp2_with (first | (refine (next_any H5.out hc hf hf2).mono ?_; rintro e W6 ⟨rfl, h6, hb6⟩))
  go_end0
  exact ⟨rfl, h6, HB5.out.trans (hb6.mono fun k _ e => .inl e)⟩

end
end Go.Proofs.Ytjgdbialapdggaa
