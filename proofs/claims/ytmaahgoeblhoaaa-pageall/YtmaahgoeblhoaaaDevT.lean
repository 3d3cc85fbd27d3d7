/-
  Contracts of package dev: Write.
-/
import Derived.Test.YtmaahgoeblhoaaaDevO
namespace Go.Proofs.Ytmaahgoeblhoaaa
open Go.RowKit Go.Maps

theorem info8 : (Try.prog.info? 5).map (·.size) = some 1 := by kernel_rfl

/-- 'm[i] = s', one of the operations of a region that draws. -/
theorem wp_mapUpdate64 {o : Oper} {a : Act} {w : World} {K : Act → World → Prop} {Q : Exit → Act → World → Prop} (m x v : Operand) (hop : o.op = Op.mapUpdate 48 m x v) (bm nn i : Nat) (s : List Int) (D : DataW (List Int)) (hm : a.eval m = .map (some bm)) (hx : a.eval x = .int .i64 (i : Int)) (hv : a.eval v = .agg (cs s))
    (hi : i ≤ 9223372036854775807) (hown : w.ownsMap Try.prog 3 rd64 bm nn D) (hn : nn < maxLen) (hs : Sec s)
    (h : ∀ w', w'.ownsMap Try.prog 3 rd64 bm (nn + 1) (D.put (.int .i64 (i : Int)) (.held s)) → w.grownBy w' (some bm) → K (a.put o.dst undef) w') : o.wp Try.prog a w K Q := by
  obtain ⟨w', hrun, r1, r2⟩ := hown.update intKeyed Try.underlying48 hn (key_i64 (z := (i : Int)) (by omega) (by omega)) (rd64_mk hs)
  unfold Oper.wp
  simp [execOp, hop, hm, hx, hv, hrun, Result.andThen, Oper.upon]
  exact h w' r1 r2

theorem But.grown {S : Nat → Prop} {a w w' : World} {b : Nat} (h : But S a w) (hg : w.grownBy w' (some b)) (hs : S b) : But S a w' :=
  h.trans ⟨hg.os, hg.tape, hg.output, hg.size, fun k hk hn => hg.block k hk fun e => by cases e; exact hn hs⟩

theorem But.drew {S : Nat → Prop} {a w : World} (h : But S a w) : But S a w.drew := ⟨h.os, h.tape, h.output, h.size, h.block⟩

theorem over_eq (zs s : List Int) : (bv zs ++ (bv s).drop (bv zs).length).toArray = cs (over zs s) := by
  simp [cs, over, bv_app, bv_len]
  simp [bv, List.map_drop]

theorem over_nil (s : List Int) : over [] s = s := by simp [over]

/-- 'copy(s[:], b)'. -/
theorem wpList_copy64 {w : World} {ops : Array Oper} {rest : List Oper} {o : Oper} {a : Act} {Q : Exit → Act → World → Prop} (d s : Operand) (hg : o.guard = none) (ho : o.op = .call { callee := .builtin .copy, args := #[d, s], argTypes := #[23, 23] })
    (b n cp : Nat) (p : Option Addr) (S zs : List Int) (hd : a.eval d = .slice (some ⟨b, 0, none⟩) 64 64) (hs : a.eval s = .slice p n cp) (hb : Box w b S) (hS : Sec S) (hz : Sl w (.slice p n cp) zs) (hl : zs.length ≤ 64)
    (hK : ∀ W, But (· = b) w W → W.heap.size = w.heap.size → Box W b (over zs S) → wpList Try.prog ops Q rest (a.put o.dst (goInt zs.length)) W) : wpList Try.prog ops Q (o :: rest) a w := by
  have hn := hz.lens.1
  by_cases h0 : zs.length = 0
  · obtain rfl : zs = [] := List.eq_nil_of_length_eq_zero h0
    refine wpList_copy_nothing hg d s _ _ ho 5 Try.underlying23 info8 _ _ 64 64 n cp hd hs (by rw [hn]; rfl) ?_
    exact hK w (But.refl _ _) rfl (by rw [over_nil]; exact hb)
  · obtain ⟨ad, rfl, hsrc⟩ := hz.src (Below.refl _ _) (by rw [bv_len]; omega)
    refine wpList_copy_own hg d s _ _ ho 5 Try.underlying23 info8 b 0 64 64 ad n cp hd hs (cs S) _ hb (bv zs) (by rw [bv_len, hn]; exact (Nat.min_eq_left hl).symm) hsrc (by rw [bv_len, cs_size hS]; omega) (bv_one zs) ?_
    rw [bv_len]
    have e : ((cs S).toList.take 0 ++ (bv zs ++ (cs S).toList.drop (0 + zs.length))).toArray = cs (over zs S) := by
      rw [← over_eq, cs_list, bv_len]; simp
    rw [e]
    have hb' : w.heap[b]? = some (.cells (cs S) 46 (0, 0)) := hb
    refine hK _ ⟨rfl, rfl, rfl, by simp [World.setRow], fun k _ hk => ?_⟩ (by simp [World.setRow]) ?_
    · simp [World.setRow, Array.getElem?_modify, show ¬ b = k from fun e => hk e.symm]
    · simp [Box, World.setRow, Array.getElem?_modify, hb']

/-- A sector laid. -/
theorem DevIn.lays {w w' : World} {g bl bm : Nat} {d : Dv} {cap : Nat} {D : DataW (List Int)} {fu : Bool} {le : Int} {cur : Array Value} (h : DevIn w g bl bm d cap D fu le cur) (hb : But (· = bm) w w') {i n : Nat} {zs : List Int} (hi : i < d.n) (hl : zs.length ≤ 64) (hz : ∀ z ∈ zs, 0 ≤ z ∧ z ≤ 255)
    (hm : w'.ownsMap Try.prog 3 rd64 bm n (D.put (.int .i64 (i : Int)) (.held (over zs (d.at_ i))))) : DevAt w' g bl bm (d.lay i zs) := by
  have hap := DevAt.apart ⟨cap, D, fu, le, cur, h⟩
  have l2 := blk_lt h.row
  have hlo : Lo (D.put (.int .i64 (i : Int)) (.held (over zs (d.at_ i)))) (d.lay i zs).loose := h.lo.put h.map.isMap i _
  have hok := Dv.lay_ok h.ok hi hl hz
  refine ⟨cap, _, fu, le, cur, by rw [hb.block g (blk_lt h.me) hap.2.1]; exact h.me, h.fuse, by rw [hb.block bl l2 hap.2.2, h.row], h.room, h.big, h.size, fun i hi j v hv => ?_, lo_size hm hlo hok, hlo, hok⟩
  rw [hb.cell (p := ⟨bl, i * 64 + j, none⟩) l2 hap.2.2]
  exact h.last i hi j v hv

set_option maxRecDepth 100000 in
set_option maxHeartbeats 1000000 in
theorem write_any {w : World} {g bl bm : Nat} {d : Dv} (h : DevAt w g bl bm d) (hd : d.dead = false) (hc : d.calls < 999999) {i : Nat} (hi : i < d.n) {v : Value} {zs : List Int} (hv : Sl w v zs) (hl : zs.length ≤ 64) :
    Calls Try.prog 14 #[.pointer (some ⟨g, 0, none⟩), .int .i64 (i : Int), v] w fun e w' => e = .returned (.int .i64 0) ∧ DevAt w' g bl bm (d.write i zs) ∧ But (fun k => k = g ∨ k = bm) w w' := by
  have hm := h.ok.most
  have H := hide h
  have HS := hide (h.ok.at_ hi)
  have Hd := hide hd
  have h1 : (decide (0 ≤ (i : Int)) && decide ((i : Int) < (d.n : Int))) = true := by simp; omega
  obtain ⟨p, n, cp, rfl, hnc, hcp, Hn, HV⟩ := hv.opens
  have hn64 : n ≤ 64 := by rw [Hn.out]; exact hl
  have hgt : decide ((n : Int) > 64) = false := by simp; omega
  clear h hd hv
  go_enter Try.func14, Try.ntmps14
  go_wp2_with (first
    | (with_reducible refine (dead_any H.out).mono ?_; rintro e w ⟨rfl, rfl⟩; rw [Hd.out])
    | (with_reducible refine (has_any H.out _).mono ?_; rintro e w ⟨rfl, rfl⟩; rw [h1])
    | (with_reducible refine (at_any H.out hi).mono ?_; rintro e x ⟨rfl, hB1⟩)
    | (refine wpList_alloc64 7 rfl rfl rfl ?_; intro W2 hB2 hX2)
    | (refine wpList_store64 (.tmp 7) (.tmp 19) rfl rfl _ (d.at_ i) nought rfl rfl hX2 sec_nought HS.out ?_; intro W3 hb3 hs3 hX3; have hB3 := hide (Below.but (hB1.trans (hB2.mono hB1.size)) (Nat.le_trans hB1.size hB2.size) hb3 (fun k e => by have := hB1.size; omega)))
    | (refine wpList_copy64 (.tmp 20) (.tmp 21) rfl rfl _ n cp p (d.at_ i) zs rfl rfl hX3 HS.out (HV.out.later hB3.out) hl ?_; intro W4 hb4 hs4 hX4))
  go_frame
  have hB4 : Below w.heap.size w W4 := Below.but hB3.out hB3.out.size hb4 (fun k e => by have := hB1.size; omega)
  have hxs := hB1.size
  obtain ⟨cap, D, fu, le, cur, h4⟩ := H.out.later hB4
  have hO : Sec (over zs (d.at_ i)) := HS.out.over hl HV.out.bd
  have hlt := H.out.lts
  have hne : ∀ W, But (· = bm) W4 W → W.cell? ⟨g, 1, none⟩ = some (.map (some bm)) ∧ Box W x.heap.size (over zs (d.at_ i)) := fun W hW =>
    ⟨by rw [hW.cell (p := ⟨g, 1, none⟩) (blk_lt h4.me) (DevAt.apart ⟨_, _, _, _, _, h4⟩).2.1]; exact h4.cells.2.1, hX4.but hW (by omega)⟩
  refine wp_region_noPanic ?_
  refine wp_region_held_drew (S := fun W => But (· = bm) W4 W) (by kernel_rfl) ?_ (fun hHeld => ?_)
  · exact (But.refl _ _).drew
  refine wpAnyH_take (i := 0) (v := ?_) rfl (by kernel_rfl) (by kernel_rfl) (by kernel_rfl) (fun _ _ _ h => h) (Or.inl ⟨by kernel_rfl, ?_⟩) hHeld ?_
  rotate_left
  · intro W hW; go_simp; first | done | with_reducible rfl
  try simp only [Act.put, List.getElem_toArray, List.getElem_cons_zero, List.setIfInBounds_toArray, List.set_cons_succ, List.set_cons_zero]
  refine wpAnyH_take (i := 1) (v := ?_) rfl (by kernel_rfl) (by kernel_rfl) (by kernel_rfl) (fun _ _ _ h => h) (Or.inl ⟨by kernel_rfl, ?_⟩) hHeld ?_
  rotate_left
  · intro W hW; go_simp; first | done | with_reducible rfl
  try simp only [Act.put, List.getElem_toArray, List.getElem_cons_zero, List.getElem_cons_succ, List.setIfInBounds_toArray, List.set_cons_succ, List.set_cons_zero]
  refine wpAnyH_take (i := 2) (v := ?_) rfl (by kernel_rfl) (by kernel_rfl) (by kernel_rfl) (fun _ _ _ h => h) (Or.inl ⟨by kernel_rfl, ?_⟩) hHeld ?_
  rotate_left
  · intro W hW; go_simp; first | done | with_reducible rfl
  try simp only [Act.put, List.getElem_toArray, List.getElem_cons_zero, List.getElem_cons_succ, List.setIfInBounds_toArray, List.set_cons_succ, List.set_cons_zero]
  refine wpAnyH_take (i := 3) (v := .map (some bm)) rfl (by kernel_rfl) (by kernel_rfl) (by kernel_rfl) (fun _ _ _ h => h) (Or.inl ⟨by kernel_rfl, ?_⟩) hHeld ?_
  · intro W hW; obtain ⟨c1, -⟩ := hne W hW; go_simp
  try simp only [Act.put, List.getElem_toArray, List.getElem_cons_zero, List.getElem_cons_succ, List.setIfInBounds_toArray, List.set_cons_succ, List.set_cons_zero]
  refine wpAnyH_take (i := 4) (v := ?_) rfl (by kernel_rfl) (by kernel_rfl) (by kernel_rfl) (fun _ _ _ h => h) (Or.inl ⟨by kernel_rfl, ?_⟩) hHeld ?_
  rotate_left
  · intro W hW; go_simp; first | done | with_reducible rfl
  try simp only [Act.put, List.getElem_toArray, List.getElem_cons_zero, List.getElem_cons_succ, List.setIfInBounds_toArray, List.set_cons_succ, List.set_cons_zero]
  refine wpAnyH_take (i := 5) (v := .agg (cs (over zs (d.at_ i)))) rfl (by kernel_rfl) (by kernel_rfl) (by kernel_rfl) (fun _ _ _ h => h) (yieldsIf_load_mid (by kernel_rfl) 46 (.tmp 7) rfl _ 0 rfl (bv (over zs (d.at_ i))) _ (fun W hW => (hne W hW).2.range) Try.underlying46 rfl (by rw [size64, bv_len, hO.1])) hHeld ?_
  try simp only [Act.put, List.getElem_toArray, List.getElem_cons_zero, List.getElem_cons_succ, List.setIfInBounds_toArray, List.set_cons_succ, List.set_cons_zero]
  refine wpAnyH_ready (rs := [6]) (by kernel_rfl) (by simp) ?_
  refine AllReadyH.cons (o := _) rfl (fun K hK => ?_) AllReadyH.nil
  rw [if_pos (by kernel_rfl)]
  refine wp_mapUpdate64 (.tmp 26) (.tmp 27) (.tmp 28) rfl bm d.n i _ D (by kernel_rfl) (by kernel_rfl) (by kernel_rfl) (by omega) (h4.map : W4.drew.ownsMap Try.prog 3 rd64 bm d.n D) (by unfold maxLen; omega) hO ?_
  intro W5 hm5 hg5
  have hb5 : But (· = bm) W4 W5 := ((But.refl _ _).drew).grown hg5 rfl
  refine hK.out _ _ hb5 (fun hHeld => ?_)
  clear hK K
  refine wpAnyH_done (by kernel_rfl) ?_ _
  refine NoPanic.normal ?_
  go_simp
  have H5 : Hid (DevAt W5 g bl bm (d.lay i zs)) := h4.lays hb5 hi hl HV.out.bd hm5
  have HB5 : Hid (But (fun k => k = g ∨ k = bm) w W5) := (But.of hB4).trans (hb5.mono fun k _ e => .inr e)
  have Hc : Hid ((d.lay i zs).calls < 999999) := hc
  have HD : Hid ((d.lay i zs).dead = false) := Hd.out
  clear hHeld hg5 hm5 hb5 hne hO hlt h4 hxs hB4 hX4 hs4 hb4 hB3 hX3 hs3 hb3 hX2 hB2 hB1 hgt hn64 Hn hcp hnc h1 HS Hd hm hl hi hc H HV
  go_wp2_with (first
    | (refine (count_any H5.out Hc.out HD.out).mono ?_; rintro e W6 ⟨rfl, h6, hb6⟩))
  go_ret
  exact ⟨rfl, h6, HB5.out.trans (hb6.mono fun k _ e => .inl e)⟩

set_option maxHeartbeats 400000 in
theorem write_dead {w : World} {g bl bm : Nat} {d : Dv} (h : DevAt w g bl bm d) (hd : d.dead = true) (z : Int) (v : Value) :
    Calls Try.prog 14 #[.pointer (some ⟨g, 0, none⟩), .int .i64 z, v] w fun e w' => e = .returned (.int .i64 5) ∧ w' = w := by
  have H := hide h
  have Hd := hide hd
  clear h hd
  go_enter Try.func14, Try.ntmps14
  go_wp2_with (first
    | (with_reducible refine (dead_any H.out).mono ?_; rintro e w ⟨rfl, rfl⟩; rw [Hd.out]))
  go_ret
  exact ⟨rfl, rfl⟩

set_option maxHeartbeats 400000 in
theorem write_nil (w : World) (z : Int) (v : Value) : Calls Try.prog 14 #[.pointer none, .int .i64 z, v] w fun e w' => e = .returned (.int .i64 5) ∧ w' = w := by
  go_enter Try.func14, Try.ntmps14
  go_wp2_with (first
    | (with_reducible refine (dead_nil _).mono ?_; rintro e w ⟨rfl, rfl⟩))
  go_ret
  exact ⟨rfl, rfl⟩

set_option maxHeartbeats 400000 in
theorem write_out {w : World} {g bl bm : Nat} {d : Dv} (h : DevAt w g bl bm d) (hd : d.dead = false) {z : Int} (hz : ¬ (0 ≤ z ∧ z < (d.n : Int))) (v : Value) :
    Calls Try.prog 14 #[.pointer (some ⟨g, 0, none⟩), .int .i64 z, v] w fun e w' => e = .returned (.int .i64 3) ∧ w' = w := by
  have H := hide h
  have Hd := hide hd
  have h1 : (decide (0 ≤ z) && decide (z < (d.n : Int))) = false := by simp; omega
  clear h hd hz
  go_enter Try.func14, Try.ntmps14
  go_wp2_with (first
    | (with_reducible refine (dead_any H.out).mono ?_; rintro e w ⟨rfl, rfl⟩; rw [Hd.out])
    | (with_reducible refine (has_any H.out _).mono ?_; rintro e w ⟨rfl, rfl⟩; rw [h1]))
  go_ret
  exact ⟨rfl, rfl⟩

set_option maxHeartbeats 400000 in
theorem write_long {w : World} {g bl bm : Nat} {d : Dv} (h : DevAt w g bl bm d) (hd : d.dead = false) {i : Nat} (hi : i < d.n) {v : Value} {zs : List Int} (hv : Sl w v zs) (hl : 64 < zs.length) :
    Calls Try.prog 14 #[.pointer (some ⟨g, 0, none⟩), .int .i64 (i : Int), v] w fun e w' => e = .returned (.int .i64 1) ∧ w' = w := by
  have H := hide h
  have Hd := hide hd
  have h1 : (decide (0 ≤ (i : Int)) && decide ((i : Int) < (d.n : Int))) = true := by simp; omega
  obtain ⟨p, n, cp, rfl, hnc, hcp, Hn, HV⟩ := hv.opens
  have hn64 : 64 < n := by rw [Hn.out]; exact hl
  clear h hd hv
  go_enter Try.func14, Try.ntmps14
  go_wp2_with (first
    | (with_reducible refine (dead_any H.out).mono ?_; rintro e w ⟨rfl, rfl⟩; rw [Hd.out])
    | (with_reducible refine (has_any H.out _).mono ?_; rintro e w ⟨rfl, rfl⟩; rw [h1]))
  go_ret
  exact ⟨rfl, rfl⟩

end Go.Proofs.Ytmaahgoeblhoaaa
