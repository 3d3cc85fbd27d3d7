/-
  The helper 'begun' of the laws of package node returns true and writes nothing that was there.
-/
import Derived.Test.YtbddghdkmakjlabGk
import Derived.Test.YtbddghdkmakjlabNodO
import Derived.Test.YtbddghdkmakjlabKrn
import Derived.Test.YtbddghdkmakjlabNodZ
import Derived.Deep.Cut
namespace Go.Proofs.Ytbddghdkmakjlab
set_option maxRecDepth 100000
set_option linter.unusedVariables false
open Go.RowKit

def q1 : Ce := ⟨⟨#[97]⟩, ⟨1, 4607182418800017408, ⟨#[]⟩⟩, 0, Va.zero⟩
def nL : No := ⟨true, [q1], [], []⟩
def nM : No := ⟨false, [], [⟨#[107]⟩], [2, 3]⟩
theorem q1_ok : q1.Ok := ⟨by decide, ⟨by decide, by decide, by decide, by decide⟩, by decide, by decide, Va.ok_zero⟩
theorem nL_ok : nL.Ok := by
  refine ⟨fun c hc => ?_, fun c hc => ?_, fun c hc => ?_⟩
  · rw [show nL.C = [q1] from rfl, List.mem_singleton] at hc
    rw [hc]
    exact q1_ok
  · exact absurd hc List.not_mem_nil
  · exact absurd hc List.not_mem_nil
theorem nM_ok : nM.Ok := by
  refine ⟨fun c hc => ?_, fun c hc => ?_, fun z hz => ?_⟩
  · exact absurd hc List.not_mem_nil
  · rw [show nM.K = [⟨#[107]⟩] from rfl, List.mem_singleton] at hc
    rw [hc]
    decide
  · rw [show nM.I = [2, 3] from rfl] at hz
    simp at hz
    omega
theorem tl1 (b : UInt8) : (⟨#[b]⟩ : ByteArray).toList = [b] := by rw [ByteArray.toList_eq]
theorem nL_may : nL.may = true := by decide
theorem nM_may : nM.may = true := by decide
theorem nZ_may : No.zero.may = false := by decide
theorem nL_len : nL.bytes.length = 14 := by decide
theorem nM_len : nM.bytes.length = 6 := by decide
theorem nL_enc : nL.enc = (No.pad nL.bytes, 0) := No.enc_ok nL_may (by rw [nL_len]; omega)
theorem nM_enc : nM.enc = (No.pad nM.bytes, 0) := No.enc_ok nM_may (by rw [nM_len]; omega)
theorem nM_dec : No.dec (No.pad nM.bytes) = (nM, 0) := No.dec_page nM_ok nM_may (by rw [nM_len]; omega)
theorem nL_size : nL.size = 14 := by rw [No.size_is nL_may, nL_len]; rfl
theorem nM_kid1 : nM.kid ⟨#[107]⟩ = 1 := by
  unfold No.kid
  rw [nM_may]
  simp [nM, No.lead, Op.bytesLess]
theorem nM_kid0 : nM.kid ⟨#[106]⟩ = 0 := by
  unfold No.kid
  rw [nM_may]
  simp [nM, No.lead, Op.bytesLess]
theorem nL_kid : nL.kid ⟨#[106]⟩ = -1 := by decide
def nought256 : List Int := List.replicate 256 0
theorem nL_head : (No.pad nL.bytes).getD 0 0 = 1 := rfl
theorem nought_dec : No.dec nought256 = (No.zero, 8) := by
  unfold nought256
  refine No.dec_none ?_
  have e : (List.replicate 256 (0 : Int)).drop 1 = Nm.num 0 ++ List.replicate 254 0 := by decide
  have hg := Nm.get_num 0 (by decide) (by decide) (List.replicate 254 0)
  rw [← e] at hg
  have hl : ((Nm.num 0).length : Int) = 1 := by decide
  rw [hl] at hg
  rw [rd_go hg (by decide)]
  exact rdN_none _ (by decide) (by decide)

theorem nought_sl (w : World) (e : TypeId) : Sl (w.alloc (.cells (madeCells #[Value.int .u8 0] 256) e)) (.slice (some ⟨w.heap.size, 0, none⟩) 256 256) nought256 := by
  have hl : nought256.length = 256 := by unfold nought256; exact List.length_replicate
  have hb : ∀ z ∈ nought256, 0 ≤ z ∧ z ≤ 255 := by intro z hz; unfold nought256 at hz; have := List.eq_of_mem_replicate hz; omega
  refine ⟨some ⟨w.heap.size, 0, none⟩, 256, by rw [hl], by omega, by unfold maxLen; omega, hb, fun i hi => ⟨w.heap.size, 0, rfl, ?_⟩⟩
  have hz : nought256.getD i 0 = 0 := by rw [getD_at hi]; unfold nought256; exact List.getElem_replicate _
  rw [hz, Nat.zero_add]
  refine cell_blk (made_heap w (.int .u8 0) 256 e) ?_
  rw [hl] at hi
  rw [List.getElem?_toArray, List.getElem?_replicate, if_pos hi]

theorem encode_at {vc vk vi : Value} {n : No} {w : World} {p : List Int} {x : Int} (h : Nb w vc vk vi n) (hf : n.few) (he : n.enc = (p, x)) :
    Calls Try.prog 8 #[.agg (nv n.L vc vk vi)] w fun e w' => ∃ v', e = .returned (.tuple #[v', .int .i64 x]) ∧ w'.ownsRow w.heap.size 5 1 v' p.length (bv p) ∧ Below w.heap.size w w' := by
  have := encode_any vc vk vi n w h hf
  rw [he] at this
  exact this
theorem decode_at {v : Value} {zs : List Int} {w : World} {n : No} {x : Int} (h : Sl w v zs) (he : No.dec zs = (n, x)) :
    Calls Try.prog 12 #[v] w fun e w' => Below w.heap.size w w' ∧ ∃ vc vk vi, e = .returned (.tuple #[.agg (nv n.L vc vk vi), .int .i64 x]) ∧ Nb w' vc vk vi n ∧ n.few := by
  have := decode_any v zs w h
  rw [he] at this
  exact this
theorem few1 (n : No) (h : n.C.length ≤ 100000) : n.few := h

section
variable {w : World} {ops : Array Oper} {rest : List Oper} {o : Oper} {a : Act} {Q : Exit → Act → World → Prop}
/-- '[]cell.Cell{x}'. -/
theorem wpList_litC (y : Operand) (c : Ce) (hok : c.Ok) (hg : o.guard = none) (hop : o.op = Op.buildSlice 39 1 #[(0, y)]) (hy : a.eval y = .agg (cv c))
    (h : ∀ W, Below w.heap.size w W → Cs W (.slice (some ⟨w.heap.size, 0, none⟩) 1 1) [c] → wpList Try.prog ops Q rest (a.put o.dst (.slice (some ⟨w.heap.size, 0, none⟩) 1 1)) W) : wpList Try.prog ops Q (o :: rest) a w := by
  refine wpList_buildN hg 39 46 (.agg (cv Ce.zero)) 8 88 Try.underlying39 infoV rfl (by decide) (by decide) y hop (.agg (cv c)) hy rfl (h _ ((Below.refl _ _).alloc (Nat.le_refl _) _) ?_)
  have := World.ownsRow_lit (base := 0) (e := 46) (size := 8) w (cv c) 1 (Nat.zero_le _) (by unfold maxLen; omega) rfl
  rw [show (cv c).toList = cc [c] by simp [cc]] at this
  exact Cs.own this (by intro q hq; rw [List.mem_singleton] at hq; rw [hq]; exact hok)
/-- '[]string{x}'. -/
theorem wpList_litK (y : Operand) (s : ByteArray) (hok : s.size ≤ maxLen) (hg : o.guard = none) (hop : o.op = Op.buildSlice 23 1 #[(0, y)]) (hy : a.eval y = .string s)
    (h : ∀ W, Below w.heap.size w W → Ts W (.slice (some ⟨w.heap.size, 0, none⟩) 1 1) [s] → wpList Try.prog ops Q rest (a.put o.dst (.slice (some ⟨w.heap.size, 0, none⟩) 1 1)) W) : wpList Try.prog ops Q (o :: rest) a w := by
  refine wpList_buildN hg 23 9 (.string ⟨#[]⟩) 1 16 Try.underlying23 infoT rfl (by decide) (by decide) y hop (.string s) hy rfl (h _ ((Below.refl _ _).alloc (Nat.le_refl _) _) ?_)
  have := World.ownsRow_lit (base := 0) (e := 9) (size := 1) w #[.string s] 1 (Nat.zero_le _) (by unfold maxLen; omega) rfl
  exact Ts.own (K := [s]) this (by intro q hq; rw [List.mem_singleton] at hq; rw [hq]; exact hok)
/-- '[]int{a, b}'. -/
theorem wpList_litI2 (x y : Int) (parts : Array (Nat × Operand)) (hp : parts.toList = ([x, y].zipIdx 0).map fun z => (z.2, Operand.const (Value.int .i64 z.1))) (hx : -9223372036854775808 ≤ x ∧ x ≤ 9223372036854775807) (hy : -9223372036854775808 ≤ y ∧ y ≤ 9223372036854775807) (hg : o.guard = none) (hop : o.op = Op.buildSlice 24 2 parts)
    (h : ∀ W, Below w.heap.size w W → Is W (.slice (some ⟨w.heap.size, 0, none⟩) 2 2) [x, y] → wpList Try.prog ops Q rest (a.put o.dst (.slice (some ⟨w.heap.size, 0, none⟩) 2 2)) W) : wpList Try.prog ops Q (o :: rest) a w := by
  refine wpList_buildFlat hg 24 3 2 _ hop .i64 [x, y] Try.underlying24 (by kernel_rfl) (by kernel_rfl) rfl (by decide) (by decide) hp (h _ ((Below.refl _ _).alloc (Nat.le_refl _) _) ?_)
  have := World.ownsRow_lit (base := 0) (e := 3) (size := 1) w #[.int .i64 x, .int .i64 y] 2 (Nat.zero_le _) (by unfold maxLen; omega) rfl
  exact Is.own (I := [x, y]) this (by intro q hq; simp at hq; rcases hq with rfl | rfl <;> assumption)
/-- 'make([]byte, 256)'. -/
theorem wpList_mk256 (x y : Operand) (hg : o.guard = none) (hop : o.op = Op.makeSlice 35 x y) (hx : a.eval x = .int .i64 256) (hy : a.eval y = .int .i64 256)
    (h : ∀ W, Below w.heap.size w W → Sl W (.slice (some ⟨w.heap.size, 0, none⟩) 256 256) nought256 → wpList Try.prog ops Q rest (a.put o.dst (.slice (some ⟨w.heap.size, 0, none⟩) 256 256)) W) : wpList Try.prog ops Q (o :: rest) a w := by
  obtain ⟨i0, hi, hz0, hz1, hz2⟩ := info_parts Try.info5
  have hmk := run_make (P := Try.prog) w 35 5 i0 (.int .u8 0) Try.underlying35 hi hz0 .i64 .i64 256 256 (by omega) (by omega) (by rw [hz2]; omega) (by omega)
  have hm2 : (Instr.makeSlice 35 (.int .i64 256) (.int .i64 256)).run Try.prog w = .ok (.slice (some ⟨w.heap.size, 0, none⟩) 256 256) (w.alloc (.cells (madeCells #[Value.int .u8 0] 256) 5)) := by
    rw [hz1] at hmk
    exact hmk
  refine wpList_plain hg fun K' hK' => ?_
  unfold Oper.wp
  simp only [execOp, hop, hx, hy, Sem.run_bind, hm2, Result.andThen_ok]
  exact hK' _ _ (h _ ((Below.refl _ _).alloc (Nat.le_refl _) _) (nought_sl w _))
end

theorem sl_nn0 : ∀ (k : Nat) z, nn0[k]? ≠ some (Value.int .u8 z) := by
  intro k z
  match k with
  | 0 => simp [nn0, nv]
  | 1 => simp [nn0, nv]
  | 2 => simp [nn0, nv]
  | 3 => simp [nn0, nv]
  | n + 4 => simp [nn0, nv]
theorem sl_beside {w w' : World} {b : Nat} {cs : Array Value} (hX : Bx w b cs) (hp : ∀ (k : Nat) z, cs[k]? ≠ some (Value.int .u8 z)) (hb : But (· = b) w w') {v : Value} {zs : List Int} (h : Sl w v zs) : Sl w' v zs := by
  obtain ⟨a, cap, e, h1, h2, h3, h4⟩ := h
  refine ⟨a, cap, e, h1, h2, h3, fun i hi => ?_⟩
  obtain ⟨b', off, ea, hc⟩ := h4 i hi
  refine ⟨b', off, ea, ?_⟩
  rw [hb.cell (p := ⟨b', off + i, none⟩) (cell_lt hc) (fun e => ?_), hc]
  have e' : b' = b := e
  subst e'
  exact hp _ _ (hX.at_ hc)

theorem may_at {vc vk vi : Value} {n : No} {w : World} {b : Bool} (h : Nb w vc vk vi n) (he : n.may = b) :
    Calls Try.prog 10 #[.agg (nv n.L vc vk vi)] w fun e w' => e = .returned (.bool b) ∧ Below w.heap.size w w' := by rw [← he]; exact nmay_any vc vk vi n w h
theorem kid_at {vc vk vi : Value} {n : No} {w : World} {s : ByteArray} {x : Int} (h : Nb w vc vk vi n) (he : n.kid s = x) :
    Calls Try.prog 13 #[.agg (nv n.L vc vk vi), .string s] w fun e w' => e = .returned (.int .i64 x) ∧ Below w.heap.size w w' := by rw [← he]; exact nkid_any vc vk vi n s w h
theorem size_at {vc vk vi : Value} {n : No} {w : World} {x : Int} (h : Nb w vc vk vi n) (hf : n.few) (he : n.size = x) :
    Calls Try.prog 14 #[.agg (nv n.L vc vk vi)] w fun e w' => e = .returned (.int .i64 x) ∧ Below w.heap.size w w' := by rw [← he]; exact nsize_any vc vk vi n w h hf
theorem sl_256 {w : World} {v : Value} {zs : List Int} (h : Sl w v zs) (hl : zs.length = 256) : ∃ b f c, v = .slice (some ⟨b, f, none⟩) 256 c := by
  obtain ⟨p, n, c, rfl, -, -, hn, hs⟩ := h.opens
  obtain rfl : n = 256 := hn.out.trans hl
  obtain ⟨b, f, rfl, -⟩ := hs.out.cell (i := 0) (by omega)
  exact ⟨b, f, c, rfl⟩
theorem Sl.cell0 {w : World} {b f n c : Nat} {zs : List Int} (h : Sl w (.slice (some ⟨b, f, none⟩) n c) zs) (hn : 0 < n) : w.cell? ⟨b, f + 0 * 1, none⟩ = some (.int .u8 (zs.getD 0 0)) := by
  obtain ⟨b', f', e, hc, -⟩ := h.cell hn
  simp at e
  obtain ⟨rfl, rfl⟩ := e
  exact hc
theorem ld_u8 {w : World} {p : Addr} {v : Value} (h : w.cell? p = some v) : (Instr.loadAt 5 (.pointer (some p))).run Try.prog w = .ok v w := by simp [Instr.loadAt, Instr.sureAddr, go_sem, loadVar, h]

set_option maxHeartbeats 16000000 in
theorem nbegun_any (w : World) :
    Calls Try.prog 5 #[] w fun e w' => e = .returned (.bool true) ∧ Below w.heap.size w w' := by
  obtain ⟨PL, HL1, HL2, HL3, HL4⟩ : ∃ p : List Int, Hid (nL.enc = (p, 0)) ∧ Hid (p.length = 256) ∧ Hid (p.getD 0 0 = 1) ∧ Hid (∀ z ∈ p, 0 ≤ z ∧ z ≤ 255) := ⟨_, nL_enc, No.pad_len (by rw [nL_len]; omega), nL_head, No.pad_bd (No.bytes_bd nL_ok nL_may (by decide))⟩
  obtain ⟨PM, HM1, HM2, HM4⟩ : ∃ p : List Int, Hid (nM.enc = (p, 0)) ∧ Hid (No.dec p = (nM, 0)) ∧ Hid (∀ z ∈ p, 0 ≤ z ∧ z ≤ 255) := ⟨_, nM_enc, nM_dec, No.pad_bd (No.bytes_bd nM_ok nM_may (by decide))⟩
  obtain ⟨P0, HP0, HP1⟩ : ∃ p : List Int, Hid (p = nought256) ∧ Hid (No.dec p = (No.zero, 8)) := ⟨_, rfl, nought_dec⟩
  go_enter Try.func5, Try.ntmps5
  go_wp2_with (first
    | (refine wpList_litC (.tmp 12) q1 q1_ok rfl rfl rfl ?_; intro W1 hB hC)
    | (refine wpList_at 1 41 _ rfl rfl rfl tyN ?_; intro W2 hB2 hX; have lw := hB.size; have l1 := hB2.size; replace hC := hC.later hB2; replace hB := hB.trans (hB2.mono hB.size); clear hB2)
    | (refine wpList_put 41 _ (.tmp 1) (.tmp 14) _ (nv true (.slice (some ⟨w.heap.size, 0, none⟩) 1 1) (.slice none 0 0) (.slice none 0 0)) _ rfl rfl rfl rfl hX tyN rfl rfl (nvc_one _ _ _) ?_; intro W3 hb3 hs3 hX3; clear hs3; replace hC := hC.beside hX plain_nn0 hb3; have hB3 := Below.but hB hB.size hb3 (fun k e => by omega); clear hB hX hb3; have lx := hX3.lt; have hL : Nb W3 _ _ _ nL := ⟨hC, Ts.nil _, Is.nil _⟩; clear hC)
    | (refine wpList_litK _ ⟨#[107]⟩ (by decide) rfl rfl rfl ?_; intro W4 hB4 hK; replace hX3 := hX3.later hB4; replace hL := hL.later hB4; have l4 := hB4.size; replace hB3 := hB3.trans (hB4.mono hB3.size); clear hB4)
    | (refine wpList_litI2 2 3 _ rfl (by decide) (by decide) rfl rfl ?_; intro W5 hB5 hI; replace hX3 := hX3.later hB5; replace hL := hL.later hB5; replace hK := hK.later hB5; have l5 := hB5.size; replace hB3 := hB3.trans (hB5.mono hB3.size); clear hB5)
    | (refine wpList_at 2 41 _ rfl rfl rfl tyN ?_; intro W6 hB6 hY; have hne := Nat.ne_of_lt hX3.lt; replace hX3 := hX3.later hB6; replace hL := hL.later hB6; replace hK := hK.later hB6; replace hI := hI.later hB6; have l6 := hB3.size; replace hB3 := hB3.trans (hB6.mono hB3.size); clear hB6)
    | (refine wpList_put 41 _ (.tmp 2) (.tmp 17) _ (nv false (.slice none 0 0) (.slice _ 1 1) (.slice _ 2 2)) _ rfl rfl rfl rfl hY tyN rfl rfl (nvki_one _ _ _ _ _ _) ?_; intro W7 hb7 hs7 hY7; clear hs7; replace hX3 := hX3.but hb7 hne; replace hL := hL.beside hY plain_nn0 hb7; replace hK := hK.beside hY plain_nn0 hb7; replace hI := hI.beside hY plain_nn0 hb7; have hB7 := Below.but hB3 hB3.size hb7 (fun k e => by omega); clear hB3 hY hb7; have hM : Nb W7 _ _ _ nM := ⟨Cs.nil _, hK, hI⟩; clear hK hI)
    | (refine wpList_get 41 _ (.tmp 1) _ (nv true _ _ _) rfl rfl rfl hX3 tyN rfl ?_))
  clear lw l1 l4 l5 l6 lx hne
  refine (encode_at hL (by show 1 ≤ 100000; omega) HL1.out).mono ?_
  rintro e W8 ⟨v8, rfl, ho8, hb⟩
  have hS8 := Sl.own ho8 HL4.out
  obtain ⟨b8, f8, c8, rfl⟩ := sl_256 hS8 HL2.out
  replace hX3 := hX3.later hb
  replace hL := hL.later hb
  replace hY7 := hY7.later hb
  replace hM := hM.later hb
  replace hB7 := hB7.trans (hb.mono hB7.size)
  clear hb ho8
  go_wp2_with (refine wpList_get 41 _ (.tmp 2) _ (nv false _ _ _) rfl rfl rfl hY7 tyN rfl ?_)
  refine (encode_at hM (by show 0 ≤ 100000; omega) HM1.out).mono ?_
  rintro e W9 ⟨v9, rfl, ho9, hb⟩
  have hS9 := Sl.own ho9 HM4.out
  replace hX3 := hX3.later hb
  replace hL := hL.later hb
  replace hY7 := hY7.later hb
  replace hM := hM.later hb
  replace hS8 := hS8.later hb
  replace hB7 := hB7.trans (hb.mono hB7.size)
  clear hb ho9
  go_wp2_with fail
  refine (decode_at hS9 HM2.out).mono ?_
  rintro e W10 ⟨hb, vc, vk, vi, rfl, hN, -⟩
  replace hX3 := hX3.later hb
  replace hL := hL.later hb
  replace hY7 := hY7.later hb
  replace hM := hM.later hb
  replace hS8 := hS8.later hb
  replace hB7 := hB7.trans (hb.mono hB7.size)
  clear hb hS9
  have nx3 := hX3.lt
  have ny7 := hY7.lt
  go_wp2_with (first
    | (refine wpList_at 7 41 _ rfl rfl rfl tyN ?_; intro W11 hb hZ; replace hX3 := hX3.later hb; replace hL := hL.later hb; replace hY7 := hY7.later hb; replace hM := hM.later hb; replace hS8 := hS8.later hb; replace hN := hN.later hb; have lz := hB7.size; replace hB7 := hB7.trans (hb.mono hB7.size); clear hb)
    | (refine wpList_mk256 _ _ rfl rfl rfl rfl ?_; intro W13 hb hS13; replace hX3 := hX3.later hb; replace hL := hL.later hb; replace hY7 := hY7.later hb; replace hM := hM.later hb; replace hS8 := hS8.later hb; replace hN := hN.later hb; replace hZ2 := hZ2.later hb; replace hB12 := hB12.trans (hb.mono hB12.size); clear hb; rw [← HP0.out] at hS13)
    | (refine wpList_put 41 _ (.tmp 7) (.tmp 31) _ (nv false vc vk vi) _ rfl rfl rfl rfl hZ tyN rfl rfl (nv_one hN) ?_; intro W12 hb hs12 hZ2; clear hs12; replace hX3 := hX3.but hb (Nat.ne_of_lt nx3); replace hL := hL.beside hZ plain_nn0 hb; replace hY7 := hY7.but hb (Nat.ne_of_lt ny7); replace hM := hM.beside hZ plain_nn0 hb; replace hS8 := sl_beside hZ sl_nn0 hb hS8; replace hN := hN.beside hZ plain_nn0 hb; have hB12 := Below.but hB7 hB7.size hb (fun k e => by omega); clear hb hZ hB7))
  refine (decode_at hS13 HP1.out).mono ?_
  rintro e W14 ⟨hb, uc, uk, ui, rfl, hU2, -⟩
  replace hX3 := hX3.later hb
  replace hL := hL.later hb
  replace hY7 := hY7.later hb
  replace hM := hM.later hb
  replace hS8 := hS8.later hb
  replace hN := hN.later hb
  replace hZ2 := hZ2.later hb
  replace hB12 := hB12.trans (hb.mono hB12.size)
  clear hb hS13
  have nx3b := hX3.lt
  have ny7b := hY7.lt
  obtain ⟨_, _, _, rfl, -⟩ := hU2.c.opens
  obtain ⟨_, _, _, rfl, -⟩ := hU2.k.opens
  obtain ⟨_, _, _, rfl, -⟩ := hU2.i.opens
  go_upto_region 7 with (first
    | (refine wpList_at 9 41 _ rfl rfl rfl tyN ?_; intro W15 hb hU; replace hX3 := hX3.later hb; replace hL := hL.later hb; replace hY7 := hY7.later hb; replace hM := hM.later hb; replace hS8 := hS8.later hb; replace hN := hN.later hb; have nz2 := hZ2.lt; replace hZ2 := hZ2.later hb; have lz := hB12.size; replace hB12 := hB12.trans (hb.mono hB12.size); clear hb)
    | (refine wpList_put 41 _ (.tmp 9) (.tmp 36) _ (nv false _ _ _) _ rfl rfl rfl rfl hU tyN rfl rfl (nv_one hU2) ?_; intro W16 hb hs16 hU3; clear hs16; replace hX3 := hX3.but hb (Nat.ne_of_lt (by have := hX3.lt; have := hU.lt; omega)); replace hL := hL.beside hU plain_nn0 hb; replace hM := hM.beside hU plain_nn0 hb; replace hS8 := sl_beside hU sl_nn0 hb hS8; replace hN := hN.beside hU plain_nn0 hb; replace hZ2 := hZ2.but hb (Nat.ne_of_lt nz2); replace hY7 := hY7.but hb (Nat.ne_of_lt ny7b); have hB := Below.but hB12 hB12.size hb (fun k e => by omega); clear hb hU hU3 hB12))
  have hpi := hN.i.opens
  obtain ⟨pi, mi, ci, rfl, -, -, Hmi, -⟩ := hpi
  have emi : mi = 2 := Hmi.out
  subst emi
  refine kl_start 102 (by kernel_rfl) ?_
  refine kl_load 0 (some 38) (.agg (nv true (.slice (some ⟨w.heap.size, 0, none⟩) 1 1) (.slice none 0 0) (.slice none 0 0))) 41 (.tmp 1) (by kernel_rfl) (by kernel_rfl) (by kernel_rfl) (by kernel_rfl) (by kernel_rfl) (hX3.load tyN rfl) ?_
  refine kl_call 1 (some 39) (.bool true) (by kernel_rfl) (by kernel_rfl) (by kernel_rfl) (by kernel_rfl) (may_at hL nL_may) ?_
  intro x hb
  replace hX3 := hX3.later hb
  replace hL := hL.later hb
  replace hY7 := hY7.later hb
  replace hM := hM.later hb
  replace hS8 := hS8.later hb
  replace hN := hN.later hb
  replace hZ2 := hZ2.later hb
  replace hB := hB.trans (hb.mono hB.size)
  clear hb
  refine kl_take 2 (some 40) (.bool true) (by kernel_rfl) (by kernel_rfl) (by kernel_rfl) (by kernel_rfl) ?_
  refine kl_load 3 (some 41) (.agg (nv false (.slice none 0 0) (.slice (some ⟨W3.heap.size, 0, none⟩) 1 1) (.slice (some ⟨W4.heap.size, 0, none⟩) 2 2))) 41 (.tmp 2) (by kernel_rfl) (by kernel_rfl) (by kernel_rfl) (by kernel_rfl) (by kernel_rfl) (hY7.load tyN rfl) ?_
  refine kl_call 4 (some 42) (.bool true) (by kernel_rfl) (by kernel_rfl) (by kernel_rfl) (by kernel_rfl) (may_at hM nM_may) ?_
  intro x hb
  replace hX3 := hX3.later hb
  replace hL := hL.later hb
  replace hY7 := hY7.later hb
  replace hM := hM.later hb
  replace hS8 := hS8.later hb
  replace hN := hN.later hb
  replace hZ2 := hZ2.later hb
  replace hB := hB.trans (hb.mono hB.size)
  clear hb
  refine kl_take 5 (some 43) (.bool true) (by kernel_rfl) (by kernel_rfl) (by kernel_rfl) (by kernel_rfl) ?_
  refine kl_take 6 (some 44) (.bool true) (by kernel_rfl) (by kernel_rfl) (by kernel_rfl) (by kernel_rfl) ?_
  refine kl_build 7 (some 45) nn0 41 #[] (by kernel_rfl) (by kernel_rfl) (by kernel_rfl) (by kernel_rfl) (by kernel_rfl) ?_
  refine kl_call 8 (some 46) (.bool false) (by kernel_rfl) (by kernel_rfl) (by kernel_rfl) (by kernel_rfl) (may_at (Nb.nil _) nZ_may) ?_
  intro x hb
  replace hX3 := hX3.later hb
  replace hL := hL.later hb
  replace hY7 := hY7.later hb
  replace hM := hM.later hb
  replace hS8 := hS8.later hb
  replace hN := hN.later hb
  replace hZ2 := hZ2.later hb
  replace hB := hB.trans (hb.mono hB.size)
  clear hb
  refine kl_take 9 (some 47) (.bool true) (by kernel_rfl) (by kernel_rfl) (by kernel_rfl) (by kernel_rfl) ?_
  refine kl_take 10 (some 48) (.bool true) (by kernel_rfl) (by kernel_rfl) (by kernel_rfl) (by kernel_rfl) ?_
  refine kl_take 11 (some 49) (.bool true) (by kernel_rfl) (by kernel_rfl) (by kernel_rfl) (by kernel_rfl) ?_
  refine kl_take 12 (some 50) (.int .i64 0) (by kernel_rfl) (by kernel_rfl) (by kernel_rfl) (by kernel_rfl) ?_
  refine kl_take 13 (some 51) (.bool true) (by kernel_rfl) (by kernel_rfl) (by kernel_rfl) (by kernel_rfl) ?_
  refine kl_take 14 (some 52) (.bool true) (by kernel_rfl) (by kernel_rfl) (by kernel_rfl) (by kernel_rfl) ?_
  refine kl_take 15 (some 53) (.bool true) (by kernel_rfl) (by kernel_rfl) (by kernel_rfl) (by kernel_rfl) ?_
  refine kl_take 16 (some 54) (.int .i64 0) (by kernel_rfl) (by kernel_rfl) (by kernel_rfl) (by kernel_rfl) ?_
  refine kl_take 17 (some 55) (.bool true) (by kernel_rfl) (by kernel_rfl) (by kernel_rfl) (by kernel_rfl) ?_
  refine kl_take 18 (some 56) (.bool true) (by kernel_rfl) (by kernel_rfl) (by kernel_rfl) (by kernel_rfl) ?_
  refine kl_take 19 (some 57) (.bool true) (by kernel_rfl) (by kernel_rfl) (by kernel_rfl) (by kernel_rfl) ?_
  refine kl_take 20 (some 58) (.slice (some ⟨b8, f8, none⟩) 256 c8) (by kernel_rfl) (by kernel_rfl) (by kernel_rfl) (by kernel_rfl) ?_
  refine kl_take 21 (some 59) (.int .i64 256) (by kernel_rfl) (by kernel_rfl) (by kernel_rfl) (by kernel_rfl) ?_
  refine kl_take 22 (some 60) (.bool true) (by kernel_rfl) (by kernel_rfl) (by kernel_rfl) (by kernel_rfl) ?_
  refine kl_take 23 (some 61) (.bool true) (by kernel_rfl) (by kernel_rfl) (by kernel_rfl) (by kernel_rfl) ?_
  refine kl_take 24 (some 62) (.bool true) (by kernel_rfl) (by kernel_rfl) (by kernel_rfl) (by kernel_rfl) ?_
  refine kl_take 25 (some 63) (.slice (some ⟨b8, f8, none⟩) 256 c8) (by kernel_rfl) (by kernel_rfl) (by kernel_rfl) (by kernel_rfl) ?_
  refine kl_take 26 (some 64) (.pointer (some ⟨b8, f8 + 0 * 1, none⟩)) (by kernel_rfl) (by kernel_rfl) (by kernel_rfl) (by kernel_rfl) ?_
  have e0 := hS8.cell0 (by omega)
  rw [HL3.out] at e0
  refine kl_load 27 (some 65) (.int .u8 1) 5 (.tmp 64) (by kernel_rfl) (by kernel_rfl) (by kernel_rfl) (by kernel_rfl) (by kernel_rfl) (ld_u8 e0) ?_
  refine kl_take 28 (some 66) (.bool true) (by kernel_rfl) (by kernel_rfl) (by kernel_rfl) (by kernel_rfl) ?_
  refine kl_take 29 (some 67) (.bool true) (by kernel_rfl) (by kernel_rfl) (by kernel_rfl) (by kernel_rfl) ?_
  refine kl_take 30 (some 68) (.bool true) (by kernel_rfl) (by kernel_rfl) (by kernel_rfl) (by kernel_rfl) ?_
  refine kl_take 31 (some 69) (.int .i64 0) (by kernel_rfl) (by kernel_rfl) (by kernel_rfl) (by kernel_rfl) ?_
  refine kl_take 32 (some 70) (.bool true) (by kernel_rfl) (by kernel_rfl) (by kernel_rfl) (by kernel_rfl) ?_
  refine kl_take 33 (some 71) (.bool true) (by kernel_rfl) (by kernel_rfl) (by kernel_rfl) (by kernel_rfl) ?_
  refine kl_take 34 (some 72) (.bool true) (by kernel_rfl) (by kernel_rfl) (by kernel_rfl) (by kernel_rfl) ?_
  refine kl_take 35 (some 73) (.pointer (some ⟨W10.heap.size, 3, none⟩)) (by kernel_rfl) (by kernel_rfl) (by kernel_rfl) (by kernel_rfl) ?_
  refine kl_load 36 (some 74) (.slice pi 2 ci) 24 (.tmp 73) (by kernel_rfl) (by kernel_rfl) (by kernel_rfl) (by kernel_rfl) (by kernel_rfl) (ld_is hZ2.nodes.2.2.2) ?_
  refine kl_take 37 (some 75) (.int .i64 2) (by kernel_rfl) (by kernel_rfl) (by kernel_rfl) (by kernel_rfl) ?_
  refine kl_take 38 (some 76) (.bool true) (by kernel_rfl) (by kernel_rfl) (by kernel_rfl) (by kernel_rfl) ?_
  refine kl_take 39 (some 77) (.bool true) (by kernel_rfl) (by kernel_rfl) (by kernel_rfl) (by kernel_rfl) ?_
  refine kl_take 40 (some 78) (.bool true) (by kernel_rfl) (by kernel_rfl) (by kernel_rfl) (by kernel_rfl) ?_
  refine kl_take 41 (some 79) (.int .i64 8) (by kernel_rfl) (by kernel_rfl) (by kernel_rfl) (by kernel_rfl) ?_
  refine kl_take 42 (some 80) (.bool true) (by kernel_rfl) (by kernel_rfl) (by kernel_rfl) (by kernel_rfl) ?_
  refine kl_take 43 (some 81) (.bool true) (by kernel_rfl) (by kernel_rfl) (by kernel_rfl) (by kernel_rfl) ?_
  refine kl_take 44 (some 82) (.bool true) (by kernel_rfl) (by kernel_rfl) (by kernel_rfl) (by kernel_rfl) ?_
  refine kl_load 45 (some 83) (.agg (nv false (.slice none 0 0) (.slice (some ⟨W3.heap.size, 0, none⟩) 1 1) (.slice (some ⟨W4.heap.size, 0, none⟩) 2 2))) 41 (.tmp 2) (by kernel_rfl) (by kernel_rfl) (by kernel_rfl) (by kernel_rfl) (by kernel_rfl) (hY7.load tyN rfl) ?_
  refine kl_call 46 (some 84) (.int .i64 1) (by kernel_rfl) (by kernel_rfl) (by kernel_rfl) (by kernel_rfl) (kid_at hM nM_kid1) ?_
  intro x hb
  replace hX3 := hX3.later hb
  replace hL := hL.later hb
  replace hY7 := hY7.later hb
  replace hM := hM.later hb
  replace hS8 := hS8.later hb
  replace hN := hN.later hb
  replace hZ2 := hZ2.later hb
  replace hB := hB.trans (hb.mono hB.size)
  clear hb
  refine kl_take 47 (some 85) (.bool true) (by kernel_rfl) (by kernel_rfl) (by kernel_rfl) (by kernel_rfl) ?_
  refine kl_take 48 (some 86) (.bool true) (by kernel_rfl) (by kernel_rfl) (by kernel_rfl) (by kernel_rfl) ?_
  refine kl_take 49 (some 87) (.bool true) (by kernel_rfl) (by kernel_rfl) (by kernel_rfl) (by kernel_rfl) ?_
  refine kl_load 50 (some 88) (.agg (nv false (.slice none 0 0) (.slice (some ⟨W3.heap.size, 0, none⟩) 1 1) (.slice (some ⟨W4.heap.size, 0, none⟩) 2 2))) 41 (.tmp 2) (by kernel_rfl) (by kernel_rfl) (by kernel_rfl) (by kernel_rfl) (by kernel_rfl) (hY7.load tyN rfl) ?_
  refine kl_call 51 (some 89) (.int .i64 0) (by kernel_rfl) (by kernel_rfl) (by kernel_rfl) (by kernel_rfl) (kid_at hM nM_kid0) ?_
  intro x hb
  replace hX3 := hX3.later hb
  replace hL := hL.later hb
  replace hY7 := hY7.later hb
  replace hM := hM.later hb
  replace hS8 := hS8.later hb
  replace hN := hN.later hb
  replace hZ2 := hZ2.later hb
  replace hB := hB.trans (hb.mono hB.size)
  clear hb
  refine kl_take 52 (some 90) (.bool true) (by kernel_rfl) (by kernel_rfl) (by kernel_rfl) (by kernel_rfl) ?_
  refine kl_take 53 (some 91) (.bool true) (by kernel_rfl) (by kernel_rfl) (by kernel_rfl) (by kernel_rfl) ?_
  refine kl_take 54 (some 92) (.bool true) (by kernel_rfl) (by kernel_rfl) (by kernel_rfl) (by kernel_rfl) ?_
  refine kl_load 55 (some 93) (.agg (nv true (.slice (some ⟨w.heap.size, 0, none⟩) 1 1) (.slice none 0 0) (.slice none 0 0))) 41 (.tmp 1) (by kernel_rfl) (by kernel_rfl) (by kernel_rfl) (by kernel_rfl) (by kernel_rfl) (hX3.load tyN rfl) ?_
  refine kl_call 56 (some 94) (.int .i64 (-1)) (by kernel_rfl) (by kernel_rfl) (by kernel_rfl) (by kernel_rfl) (kid_at hL nL_kid) ?_
  intro x hb
  replace hX3 := hX3.later hb
  replace hL := hL.later hb
  replace hY7 := hY7.later hb
  replace hM := hM.later hb
  replace hS8 := hS8.later hb
  replace hN := hN.later hb
  replace hZ2 := hZ2.later hb
  replace hB := hB.trans (hb.mono hB.size)
  clear hb
  refine kl_take 57 (some 95) (.bool true) (by kernel_rfl) (by kernel_rfl) (by kernel_rfl) (by kernel_rfl) ?_
  refine kl_take 58 (some 96) (.bool true) (by kernel_rfl) (by kernel_rfl) (by kernel_rfl) (by kernel_rfl) ?_
  refine kl_take 59 (some 97) (.bool true) (by kernel_rfl) (by kernel_rfl) (by kernel_rfl) (by kernel_rfl) ?_
  refine kl_load 60 (some 98) (.agg (nv true (.slice (some ⟨w.heap.size, 0, none⟩) 1 1) (.slice none 0 0) (.slice none 0 0))) 41 (.tmp 1) (by kernel_rfl) (by kernel_rfl) (by kernel_rfl) (by kernel_rfl) (by kernel_rfl) (hX3.load tyN rfl) ?_
  refine kl_call 61 (some 99) (.int .i64 14) (by kernel_rfl) (by kernel_rfl) (by kernel_rfl) (by kernel_rfl) (size_at hL (by show 1 ≤ 100000; omega) nL_size) ?_
  intro x hb
  replace hX3 := hX3.later hb
  replace hL := hL.later hb
  replace hY7 := hY7.later hb
  replace hM := hM.later hb
  replace hS8 := hS8.later hb
  replace hN := hN.later hb
  replace hZ2 := hZ2.later hb
  replace hB := hB.trans (hb.mono hB.size)
  clear hb
  refine kl_take 62 (some 100) (.bool true) (by kernel_rfl) (by kernel_rfl) (by kernel_rfl) (by kernel_rfl) ?_
  refine kl_take 63 (some 101) (.bool true) (by kernel_rfl) (by kernel_rfl) (by kernel_rfl) (by kernel_rfl) ?_
  refine kl_take 64 (some 0) (.bool true) (by kernel_rfl) (by kernel_rfl) (by kernel_rfl) (by kernel_rfl) ?_
  refine kl_done (by kernel_rfl) (fun y => #[.bool true, y 1, y 2, y 3, y 4, y 5, y 6, y 7, y 8, y 9, y 10, y 11, y 12, y 13, y 14, y 15, y 16, y 17, y 18, y 19, y 20, y 21, y 22, y 23, y 24, y 25, y 26, y 27, y 28, y 29, y 30, y 31, y 32, y 33, y 34, y 35, y 36, y 37, y 38, y 39, y 40, y 41, y 42, y 43, y 44, y 45, y 46, y 47, y 48, y 49, y 50, y 51, y 52, y 53, y 54, y 55, y 56, y 57, y 58, y 59, y 60, y 61, y 62, y 63, y 64, y 65, y 66, y 67, y 68, y 69, y 70, y 71, y 72, y 73, y 74, y 75, y 76, y 77, y 78, y 79, y 80, y 81, y 82, y 83, y 84, y 85, y 86, y 87, y 88, y 89, y 90, y 91, y 92, y 93, y 94, y 95, y 96, y 97, y 98, y 99, y 100, y 101]) (by kernel_rfl) ?_
  intro y
  go_simp
  go_wp2_with fail
  go_ret
  exact ⟨rfl, hB⟩
end Go.Proofs.Ytbddghdkmakjlab
