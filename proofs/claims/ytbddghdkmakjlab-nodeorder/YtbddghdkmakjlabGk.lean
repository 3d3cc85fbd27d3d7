/-
  Contracts of node.read and node.Decode over the translated program.
  The contract of node.Decode over the translated program.
  The contract of node.Kid over the translated program.
-/
import Derived.Test.YtbddghdkmakjlabGj
import Derived.Test.YtbddghdkmakjlabNodN
namespace Go.Proofs.Ytbddghdkmakjlab
set_option maxRecDepth 100000
set_option linter.unusedVariables false
open Go.RowKit

theorem rdC_few : ∀ (k : Nat) (zs : List Int) (C : List Ce), (∀ z ∈ zs, 0 ≤ z ∧ z ≤ 255) → No.rdC k zs = some C → C.length ≤ zs.length
  | 0, _, _, _, h => by simp [No.rdC] at h; subst h; simp
  | k + 1, zs, C, hb, h => by
    obtain ⟨c, n, e, hE⟩ : ∃ c n e, Ce.get zs = (c, n, e) := ⟨_, _, _, rfl⟩
    by_cases he : e = 0
    · subst he
      rw [No.rdC_go hE] at h
      cases hq : No.rdC k (zs.drop n.toNat) with
      | none => rw [hq] at h; simp at h
      | some D =>
        rw [hq] at h
        simp at h
        subst h
        have h1 := rdC_few k (zs.drop n.toNat) D (fun z hz => hb z (List.mem_of_mem_drop hz)) hq
        have h2 := No.cget_pos hb (by rw [hE])
        rw [hE] at h2
        simp only at h2
        have h3 := drop_all h2.1 h2.2
        rw [List.length_cons]
        omega
    · rw [No.rdC_no hE he] at h
      simp at h

theorem rd_err {zs : List Int} {n k e : Int} (h : Nm.get 0 0 (zs.drop 1) = (n, k, e)) (he : e ≠ 0) : No.rd zs = none := by
  unfold No.rd
  rw [h]
  exact if_pos he
theorem rd_go {zs : List Int} {n k : Int} (h : Nm.get 0 0 (zs.drop 1) = (n, k, 0)) (hk : 0 ≤ k) : No.rd zs = No.rdN (zs.getD 0 0) n (zs.drop (1 + k).toNat) := by
  have e : (zs.drop 1).drop k.toNat = zs.drop (1 + k).toNat := by rw [List.drop_drop]; congr 1; omega
  simp only [No.rd, h, ne_eq, not_true_eq_false, if_false, e]
theorem rdN_leaf {c n : Int} (zs : List Int) (h : (c == 1) = true) : No.rdN c n zs = (No.rdC n.toNat zs).map fun C => ⟨true, C, [], []⟩ := by
  have : c = 1 := by simpa using h
  unfold No.rdN
  rw [if_pos this]
theorem rdN_fork {c n : Int} (zs : List Int) (h0 : (c == 1) = false) (h : (c == 2) = true) : No.rdN c n zs = (No.rdF n zs).map fun r => ⟨false, [], r.2, r.1⟩ := by
  have e : c = 2 := by simpa using h
  have e1 : ¬ c = 1 := by simpa using h0
  unfold No.rdN No.rdF
  rw [if_neg e1, if_pos e]
  cases No.rdI n.toNat zs with
  | none => rfl
  | some r => simp [Option.map_map]; rfl
theorem rdN_none {c n : Int} (zs : List Int) (h0 : (c == 1) = false) (h : (c == 2) = false) : No.rdN c n zs = none := by
  have e : ¬ c = 2 := by simpa using h
  have e1 : ¬ c = 1 := by simpa using h0
  unfold No.rdN
  rw [if_neg e1, if_neg e]

/-- Read: none, or a node that lies in memory. -/
def Got (w : World) (r : Option No) (e : Ending) (ok : Value) (no : Value) : Prop :=
  (r = none ∧ e = .returned (.tuple #[.agg nn0, no])) ∨ ∃ n vc vk vi, r = some n ∧ e = .returned (.tuple #[.agg (nv n.L vc vk vi), ok]) ∧ Nb w vc vk vi n ∧ n.few

set_option maxHeartbeats 8000000 in
theorem nread_any (v : Value) (zs : List Int) (w : World) (h : Sl w v zs) (hl : zs.length = 256) :
    Calls Try.prog 25 #[v] w fun e w' => Below w.heap.size w w' ∧ Got w' (No.rd zs) e (.bool true) (.bool false) := by
  have HL := hide hl
  have HB := hide h.bd
  obtain ⟨n, k, e0, hE0⟩ : ∃ n k e0, Nm.get 0 0 (zs.drop 1) = (n, k, e0) := ⟨_, _, _, rfl⟩
  have hbd := Nm.get_bd (zs.drop 1) 0 0 (by omega) (by decide) (by omega) (fun z hz => h.bd z (List.mem_of_mem_drop hz))
  rw [hE0] at hbd
  simp only [List.length_drop] at hbd
  have HG : Hid (Nm.get 0 0 (zs.drop (1 : Int).toNat) = (n, k, e0)) := hide hE0
  obtain ⟨p0, c0, rfl, -⟩ : ∃ p0 c0, v = .slice p0 256 c0 ∧ True := by
    obtain ⟨a, m, cap, rfl, -, -, Hm, -⟩ := h.opens
    exact ⟨a, cap, by rw [Hm.out, hl], trivial⟩
  have HS := hide h
  obtain ⟨b, off, rfl, hc, hc0, hc1⟩ := h.cell (i := 0) (by omega)
  simp only [Nat.add_zero] at hc
  by_cases he : e0 = 0
  · subst he
    have hp : 0 ≤ k ∧ 1 + k ≤ zs.length ∧ -9223372036854775808 ≤ n ∧ n ≤ 9223372036854775807 := by
      rcases hbd with hbd | hbd
      · obtain ⟨-, g1, -, g3, g4, g5⟩ := hbd
        simp at g1 g3
        omega
      · omega
    clear hbd
    obtain ⟨hk0, hk1, hn0, hn1⟩ := hp
    have HR := hide (rd_go hE0 hk0)
    have HK := hide hk1
    have hA1 : 1 + k ≤ 9223372036854775807 := by omega
    have hA0 : 0 ≤ 1 + k := by omega
    have HUB : Hid ((zs.drop (1 + k).toNat).length ≤ 1000) := hide (by rw [List.length_drop]; omega)
    generalize zs.getD 0 0 = c at *
    have hwr : IntKind.i64.wrap (1 + k) = 1 + k := by rw [IntKind.wrap_i64]; omega
    clear hk1 hE0 hc0 hc1
    cases h1 : (c == 1)
    · cases h2 : (c == 2)
      · have HN : Hid (No.rd zs = none) := hide (by rw [HR.out]; exact rdN_none _ h1 h2)
        clear h hl
        go_enter Try.func25, Try.ntmps25
        go_wp2_with (first
          | (refine wpList_new 41 _ rfl rfl tyN ?_; intro W1 hB hR; replace hc := (hB.cell (p := ⟨b, off, none⟩) (cell_lt hc)).trans hc)
          | (refine wpList_cutB rfl (.tmp 9) (.const (.int .i64 1)) rfl _ zs 1 rfl rfl HS.out (by omega) (by have := HL.out; omega) ?_; intro V hV))
        refine (nget_at (hV.later hB) HG.out).mono ?_
        rintro e W2 ⟨rfl, rfl⟩
        clear hV
        go_wp2_with (first
          | (refine wpList_cutB rfl (.tmp 18) (.tmp 20) rfl _ zs (1 + k) rfl rfl HS.out hA0 HK.out ?_; intro U hUs; clear hUs)
          | (refine wpList_put 41 _ (.tmp 2) (.tmp 39) _ nn0 _ rfl rfl rfl rfl hR tyN rfl rfl nn0_one ?_; intro W9 hb9 hs9 hX9))
        refine bodyPost_ret (v := .tuple #[.agg nn0, .bool false]) (results2_bx Try.results25 _ _ _ _ _ rfl rfl hX9 tyN rfl) rfl ⟨Below.but hB hB.size hb9 (fun k e => by omega), .inl ⟨HN.out, rfl⟩⟩
      · have HN := hide (HR.out.trans (rdN_fork _ h1 h2))
        clear h hl
        go_enter Try.func25, Try.ntmps25
        go_wp2_with (first
          | (refine wpList_new 41 _ rfl rfl tyN ?_; intro W1 hB hR; replace hc := (hB.cell (p := ⟨b, off, none⟩) (cell_lt hc)).trans hc)
          | (refine wpList_cutB rfl (.tmp 9) (.const (.int .i64 1)) rfl _ zs 1 rfl rfl HS.out (by omega) (by have := HL.out; omega) ?_; intro V hV))
        refine (nget_at (hV.later hB) HG.out).mono ?_
        rintro e W2 ⟨rfl, rfl⟩
        clear hV
        go_wp2_with (refine wpList_cutB rfl (.tmp 18) (.tmp 20) rfl _ zs (1 + k) rfl rfl HS.out hA0 HK.out ?_; intro U hUs)
        refine (readFork_any _ _ n _ (hUs.later hB) HUB.out hn0 hn1).mono ?_
        rintro e W3 ⟨hb, hq⟩
        replace hR := hR.later hb
        have lR := hR.lt
        replace hB := hB.trans (hb.mono hB.size)
        clear hUs
        rcases hq with ⟨hN, rfl⟩ | ⟨I, K, vi, vk, hN, rfl, hI, hK⟩
        · have HN2 : Hid (No.rd zs = none) := hide (by rw [HN.out, hN]; rfl)
          clear hN hb
          go_wp2_with (refine wpList_put 41 _ (.tmp 2) (.tmp 37) _ nn0 _ rfl rfl rfl rfl hR tyN rfl rfl nn0_one ?_; intro W9 hb9 hs9 hX9)
          refine bodyPost_ret (v := .tuple #[.agg nn0, .bool false]) (results2_bx Try.results25 _ _ _ _ _ rfl rfl hX9 tyN rfl) rfl ⟨Below.but hB hB.size hb9 (fun k e => by omega), .inl ⟨HN2.out, rfl⟩⟩
        · have HN2 : Hid (No.rd zs = some ⟨false, [], K, I⟩) := hide (by rw [HN.out, hN]; rfl)
          have HNb : Hid (Nb W3 (.slice none 0 0) vk vi ⟨false, [], K, I⟩) := hide ⟨Cs.nil _, hK, hI⟩
          clear hN hb hI hK
          go_wp2_with (refine wpList_put 41 _ (.tmp 2) (.tmp 37) _ (nv false (.slice none 0 0) vk vi) _ rfl rfl rfl rfl hR tyN rfl rfl (nv_one HNb.out) ?_; intro W9 hb9 hs9 hX9)
          refine bodyPost_ret (v := .tuple #[.agg (nv false (.slice none 0 0) vk vi), .bool true]) (results2_bx Try.results25 _ _ _ _ _ rfl rfl hX9 tyN rfl) rfl ⟨Below.but hB hB.size hb9 (fun k e => by omega), .inr ⟨⟨false, [], K, I⟩, _, _, _, HN2.out, rfl, HNb.out.beside hR plain_nn0 hb9, by show (0 : Nat) ≤ _; omega⟩⟩
    · have HN := hide (HR.out.trans (rdN_leaf _ h1))
      have HZB : Hid (∀ C, No.rdC n.toNat (zs.drop (1 + k).toNat) = some C → C.length ≤ 1000) := hide (fun C hC => by
        have h1 := rdC_few _ _ C (fun z hz => HB.out z (List.mem_of_mem_drop hz)) hC
        have h2 := HUB.out
        omega)
      clear h hl
      go_enter Try.func25, Try.ntmps25
      go_wp2_with (first
        | (refine wpList_new 41 _ rfl rfl tyN ?_; intro W1 hB hR; replace hc := (hB.cell (p := ⟨b, off, none⟩) (cell_lt hc)).trans hc)
        | (refine wpList_cutB rfl (.tmp 9) (.const (.int .i64 1)) rfl _ zs 1 rfl rfl HS.out (by omega) (by have := HL.out; omega) ?_; intro V hV))
      refine (nget_at (hV.later hB) HG.out).mono ?_
      rintro e W2 ⟨rfl, rfl⟩
      clear hV
      go_wp2_with (refine wpList_cutB rfl (.tmp 18) (.tmp 20) rfl _ zs (1 + k) rfl rfl HS.out hA0 HK.out ?_; intro U hUs)
      refine (readLeaf_any _ _ n _ (hUs.later hB) HUB.out hn0 hn1).mono ?_
      rintro e W3 ⟨hb, hq⟩
      replace hR := hR.later hb
      have lR := hR.lt
      replace hB := hB.trans (hb.mono hB.size)
      clear hUs
      rcases hq with ⟨hN, rfl⟩ | ⟨C, vc, hN, rfl, hC⟩
      · have HN2 : Hid (No.rd zs = none) := hide (by rw [HN.out, hN]; rfl)
        clear hN hb
        go_wp2_with (refine wpList_put 41 _ (.tmp 2) (.tmp 30) _ nn0 _ rfl rfl rfl rfl hR tyN rfl rfl nn0_one ?_; intro W9 hb9 hs9 hX9)
        refine bodyPost_ret (v := .tuple #[.agg nn0, .bool false]) (results2_bx Try.results25 _ _ _ _ _ rfl rfl hX9 tyN rfl) rfl ⟨Below.but hB hB.size hb9 (fun k e => by omega), .inl ⟨HN2.out, rfl⟩⟩
      · have HN2 : Hid (No.rd zs = some ⟨true, C, [], []⟩) := hide (by rw [HN.out, hN]; rfl)
        have HF : Hid (C.length ≤ 100000) := hide (by have := HZB.out C hN; omega)
        have HNb : Hid (Nb W3 vc (.slice none 0 0) (.slice none 0 0) ⟨true, C, [], []⟩) := hide ⟨hC, Ts.nil _, Is.nil _⟩
        clear hN hb hC HZB
        go_wp2_with (refine wpList_put 41 _ (.tmp 2) (.tmp 30) _ (nv true vc (.slice none 0 0) (.slice none 0 0)) _ rfl rfl rfl rfl hR tyN rfl rfl (nv_one HNb.out) ?_; intro W9 hb9 hs9 hX9)
        refine bodyPost_ret (v := .tuple #[.agg (nv true vc (.slice none 0 0) (.slice none 0 0)), .bool true]) (results2_bx Try.results25 _ _ _ _ _ rfl rfl hX9 tyN rfl) rfl ⟨Below.but hB hB.size hb9 (fun k e => by omega), .inr ⟨⟨true, C, [], []⟩, _, _, _, HN2.out, rfl, HNb.out.beside hR plain_nn0 hb9, HF.out⟩⟩
  · have HN : Hid (No.rd zs = none) := hide (rd_err hE0 he)
    have he' : (e0 != 0) = true := by simp; exact he
    clear hbd he hE0
    clear h hl
    go_enter Try.func25, Try.ntmps25
    go_wp2_with (first
      | (refine wpList_new 41 _ rfl rfl tyN ?_; intro W1 hB hR; replace hc := (hB.cell (p := ⟨b, off, none⟩) (cell_lt hc)).trans hc)
      | (refine wpList_cutB rfl (.tmp 9) (.const (.int .i64 1)) rfl _ zs 1 rfl rfl HS.out (by omega) (by have := HL.out; omega) ?_; intro V hV))
    refine (nget_at (hV.later hB) HG.out).mono ?_
    rintro e W2 ⟨rfl, rfl⟩
    clear hV
    go_wp2_with (refine wpList_put 41 _ (.tmp 2) (.tmp 17) _ nn0 _ rfl rfl rfl rfl hR tyN rfl rfl nn0_one ?_; intro W9 hb9 hs9 hX9)
    refine bodyPost_ret (v := .tuple #[.agg nn0, .bool false]) (results2_bx Try.results25 _ _ _ _ _ rfl rfl hX9 tyN rfl) rfl ⟨Below.but hB hB.size hb9 (fun k e => by omega), .inl ⟨HN.out, rfl⟩⟩
end Go.Proofs.Ytbddghdkmakjlab

namespace Go.Proofs.Ytbddghdkmakjlab
set_option maxRecDepth 100000
set_option linter.unusedVariables false
open Go.RowKit

theorem No.enc_bd {n : No} (hok : n.Ok) (hf : n.few) : ∀ z ∈ n.enc.1, 0 ≤ z ∧ z ≤ 255 := by
  unfold No.enc
  split
  · rename_i hm
    split
    · simp
    · exact No.pad_bd (No.bytes_bd hok hm (by unfold No.few at hf; omega))
  · simp

/-- Decode's answer lies in memory. -/
def Told (w : World) (r : No × Int) (e : Ending) : Prop :=
  ∃ vc vk vi, e = .returned (.tuple #[.agg (nv r.1.L vc vk vi), .int .i64 r.2]) ∧ Nb w vc vk vi r.1 ∧ r.1.few
theorem told_zero {w : World} {r : No × Int} (h : r = (No.zero, 8)) : Told w r (.returned (.tuple #[.agg nn0, .int .i64 8])) := by
  rw [h]
  exact ⟨_, _, _, rfl, Nb.nil w, by show (0 : Nat) ≤ _; omega⟩

set_option maxHeartbeats 8000000 in
theorem decode_any (v : Value) (zs : List Int) (w : World) (h : Sl w v zs) :
    Calls Try.prog 12 #[v] w fun e w' => Below w.heap.size w w' ∧ Told w' (No.dec zs) e := by
  obtain ⟨p, m, cp, rfl, hn1, hn2, HN, HS⟩ := h.opens
  have hn := HN.out
  subst hn
  clear h HN
  by_cases hl : zs.length = 256
  · have hd : ((zs.length : Int) != 256) = false := by simp; omega
    have HL := hide hl
    clear hl
    go_enter Try.func12, Try.ntmps12
    go_wp2_with (refine wpList_new 41 _ rfl rfl tyN ?_; intro W1 hB hR)
    refine (nread_any _ zs _ (HS.out.later hB) HL.out).mono ?_
    rintro e W2 ⟨hb, hq⟩
    replace hR := hR.later hb
    have lR := hR.lt
    replace hB := hB.trans (hb.mono hB.size)
    clear hb
    rcases hq with ⟨hN, rfl⟩ | ⟨n, vc, vk, vi, hN, rfl, hNb, hf⟩
    · have HD := hide (No.dec_none hN)
      clear hN
      go_wp2_with (first
        | (refine wpList_new 41 _ rfl rfl tyN ?_; intro W3 hB3 hX; have l3 := hB3.size; replace hR := hR.later hB3; replace hB := hB.trans (hB3.mono hB.size); clear hB3)
        | (refine wpList_put 41 _ (.tmp 4) (.tmp 15) _ nn0 _ rfl rfl rfl rfl hX tyN rfl rfl nn0_one ?_; intro W4 hb4 hs4 hX4; replace hR := hR.but hb4 (Nat.ne_of_lt lR); have hB4 := Below.but hB hB.size hb4 (fun k e => by omega); clear hB hb4 hX; have hB := hB4; clear hB4)
        | (refine wpList_put 41 _ (.tmp 2) (.tmp 19) _ nn0 _ rfl rfl rfl rfl hR tyN rfl rfl nn0_one ?_; intro W9 hb9 hs9 hX9))
      refine bodyPost_ret (v := .tuple #[.agg nn0, .int .i64 8]) (results2_bx Try.results12 _ _ _ _ _ rfl rfl hX9 tyN rfl) rfl ⟨Below.but hB hB.size hb9 (fun k e => by omega), told_zero HD.out⟩
    · have HF := hide hf
      have HEB := hide (No.enc_bd hNb.ok hf)
      have HN := hide hN
      clear hf hN
      go_wp2_with (first
        | (refine wpList_new 41 _ rfl rfl tyN ?_; intro W3 hB3 hX; have l3 := hB3.size; replace hR := hR.later hB3; replace hNb := hNb.later hB3; replace hB := hB.trans (hB3.mono hB.size); clear hB3)
        | (refine wpList_put 41 _ (.tmp 4) (.tmp 15) _ (nv n.L vc vk vi) _ rfl rfl rfl rfl hX tyN rfl rfl (nv_one hNb) ?_; intro W4 hb4 hs4 hX4; replace hNb := hNb.beside hX plain_nn0 hb4; replace hR := hR.but hb4 (Nat.ne_of_lt lR); have hB4 := Below.but hB hB.size hb4 (fun k e => by omega); clear hB hb4 hX; have hB := hB4; clear hB4)
        | (refine wpList_get 41 _ (.tmp 4) _ (nv n.L vc vk vi) rfl rfl rfl hX4 tyN rfl ?_))
      refine (encode_any vc vk vi n _ hNb HF.out).mono ?_
      rintro e W5 ⟨v5, rfl, ho5, hb5⟩
      have hs5 := Sl.own ho5 HEB.out
      replace hR := hR.later hb5
      replace hX4 := hX4.later hb5
      replace hNb := hNb.later hb5
      replace hB := hB.trans (hb5.mono hB.size)
      clear ho5 hb5
      by_cases he : n.enc.2 = 0
      · have he0 : (n.enc.2 != 0) = false := by simp; exact he
        have HE := hide he
        have lX := hX4.lt
        by_cases hz : n.enc.1 = zs
        · have HD : Hid (No.dec zs = (n, 0)) := hide (No.dec_some HL.out HN.out (by rw [← hz, ← he]))
          have HZ := hide (decide_eq_true hz)
          clear he hz
          go_wp2_with fail
          refine (equal_any hs5 (HS.out.later hB)).mono ?_
          rintro e W6 ⟨rfl, rfl⟩
          rw [HZ.out]
          go_wp2_with (first
            | (refine wpList_get 41 _ (.tmp 4) _ (nv n.L vc vk vi) rfl rfl rfl hX4 tyN rfl ?_)
            | (refine wpList_put 41 _ (.tmp 2) (.tmp 34) _ (nv n.L vc vk vi) _ rfl rfl rfl rfl hR tyN rfl rfl (nv_one hNb) ?_; intro W9 hb9 hs9 hX9))
          refine bodyPost_ret (v := .tuple #[.agg (nv n.L vc vk vi), .int .i64 0]) (results2_bx Try.results12 _ _ _ _ _ rfl rfl hX9 tyN rfl) rfl ⟨Below.but hB hB.size hb9 (fun k e => by omega), ?_⟩
          rw [HD.out]
          exact ⟨_, _, _, rfl, hNb.beside hR plain_nn0 hb9, HF.out⟩
        · have HD : Hid (No.dec zs = (No.zero, 8)) := hide (No.dec_other HN.out (fun q => hz (by rw [q])))
          have HZ := hide (decide_eq_false hz)
          clear he hz
          go_wp2_with fail
          refine (equal_any hs5 (HS.out.later hB)).mono ?_
          rintro e W6 ⟨rfl, rfl⟩
          rw [HZ.out]
          go_wp2_with (refine wpList_put 41 _ (.tmp 2) (.tmp 33) _ nn0 _ rfl rfl rfl rfl hR tyN rfl rfl nn0_one ?_; intro W9 hb9 hs9 hX9)
          refine bodyPost_ret (v := .tuple #[.agg nn0, .int .i64 8]) (results2_bx Try.results12 _ _ _ _ _ rfl rfl hX9 tyN rfl) rfl ⟨Below.but hB hB.size hb9 (fun k e => by omega), told_zero HD.out⟩
      · have he0 : (n.enc.2 != 0) = true := by simp; exact he
        have HD : Hid (No.dec zs = (No.zero, 8)) := hide (No.dec_other HN.out (fun q => he (by rw [q])))
        clear he
        go_wp2_with (refine wpList_put 41 _ (.tmp 2) (.tmp 33) _ nn0 _ rfl rfl rfl rfl hR tyN rfl rfl nn0_one ?_; intro W9 hb9 hs9 hX9)
        refine bodyPost_ret (v := .tuple #[.agg nn0, .int .i64 8]) (results2_bx Try.results12 _ _ _ _ _ rfl rfl hX9 tyN rfl) rfl ⟨Below.but hB hB.size hb9 (fun k e => by omega), told_zero HD.out⟩
  · have hd : ((zs.length : Int) != 256) = true := by simp; omega
    have HD := hide (No.dec_long hl)
    clear hl
    go_enter Try.func12, Try.ntmps12
    go_wp2_with (first
      | (refine wpList_new 41 _ rfl rfl tyN ?_; intro W1 hB hR)
      | (refine wpList_put 41 _ (.tmp 2) (.tmp 11) _ nn0 _ rfl rfl rfl rfl hR tyN rfl rfl nn0_one ?_; intro W9 hb9 hs9 hX9))
    refine bodyPost_ret (v := .tuple #[.agg nn0, .int .i64 8]) (results2_bx Try.results12 _ _ _ _ _ rfl rfl hX9 tyN rfl) rfl ⟨Below.but hB hB.size hb9 (fun k e => by omega), told_zero HD.out⟩
end Go.Proofs.Ytbddghdkmakjlab

namespace Go.Proofs.Ytbddghdkmakjlab
set_option maxRecDepth 100000
set_option linter.unusedVariables false
open Go.RowKit

/-- How many keys at the head are not above s. -/
def No.lead : List ByteArray → ByteArray → Nat
  | [], _ => 0
  | k :: K, s => if Ky.bl s.toList k.toList then 0 else No.lead K s + 1
theorem No.lead_is : ∀ {K : List ByteArray} {s : ByteArray} {i : Nat}, i ≤ K.length → (∀ j, j < i → Ky.bl s.toList (K.getD j No.bz).toList = false) → (i < K.length → Ky.bl s.toList (K.getD i No.bz).toList = true) → No.lead K s = i
  | [], _, i, h, _, _ => by simp at h; subst h; rfl
  | k :: K, s, i, h, g, l => by
    cases i with
    | zero =>
      have := l (by simp)
      simp at this
      simp [No.lead, this]
    | succ i =>
      have h0 := g 0 (by omega)
      simp at h0
      have := No.lead_is (K := K) (s := s) (i := i) (by simpa using h) (fun j hj => by have := g (j + 1) (by omega); simpa using this) (fun hi => by have := l (by simpa using hi); simpa using this)
      simp [No.lead, h0, this]
def No.kid (n : No) (s : ByteArray) : Int := if n.L then -1 else if n.may then (No.lead n.K s : Int) else -1

set_option maxHeartbeats 4000000 in
theorem nkid_any (vc vk vi : Value) (n : No) (s : ByteArray) (w : World) (h : Nb w vc vk vi n) :
    Calls Try.prog 13 #[.agg (nv n.L vc vk vi), .string s] w fun e w' => e = .returned (.int .i64 (n.kid s)) ∧ Below w.heap.size w w' := by
  have HH := hide h
  have hKs := h.k
  obtain ⟨L, C, K, I⟩ := n
  simp only at hKs
  obtain ⟨p1, n1, c1, rfl, ha1, hb1, HN1, HK⟩ := hKs.opens
  have e1 := HN1.out
  subst e1
  clear h hKs HN1
  cases L
  · cases hm : No.may ⟨false, C, K, I⟩
    · have HM := hide hm
      have HR : Hid (No.kid ⟨false, C, K, I⟩ s = -1) := hide (by simp [No.kid, hm])
      clear hm
      go_enter Try.func13, Try.ntmps13
      go_wp2_with (first
        | (refine wpList_box 41 (.tmp 0) (nv false _ _ _) rfl rfl rfl ?_; intro W1 hB hX; obtain ⟨g0, g1, g2, g3⟩ := hX.nodes)
        | (refine wpList_getG 41 _ (.tmp 2) _ (nv false vc (.slice p1 K.length c1) vi) rfl rfl rfl rfl rfl hX tyN rfl ?_))
      refine (nmay_any vc _ vi ⟨false, C, K, I⟩ _ (HH.out.later hB)).mono ?_
      rintro e x ⟨rfl, hb⟩
      rw [HM.out]
      replace hB := hB.trans (hb.mono hB.size)
      clear hb hX g0 g1 g2 g3
      go_wp2_with fail
      go_ret
      exact ⟨by rw [HR.out]; rfl, hB⟩
    · have HM := hide hm
      have HR : Hid (No.kid ⟨false, C, K, I⟩ s = (No.lead K s : Int)) := hide (by simp [No.kid, hm])
      clear hm
      go_enter Try.func13, Try.ntmps13
      go_wp2_with (first
        | (refine wpList_box 41 (.tmp 0) (nv false _ _ _) rfl rfl rfl ?_; intro W1 hB hX; obtain ⟨g0, g1, g2, g3⟩ := hX.nodes)
        | (refine wpList_getG 41 _ (.tmp 2) _ (nv false vc (.slice p1 K.length c1) vi) rfl rfl rfl rfl rfl hX tyN rfl ?_))
      refine (nmay_any vc _ vi ⟨false, C, K, I⟩ _ (HH.out.later hB)).mono ?_
      rintro e x ⟨rfl, hb⟩
      rw [HM.out]
      replace hX := hX.later hb
      replace hB := hB.trans (hb.mono hB.size)
      clear hb g0 g1 g2 g3
      have HX := hide hX
      have HB := hide hB
      clear hX hB
      go_wp2_with fail
      go_loopw [5] (fun i wr => ∃ k : Nat, k ≤ K.length ∧ i = .int .i64 k ∧ Hid (∀ j, j < k → Ky.bl s.toList (K.getD j No.bz).toList = false) ∧ wr = x) (fun i _ => K.length - (intOf i).toNat)
      case atStart => exact ⟨0, by omega, rfl, (fun i hi => by omega), rfl⟩
      case round =>
        obtain ⟨k, hk0, rfl, HY, rfl⟩ := hrel
        obtain ⟨g0, g1, g2, g3⟩ := HX.out.nodes
        by_cases hk : k < K.length
        · obtain ⟨b, off, rfl, hc, hsz⟩ := Ts.at_ (HK.out.later HB.out) hk
          have hln := Ky.le_not (K.getD k No.bz).toList s.toList
          generalize hq : K.getD k No.bz = q at *
          have HLN := hide hln
          cases hr : Op.bytesLess s.toList q.toList
          · have HY2 : Hid (∀ j, j < k + 1 → Ky.bl s.toList (K.getD j No.bz).toList = false) := hide (fun j hj => by
              rcases Nat.lt_or_ge j k with h | h
              · exact HY.out j h
              · obtain rfl : j = k := by omega
                rw [hq]; exact hr)
            have hle : (Op.bytesLess q.toList s.toList || q.toList == s.toList) = true := by rw [HLN.out, show Ky.bl s.toList q.toList = false from hr]; rfl
            clear hq hln hr hsz
            go_wp2_with fail
            go_roundw
            case rel => exact ⟨_, hk, by go_num, HY2, trivial⟩
            case measure => simp [intOf]; omega
          · have hle : (Op.bytesLess q.toList s.toList || q.toList == s.toList) = false := by rw [HLN.out, show Ky.bl s.toList q.toList = true from hr]; rfl
            have HE := hide (No.lead_is hk0 HY.out (fun _ => by rw [hq]; exact hr))
            clear hq hln hr hsz
            go_wp2_with fail
            go_ret
            exact ⟨by rw [HR.out, HE.out]; rfl, HB.out⟩
        · have HE := hide (No.lead_is hk0 HY.out (fun h => absurd h hk))
          go_wp2_with fail
          go_ret
          exact ⟨by rw [HR.out, HE.out]; rfl, HB.out⟩
  · have HR : Hid (No.kid ⟨true, C, K, I⟩ s = -1) := hide (by simp [No.kid])
    go_enter Try.func13, Try.ntmps13
    go_wp2_with (refine wpList_box 41 (.tmp 0) (nv true _ _ _) rfl rfl rfl ?_; intro W1 hB hX; obtain ⟨g0, g1, g2, g3⟩ := hX.nodes)
    go_ret
    exact ⟨by rw [HR.out]; rfl, hB⟩
end Go.Proofs.Ytbddghdkmakjlab
