/-
  The contract of the document's Whole over the translated program.
  Contracts of node.readLeaf and node.readFork over the translated program.
  The contract of node.readFork over the translated program.
  What a node's slices hold stays where a variable of another kind is written.
-/
import Derived.Test.YtbddghdkmakjlaaGi
import Derived.Test.YtbddghdkmakjlaaGe
import Derived.Test.YtbddghdkmakjlaaGa
import Derived.Test.YtbddghdkmakjlaaGg
namespace Go.Proofs.Ytbddghdkmakjlaa
set_option maxRecDepth 100000
set_option linter.unusedVariables false
open Go.RowKit

set_option maxHeartbeats 1000000 in
theorem whole_any (v : Value) (zs : List Int) (w : World) (h : Sl w v zs) :
    Calls Try.prog 20 #[v] w fun e w' => ∃ v', e = .returned v' ∧ w'.ownsRow w.heap.size 5 1 v' (No.whole zs).length (bv (No.whole zs)) ∧ Below w.heap.size w w' := by
  obtain ⟨p, n, cp, rfl, hn1, hn2, HN, HS⟩ := h.opens
  have hn := HN.out
  subst hn
  clear h HN
  by_cases hl : zs.length ≤ 256
  · have HE := hide (No.whole_is hl)
    have hd : decide ((256 : Int) < (zs.length : Int)) = false := by simp; omega
    have HL := hide hl
    have hsub : IntKind.i64.wrap (256 - (zs.length : Int)) = ((256 - zs.length : Nat) : Int) := by rw [IntKind.wrap_i64]; omega
    clear hl
    go_enter Try.func20, Try.ntmps20
    go_wp2_with (first
      | (refine wpList_append_sl rfl (.const (.slice none 0 0)) (.tmp 6) 30 rfl w.heap.size 5 Try.underlying30 Try.info5 _ 0 [] rfl (World.ownsRow_nil _ _ _ _) _ zs rfl HS.out (by have := HL.out; omega) (Nat.le_refl _) ?_; intro v1 w1 ho1 hg1; have hB1 := below_new hg1; have hs1 := hB1.size)
      | (refine wpList_append_zeros rfl (.tmp 7) (.tmp 10) 30 3 rfl w.heap.size 5 Try.underlying30 Try.underlying3 Try.info5 _ _ _ rfl ho1 (256 - zs.length) rfl (by have := HL.out; omega) hs1 ?_; intro v2 w2 ho2 hg2; have hB2 := hB1.grown hg2 hs1 (fun j hj => (ho1.lt j hj).1)))
    go_ret
    refine ⟨_, rfl, ?_, hB2⟩
    rw [HE.out]
    have e2 : (No.pad zs).length = 0 + zs.length + (256 - zs.length) := by rw [No.pad_len HL.out]; have := HL.out; omega
    rw [e2]
    exact ho2
  · have HE := hide (No.whole_no (show 256 < zs.length by omega))
    have hd : decide ((256 : Int) < (zs.length : Int)) = true := by simp; omega
    clear hl
    go_enter Try.func20, Try.ntmps20
    go_wp2_with fail
    go_ret
    exact ⟨_, rfl, by rw [HE.out]; exact World.ownsRow_nil _ _ _ _, Below.refl _ _⟩
end Go.Proofs.Ytbddghdkmakjlaa

namespace Go.Proofs.Ytbddghdkmakjlaa
set_option maxRecDepth 100000
set_option linter.unusedVariables false
open Go.RowKit

theorem own_opensN {w : World} {base size : Nat} {e : TypeId} {v : Value} {n : Nat} {vs : List Value} (h : w.ownsRow base e size v n vs) : ∃ p cp, v = .slice p n cp ∧ n ≤ cp ∧ cp ≤ 9223372036854775807 := by
  rcases h.2 with ⟨rfl, h0⟩ | ⟨g, cap, cur, rfl, _, _, h1, h2, _⟩
  · exact ⟨none, 0, by rw [h0], by omega, by omega⟩
  · unfold maxLen at h2
    exact ⟨_, cap, rfl, h1, by omega⟩

/-- 'x.Field = append(x.Field, y)': the row has grown by one, the variable holds it; all that was below stays. -/
theorem field_set {w W : World} {b k : Nat} {cs : Array Value} {v : Value} (hX : Bx w b cs) (hb : But (· = b) w W) (hN : Bx W b (cs.setIfInBounds k v)) {cs' : Array Value} (he : cs.setIfInBounds k v = cs') : Bx W b cs' := by rw [← he]; exact hN

theorem own_ne {w : World} {base size : Nat} {e : TypeId} {v : Value} {n : Nat} {vs : List Value} (h : w.ownsRow base e size v n vs) {b : Nat} (hb : b < base) : some b ≠ v.ownBlock := fun e => by
  have := (h.lt b e.symm).1
  omega

theorem nv0_one {l : Bool} : ∀ u ∈ (nv l (.slice none 0 0) (.slice none 0 0) (.slice none 0 0)).toList, u.oneCell' = true := by
  intro u hu
  simp [nv] at hu
  rcases hu with rfl | rfl <;> rfl

theorem nvc_one {l : Bool} (p : Option Addr) (n c : Nat) : ∀ u ∈ (nv l (.slice p n c) (.slice none 0 0) (.slice none 0 0)).toList, u.oneCell' = true := by
  intro u hu
  simp [nv] at hu
  rcases hu with rfl | rfl | rfl <;> rfl

/-- The variable that lies in slot 6. -/
theorem wpList_at6 {w : World} {ops : Array Oper} {rest : List Oper} {o : Oper} {a : Act} {Q : Exit → Act → World → Prop} (ty : TypeId) (z : Array Value) (hg : o.guard = none) (hop : o.op = Op.alloc ty) (_hd : o.dst = some 6) (ht : Ty ty z)
    (hK : ∀ W, Below w.heap.size w W → Bx W w.heap.size z → wpList Try.prog ops Q rest (a.put o.dst (.pointer (some ⟨w.heap.size, 0, none⟩))) W) : wpList Try.prog ops Q (o :: rest) a w := wpList_new ty z hg hop ht hK

theorem cells_slice (p : Option Addr) (n cp : Nat) : (Value.slice p n cp).cells = #[.slice p n cp] := rfl

theorem cc_one {F : List Ce} : ∀ u ∈ cc F, u.oneCell' = true := by
  intro u hu
  obtain ⟨c, _, hc⟩ := List.mem_flatMap.1 hu
  exact cv_one c u hc

/-- 'b[l:]', told at the world that it came from. -/
theorem wpList_cutB {w w0 : World} {ops : Array Oper} {rest : List Oper} {o : Oper} {a : Act} {Q : Exit → Act → World → Prop} (hg : o.guard = none) (x y : Operand) (hop : o.op = Op.slice 30 x (some y) none none)
    (v : Value) (zs : List Int) (l : Int) (hx : a.eval x = v) (hy : a.eval y = .int .i64 l) (h : Sl w0 v zs) (h0 : 0 ≤ l) (h1 : l ≤ zs.length)
    (hK : ∀ V, Sl w0 V (zs.drop l.toNat) → wpList Try.prog ops Q rest (a.put o.dst V) w) : wpList Try.prog ops Q (o :: rest) a w := by
  obtain ⟨V, hr, hV⟩ := h.cut_l h0 h1
  refine wpList_plain hg fun K' hK' => ?_
  unfold Oper.wp
  simp [execOp, hop, hx, hy, hr, Result.andThen]
  exact hK' _ _ (hK V hV)

theorem drop_all {zs : List Int} {n : Int} (h0 : 1 ≤ n) (h1 : n ≤ zs.length) : (zs.drop n.toNat).length + 1 ≤ zs.length := by
  rw [List.length_drop]
  omega

set_option maxHeartbeats 8000000 in
theorem readLeaf_any (v : Value) (zs : List Int) (z : Int) (w : World) (h : Sl w v zs) (hl : zs.length ≤ 1000) (h0 : -9223372036854775808 ≤ z) (h1 : z ≤ 9223372036854775807) :
    Calls Try.prog 48 #[v, .int .i64 z] w fun e w' => Below w.heap.size w w' ∧
      ((No.rdC z.toNat zs = none ∧ e = .returned (.tuple #[.agg nn0, .bool false])) ∨ ∃ C vc, No.rdC z.toNat zs = some C ∧ e = .returned (.tuple #[.agg (nv true vc (.slice none 0 0) (.slice none 0 0)), .bool true]) ∧ Cs w' vc C) := by
  have HS := hide h
  have HL := hide hl
  clear hl h
  go_enter Try.func48, Try.ntmps48
  go_wp2_with (first
    | (refine wpList_at6 36 _ rfl rfl rfl tyN ?_; intro W2 hB2 hX; have l01 := hR.lt; have l12 := hX.lt; replace hR := hR.later hB2; replace hB := hB.trans (hB2.mono hB.size); clear hB2)
    | (refine wpList_new 36 _ rfl rfl tyN ?_; intro W1 hB hR; have lw := hB.size)
    | (refine wpList_put 36 _ (.tmp 6) (.tmp 10) _ (nv true (.slice none 0 0) (.slice none 0 0) (.slice none 0 0)) _ rfl rfl rfl rfl hX tyN rfl rfl nv0_one ?_; intro W3 hb3 hs3 hX3; replace hR := hR.but hb3 (Nat.ne_of_lt l01); replace hB := Below.but hB hB.size hb3 (fun k e => by omega); clear hX hb3))
  generalize W1.heap.size = bx at *
  generalize hB0 : W2.heap.size = B at *
  have HLX := hide l12
  have HLR := hide (show w.heap.size < B by omega)
  have HRX := hide l01
  have HB3 := hide hB
  have HBs := hide (show B ≤ W3.heap.size by omega)
  have HX3 := hide hX3
  have HR3 := hide hR
  clear hB hX3 hR hs3 l12 l01 lw hB0
  go_loopw [0, 12] (fun vb i wr => ∃ (k : Nat) (A : List Ce) (zr : List Int) (vc : Value), (k : Int) ≤ max z 0 ∧ i = .int .i64 k ∧ Hid (No.rdC z.toNat zs = (No.rdC (z.toNat - k) zr).map (A ++ ·)) ∧ Hid (A.length + zr.length ≤ zs.length) ∧ Hid (∀ c ∈ A, c.Ok) ∧
      Hid (Sl w vb zr) ∧ Hid (wr.ownsRow B 61 8 vc A.length (cc A)) ∧ Hid (Bx wr bx (nv true vc (.slice none 0 0) (.slice none 0 0))) ∧ Hid (Bx wr w.heap.size nn0) ∧ Hid (B ≤ wr.heap.size) ∧ Hid (Below w.heap.size w wr)) (fun _ i _ => z.toNat - (intOf i).toNat)
  case atStart => exact ⟨0, [], zs, .slice none 0 0, by omega, rfl, hide (by simp), hide (by simp), hide (by simp), HS, World.ownsRow_nil _ _ _ _, HX3, HR3, HBs, HB3⟩
  case round =>
    obtain ⟨k, A, zr, vc, hk0, rfl, HE, HN, HA, HSl, HO, HX, HR, HBr, HBel⟩ := hrel
    clear HX3 HR3 HB3 HBs
    by_cases hk : (k : Int) < z
    · obtain ⟨c, n, e0, hE0⟩ : ∃ c n e0, Ce.get zr = (c, n, e0) := ⟨_, _, _, rfl⟩
      have HG := hide hE0
      have hcok := Ce.get_ok zr HSl.out.bd
      have hpos := No.cget_pos (zs := zr) HSl.out.bd
      rw [hE0] at hcok hpos
      simp only at hcok hpos
      have HC := hide hcok
      clear hcok hE0
      have hsub : z.toNat - k = (z.toNat - (k + 1)) + 1 := by omega
      by_cases he : e0 = 0
      · subst he
        obtain ⟨hp0, hp1⟩ := hpos rfl
        have HE2 : Hid (No.rdC z.toNat zs = (No.rdC (z.toNat - (k + 1)) (zr.drop n.toNat)).map ((A ++ [c]) ++ ·)) := hide (by
          rw [HE.out, hsub, No.rdC_go HG.out, Option.map_map]
          congr 1
          funext q
          simp)
        have HN2 : Hid ((A ++ [c]).length + (zr.drop n.toNat).length ≤ zs.length) := hide (by
          have h1 := HN.out
          have h2 := drop_all hp0 hp1
          rw [List.length_append, List.length_singleton]
          omega)
        have HA2 : Hid (∀ d ∈ A ++ [c], d.Ok) := hide (fun d hd => by
          rcases List.mem_append.1 hd with h | h
          · exact HA.out d h
          · rw [List.mem_singleton] at h; rw [h]; exact HC.out)
        have hn63 : n ≤ 9223372036854775807 := by have h1 := HN.out; have h2 := HL.out; omega
        have hn0 : 0 ≤ n := by omega
        have HP1 := hide hp1
        have HS1 : Hid ((A.length + 1) * 88 ≤ 140737488355328) := hide (by have h1 := HN.out; have h2 := HL.out; omega)
        have HS2 : Hid (A.length + 1 ≤ 140737488355328) := hide (by have h1 := HN.out; have h2 := HL.out; omega)
        clear hp0 hp1 hpos hsub
        go_wp2_with fail
        refine (get_cell_at (HSl.out.later HBel.out) HG.out).mono ?_
        rintro e W4 ⟨rfl, hb⟩
        have hX := HX.out.later hb
        have hR := HR.out.later hb
        have ho := own_below HO.out hb
        have hB := HBel.out.trans (hb.mono HBel.out.size)
        have hBB := Nat.le_trans HBr.out hb.size
        clear hb
        go_wp2_with (first
          | (refine wpList_new 61 _ rfl rfl tyC ?_; intro Wn hBn hN)
          | (refine wpList_put 61 _ (.tmp 7) (.tmp 17) _ (cv c) _ rfl rfl rfl rfl hN tyC rfl rfl (cv_one _) ?_; intro Z hbp hsp hC; have hBp := newput hBn hbp; replace hX := hX.later hBp; replace hR := hR.later hBp; replace ho := own_below ho hBp; replace hB := hB.trans (hBp.mono hB.size); replace hBB := Nat.le_trans hBB hBp.size; clear hBn hN hbp hsp hBp; obtain ⟨g0, g1, g2, g3⟩ := hX.nodes)
          | (refine wpList_get 61 _ (.tmp 7) _ (cv c) rfl rfl rfl hC tyC rfl ?_)
          | (refine wpList_buildN rfl 34 61 (.agg (cv Ce.zero)) 8 88 Try.underlying34 infoV rfl (by decide) (by decide) (.tmp 25) rfl (.agg (cv c)) rfl rfl ?_)
          | (refine wpList_appN rfl 34 61 (.agg (cv Ce.zero)) 8 88 Try.underlying34 infoV rfl (by decide) (.tmp 24) (.tmp 26) rfl B vc A.length (cc A) _ (cv c) rfl rfl HS1.out HS2.out (ho.alloc _) (heap_alloc_new _ _) rfl (cv_one c) (Nat.le_trans hBB (alloc_le _ _)) ?_
             intro v5 W5 ho5 hg5
             have hA5 : Below Z.heap.size Z (Z.alloc (.cells (cv c) 61)) := (Below.refl _ _).alloc (Nat.le_refl _) _
             have hX5 := (hX.later hA5).grown hg5 (own_ne ho HLX.out)
             have hR5 := (hR.later hA5).grown hg5 (own_ne ho HLR.out)
             have hB5 := (hB.trans (hA5.mono hB.size)).grown hg5 (hB.trans (hA5.mono hB.size)).size (fun j hj => by have := (ho.lt j hj).1; have := HLR.out; omega)
             have hBB5 := Nat.le_trans (Nat.le_trans hBB (alloc_le Z (.cells (cv c) 61))) hg5.size
             obtain ⟨p5, c5, rfl, hc5, hc6⟩ := own_opensN ho5
             clear hA5 hg5 hX hR hB hBB ho g0 g1 g2 g3)
          | (refine wpList_put1 34 (.tmp 28) (.tmp 27) _ 1 (.slice p5 (A.length + 1) c5) _ rfl rfl rfl rfl hX5 (show 1 < 4 by omega) (by kernel_rfl) rfl (fun a W => run_store Try.prog W a _ _ rfl) ?_
             intro W6 hb6 hs6 hX6)
          | (refine wpList_cutB rfl (.tmp 29) (.tmp 30) rfl _ zr n rfl rfl HSl.out hn0 HP1.out ?_; intro V7 hV7))
        go_roundw
        case rel =>
          have hs5 : W5.heap.size ≤ W6.heap.size := by omega
          refine ⟨k + 1, A ++ [c], zr.drop n.toNat, .slice p5 (A.length + 1) c5, by omega, by go_num, HE2, HN2, HA2, hV7, ?_, hX6, ?_, Nat.le_trans hBB5 hs5, ?_⟩
          · show World.ownsRow _ _ _ _ _ _ _
            rw [cc_snoc, List.length_append]
            exact own_but' ho5 hb6 (fun k hk e => by have := HLX.out; omega)
          · exact hR5.but hb6 (Nat.ne_of_lt HRX.out)
          · exact Below.but hB5 hB5.size hb6 (fun k e => by have := HRX.out; omega)
        case measure => simp [intOf]; omega
      · have he' : (e0 != 0) = true := by simp; exact he
        have HN0 : Hid (No.rdC z.toNat zs = none) := hide (by rw [HE.out, hsub, No.rdC_no HG.out he]; rfl)
        clear hpos he hsub
        go_wp2_with fail
        refine (get_cell_at (HSl.out.later HBel.out) HG.out).mono ?_
        rintro e W4 ⟨rfl, hb⟩
        have hR := HR.out.later hb
        have hB := HBel.out.trans (hb.mono HBel.out.size)
        clear hb
        go_wp2_with (first
          | (refine wpList_new 61 _ rfl rfl tyC ?_; intro Wn hBn hN)
          | (refine wpList_put 61 _ (.tmp 7) (.tmp 17) _ (cv c) _ rfl rfl rfl rfl hN tyC rfl rfl (cv_one _) ?_; intro Z hbp hsp hC; have hBp := newput hBn hbp; replace hR := hR.later hBp; replace hB := hB.trans (hBp.mono hB.size); clear hBn hN hbp hsp hBp)
          | (refine wpList_put 36 _ (.tmp 4) (.tmp 22) _ nn0 _ rfl rfl rfl rfl hR tyN rfl rfl nn0_one ?_; intro W9 hb9 hs9 hX9))
        refine bodyPost_ret (v := .tuple #[.agg nn0, .bool false]) (results2_bx Try.results48 _ _ _ _ _ rfl rfl hX9 tyN rfl) rfl ⟨Below.but hB hB.size hb9 (fun k e => by omega), .inl ⟨HN0.out, rfl⟩⟩
    · have HN0 : Hid (No.rdC z.toNat zs = some A) := hide (by rw [HE.out, show z.toNat - k = 0 by omega]; simp [No.rdC])
      have hCs := Cs.own HO.out HA.out
      obtain ⟨p5, c5, rfl, hc5, hc6⟩ := own_opensN HO.out
      have hX := HX.out
      have hR := HR.out
      have hB := HBel.out
      go_wp2_with (first
        | (refine wpList_get 36 _ (.tmp 6) _ (nv true _ _ _) rfl rfl rfl hX tyN rfl ?_)
        | (refine wpList_put 36 _ (.tmp 4) (.tmp 33) _ (nv true (.slice p5 A.length c5) (.slice none 0 0) (.slice none 0 0)) _ rfl rfl rfl rfl hR tyN rfl rfl (nvc_one _ _ _) ?_; intro W9 hb9 hs9 hX9))
      refine bodyPost_ret (v := .tuple #[.agg (nv true (.slice p5 A.length c5) (.slice none 0 0) (.slice none 0 0)), .bool true]) (results2_bx Try.results48 _ _ _ _ _ rfl rfl hX9 tyN rfl) rfl ⟨Below.but hB hB.size hb9 (fun k e => by omega), .inr ⟨A, HN0.out, _, rfl, ?_⟩⟩
      exact Cs.own (own_but' HO.out hb9 (fun k hk e => by have := HLR.out; omega)) HA.out
end Go.Proofs.Ytbddghdkmakjlaa

namespace Go.Proofs.Ytbddghdkmakjlaa
set_option maxRecDepth 100000
set_option linter.unusedVariables false
open Go.RowKit

theorem nget_at {v : Value} {zs : List Int} {w : World} {n k x : Int} (h : Sl w v zs) (he : Nm.get 0 0 zs = (n, k, x)) :
    Calls Try.prog 47 #[v] w fun e w' => e = .returned (.tuple #[.int .i64 n, .int .i64 k, .int .i64 x]) ∧ w' = w := by
  have := get_any v zs w h
  rw [he] at this
  exact this
theorem ngetText_at {v : Value} {zs : List Int} {w : World} {s : List Int} {k x : Int} (h : Sl w v zs) (he : Nm.getText zs = (s, k, x)) :
    Calls Try.prog 62 #[v] w fun e w' => e = .returned (.tuple #[.string (strOfNums s), .int .i64 k, .int .i64 x]) ∧ w' = w := by
  have := getText_any v zs w h
  rw [he] at this
  exact this

def No.rdF (z : Int) (zs : List Int) : Option (List Int × List ByteArray) := (No.rdI z.toNat zs).bind fun r => (No.rdK (r.1.length - 1) r.2).map fun K => (r.1, K)
theorem rdF_none {z : Int} {zs : List Int} (h : No.rdI z.toNat zs = none) : No.rdF z zs = none := by simp [No.rdF, h]
theorem rdF_some {z : Int} {zs : List Int} {I : List Int} {r : List Int} (h : No.rdI z.toNat zs = some (I, r)) : No.rdF z zs = (No.rdK (I.length - 1) r).map fun K => (I, K) := by simp [No.rdF, h]

theorem nvki_one {l : Bool} (p : Option Addr) (n c : Nat) (p' : Option Addr) (n' c' : Nat) : ∀ u ∈ (nv l (.slice none 0 0) (.slice p n c) (.slice p' n' c')).toList, u.oneCell' = true := by
  intro u hu
  simp [nv] at hu
  rcases hu with rfl | rfl | rfl | rfl <;> rfl

set_option maxHeartbeats 16000000 in
theorem readFork_any (v : Value) (zs : List Int) (z : Int) (w : World) (h : Sl w v zs) (hl : zs.length ≤ 1000) (h0 : -9223372036854775808 ≤ z) (h1 : z ≤ 9223372036854775807) :
    Calls Try.prog 49 #[v, .int .i64 z] w fun e w' => Below w.heap.size w w' ∧
      ((No.rdF z zs = none ∧ e = .returned (.tuple #[.agg nn0, .bool false])) ∨ ∃ I K vi vk, No.rdF z zs = some (I, K) ∧ e = .returned (.tuple #[.agg (nv false (.slice none 0 0) vk vi), .bool true]) ∧ Is w' vi I ∧ Ts w' vk K) := by
  have HS := hide h
  have HL := hide hl
  clear hl h
  go_enter Try.func49, Try.ntmps49
  go_wp2_with (first
    | (refine wpList_at6 36 _ rfl rfl rfl tyN ?_; intro W2 hB2 hX; have l01 := hR.lt; have l12 := hX.lt; replace hR := hR.later hB2; replace hB := hB.trans (hB2.mono hB.size); clear hB2)
    | (refine wpList_new 36 _ rfl rfl tyN ?_; intro W1 hB hR; have lw := hB.size)
    | (refine wpList_put 36 _ (.tmp 6) (.tmp 13) _ nn0 _ rfl rfl rfl rfl hX tyN rfl rfl nn0_one ?_; intro W3 hb3 hs3 hX3; replace hR := hR.but hb3 (Nat.ne_of_lt l01); replace hB := Below.but hB hB.size hb3 (fun k e => by omega); clear hX hb3))
  generalize W1.heap.size = bx at *
  generalize hB0 : W2.heap.size = B at *
  have HLX := hide l12
  have HLR := hide (show w.heap.size < B by omega)
  have HRX := hide l01
  have HB3 := hide hB
  have HBs := hide (show B ≤ W3.heap.size by omega)
  have HX3 : Hid (Bx W3 bx (nv false (.slice none 0 0) (.slice none 0 0) (.slice none 0 0))) := hide hX3
  have HR3 := hide hR
  clear hB hX3 hR hs3 l12 l01 lw hB0
  go_loopw [0, 15] (fun vb i wr => ∃ (k : Nat) (A : List Int) (zr : List Int) (vi : Value), (k : Int) ≤ max z 0 ∧ i = .int .i64 k ∧ Hid (No.rdI z.toNat zs = (No.rdI (z.toNat - k) zr).map fun r => (A ++ r.1, r.2)) ∧ Hid (A.length + zr.length ≤ zs.length) ∧ Hid (∀ c ∈ A, -9223372036854775808 ≤ c ∧ c ≤ 9223372036854775807) ∧
      Hid (Sl w vb zr) ∧ Hid (wr.ownsRow B 3 1 vi A.length (A.map (Value.int .i64))) ∧ Hid (Bx wr bx (nv false (.slice none 0 0) (.slice none 0 0) vi)) ∧ Hid (Bx wr w.heap.size nn0) ∧ Hid (B ≤ wr.heap.size) ∧ Hid (Below w.heap.size w wr)) (fun _ i _ => z.toNat - (intOf i).toNat)
  case atStart => exact ⟨0, [], zs, .slice none 0 0, by omega, rfl, hide (by simp), hide (by simp), hide (by simp), HS, World.ownsRow_nil _ _ _ _, HX3, HR3, HBs, HB3⟩
  case round =>
    obtain ⟨k, A, zr, vi, hk0, rfl, HE, HN, HA, HSl, HO, HX, HR, HBr, HBel⟩ := hrel
    clear HX3 HR3 HB3 HBs
    by_cases hk : (k : Int) < z
    · obtain ⟨c, n, e0, hE0⟩ : ∃ c n e0, Nm.get 0 0 zr = (c, n, e0) := ⟨_, _, _, rfl⟩
      have HG := hide hE0
      have hbd := Nm.get_bd zr 0 0 (by omega) (by decide) (by omega) HSl.out.bd
      rw [hE0] at hbd
      simp only at hbd
      clear hE0
      have hsub : z.toNat - k = (z.toNat - (k + 1)) + 1 := by omega
      by_cases he : e0 = 0
      · subst he
        have hp : 1 ≤ n ∧ n ≤ zr.length ∧ -9223372036854775808 ≤ c ∧ c ≤ 9223372036854775807 := by
          rcases hbd with hbd | hbd
          · obtain ⟨-, g1, -, g3, g4, g5⟩ := hbd
            simp at g1 g3
            omega
          · omega
        clear hbd
        obtain ⟨hp0, hp1, hp2, hp3⟩ := hp
        have HE2 : Hid (No.rdI z.toNat zs = (No.rdI (z.toNat - (k + 1)) (zr.drop n.toNat)).map fun r => ((A ++ [c]) ++ r.1, r.2)) := hide (by
          rw [HE.out, hsub, No.rdI_go HG.out, Option.map_map]
          congr 1
          funext q
          simp)
        have HN2 : Hid ((A ++ [c]).length + (zr.drop n.toNat).length ≤ zs.length) := hide (by
          have h1 := HN.out
          have h2 := drop_all hp0 hp1
          rw [List.length_append, List.length_singleton]
          omega)
        have HA2 : Hid (∀ d ∈ A ++ [c], -9223372036854775808 ≤ d ∧ d ≤ 9223372036854775807) := hide (fun d hd => by
          rcases List.mem_append.1 hd with h | h
          · exact HA.out d h
          · rw [List.mem_singleton] at h; rw [h]; exact ⟨hp2, hp3⟩)
        have hn63 : n ≤ 9223372036854775807 := by have h1 := HN.out; have h2 := HL.out; omega
        have hn0 : 0 ≤ n := by omega
        have HP1 := hide hp1
        have HS1 : Hid ((A.length + 1) * 8 ≤ 140737488355328) := hide (by have h1 := HN.out; have h2 := HL.out; omega)
        have HS2 : Hid (A.length + 1 ≤ 140737488355328) := hide (by have h1 := HN.out; have h2 := HL.out; omega)
        clear hp0 hp1 hp2 hp3 hsub
        go_wp2_with fail
        refine (nget_at (HSl.out.later HBel.out) HG.out).mono ?_
        rintro e W4 ⟨rfl, rfl⟩
        have hX := HX.out
        have hR := HR.out
        have ho := HO.out
        have hB := HBel.out
        have hBB := HBr.out
        obtain ⟨g0, g1, g2, g3⟩ := hX.nodes
        go_wp2_with (first
          | (refine wpList_buildN rfl 24 3 (.int .i64 0) 1 8 Try.underlying24 infoI rfl (by decide) (by decide) (.tmp 28) rfl (.int .i64 c) rfl rfl ?_)
          | (refine wpList_appN rfl 24 3 (.int .i64 0) 1 8 Try.underlying24 infoI rfl (by decide) (.tmp 27) (.tmp 29) rfl B vi A.length (A.map (Value.int .i64)) _ #[.int .i64 c] rfl rfl HS1.out HS2.out (ho.alloc _) (heap_alloc_new _ _) rfl (by simp [Value.oneCell']) (Nat.le_trans hBB (alloc_le _ _)) ?_
             intro v5 W5 ho5 hg5
             have hA5 : Below W4.heap.size W4 (W4.alloc (.cells (Value.int .i64 c).cells 3)) := (Below.refl _ _).alloc (Nat.le_refl _) _
             have hX5 := (hX.later hA5).grown hg5 (own_ne ho HLX.out)
             have hR5 := (hR.later hA5).grown hg5 (own_ne ho HLR.out)
             have hB5 := (hB.trans (hA5.mono hB.size)).grown hg5 (hB.trans (hA5.mono hB.size)).size (fun j hj => by have := (ho.lt j hj).1; have := HLR.out; omega)
             have hBB5 := Nat.le_trans (Nat.le_trans hBB (alloc_le W4 (.cells (Value.int .i64 c).cells 3))) hg5.size
             obtain ⟨p5, c5, rfl, hc5, hc6⟩ := own_opensN ho5
             clear hA5 hg5 hX hR hB hBB ho g0 g1 g2 g3)
          | (refine wpList_put1 24 (.tmp 31) (.tmp 30) _ 3 (.slice p5 (A.length + 1) c5) _ rfl rfl rfl rfl hX5 (show 3 < 4 by omega) (by kernel_rfl) rfl (fun a W => run_store Try.prog W a _ _ rfl) ?_
             intro W6 hb6 hs6 hX6)
          | (refine wpList_cutB rfl (.tmp 32) (.tmp 33) rfl _ zr n rfl rfl HSl.out hn0 HP1.out ?_; intro V7 hV7))
        go_roundw
        case rel =>
          have hs5 : W5.heap.size ≤ W6.heap.size := by omega
          refine ⟨k + 1, A ++ [c], zr.drop n.toNat, .slice p5 (A.length + 1) c5, by omega, by go_num, HE2, HN2, HA2, hV7, ?_, hX6, ?_, Nat.le_trans hBB5 hs5, ?_⟩
          · show World.ownsRow _ _ _ _ _ _ _
            rw [List.map_append, List.length_append]
            exact own_but' ho5 hb6 (fun k hk e => by have := HLX.out; omega)
          · exact hR5.but hb6 (Nat.ne_of_lt HRX.out)
          · exact Below.but hB5 hB5.size hb6 (fun k e => by have := HRX.out; omega)
        case measure => simp [intOf]; omega
      · have he' : (e0 != 0) = true := by simp; exact he
        have HN0 : Hid (No.rdF z zs = none) := hide (rdF_none (by rw [HE.out, hsub, No.rdI_no HG.out he]; rfl))
        clear hbd he hsub
        have hR := HR.out
        have hB := HBel.out
        go_wp2_with fail
        refine (nget_at (HSl.out.later HBel.out) HG.out).mono ?_
        rintro e W4 ⟨rfl, rfl⟩
        go_wp2_with (refine wpList_put 36 _ (.tmp 4) (.tmp 25) _ nn0 _ rfl rfl rfl rfl hR tyN rfl rfl nn0_one ?_; intro W9 hb9 hs9 hX9)
        refine bodyPost_ret (v := .tuple #[.agg nn0, .bool false]) (results2_bx Try.results49 _ _ _ _ _ rfl rfl hX9 tyN rfl) rfl ⟨Below.but hB hB.size hb9 (fun k e => by omega), .inl ⟨HN0.out, rfl⟩⟩
    · have HN0 : Hid (No.rdI z.toNat zs = some (A, zr)) := hide (by rw [HE.out, show z.toNat - k = 0 by omega]; simp [No.rdI])
      have HF := hide (rdF_some HN0.out)
      obtain ⟨p5, c5, rfl, hc5, hc6⟩ := own_opensN HO.out
      have hX := HX.out
      obtain ⟨g0, g1, g2, g3⟩ := hX.nodes
      have HAl : Hid (A.length + zr.length ≤ 1000) := hide (by have h1 := HN.out; have h2 := HL.out; omega)
      have hwr : IntKind.i64.wrap ((A.length : Int) - 1) = (A.length : Int) - 1 := by have h1 := HAl.out; rw [IntKind.wrap_i64]; omega
      generalize hM : A.length - 1 = M at *
      have HM := hide hM
      clear hM HE HN HL HS
      go_wp2_with fail
      clear g0 g1 g2 g3 hX hk hk0
      go_loopw [0, 40] (fun vb i wz => ∃ (k : Nat) (D : List ByteArray) (zt : List Int) (vk : Value), k ≤ M ∧ i = .int .i64 k ∧ Hid (No.rdK M zr = (No.rdK (M - k) zt).map (D ++ ·)) ∧ Hid (D.length + zt.length ≤ zr.length) ∧ Hid (∀ s ∈ D, s.size ≤ maxLen) ∧
          Hid (Sl w vb zt) ∧ Hid (wz.ownsRow B 9 1 vk D.length (D.map Value.string)) ∧ Hid (wz.ownsRow B 3 1 (.slice p5 A.length c5) A.length (A.map (Value.int .i64))) ∧ Hid (Bx wz bx (nv false (.slice none 0 0) vk (.slice p5 A.length c5))) ∧ Hid (Bx wz w.heap.size nn0) ∧ Hid (B ≤ wz.heap.size) ∧ Hid (Below w.heap.size w wz)) (fun _ i _ => M - (intOf i).toNat)
      case atStart => exact ⟨0, [], zr, .slice none 0 0, by omega, rfl, hide (by simp), hide (by simp), hide (by simp), HSl, World.ownsRow_nil _ _ _ _, HO, HX, HR, HBr, HBel⟩
      case round =>
        clear HSl HO HX HR HBr HBel
        obtain ⟨k, D, zt, vk, hk0, rfl, HE, HN, HD, HSl, HO, HOi, HX, HR, HBr, HBel⟩ := hrel
        by_cases hk : k < M
        · have hkA : (k : Int) < (A.length : Int) - 1 := by have := HM.out; omega
          obtain ⟨s, n, e0, hE0⟩ : ∃ s n e0, Nm.getText zt = (s, n, e0) := ⟨_, _, _, rfl⟩
          have HG := hide hE0
          have hbd := Dt.getText_bd zt HSl.out.bd
          have hpos := No.getText_pos (zs := zt) HSl.out.bd
          rw [hE0] at hbd hpos
          simp only at hbd hpos
          clear hE0
          have hsub : M - k = (M - (k + 1)) + 1 := by omega
          by_cases he : e0 = 0
          · subst he
            have hp0 := hpos rfl
            obtain ⟨-, hp1, hp2, -⟩ := hbd
            have HE2 : Hid (No.rdK M zr = (No.rdK (M - (k + 1)) (zt.drop n.toNat)).map ((D ++ [strOfNums s]) ++ ·)) := hide (by
              rw [HE.out, hsub, No.rdK_go HG.out, Option.map_map]
              congr 1
              funext q
              simp)
            have HN2 : Hid ((D ++ [strOfNums s]).length + (zt.drop n.toNat).length ≤ zr.length) := hide (by
              have h1 := HN.out
              have h2 := drop_all hp0 hp1
              rw [List.length_append, List.length_singleton]
              omega)
            have HD2 : Hid (∀ d ∈ D ++ [strOfNums s], d.size ≤ maxLen) := hide (fun d hd => by
              rcases List.mem_append.1 hd with h | h
              · exact HD.out d h
              · rw [List.mem_singleton] at h; rw [h, Dt.size_nums]; unfold maxLen; omega)
            have hn63 : n ≤ 9223372036854775807 := by have h1 := HN.out; have h2 := HAl.out; omega
            have hn0 : 0 ≤ n := by omega
            have HP1 := hide hp1
            have HS1 : Hid ((D.length + 1) * 16 ≤ 140737488355328) := hide (by have h1 := HN.out; have h2 := HAl.out; omega)
            have HS2 : Hid (D.length + 1 ≤ 140737488355328) := hide (by have h1 := HN.out; have h2 := HAl.out; omega)
            clear hp0 hp1 hp2 hpos hsub
            generalize ht : strOfNums s = t at *
            go_wp2_with fail
            refine (ngetText_at (HSl.out.later HBel.out) HG.out).mono ?_
            rintro e W4 ⟨rfl, rfl⟩
            rw [ht]
            clear ht
            have hX := HX.out
            have hR := HR.out
            have ho := HO.out
            have hoi := HOi.out
            have hB := HBel.out
            have hBB := HBr.out
            obtain ⟨g0, g1, g2, g3⟩ := hX.nodes
            go_wp2_with (first
              | (refine wpList_buildN rfl 23 9 (.string ⟨#[]⟩) 1 16 Try.underlying23 infoT rfl (by decide) (by decide) (.tmp 53) rfl (.string t) rfl rfl ?_)
              | (refine wpList_appN rfl 23 9 (.string ⟨#[]⟩) 1 16 Try.underlying23 infoT rfl (by decide) (.tmp 52) (.tmp 54) rfl B vk D.length (D.map Value.string) _ #[.string t] rfl rfl HS1.out HS2.out (ho.alloc _) (heap_alloc_new _ _) rfl (by simp [Value.oneCell']) (Nat.le_trans hBB (alloc_le _ _)) ?_
                 intro v5 W5 ho5 hg5
                 have hA5 : Below W4.heap.size W4 (W4.alloc (.cells (Value.string t).cells 9)) := (Below.refl _ _).alloc (Nat.le_refl _) _
                 have hX5 := (hX.later hA5).grown hg5 (own_ne ho HLX.out)
                 have hR5 := (hR.later hA5).grown hg5 (own_ne ho HLR.out)
                 have hoi5 := (hoi.alloc (.cells (Value.string t).cells 9)).kept hg5 (own_apart hoi ho (by decide))
                 have hB5 := (hB.trans (hA5.mono hB.size)).grown hg5 (hB.trans (hA5.mono hB.size)).size (fun j hj => by have := (ho.lt j hj).1; have := HLR.out; omega)
                 have hBB5 := Nat.le_trans (Nat.le_trans hBB (alloc_le W4 (.cells (Value.string t).cells 9))) hg5.size
                 obtain ⟨p7, c7, rfl, hc7, hc8⟩ := own_opensN ho5
                 clear hA5 hg5 hX hR hB hBB ho hoi g0 g1 g2 g3)
              | (refine wpList_put1 23 (.tmp 56) (.tmp 55) _ 2 (.slice p7 (D.length + 1) c7) _ rfl rfl rfl rfl hX5 (show 2 < 4 by omega) (by kernel_rfl) rfl (fun a W => run_store Try.prog W a _ _ rfl) ?_
                 intro W6 hb6 hs6 hX6)
              | (refine wpList_cutB rfl (.tmp 57) (.tmp 58) rfl _ zt n rfl rfl HSl.out hn0 HP1.out ?_; intro V7 hV7))
            go_roundw
            case rel =>
              have hs5 : W5.heap.size ≤ W6.heap.size := by omega
              refine ⟨k + 1, D ++ [t], zt.drop n.toNat, .slice p7 (D.length + 1) c7, by omega, by go_num, HE2, HN2, HD2, hV7, ?_, ?_, hX6, ?_, Nat.le_trans hBB5 hs5, ?_⟩
              · show World.ownsRow _ _ _ _ _ _ _
                rw [List.map_append, List.length_append]
                exact own_but' ho5 hb6 (fun k hk e => by have := HLX.out; omega)
              · exact own_but' hoi5 hb6 (fun k hk e => by have := HLX.out; omega)
              · exact hR5.but hb6 (Nat.ne_of_lt HRX.out)
              · exact Below.but hB5 hB5.size hb6 (fun k e => by have := HRX.out; omega)
            case measure => simp [intOf]; omega
          · have he' : (e0 != 0) = true := by simp; exact he
            have HN0 : Hid (No.rdF z zs = none) := hide (by rw [HF.out, HE.out, hsub, No.rdK_no HG.out he]; rfl)
            clear hbd hpos he hsub
            have hR := HR.out
            have hB := HBel.out
            go_wp2_with fail
            refine (ngetText_at (HSl.out.later HBel.out) HG.out).mono ?_
            rintro e W4 ⟨rfl, rfl⟩
            go_wp2_with (refine wpList_put 36 _ (.tmp 4) (.tmp 50) _ nn0 _ rfl rfl rfl rfl hR tyN rfl rfl nn0_one ?_; intro W9 hb9 hs9 hX9)
            refine bodyPost_ret (v := .tuple #[.agg nn0, .bool false]) (results2_bx Try.results49 _ _ _ _ _ rfl rfl hX9 tyN rfl) rfl ⟨Below.but hB hB.size hb9 (fun k e => by omega), .inl ⟨HN0.out, rfl⟩⟩
        · have hkA : ¬ (k : Int) < (A.length : Int) - 1 := by have := HM.out; omega
          have HN0 : Hid (No.rdF z zs = some (A, D)) := hide (by rw [HF.out, HE.out, show M - k = 0 by omega]; simp [No.rdK])
          obtain ⟨p7, c7, rfl, hc7, hc8⟩ := own_opensN HO.out
          have hX := HX.out
          have hR := HR.out
          have hB := HBel.out
          clear hk
          go_wp2_with (first
            | (refine wpList_get 36 _ (.tmp 6) _ (nv false _ _ _) rfl rfl rfl hX tyN rfl ?_)
            | (refine wpList_put 36 _ (.tmp 4) (.tmp 61) _ (nv false (.slice none 0 0) (.slice p7 D.length c7) (.slice p5 A.length c5)) _ rfl rfl rfl rfl hR tyN rfl rfl (nvki_one _ _ _ _ _ _) ?_; intro W9 hb9 hs9 hX9))
          refine bodyPost_ret (v := .tuple #[.agg (nv false (.slice none 0 0) (.slice p7 D.length c7) (.slice p5 A.length c5)), .bool true]) (results2_bx Try.results49 _ _ _ _ _ rfl rfl hX9 tyN rfl) rfl ⟨Below.but hB hB.size hb9 (fun k e => by omega), .inr ⟨A, D, HN0.out, _, _, rfl, ?_, ?_⟩⟩
          · exact Is.own (own_but' HOi.out hb9 (fun k hk e => by have := HLR.out; omega)) HA.out
          · exact Ts.own (own_but' HO.out hb9 (fun k hk e => by have := HLR.out; omega)) HD.out
end Go.Proofs.Ytbddghdkmakjlaa

namespace Go.Proofs.Ytbddghdkmakjlaa
set_option maxRecDepth 100000
set_option linter.unusedVariables false
open Go.RowKit

/-- No int and no text lies in these cells. -/
def Plain (cs : Array Value) : Prop := ∀ k : Nat, (∀ z, cs[k]? ≠ some (Value.int .i64 z)) ∧ ∀ s, cs[k]? ≠ some (Value.string s)
theorem plain_nv (l : Bool) (p : Option Addr) (n c : Nat) (p' : Option Addr) (n' c' : Nat) (p'' : Option Addr) (n'' c'' : Nat) : Plain (nv l (.slice p n c) (.slice p' n' c') (.slice p'' n'' c'')) := by
  intro k
  match k with
  | 0 => exact ⟨fun z h => by simp [nv] at h, fun z h => by simp [nv] at h⟩
  | 1 => exact ⟨fun z h => by simp [nv] at h, fun z h => by simp [nv] at h⟩
  | 2 => exact ⟨fun z h => by simp [nv] at h, fun z h => by simp [nv] at h⟩
  | 3 => exact ⟨fun z h => by simp [nv] at h, fun z h => by simp [nv] at h⟩
  | n + 4 => exact ⟨fun z h => by simp [nv] at h, fun z h => by simp [nv] at h⟩
theorem plain_nn0 : Plain nn0 := plain_nv false none 0 0 none 0 0 none 0 0
theorem plain_nb {w : World} {l : Bool} {vc vk vi : Value} {n : No} (h : Nb w vc vk vi n) : Plain (nv l vc vk vi) := by
  obtain ⟨_, _, _, rfl, -⟩ := h.c.opens
  obtain ⟨_, _, _, rfl, -⟩ := h.k.opens
  obtain ⟨_, _, _, rfl, -⟩ := h.i.opens
  exact plain_nv _ _ _ _ _ _ _ _ _ _

theorem Bx.at_ {w : World} {b o : Nat} {cs : Array Value} {v : Value} (h : Bx w b cs) (hc : w.cell? ⟨b, o, none⟩ = some v) : cs[o]? = some v := by
  obtain ⟨t, h⟩ := h
  simpa [World.cell?, h] using hc

theorem Is.beside {w w' : World} {b : Nat} {cs : Array Value} (hX : Bx w b cs) (hp : Plain cs) (hb : But (· = b) w w') {v : Value} {I : List Int} (h : Is w v I) : Is w' v I := by
  obtain ⟨⟨a, cap, e, h1, h2, h3⟩, h4⟩ := h
  refine ⟨⟨a, cap, e, h1, h2, fun i hi => ?_⟩, h4⟩
  obtain ⟨b', off, ea, hc⟩ := h3 i hi
  refine ⟨b', off, ea, ?_⟩
  rw [hb.cell (p := ⟨b', off + i, none⟩) (cell_lt hc) (fun e => ?_), hc]
  have e' : b' = b := e
  subst e'
  have := hX.at_ hc
  simp at this
  exact (hp (off + i)).1 _ this
theorem Ts.beside {w w' : World} {b : Nat} {cs : Array Value} (hX : Bx w b cs) (hp : Plain cs) (hb : But (· = b) w w') {v : Value} {K : List ByteArray} (h : Ts w v K) : Ts w' v K := by
  obtain ⟨⟨a, cap, e, h1, h2, h3⟩, h4⟩ := h
  refine ⟨⟨a, cap, e, h1, h2, fun i hi => ?_⟩, h4⟩
  obtain ⟨b', off, ea, hc⟩ := h3 i hi
  refine ⟨b', off, ea, ?_⟩
  rw [hb.cell (p := ⟨b', off + i, none⟩) (cell_lt hc) (fun e => ?_), hc]
  have e' : b' = b := e
  subst e'
  have := hX.at_ hc
  simp at this
  exact (hp (off + i)).2 _ this
theorem Cs.beside {w w' : World} {b : Nat} {cs : Array Value} (hX : Bx w b cs) (hp : Plain cs) (hb : But (· = b) w w') {v : Value} {C : List Ce} (h : Cs w v C) : Cs w' v C := by
  obtain ⟨a, cap, e, h1, h2, h3, h4⟩ := h
  refine ⟨a, cap, e, h1, h2, h3, fun i c hc => ?_⟩
  obtain ⟨b', off, ea, hr⟩ := h4 i c hc
  refine ⟨b', off, ea, fun j v hv => ?_⟩
  have h0 := hr 0 (.string c.N) rfl
  rw [hb.cell (p := ⟨b', off + i * 8 + j, none⟩) (rangeAt_lt hr) (fun e => ?_), hr j v hv]
  have e' : b' = b := e
  subst e'
  exact (hp _).2 _ (hX.at_ h0)
theorem Nb.beside {w w' : World} {b : Nat} {cs : Array Value} (hX : Bx w b cs) (hp : Plain cs) (hb : But (· = b) w w') {vc vk vi : Value} {n : No} (h : Nb w vc vk vi n) : Nb w' vc vk vi n := ⟨h.c.beside hX hp hb, h.k.beside hX hp hb, h.i.beside hX hp hb⟩
end Go.Proofs.Ytbddghdkmakjlaa
