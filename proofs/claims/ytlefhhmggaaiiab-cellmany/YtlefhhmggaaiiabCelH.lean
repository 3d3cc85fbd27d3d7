/-
  The helper 'begun' of the laws of package cell returns true and writes nothing that was there.
-/
import Derived.Test.YtlefhhmggaaiiabCelB
import Derived.Test.YtlefhhmggaaiiabCelC
import Derived.Test.YtlefhhmggaaiiabCelE
import Derived.Test.YtlefhhmggaaiiabCelG
import Derived.Test.YtlefhhmggaaiiabCelP
namespace Go.Proofs.Ytlefhhmggaaiiab
open Go.RowKit

/-- The value of a slice of the call's own, written out. -/
theorem own_opens {w : World} {base : Nat} {e : TypeId} {v : Value} {n : Nat} {vs : List Value} (h : w.ownsRow base e 1 v n vs) : ∃ p cp, v = .slice p n cp ∧ n ≤ cp ∧ cp ≤ 9223372036854775807 := by
  rcases h.2 with ⟨rfl, h0⟩ | ⟨g, cap, cur, rfl, _, _, h1, h2, _⟩
  · exact ⟨none, 0, by rw [h0], by omega, by omega⟩
  · unfold maxLen at h2
    exact ⟨_, cap, rfl, h1, by omega⟩

/-- A guard that stands. -/
theorem wanted_of {ops : Array Oper} {o : Oper} {a : Act} {j s : Nat} {b : Bool} (hg : o.guard = some (j, b)) (hj : (ops[j]?).bind (·.dst) = some s) (hs : a.tmps[s]? = some (.bool b)) : Region.wanted o (yielded ops a.tmps) = true := by
  simp [Region.wanted, hg, yielded, hj, hs]

/-- A variable is read as a whole, behind a guard that stands. -/
theorem wpList_getG {w : World} {ops : Array Oper} {rest : List Oper} {o : Oper} {a : Act} {Q : Exit → Act → World → Prop} (ty : TypeId) (z : Array Value) (x : Operand) (b : Nat) (cs : Array Value) {j s : Nat} {bb : Bool} (hg : o.guard = some (j, bb)) (hj : (ops[j]?).bind (·.dst) = some s) (hsl : a.tmps[s]? = some (.bool bb)) (hop : o.op = Op.load ty x) (hx : a.eval x = .pointer (some ⟨b, 0, none⟩)) (h : Bx w b cs) (ht : Ty ty z) (hs : cs.size = z.size)
    (hK : wpList Try.prog ops Q rest (a.put o.dst (.agg cs)) w) : wpList Try.prog ops Q (o :: rest) a w := by
  have hr := h.load ht hs
  refine wpList_step fun K' hK' => ?_
  rw [if_pos (wanted_of hg hj hsl)]
  unfold Oper.wp
  simp [execOp, hop, hx, hr, Result.andThen]
  exact hK' _ _ hK

theorem field_K (v : Va) (W : World) : (Instr.field 27 (.agg (va v)) 0).run Try.prog W = .ok (.int .i64 v.K) W := by kernel_rfl
theorem field_X (v : Va) (W : World) : (Instr.field 27 (.agg (va v)) 1).run Try.prog W = .ok (.float .f64 v.X) W := by kernel_rfl

def b1 : Ce := ⟨⟨#[97]⟩, ⟨1, 4607182418800017408, ⟨#[]⟩⟩, 0, Va.zero⟩
def b2 : Ce := ⟨⟨#[97]⟩, ⟨1, 4607182418800017408, ⟨#[]⟩⟩, 3, Va.zero⟩
theorem b1_ok : b1.Ok := ⟨by decide, ⟨by decide, by decide, by decide, by decide⟩, by decide, by decide, Va.ok_zero⟩
theorem b2_ok : b2.Ok := ⟨by decide, ⟨by decide, by decide, by decide, by decide⟩, by decide, by decide, Va.ok_zero⟩
theorem b1_may : b1.may = true := by decide
theorem b2_may : b2.may = true := by decide
theorem zero_may : Ce.zero.may = false := by decide
theorem b2_wr : Ce.wr b1 3 Va.zero = b2 := rfl
theorem b2_commit : Ce.commit b2 = Ce.zero ∧ Ce.left b2 = false := ⟨rfl, by decide⟩
theorem b2_undo : Ce.undo b2 = b1 := rfl
theorem b2_left : (!decide (b2.V.K = 0)) = true := by decide
theorem b2_see3 : Ce.see b2 3 = Va.zero := rfl
theorem b2_see4 : Ce.see b2 4 = b1.V := rfl
theorem b11 : Ce.eq b1 b1 = true := Ce.eq_refl _
theorem b22 : Ce.eq b2 b2 = true := Ce.eq_refl _
theorem b21 : Ce.eq b2 b1 = false := by simp [Ce.eq, b2, b1]
theorem b2_len : (Ce.put b2).length = 13 := by
  have h1 : (Nm.num 1).length = 1 := Dt.num_small.2.1
  have h0 : (Nm.num 0).length = 1 := Dt.num_small.1
  have h3 : (Nm.num 3).length = 1 := by decide
  have hb := Fl.be_len (Fl.rk 4607182418800017408)
  simp [Ce.put, b2, Nm.text, sb, Va.put, Dt.put, Va.zero, h1, h0, h3, hb]
theorem b2_get : Ce.get (Ce.put b2) = (b2, 13, 0) := by
  have := Ce.get_put b2_ok.v.x b2_ok.w.x b2_may []
  rw [List.append_nil, b2_len] at this
  exact this

set_option maxRecDepth 100000 in
set_option maxHeartbeats 8000000 in
theorem begun_any (w : World) :
    Calls Try.prog 4 #[] w fun e w' => e = .returned (.bool true) ∧ Below w.heap.size w w' := by
  have hf0 : ∀ W, (Instr.field 27 (.agg (va Va.zero)) 0).run Try.prog W = .ok (.int .i64 0) W := fun W => field_K Va.zero W
  have hf1 : ∀ W, (Instr.field 27 (.agg (va b1.V)) 1).run Try.prog W = .ok (.float .f64 4607182418800017408) W := fun W => field_X b1.V W
  go_enter Try.func4, Try.ntmps4
  go_wp2_with (first
    | (refine wpList_new 33 _ rfl rfl tyC ?_; intro W1 hB1 hX)
    | (refine wpList_put 33 _ (.tmp 1) (.tmp 12) _ (cv b1) _ rfl rfl rfl rfl hX tyC rfl rfl (cv_one _) ?_; intro W2 hb2 hs2 hX2; have hB := newput hB1 hb2; clear hB1 hX hb2 hs2)
    | (refine wpList_get 33 _ (.tmp 1) _ (cv b1) rfl rfl rfl hX2 tyC rfl ?_))
  refine (write_cell b1 3 Va.zero _).mono ?_
  rintro e W3 ⟨rfl, hB3⟩
  rw [b2_wr]
  replace hX2 := hX2.later hB3
  replace hB := hB.trans (hB3.mono hB.size)
  clear hB3
  go_wp2_with (first
    | (refine wpList_new 33 _ rfl rfl tyC ?_; intro W4 hB4 hY)
    | (refine wpList_put 33 _ (.tmp 2) (.tmp 15) _ (cv b2) _ rfl rfl rfl rfl hY tyC rfl rfl (cv_one _) ?_; intro W5 hb5 hs5 hY5; have hB5 := newput hB4 hb5; replace hX2 := hX2.later hB5; replace hB := hB.trans (hB5.mono hB.size); clear hB4 hY hb5 hs5 hB5)
    | (refine wpList_get 33 _ (.tmp 2) _ (cv b2) rfl rfl rfl hY5 tyC rfl ?_))
  refine (commit_cell b2 _).mono ?_
  rintro e W6 ⟨rfl, hB6⟩
  rw [b2_commit.1, b2_commit.2]
  replace hX2 := hX2.later hB6
  replace hY5 := hY5.later hB6
  replace hB := hB.trans (hB6.mono hB.size)
  clear hB6
  go_wp2_with (first
    | (refine wpList_new 33 _ rfl rfl tyC ?_; intro W7 hB7 hZ)
    | (refine wpList_put 33 _ (.tmp 3) (.tmp 19) _ (cv Ce.zero) _ rfl rfl rfl rfl hZ tyC rfl rfl (cv_one _) ?_; intro W8 hb8 hs8 hZ8; have hB8 := newput hB7 hb8; replace hX2 := hX2.later hB8; replace hY5 := hY5.later hB8; replace hB := hB.trans (hB8.mono hB.size); clear hB7 hZ hb8 hs8 hB8 hZ8)
    | (refine wpList_get 33 _ (.tmp 2) _ (cv b2) rfl rfl rfl hY5 tyC rfl ?_))
  refine (undo_cell b2 _).mono ?_
  rintro e W9 ⟨rfl, hB9⟩
  rw [b2_undo, b2_left]
  replace hX2 := hX2.later hB9
  replace hY5 := hY5.later hB9
  replace hB := hB.trans (hB9.mono hB.size)
  clear hB9
  go_wp2_with (first
    | (refine wpList_new 33 _ rfl rfl tyC ?_; intro W10 hB10 hZ)
    | (refine wpList_put 33 _ (.tmp 5) (.tmp 24) _ (cv b1) _ rfl rfl rfl rfl hZ tyC rfl rfl (cv_one _) ?_; intro W11 hb11 hs11 hE; have hB11 := newput hB10 hb11; replace hX2 := hX2.later hB11; replace hY5 := hY5.later hB11; replace hB := hB.trans (hB11.mono hB.size); clear hB10 hZ hb11 hs11 hB11)
    | (refine wpList_get 33 _ (.tmp 2) _ (cv b2) rfl rfl rfl hY5 tyC rfl ?_))
  refine (put_cell _ [] b2 _ (Sl.nil _) (by decide) b2_ok).mono ?_
  rintro e W12 ⟨v1, rfl, ho1, hB12⟩
  have hS := Sl.own ho1 (by rw [List.nil_append]; exact Ce.put_bd b2_may)
  rw [List.nil_append] at hS
  clear ho1
  obtain ⟨p1, n1, c1, rfl, hn1, hc1, Hn1, HS1⟩ := hS.opens
  have hl1 : n1 = 13 := Hn1.out.trans b2_len
  subst hl1
  replace hX2 := hX2.later hB12
  replace hY5 := hY5.later hB12
  replace hE := hE.later hB12
  replace hB := hB.trans (hB12.mono hB.size)
  clear hB12 hS
  go_wp2_with fail
  refine (get_cell_at HS1.out b2_get).mono ?_
  rintro e W13 ⟨rfl, hB13⟩
  replace hX2 := hX2.later hB13
  replace hY5 := hY5.later hB13
  replace hE := hE.later hB13
  replace hB := hB.trans (hB13.mono hB.size)
  clear hB13 HS1 Hn1
  go_wp2_with (first
    | (refine wpList_new 33 _ rfl rfl tyC ?_; intro W14 hB14 hZ)
    | (refine wpList_put 33 _ (.tmp 8) (.tmp 31) _ (cv b2) _ rfl rfl rfl rfl hZ tyC rfl rfl (cv_one _) ?_; intro W15 hb15 hs15 hG; have hB15 := newput hB14 hb15; replace hX2 := hX2.later hB15; replace hY5 := hY5.later hB15; replace hE := hE.later hB15; replace hB := hB.trans (hB15.mono hB.size); clear hB14 hZ hb15 hs15 hB15)
    | (refine wpList_get 33 _ (.tmp 1) _ (cv b1) rfl rfl rfl hX2 tyC rfl ?_))
  refine (may_cell b1 _ b1_ok).mono ?_
  rintro e W ⟨rfl, hb⟩
  rw [b1_may]
  replace hX2 := hX2.later hb
  replace hY5 := hY5.later hb
  replace hE := hE.later hb
  replace hG := hG.later hb
  replace hB := hB.trans (hb.mono hB.size)
  clear hb
  go_wp2_with (first
    | (refine wpList_getG 33 _ (.tmp 1) _ (cv b1) rfl rfl rfl rfl rfl hX2 tyC rfl ?_)
    | (refine wpList_getG 33 _ (.tmp 2) _ (cv b2) rfl rfl rfl rfl rfl hY5 tyC rfl ?_)
    | (refine wpList_getG 33 _ (.tmp 5) _ (cv b1) rfl rfl rfl rfl rfl hE tyC rfl ?_)
    | (refine wpList_getG 33 _ (.tmp 8) _ (cv b2) rfl rfl rfl rfl rfl hG tyC rfl ?_))
  refine (may_cell Ce.zero _ Ce.ok_zero).mono ?_
  rintro e W ⟨rfl, hb⟩
  rw [zero_may]
  replace hX2 := hX2.later hb
  replace hY5 := hY5.later hb
  replace hE := hE.later hb
  replace hG := hG.later hb
  replace hB := hB.trans (hb.mono hB.size)
  clear hb
  go_wp2_with (first
    | (refine wpList_getG 33 _ (.tmp 1) _ (cv b1) rfl rfl rfl rfl rfl hX2 tyC rfl ?_)
    | (refine wpList_getG 33 _ (.tmp 2) _ (cv b2) rfl rfl rfl rfl rfl hY5 tyC rfl ?_)
    | (refine wpList_getG 33 _ (.tmp 5) _ (cv b1) rfl rfl rfl rfl rfl hE tyC rfl ?_)
    | (refine wpList_getG 33 _ (.tmp 8) _ (cv b2) rfl rfl rfl rfl rfl hG tyC rfl ?_))
  refine (may_cell b2 _ b2_ok).mono ?_
  rintro e W ⟨rfl, hb⟩
  rw [b2_may]
  replace hX2 := hX2.later hb
  replace hY5 := hY5.later hb
  replace hE := hE.later hb
  replace hG := hG.later hb
  replace hB := hB.trans (hb.mono hB.size)
  clear hb
  go_wp2_with (first
    | (refine wpList_getG 33 _ (.tmp 1) _ (cv b1) rfl rfl rfl rfl rfl hX2 tyC rfl ?_)
    | (refine wpList_getG 33 _ (.tmp 2) _ (cv b2) rfl rfl rfl rfl rfl hY5 tyC rfl ?_)
    | (refine wpList_getG 33 _ (.tmp 5) _ (cv b1) rfl rfl rfl rfl rfl hE tyC rfl ?_)
    | (refine wpList_getG 33 _ (.tmp 8) _ (cv b2) rfl rfl rfl rfl rfl hG tyC rfl ?_))
  refine (see_cell b2 3 _).mono ?_
  rintro e W ⟨rfl, hb⟩
  rw [b2_see3]
  replace hX2 := hX2.later hb
  replace hY5 := hY5.later hb
  replace hE := hE.later hb
  replace hG := hG.later hb
  replace hB := hB.trans (hb.mono hB.size)
  clear hb
  go_wp2_with (first
    | (refine wpList_getG 33 _ (.tmp 1) _ (cv b1) rfl rfl rfl rfl rfl hX2 tyC rfl ?_)
    | (refine wpList_getG 33 _ (.tmp 2) _ (cv b2) rfl rfl rfl rfl rfl hY5 tyC rfl ?_)
    | (refine wpList_getG 33 _ (.tmp 5) _ (cv b1) rfl rfl rfl rfl rfl hE tyC rfl ?_)
    | (refine wpList_getG 33 _ (.tmp 8) _ (cv b2) rfl rfl rfl rfl rfl hG tyC rfl ?_))
  refine (see_cell b2 4 _).mono ?_
  rintro e W ⟨rfl, hb⟩
  rw [b2_see4]
  replace hX2 := hX2.later hb
  replace hY5 := hY5.later hb
  replace hE := hE.later hb
  replace hG := hG.later hb
  replace hB := hB.trans (hb.mono hB.size)
  clear hb
  go_wp2_with (first
    | (refine wpList_getG 33 _ (.tmp 1) _ (cv b1) rfl rfl rfl rfl rfl hX2 tyC rfl ?_)
    | (refine wpList_getG 33 _ (.tmp 2) _ (cv b2) rfl rfl rfl rfl rfl hY5 tyC rfl ?_)
    | (refine wpList_getG 33 _ (.tmp 5) _ (cv b1) rfl rfl rfl rfl rfl hE tyC rfl ?_)
    | (refine wpList_getG 33 _ (.tmp 8) _ (cv b2) rfl rfl rfl rfl rfl hG tyC rfl ?_))
  refine (eq_cell b1 b1 _ b1_ok b1_ok).mono ?_
  rintro e W ⟨rfl, hb⟩
  rw [b11]
  replace hX2 := hX2.later hb
  replace hY5 := hY5.later hb
  replace hE := hE.later hb
  replace hG := hG.later hb
  replace hB := hB.trans (hb.mono hB.size)
  clear hb
  go_wp2_with (first
    | (refine wpList_getG 33 _ (.tmp 1) _ (cv b1) rfl rfl rfl rfl rfl hX2 tyC rfl ?_)
    | (refine wpList_getG 33 _ (.tmp 2) _ (cv b2) rfl rfl rfl rfl rfl hY5 tyC rfl ?_)
    | (refine wpList_getG 33 _ (.tmp 5) _ (cv b1) rfl rfl rfl rfl rfl hE tyC rfl ?_)
    | (refine wpList_getG 33 _ (.tmp 8) _ (cv b2) rfl rfl rfl rfl rfl hG tyC rfl ?_))
  refine (eq_cell b2 b2 _ b2_ok b2_ok).mono ?_
  rintro e W ⟨rfl, hb⟩
  rw [b22]
  replace hX2 := hX2.later hb
  replace hY5 := hY5.later hb
  replace hE := hE.later hb
  replace hG := hG.later hb
  replace hB := hB.trans (hb.mono hB.size)
  clear hb
  go_wp2_with (first
    | (refine wpList_getG 33 _ (.tmp 1) _ (cv b1) rfl rfl rfl rfl rfl hX2 tyC rfl ?_)
    | (refine wpList_getG 33 _ (.tmp 2) _ (cv b2) rfl rfl rfl rfl rfl hY5 tyC rfl ?_)
    | (refine wpList_getG 33 _ (.tmp 5) _ (cv b1) rfl rfl rfl rfl rfl hE tyC rfl ?_)
    | (refine wpList_getG 33 _ (.tmp 8) _ (cv b2) rfl rfl rfl rfl rfl hG tyC rfl ?_))
  refine (eq_cell b2 b1 _ b2_ok b1_ok).mono ?_
  rintro e W ⟨rfl, hb⟩
  rw [b21]
  replace hX2 := hX2.later hb
  replace hY5 := hY5.later hb
  replace hE := hE.later hb
  replace hG := hG.later hb
  replace hB := hB.trans (hb.mono hB.size)
  clear hb
  go_wp2_with (first
    | (refine wpList_getG 33 _ (.tmp 1) _ (cv b1) rfl rfl rfl rfl rfl hX2 tyC rfl ?_)
    | (refine wpList_getG 33 _ (.tmp 2) _ (cv b2) rfl rfl rfl rfl rfl hY5 tyC rfl ?_)
    | (refine wpList_getG 33 _ (.tmp 5) _ (cv b1) rfl rfl rfl rfl rfl hE tyC rfl ?_)
    | (refine wpList_getG 33 _ (.tmp 8) _ (cv b2) rfl rfl rfl rfl rfl hG tyC rfl ?_))
  go_ret
  exact ⟨rfl, hB⟩
end Go.Proofs.Ytlefhhmggaaiiab
