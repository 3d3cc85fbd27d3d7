/-
  Laws of the walk at operations on a sector: laid, read, written, looked up.
-/
import Derived.Test.YtmaahgoeblhoaaaDevW
namespace Go.Proofs.Ytmaahgoeblhoaaa
open Go.RowKit Go.Maps

theorem info64 : (Try.prog.info? 46).map (fun i => (i.zero, i.size)) = some (some (.agg (cs nought)), 64) := by kernel_rfl
theorem zero64 (w : World) : (zeroValue 46).run Try.prog w = .ok (.agg (cs nought)) w := (zero_of_info info64).1 w
theorem size64 : (Try.prog.info? 46).map (·.size) = some 64 := (zero_of_info info64).2

/-- A variable that holds a sector. -/
def Box (w : World) (b : Nat) (s : List Int) : Prop := w.heap[b]? = some (.cells (cs s) 46 (0, 0))

theorem Box.lt {w : World} {b : Nat} {s : List Int} (h : Box w b s) : b < w.heap.size := blk_lt h
theorem Box.but {w w' : World} {b : Nat} {s : List Int} {S : Nat → Prop} (h : Box w b s) (hb : But S w w') (hs : ¬ S b) : Box w' b s := (hb.block b h.lt hs).trans h
theorem Box.later {w w' : World} {b : Nat} {s : List Int} (h : Box w b s) (hb : Below w.heap.size w w') : Box w' b s := (hb.block b h.lt).trans h
theorem Box.range {w : World} {b : Nat} {s : List Int} (h : Box w b s) : w.rangeAt b 0 (bv s) := fun j v hv => cell_blk h (by simpa [cs] using hv)
theorem Box.own {w : World} {b base : Nat} {s : List Int} (h : Box w b s) (hs : Sec s) (hb : base ≤ b) : w.ownsRow base 46 1 (.slice (some ⟨b, 0, none⟩) 64 64) 64 (bv s) :=
  ⟨by simp [bv_len, hs.1], .inr ⟨b, 64, cs s, rfl, hb, h, Nat.le_refl _, by unfold maxLen; omega, by simp [cs_size hs], by rw [cs_list]; exact List.take_of_length_le (by simp [bv_len, hs.1])⟩⟩

/-- Behind a change of younger blocks. -/
theorem Below.but {B : Nat} {w0 w w' : World} {S : Nat → Prop} (h : Below B w0 w) (hB : B ≤ w.heap.size) (hb : But S w w') (hs : ∀ k, S k → B ≤ k) : Below B w0 w' := h.trans (hb.below hB fun k hk e => by have := hs k e; omega)

section
variable {w : World} {ops : Array Oper} {rest : List Oper} {o : Oper} {a : Act} {Q : Exit → Act → World → Prop}

/-- 'var s sector'. -/
theorem wpList_alloc64 (n : Nat) (hg : o.guard = none) (hd : o.dst = some n) (hop : o.op = Op.alloc 46)
    (hK : ∀ W, Below w.heap.size w W → Box W w.heap.size nought → wpList Try.prog ops Q rest (a.put (some n) (.pointer (some ⟨w.heap.size, 0, none⟩))) W) : wpList Try.prog ops Q (o :: rest) a w := by
  refine wpList_plain hg fun K' hK' => ?_
  have hr : (Instr.alloc 46 true (.tuple #[])).run Try.prog w = .ok (.pointer (some ⟨w.heap.size, 0, none⟩)) (w.alloc (.cells (cs nought) 46)) := by
    simp [Instr.alloc, newVar, newRow, Value.cells, go_sem, Result.andThen]
    rfl
  unfold Oper.wp
  simp [execOp, hop, hr, Result.andThen]
  refine hK' _ _ ?_
  rw [hd]
  exact hK _ ((Below.refl _ _).alloc (Nat.le_refl _) _) (heap_alloc_last w _)

/-- 's = x'. -/
theorem wpList_store64 (x y : Operand) (hg : o.guard = none) (hop : o.op = Op.store 46 x y) (b : Nat) (s t : List Int) (hx : a.eval x = .pointer (some ⟨b, 0, none⟩)) (hy : a.eval y = .agg (cs s)) (hb : Box w b t) (ht : Sec t) (hs : Sec s)
    (hK : ∀ W, But (· = b) w W → W.heap.size = w.heap.size → Box W b s → wpList Try.prog ops Q rest (a.put o.dst undef) W) : wpList Try.prog ops Q (o :: rest) a w := by
  have hr : (Instr.storeAt 46 (.pointer (some ⟨b, 0, none⟩)) (.agg (cs s))).run Try.prog w = .ok () (w.setRow b (cs s)) := by
    simp only [Instr.storeAt, Instr.sureAddr, Sem.run_bind, Sem.run_pure, Result.andThen_ok]
    exact run_storeVar_row w b _ _ (cs t) (cs s) hb (by rw [size64, cs_size hs]) (by rw [cs_size hs, cs_size ht]) (cs_one s)
  have hbox : Box (w.setRow b (cs s)) b s := by
    unfold Box at hb ⊢
    simp [World.setRow, Array.getElem?_modify, hb]
  refine wpList_plain hg fun K' hK' => ?_
  unfold Oper.wp
  simp [execOp, hop, hx, hy, hr, Result.andThen]
  refine hK' _ _ (hK _ ⟨rfl, rfl, rfl, by simp [World.setRow], fun k _ hk => ?_⟩ (by simp [World.setRow]) hbox)
  simp [World.setRow, Array.getElem?_modify, show ¬ b = k from fun e => hk e.symm]

/-- 's', read. -/
theorem wpList_load64 (x : Operand) (hg : o.guard = none) (hop : o.op = Op.load 46 x) (b : Nat) (s : List Int) (hx : a.eval x = .pointer (some ⟨b, 0, none⟩)) (hb : Box w b s) (hs : Sec s)
    (hK : wpList Try.prog ops Q rest (a.put o.dst (.agg (cs s))) w) : wpList Try.prog ops Q (o :: rest) a w :=
  wpList_load_mid hg _ x hop b 0 hx (bv s) _ hb.range Try.underlying46 rfl (by rw [size64, bv_len, hs.1]) hK

/-- 'l[i]', read. -/
theorem wpList_load64_mid (x : Operand) (hg : o.guard = none) (hop : o.op = Op.load 46 x) (b k : Nat) (s : List Int) (hx : a.eval x = .pointer (some ⟨b, k, none⟩)) (hb : w.rangeAt b k (bv s)) (hs : Sec s)
    (hK : wpList Try.prog ops Q rest (a.put o.dst (.agg (cs s))) w) : wpList Try.prog ops Q (o :: rest) a w :=
  wpList_load_mid hg _ x hop b k hx (bv s) _ hb Try.underlying46 rfl (by rw [size64, bv_len, hs.1]) hK

theorem look_at {D : DataW (List Int)} {f : Nat → Option (List Int)} (hl : Lo D f) (i : Nat) : D.atKey (.int .i64 (i : Int)) (.held nought) = .held ((f i).getD nought) := by
  cases hf : f i with
  | some s => exact hl.at_ i s hf _
  | none =>
    have := hl.has i
    rw [hf] at this
    exact Maps.atKey_of_not_has this _

/-- 's, ok := m[i]'. -/
theorem look64_ok {bm nn : Nat} {D : DataW (List Int)} {f : Nat → Option (List Int)} (hm : w.ownsMap Try.prog 3 rd64 bm nn D) (hl : Lo D f) (i : Nat) (hi : i ≤ 9223372036854775807) {r : Option (List Int)} (hr : f i = r) :
    (Instr.lookup 48 (.map (some bm)) (.int .i64 (i : Int)) true).run Try.prog w = .ok (.tuple #[.agg (cs (r.getD nought)), .bool r.isSome]) w := by
  subst hr
  obtain ⟨v, ps, hrun, hv⟩ := hm.look_ok intKeyed Try.underlying48 (zero64 w) (rd64_mk sec_nought) (key_i64 (z := (i : Int)) (by omega) (by omega))
  obtain ⟨s, hs, rfl, e⟩ := rd64_inv hv
  rw [look_at hl i] at e
  simp only [Prod.mk.injEq, DataW.held.injEq] at e
  rw [hrun, hl.has i, e.1]

/-- 'm[i]'. -/
theorem look64 {bm nn : Nat} {D : DataW (List Int)} {f : Nat → Option (List Int)} (hm : w.ownsMap Try.prog 3 rd64 bm nn D) (hl : Lo D f) (i : Nat) (hi : i ≤ 9223372036854775807) {s : List Int} (hs : f i = some s) :
    (Instr.lookup 48 (.map (some bm)) (.int .i64 (i : Int)) false).run Try.prog w = .ok (.agg (cs s)) w := by
  obtain ⟨v, ps, hrun, hv⟩ := hm.lookup intKeyed Try.underlying48 (zero64 w) (rd64_mk sec_nought) (key_i64 (z := (i : Int)) (by omega) (by omega))
  obtain ⟨s', hs', rfl, e⟩ := rd64_inv hv
  rw [look_at hl i, hs] at e
  simp only [Prod.mk.injEq, DataW.held.injEq, Option.getD_some] at e
  rw [hrun, e.1]

end

set_option maxHeartbeats 400000 in
theorem at_any {w : World} {g bl bm : Nat} {d : Dv} (h : DevAt w g bl bm d) {i : Nat} (hi : i < d.n) :
    Calls Try.prog 20 #[.pointer (some ⟨g, 0, none⟩), .int .i64 (i : Int)] w fun e w' => e = .returned (.agg (cs (d.at_ i))) ∧ Below w.heap.size w w' := by
  obtain ⟨cap, D, fu, le, cur, h⟩ := h
  have hm := h.ok.most
  have HC : Hid (∀ W, Below w.heap.size w W → DevIn W g bl bm d cap D fu le cur) := fun W hB => h.but (S := fun _ => False) (.of hB) id id id
  have hroom := h.room
  have hbig := h.big
  unfold maxLen at hbig
  have HO := hide h.ok
  have HS := hide (h.ok.at_ hi)
  cases hl : d.loose i with
  | some s =>
    have ha : d.at_ i = s := by simp [Dv.at_, hl]
    rw [ha] at HS ⊢
    clear h
    have Hl := hide hl
    clear hl
    go_enter Try.func20, Try.ntmps20
    go_wp2_with (first
      | (refine wpList_alloc64 4 rfl rfl rfl ?_; intro W1 hB1 hX1; have c1 := (HC.out _ hB1).cells.2.1; have hlk := look64_ok (HC.out _ hB1).map (HC.out _ hB1).lo i (by omega) Hl.out)
      | (refine wpList_alloc64 5 rfl rfl rfl ?_; intro W2 hB2 hX2)
      | (refine wpList_store64 (.tmp 5) (.tmp 14) rfl rfl _ s nought rfl rfl hX2 sec_nought HS.out ?_; intro W3 hb3 hs3 hX3)
      | (refine wpList_load64 _ rfl rfl _ s rfl hX3 HS.out ?_)
      | (refine wpList_store64 (.tmp 4) (.tmp 17) rfl rfl _ s nought rfl rfl ((hX1.later hB2).but hb3 (Nat.ne_of_lt hX1.lt)) sec_nought HS.out ?_; intro W4 hb4 hs4 hX4))
    refine bodyPost_ret (v := .agg (cs s)) (results_cell_row Try.results20 _ _ _ _ _ _ _ rfl hX4 Try.underlying46 rfl (by rw [size64, cs_size HS.out])) rfl ⟨rfl, ?_⟩
    have s1 := hB1.size
    have s2 := hB2.size
    exact Below.but (Below.but (hB1.trans (hB2.mono s1)) (by omega) hb3 (fun k e => by omega)) (by omega) hb4 (fun k e => by omega)
  | none =>
    have ha : d.at_ i = d.last i := by simp [Dv.at_, hl]
    rw [ha] at HS ⊢
    clear h
    have Hl := hide hl
    clear hl
    go_enter Try.func20, Try.ntmps20
    go_wp2_with (first
      | (refine wpList_alloc64 4 rfl rfl rfl ?_; intro W1 hB1 hX1; have c1 := (HC.out _ hB1).cells.2.1; have hlk := look64_ok (HC.out _ hB1).map (HC.out _ hB1).lo i (by omega) Hl.out)
      | (refine wpList_alloc64 5 rfl rfl rfl ?_; intro W2 hB2 hX2)
      | (refine wpList_store64 (.tmp 5) (.tmp 14) rfl rfl _ nought nought rfl rfl hX2 sec_nought sec_nought ?_; intro W3 hb3 hs3 hX3; have hB3 := hide (Below.but (hB1.trans (hB2.mono hB1.size)) (Nat.le_trans hB1.size hB2.size) hb3 (fun k e => by have := hB1.size; omega)); have c0 := (HC.out _ hB3.out).cells.1)
      | (refine wpList_load64_mid _ rfl rfl _ _ (d.last i) rfl ((HC.out _ hB3.out).last i hi) HS.out ?_)
      | (refine wpList_store64 (.tmp 4) (.tmp 24) rfl rfl _ (d.last i) nought rfl rfl ((hX1.later hB2).but hb3 (Nat.ne_of_lt hX1.lt)) sec_nought HS.out ?_; intro W4 hb4 hs4 hX4))
    refine bodyPost_ret (v := .agg (cs (d.last i))) (results_cell_row Try.results20 _ _ _ _ _ _ _ rfl hX4 Try.underlying46 rfl (by rw [size64, cs_size HS.out])) rfl ⟨rfl, ?_⟩
    exact Below.but hB3.out (by have := hB3.out.size; omega) hb4 (fun k e => by omega)
end Go.Proofs.Ytmaahgoeblhoaaa
