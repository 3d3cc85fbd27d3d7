/-
  The law's operations, as they came in; its array of pages in use; the sheet, the book, the array together.
-/
import Derived.Test.YtiggannhanfolaaAllF
import Derived.Test.YtiggannhanfolaaOpn
import Derived.Test.YtiggannhanfolaaOrd
namespace Go.Proofs.Ytiggannhanfolaa
set_option maxRecDepth 100000
set_option linter.unusedVariables false
open Go.RowKit Go.ChangeShapes Go.WideShapes Go.ChangeAt
set_option linter.unusedVariables false

/-- Kind, No of each. -/
def Ops (w : World) (v : Value) (zs : List (Int × Int)) : Prop :=
  ∃ a cap, v = .slice a zs.length cap ∧ zs.length ≤ cap ∧ cap ≤ maxLen ∧ ∀ i (hi : i < zs.length), ∃ b off, a = some ⟨b, off, none⟩ ∧
    w.cell? ⟨b, off + i * 2, none⟩ = some (.int .i64 zs[i].1) ∧ w.cell? ⟨b, off + i * 2 + 1, none⟩ = some (.int .i64 zs[i].2)

theorem open_Op {H : Type} {enc : TypeId × Value → H} {w : World} {base : Nat} {spare : Nat → Bool} {held : Bool} {fuel : Nat} {cs : List Value} {x : DataW H × List MemPlace} (h : DataW.trod enc Try.prog w base spare held fuel 22 cs = some x) :
    ∃ a len cap zs, cs = [.slice a len cap] ∧ Ops w (.slice a len cap) zs := by
  obtain ⟨a, len, cap, F, rfl, hl, hm, hF⟩ := open_rows Try.underlying22 2 (by kernel_rfl) (by omega) h
  have each : ∀ i, ∃ q : Int × Int, i < len → F i = [.int .i64 q.1, .int .i64 q.2] := fun i => by
    by_cases hi : i < len
    · obtain ⟨_, hlen, n, y, hy⟩ := hF i hi
      obtain ⟨xs, k, hk, hxy, _, hxl, hf⟩ := DataW.trod_struct Try.underlying33 hy
      generalize F i = cs' at *
      match xs, hxl, cs', hlen with
      | [y0, y1], _, [v0, v1], _ =>
        have g0 := hf 0 _ rfl
        have g1 := hf 1 _ rfl
        have c3 : Try.prog.cellsOf 3 = 1 := by kernel_rfl
        simp [c3] at g0 g1
        obtain ⟨z0, hz0, -, -⟩ := DataW.trod_int Try.underlying3 g0
        obtain ⟨z1, hz1, -, -⟩ := DataW.trod_int Try.underlying3 g1
        simp at hz0 hz1
        subst hz0 hz1
        exact ⟨(z0, z1), fun _ => rfl⟩
    · exact ⟨(0, 0), fun h => absurd h hi⟩
  have ⟨K, hK⟩ := Classical.axiomOfChoice each
  refine ⟨a, len, cap, (List.range len).map K, rfl, a, cap, by simp, by simpa using hl, hm, fun i hi => ?_⟩
  have hi' : i < len := by simpa using hi
  obtain ⟨⟨b, off, ea, hc⟩, _⟩ := hF i hi'
  have e := hK i hi'
  have d0 := hc 0 (by omega)
  have d1 := hc 1 (by omega)
  rw [e] at d0 d1
  simp only [List.getElem_map, List.getElem_range]
  exact ⟨b, off, ea, by simpa using d0, by simpa [Nat.add_assoc] using d1⟩

/-- What the walk asks of one of them. -/
theorem Ops.at_ {w : World} {a : Option Addr} {n cap : Nat} {zs : List (Int × Int)} (h : Ops w (.slice a n cap) zs) {i : Nat} (hi : i < n) :
    ∃ b off kind z, a = some ⟨b, off, none⟩ ∧ Hid (∀ W, Below w.heap.size w W → W.cell? ⟨b, off + i * 2, none⟩ = some (.int .i64 kind) ∧ W.cell? ⟨b, off + i * 2 + 1, none⟩ = some (.int .i64 z)) := by
  obtain ⟨a', cap', e, h1, h2, h3⟩ := h
  simp at e
  obtain ⟨rfl, rfl, rfl⟩ := e
  obtain ⟨b, off, ea, c0, c1⟩ := h3 i hi
  have up : ∀ {W : World} {p : Addr} {v : Value}, Below w.heap.size w W → w.cell? p = some v → W.cell? p = some v := fun hb hc => by rw [World.cell?_of_block (hb.block _ (cell_lt hc)), hc]
  exact ⟨b, off, _, _, ea, fun W hW => ⟨up hW c0, up hW c1⟩⟩
theorem Ops.len {w : World} {a : Option Addr} {n cap : Nat} {zs : List (Int × Int)} (h : Ops w (.slice a n cap) zs) : n ≤ cap ∧ cap ≤ 9223372036854775807 := by
  obtain ⟨a', cap', e, h1, h2, -⟩ := h
  simp at e
  obtain ⟨rfl, rfl, rfl⟩ := e
  exact ⟨h1, h2⟩

theorem infoOp : (Try.prog.info? 33).map (fun i => (i.zero, i.size)) = some (some (.agg #[.int .i64 0, .int .i64 0]), 2) := by kernel_rfl
theorem info32 : (Try.prog.info? 31).map (fun i => (i.zero, i.size)) = some (some (.agg (bo (List.replicate 32 false)).toArray), 32) := by kernel_rfl

section
variable {w : World} {ops : Array Oper} {rest : List Oper} {o : Oper} {a : Act} {Q : Exit → Act → World → Prop}
/-- 'o := ops[i]': the variable is laid, what is read is laid into it. -/
theorem wpList_allocO (hg : o.guard = none) (hop : o.op = Op.alloc 33)
    (hK : ∀ W, Below w.heap.size w W → Tb W 33 w.heap.size [.int .i64 0, .int .i64 0] → wpList Try.prog ops Q rest (a.put o.dst (.pointer (some ⟨w.heap.size, 0, none⟩))) W) : wpList Try.prog ops Q (o :: rest) a w := by
  refine wpList_plain hg fun K' hK' => ?_
  have hz := (zero_of_info infoOp).1 w
  have hr : (Instr.alloc 33 true (.tuple #[])).run Try.prog w = .ok (.pointer (some ⟨w.heap.size, 0, none⟩)) (w.alloc (.cells #[.int .i64 0, .int .i64 0] 33)) := by
    simp [Instr.alloc, newVar, newRow, Value.cells, hz, Result.andThen]
  unfold Oper.wp
  simp [execOp, hop, hr, Result.andThen]
  exact hK' _ _ (hK _ (below_alloc _ _) (Tb.new w 33 [.int .i64 0, .int .i64 0]))
theorem wpList_storeO (x y : Operand) (hg : o.guard = none) (hop : o.op = Op.store 33 x y) (b : Nat) (u1 u2 : Int) (us : List Value) (hx : a.eval x = .pointer (some ⟨b, 0, none⟩)) (hy : a.eval y = .agg #[.int .i64 u1, .int .i64 u2]) (hb : Tb w 33 b us) (hl : us.length = 2)
    (hK : ∀ W, But (· = b) w W → Tb W 33 b [.int .i64 u1, .int .i64 u2] → wpList Try.prog ops Q rest (a.put o.dst undef) W) : wpList Try.prog ops Q (o :: rest) a w := by
  have hr : (Instr.storeAt 33 (.pointer (some ⟨b, 0, none⟩)) (.agg #[.int .i64 u1, .int .i64 u2])).run Try.prog w = .ok () (w.setRow b #[.int .i64 u1, .int .i64 u2]) := by
    simp only [Instr.storeAt, Instr.sureAddr, Sem.run_bind, Sem.run_pure, Result.andThen_ok]
    exact run_storeVar_row w b _ _ us.toArray #[.int .i64 u1, .int .i64 u2] hb (by rw [(zero_of_info infoOp).2]; rfl) (by rw [List.size_toArray, hl]; rfl) (Array.all_eq_true_iff_forall_mem.2 (by intro v hv; simp at hv; rcases hv with rfl | rfl <;> rfl))
  have hbox : Tb (w.setRow b #[.int .i64 u1, .int .i64 u2]) 33 b [.int .i64 u1, .int .i64 u2] := by
    unfold Tb at hb ⊢
    simp [World.setRow, Array.getElem?_modify, hb]
  refine wpList_plain hg fun K' hK' => ?_
  unfold Oper.wp
  simp [execOp, hop, hx, hy, hr, Result.andThen]
  refine hK' _ _ (hK _ ⟨rfl, rfl, rfl, by simp [World.setRow], fun k _ hk => ?_⟩ hbox)
  simp [World.setRow, Array.getElem?_modify, show ¬ b = k from fun e => hk e.symm]
theorem wpList_loadO (x : Operand) (hg : o.guard = none) (hop : o.op = Op.load 33 x) (b k : Nat) (u1 u2 : Int) (hx : a.eval x = .pointer (some ⟨b, k, none⟩))
    (h0 : w.cell? ⟨b, k, none⟩ = some (.int .i64 u1)) (h1 : w.cell? ⟨b, k + 1, none⟩ = some (.int .i64 u2))
    (hK : wpList Try.prog ops Q rest (a.put o.dst (.agg #[.int .i64 u1, .int .i64 u2])) w) : wpList Try.prog ops Q (o :: rest) a w := by
  refine wpList_load_mid hg _ x hop b k hx [.int .i64 u1, .int .i64 u2] _ (fun j v hv => ?_) Try.underlying33 rfl (by rw [(zero_of_info infoOp).2]; rfl) hK
  match j, hv with
  | 0, hv => simp at hv; subst hv; exact h0
  | 1, hv => simp at hv; subst hv; exact h1
  | j + 2, hv => simp at hv
/-- 'var used [32]bool'. -/
theorem wpList_alloc32 (hg : o.guard = none) (hop : o.op = Op.alloc 31)
    (hK : ∀ W, Below w.heap.size w W → Tb W 31 w.heap.size (bo (List.replicate 32 false)) → wpList Try.prog ops Q rest (a.put o.dst (.pointer (some ⟨w.heap.size, 0, none⟩))) W) : wpList Try.prog ops Q (o :: rest) a w := by
  refine wpList_plain hg fun K' hK' => ?_
  have hz := (zero_of_info info32).1 w
  generalize bo (List.replicate 32 false) = vs at hz hK
  have hr : (Instr.alloc 31 true (.tuple #[])).run Try.prog w = .ok (.pointer (some ⟨w.heap.size, 0, none⟩)) (w.alloc (.cells vs.toArray 31)) := by
    simp [Instr.alloc, newVar, newRow, Value.cells, hz, Result.andThen]
  unfold Oper.wp
  simp [execOp, hop, hr, Result.andThen]
  exact hK' _ _ (hK _ (below_alloc _ _) (Tb.new _ _ _))
end

/-- Bytes stay where a variable turns that holds none. -/
theorem Sl.other {w w' : World} {t : TypeId} {b : Nat} {vs : List Value} {v : Value} {zs : List Int} (h : Sl w v zs) (ht : Tb w t b vs) (hv : ∀ x ∈ vs, ∀ z, x ≠ .int .u8 z) (hb : But (· = b) w w') : Sl w' v zs := by
  obtain ⟨a, cap, e, h1, h2, h3, h4⟩ := h
  refine ⟨a, cap, e, h1, h2, h3, fun i hi => ?_⟩
  obtain ⟨c, off, ea, hc⟩ := h4 i hi
  refine ⟨c, off, ea, ?_⟩
  have hn : c ≠ b := by
    rintro rfl
    unfold Tb at ht
    simp [World.cell?, ht] at hc
    obtain ⟨h5, h6⟩ := List.getElem?_eq_some_iff.1 hc
    exact hv _ (List.getElem_mem h5) _ h6
  rw [hb.cell (p := ⟨c, off + i, none⟩) (cell_lt hc) hn, hc]

theorem bo_len (ks : List Bool) : (bo ks).length = ks.length := by simp [bo]
theorem bo_set (ks : List Bool) (i : Nat) (v : Bool) : (bo ks).set i (.bool v) = bo (ks.set i v) := by simp [bo, List.map_set]
theorem bo_at (ks : List Bool) {i : Nat} (h : i < ks.length) : (bo ks).getD i undef = .bool (ks.getD i false) := by simp [bo, List.getD, List.getElem?_eq_getElem h]
theorem bo_byte (ks : List Bool) : ∀ x ∈ bo ks, ∀ z, x ≠ .int .u8 z := fun x hx z e => by
  obtain ⟨k, -, rfl⟩ := List.mem_map.1 hx
  cases e

/-- The sheet above the book whose page 1 lies at pb, the law's array at ub. -/
structure Sa (B : Nat) (w W : World) (g k pb ub : Nat) (pz : List Int) (m : Nat → Option (List Int)) (zs : List Int) (ks : List Bool) : Prop where
  al : Al B w W g k m (put1 (fun _ => none) 1 pz) zs
  arr : Tb W 31 ub (bo ks)
  len : ks.length = 32
  p : Tb W 5 pb (bv pz)
  lo : B ≤ ub ∧ B ≤ pb

section
variable {B : Nat} {w W W' : World} {g k pb ub : Nat} {pz : List Int} {m : Nat → Option (List Int)} {zs : List Int} {ks : List Bool}
theorem Sa.later (h : Sa B w W g k pb ub pz m zs ks) (hb : Below W.heap.size W W') : Sa B w W' g k pb ub pz m zs ks := ⟨h.al.later hb, h.arr.later hb, h.len, h.p.later hb, h.lo⟩
/-- Behind what turns the sheet. -/
theorem Sa.turn (h : Sa B w W g k pb ub pz m zs ks) {m' : Nat → Option (List Int)} {zs' : List Int} (ha : Al B w W' g k m' (put1 (fun _ => none) 1 pz) zs') (hb : But (· = g) W W') : Sa B w W' g k pb ub pz m' zs' ks := by
  obtain ⟨vs, hs⟩ := h.al.duo.sheet
  exact ⟨ha, h.arr.but hb (h.arr.apart hs.at_ (by decide)), h.len, h.p.but hb (h.p.apart hs.at_ (by decide)), h.lo⟩
/-- A page of the array turns. -/
theorem Sa.set (h : Sa B w W g k pb ub pz m zs ks) (i : Nat) (v : Bool) : Sa B w (W.setCell ⟨ub, i, none⟩ (.bool v)) g k pb ub pz m zs (ks.set i v) := by
  obtain ⟨vs, hs⟩ := h.al.duo.sheet
  obtain ⟨us0, hk⟩ := h.al.duo.book
  have hbt := but_set W ub i (.bool v)
  refine ⟨⟨⟨⟨vs, ?_⟩, ⟨us0, ?_⟩, Below.but h.al.duo.bel h.al.duo.big hbt (fun i e => by have := h.lo; omega), Nat.le_trans h.al.duo.big hbt.size, h.al.duo.lo⟩, h.al.one, h.al.pg⟩, by rw [← bo_set]; exact h.arr.set _ _, by rw [List.length_set]; exact h.len, h.p.but hbt (h.p.apart h.arr (by decide)), h.lo⟩
  · exact ⟨hs.at_.but hbt (hs.at_.apart h.arr (by decide)), hs.len, hs.under, hs.face, fun i hi => by
      rcases hs.pages i hi with q1 | ⟨ys, b', q1, q2, q3, q4⟩
      · exact .inl q1
      · exact .inr ⟨ys, b', q1, q2, q3, Tb.but q4 hbt (Tb.apart q4 h.arr (by decide))⟩⟩
  · exact ⟨hk.at_.but hbt (hk.at_.apart h.arr (by decide)), hk.len, hk.worse, fun i hi => by
      rcases hk.pages i hi with q1 | ⟨ys, a', n', c', q1, q2, q3, q4⟩
      · exact .inl q1
      · exact .inr ⟨ys, a', n', c', q1, q2, q3, q4.other h.arr (bo_byte _) hbt⟩⟩
theorem Sa.cell (h : Sa B w W g k pb ub pz m zs ks) {i : Nat} (hi : i < 32) : W.cell? ⟨ub, i, none⟩ = some (.bool (ks.getD i false)) ∧ W.frozen? ⟨ub, i, none⟩ = false := by
  refine ⟨?_, h.arr.frozen i⟩
  rw [h.arr.cell (by rw [bo_len, h.len]; exact hi), bo_at _ (by rw [h.len]; exact hi)]
end

/-- The same with the operation at hand in its variable ob. -/
structure Sb (B : Nat) (w W : World) (g k pb ub ob : Nat) (pz : List Int) (m : Nat → Option (List Int)) (zs : List Int) (ks : List Bool) (kind z : Int) : Prop where
  sa : Sa B w W g k pb ub pz m zs ks
  o : Tb W 33 ob [.int .i64 kind, .int .i64 z]

section
variable {B : Nat} {w W W' : World} {g k pb ub ob : Nat} {pz : List Int} {m : Nat → Option (List Int)} {zs : List Int} {ks : List Bool} {kind z : Int}
theorem Sb.later (h : Sb B w W g k pb ub ob pz m zs ks kind z) (hb : Below W.heap.size W W') : Sb B w W' g k pb ub ob pz m zs ks kind z := ⟨h.sa.later hb, h.o.later hb⟩
theorem Sb.turn (h : Sb B w W g k pb ub ob pz m zs ks kind z) {m' : Nat → Option (List Int)} {zs' : List Int} (ha : Al B w W' g k m' (put1 (fun _ => none) 1 pz) zs') (hb : But (· = g) W W') : Sb B w W' g k pb ub ob pz m' zs' ks kind z := by
  obtain ⟨vs, hs⟩ := h.sa.al.duo.sheet
  exact ⟨h.sa.turn ha hb, h.o.but hb (h.o.apart hs.at_ (by decide))⟩
theorem Sb.set (h : Sb B w W g k pb ub ob pz m zs ks kind z) (i : Nat) (v : Bool) : Sb B w (W.setCell ⟨ub, i, none⟩ (.bool v)) g k pb ub ob pz m zs (ks.set i v) kind z :=
  ⟨h.sa.set i v, h.o.but (but_set W ub i (.bool v)) (h.o.apart h.sa.arr (by decide))⟩
theorem Sb.sort (h : Sb B w W g k pb ub ob pz m zs ks kind z) : W.cell? ⟨ob, 0, none⟩ = some (.int .i64 kind) := h.o.cell (i := 0) (by simp)
theorem Sb.no (h : Sb B w W g k pb ub ob pz m zs ks kind z) : W.cell? ⟨ob, 1, none⟩ = some (.int .i64 z) := h.o.cell (i := 1) (by simp)
end

/-- What the page says and what the law knows. -/
structure Rel (zs pz : List Int) (ks : List Bool) (r : Int) : Prop where
  use_ : ∀ k, 2 ≤ k → k < 32 → us zs k = ks.getD k false
  root : zs.getD 4 0 = r
  may : mb r = true
  low : ∀ k, k < 2 → us zs k = us pz k
  rest : ∀ i, 5 ≤ i → i < 256 → zs.getD i 0 = pz.getD i 0

theorem getD_setb (ks : List Bool) (i j : Nat) (v : Bool) (hi : i < ks.length) : (ks.set i v).getD j false = if j = i then v else ks.getD j false := by
  by_cases h : j = i
  · subst h; simp [List.getD, hi]
  · simp [List.getD, h, show ¬ i = j from fun e => h e.symm]

section
variable {zs pz : List Int} {ks : List Bool} {r : Int}
theorem Rel.mark (h : Rel zs pz ks r) (hz : Pg zs) (hl : ks.length = 32) {a : Nat} (ha : 2 ≤ a ∧ a < 32) : Rel (Go.Proofs.Ytiggannhanfolaa.mark zs a) pz (ks.set a true) r :=
  ⟨fun k h1 h2 => by
      rw [us_mark hz (by omega), h.use_ k h1 h2, getD_setb _ _ _ _ (by omega)]
      by_cases e : k = a <;> simp [e],
    by rw [mark_at hz (by omega) (by omega)]; exact h.root, h.may,
    fun k hk => by rw [us_mark hz (by omega), h.low k hk, show (k == a) = false by simp; omega, Bool.false_or],
    fun i h1 h2 => by rw [mark_at hz (by omega) (by omega)]; exact h.rest i h1 h2⟩
theorem Rel.strike (h : Rel zs pz ks r) (hz : Pg zs) (hl : ks.length = 32) {a : Nat} (ha : 2 ≤ a ∧ a < 32) : Rel (Go.Proofs.Ytiggannhanfolaa.strike zs a) pz (ks.set a false) r :=
  ⟨fun k h1 h2 => by
      rw [us_strike hz (by omega), h.use_ k h1 h2, getD_setb _ _ _ _ (by omega)]
      by_cases e : k = a <;> simp [e],
    by rw [strike_at hz (by omega) (by omega)]; exact h.root, h.may,
    fun k hk => by rw [us_strike hz (by omega), h.low k hk, show (k != a) = true by simp; omega, Bool.true_and],
    fun i h1 h2 => by rw [strike_at hz (by omega) (by omega)]; exact h.rest i h1 h2⟩
theorem Rel.put (h : Rel zs pz ks r) (hz : Pg zs) {z : Int} (hm : mb z = true) : Rel (zs.set 4 z) pz ks z := by
  have e : ∀ k, k < 32 → us (zs.set 4 z) k = us zs k := fun k hk => by
    unfold us
    rw [getD_seti _ _ _ _ (by rw [hz.1]; omega), if_neg (by omega)]
  exact ⟨fun k h1 h2 => by rw [e k h2]; exact h.use_ k h1 h2, by rw [getD_seti _ _ _ _ (by rw [hz.1]; omega), if_pos rfl], hm,
    fun k hk => by rw [e k (by omega)]; exact h.low k hk,
    fun i h1 h2 => by rw [getD_seti _ _ _ _ (by rw [hz.1]; omega), if_neg (by omega)]; exact h.rest i h1 h2⟩
end
end Go.Proofs.Ytiggannhanfolaa
