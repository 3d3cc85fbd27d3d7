/-
  Variables that hold a value or a cell: laid, read, written; laws of the walk at these operations.
-/
import Derived.Test.YtlefhhmggaaiiabCelA
import Derived.Test.YtlefhhmggaaiiabDatG
import Derived.Test.YtlefhhmggaaiiabRw
import Derived.Deep.MidRow
namespace Go.Proofs.Ytlefhhmggaaiiab
open Go.RowKit

/-- A variable of several cells that is there. -/
def Bx (w : World) (b : Nat) (cs : Array Value) : Prop := ∃ t, w.heap[b]? = some (.cells cs t (0, 0))

theorem Bx.lt {w : World} {b : Nat} {cs : Array Value} (h : Bx w b cs) : b < w.heap.size := by obtain ⟨t, h⟩ := h; exact blk_lt h
theorem Bx.later {w w' : World} {b : Nat} {cs : Array Value} (h : Bx w b cs) (hb : Below w.heap.size w w') : Bx w' b cs := by
  have hl := h.lt
  obtain ⟨t, h⟩ := h
  exact ⟨t, (hb.block b hl).trans h⟩
theorem Bx.but {w w' : World} {b : Nat} {cs : Array Value} {S : Nat → Prop} (h : Bx w b cs) (hb : But S w w') (hs : ¬ S b) : Bx w' b cs := by
  have hl := h.lt
  obtain ⟨t, h⟩ := h
  exact ⟨t, (hb.block b hl hs).trans h⟩
theorem Bx.new (w : World) (cs : Array Value) (t : TypeId) : Bx (w.alloc (.cells cs t)) w.heap.size cs := ⟨t, heap_alloc_new w _⟩
theorem Bx.cell {w : World} {b : Nat} {cs : Array Value} (h : Bx w b cs) {k : Nat} {v : Value} (hk : cs[k]? = some v) : w.cell? ⟨b, k, none⟩ = some v := by obtain ⟨t, h⟩ := h; exact cell_blk h hk
theorem Bx.frozen {w : World} {b : Nat} {cs : Array Value} (h : Bx w b cs) (k : Nat) : w.frozen? ⟨b, k, none⟩ = false := by obtain ⟨t, h⟩ := h; exact frozen_blk k h
theorem Bx.range {w : World} {b : Nat} {cs : Array Value} (h : Bx w b cs) {o : Nat} {l : List Value} (hl : ∀ j v, l[j]? = some v → cs[o + j]? = some v) : w.rangeAt b o l := fun j v hv => h.cell (hl j v hv)

theorem Below.but {B : Nat} {w0 w w' : World} {S : Nat → Prop} (h : Below B w0 w) (hB : B ≤ w.heap.size) (hb : But S w w') (hs : ∀ k, S k → B ≤ k) : Below B w0 w' := h.trans (hb.below hB fun k hk e => by have := hs k e; omega)

/-- A variable that was laid and written at once. -/
theorem newput {w W W' : World} (h : Below w.heap.size w W) (hb : But (· = w.heap.size) W W') : Below w.heap.size w W' := Below.but h h.size hb (fun k e => by omega)

/-- A type of as many cells, with its zero. -/
structure Ty (ty : TypeId) (z : Array Value) : Prop where
  zero : (Try.prog.info? ty).map (fun i => (i.zero, i.size)) = some (some (.agg z), z.size)
  row : ∃ d, Try.prog.underlying ty = some d ∧ d.isRow = true

theorem Ty.size {ty : TypeId} {z : Array Value} (h : Ty ty z) : (Try.prog.info? ty).map (·.size) = some z.size := by
  have := h.zero
  cases hq : Try.prog.info? ty with
  | none => simp [hq] at this
  | some i => simp [hq] at this ⊢; exact this.2
theorem Ty.zeroVal {ty : TypeId} {z : Array Value} (h : Ty ty z) (w : World) : (zeroValue ty).run Try.prog w = .ok (.agg z) w := by
  have := h.zero
  cases hq : Try.prog.info? ty with
  | none => simp [hq] at this
  | some i =>
    simp [hq] at this
    simp [zeroValue, typeInfo, hq, this.1]

theorem tyV : Ty 27 (va Va.zero) := ⟨by kernel_rfl, _, Try.underlying27, rfl⟩

theorem tyC : Ty 33 (cv Ce.zero) := ⟨by kernel_rfl, _, Try.underlying33, rfl⟩

theorem tyR : Ty 29 (cv Ce.zero) := ⟨by kernel_rfl, _, Try.underlying29, rfl⟩

/-- Read as a whole. -/
theorem Bx.load {w : World} {b : Nat} {cs z : Array Value} {ty : TypeId} (h : Bx w b cs) (ht : Ty ty z) (hs : cs.size = z.size) : (Instr.loadAt ty (.pointer (some ⟨b, 0, none⟩))).run Try.prog w = .ok (.agg cs) w := by
  obtain ⟨d, hu, hd⟩ := ht.row
  have := run_loadAt_mid (P := Try.prog) w b 0 ty cs.toList d (h.range (by intro j v hv; simpa using hv)) hu hd (by rw [ht.size, ← hs]; simp)
  simpa using this
theorem Bx.ldC {w : World} {b : Nat} {c : Ce} (h : Bx w b (cv c)) : (Instr.loadAt 33 (.pointer (some ⟨b, 0, none⟩))).run Try.prog w = .ok (.agg (cv c)) w := h.load tyC rfl
theorem Bx.ldR {w : World} {b : Nat} {c : Ce} (h : Bx w b (cv c)) : (Instr.loadAt 29 (.pointer (some ⟨b, 0, none⟩))).run Try.prog w = .ok (.agg (cv c)) w := h.load tyR rfl
theorem Bx.ldV {w : World} {b : Nat} {v : Va} (h : Bx w b (va v)) : (Instr.loadAt 27 (.pointer (some ⟨b, 0, none⟩))).run Try.prog w = .ok (.agg (va v)) w := h.load tyV rfl
/-- What all see, what one sees, out of a cell. -/
theorem Bx.part {w : World} {b o : Nat} {cs : Array Value} {v : Va} (h : Bx w b cs) (hl : ∀ j u, [Value.int .i64 v.K, .float .f64 v.X, .string v.S][j]? = some u → cs[o + j]? = some u) : (Instr.loadAt 27 (.pointer (some ⟨b, o, none⟩))).run Try.prog w = .ok (.agg (va v)) w := by
  obtain ⟨d, hu, hd⟩ := tyV.row
  exact run_loadAt_mid (P := Try.prog) w b o _ [.int .i64 v.K, .float .f64 v.X, .string v.S] d (h.range hl) hu hd tyV.size
theorem Bx.ld1 {w : World} {b : Nat} {c : Ce} (h : Bx w b (cv c)) : (Instr.loadAt 27 (.pointer (some ⟨b, 1, none⟩))).run Try.prog w = .ok (.agg (va c.V)) w := h.part (by
  intro j u hj
  match j, hj with
  | 0, hj => exact hj
  | 1, hj => exact hj
  | 2, hj => exact hj
  | n + 3, hj => simp at hj)
theorem Bx.ld5 {w : World} {b : Nat} {c : Ce} (h : Bx w b (cv c)) : (Instr.loadAt 27 (.pointer (some ⟨b, 5, none⟩))).run Try.prog w = .ok (.agg (va c.W)) w := h.part (by
  intro j u hj
  match j, hj with
  | 0, hj => exact hj
  | 1, hj => exact hj
  | 2, hj => exact hj
  | n + 3, hj => simp at hj)

/-- Cell by cell. -/
theorem Bx.c0 {w : World} {b : Nat} {c : Ce} (h : Bx w b (cv c)) : w.cell? ⟨b, 0, none⟩ = some (.string c.N) := h.cell rfl
theorem Bx.c1 {w : World} {b : Nat} {c : Ce} (h : Bx w b (cv c)) : w.cell? ⟨b, 1, none⟩ = some (.int .i64 c.V.K) := h.cell rfl
theorem Bx.c2 {w : World} {b : Nat} {c : Ce} (h : Bx w b (cv c)) : w.cell? ⟨b, 2, none⟩ = some (.float .f64 c.V.X) := h.cell rfl
theorem Bx.c3 {w : World} {b : Nat} {c : Ce} (h : Bx w b (cv c)) : w.cell? ⟨b, 3, none⟩ = some (.string c.V.S) := h.cell rfl
theorem Bx.c4 {w : World} {b : Nat} {c : Ce} (h : Bx w b (cv c)) : w.cell? ⟨b, 4, none⟩ = some (.int .i64 c.T) := h.cell rfl
theorem Bx.c5 {w : World} {b : Nat} {c : Ce} (h : Bx w b (cv c)) : w.cell? ⟨b, 5, none⟩ = some (.int .i64 c.W.K) := h.cell rfl
theorem Bx.c6 {w : World} {b : Nat} {c : Ce} (h : Bx w b (cv c)) : w.cell? ⟨b, 6, none⟩ = some (.float .f64 c.W.X) := h.cell rfl
theorem Bx.c7 {w : World} {b : Nat} {c : Ce} (h : Bx w b (cv c)) : w.cell? ⟨b, 7, none⟩ = some (.string c.W.S) := h.cell rfl
theorem Bx.v0 {w : World} {b : Nat} {v : Va} (h : Bx w b (va v)) : w.cell? ⟨b, 0, none⟩ = some (.int .i64 v.K) := h.cell rfl
theorem Bx.v1 {w : World} {b : Nat} {v : Va} (h : Bx w b (va v)) : w.cell? ⟨b, 1, none⟩ = some (.float .f64 v.X) := h.cell rfl
theorem Bx.v2 {w : World} {b : Nat} {v : Va} (h : Bx w b (va v)) : w.cell? ⟨b, 2, none⟩ = some (.string v.S) := h.cell rfl

theorem Bx.cells {w : World} {b : Nat} {c : Ce} (h : Bx w b (cv c)) : w.cell? ⟨b, 0, none⟩ = some (.string c.N) ∧ w.cell? ⟨b, 1, none⟩ = some (.int .i64 c.V.K) ∧ w.cell? ⟨b, 2, none⟩ = some (.float .f64 c.V.X) ∧ w.cell? ⟨b, 3, none⟩ = some (.string c.V.S) ∧
    w.cell? ⟨b, 4, none⟩ = some (.int .i64 c.T) ∧ w.cell? ⟨b, 5, none⟩ = some (.int .i64 c.W.K) ∧ w.cell? ⟨b, 6, none⟩ = some (.float .f64 c.W.X) ∧ w.cell? ⟨b, 7, none⟩ = some (.string c.W.S) := ⟨h.c0, h.c1, h.c2, h.c3, h.c4, h.c5, h.c6, h.c7⟩
theorem Bx.vals {w : World} {b : Nat} {v : Va} (h : Bx w b (va v)) : w.cell? ⟨b, 0, none⟩ = some (.int .i64 v.K) ∧ w.cell? ⟨b, 1, none⟩ = some (.float .f64 v.X) ∧ w.cell? ⟨b, 2, none⟩ = some (.string v.S) := ⟨h.v0, h.v1, h.v2⟩

/-- Behind a store of the whole: nothing but this variable has turned. -/
theorem setRow_but (w : World) (b : Nat) (cs : Array Value) : But (· = b) w (w.setRow b cs) :=
  ⟨rfl, rfl, rfl, by simp [World.setRow], fun k _ hk => by simp [World.setRow, Array.getElem?_modify, show ¬ b = k from fun e => hk e.symm]⟩
theorem Bx.set {w : World} {b : Nat} {old : Array Value} (h : Bx w b old) (cs : Array Value) : Bx (w.setRow b cs) b cs := by
  obtain ⟨t, h⟩ := h
  exact ⟨t, by simp [World.setRow, Array.getElem?_modify, h]⟩
theorem Bx.store {w : World} {b : Nat} {old cs z : Array Value} {ty : TypeId} (h : Bx w b old) (ht : Ty ty z) (ho : old.size = cs.size) (hs : cs.size = z.size) (h1 : ∀ u ∈ cs.toList, u.oneCell' = true) : (Instr.storeAt ty (.pointer (some ⟨b, 0, none⟩)) (.agg cs)).run Try.prog w = .ok () (w.setRow b cs) := by
  obtain ⟨t, h⟩ := h
  simp only [Instr.storeAt, Instr.sureAddr, Sem.run_bind, Sem.run_pure, Result.andThen_ok]
  exact run_storeVar_row w b t ty old cs h (by rw [ht.size, hs]) ho (Array.all_eq_true_iff_forall_mem.2 (fun v hv => h1 v (by simpa using hv)))

section
variable {w : World} {ops : Array Oper} {rest : List Oper} {o : Oper} {a : Act} {Q : Exit → Act → World → Prop}

/-- A variable is laid, its zero in it. -/
theorem wpList_new (ty : TypeId) (z : Array Value) (hg : o.guard = none) (hop : o.op = Op.alloc ty) (ht : Ty ty z)
    (hK : ∀ W, Below w.heap.size w W → Bx W w.heap.size z → wpList Try.prog ops Q rest (a.put o.dst (.pointer (some ⟨w.heap.size, 0, none⟩))) W) : wpList Try.prog ops Q (o :: rest) a w := by
  refine wpList_plain hg fun K' hK' => ?_
  have hr : (Instr.alloc ty true (.tuple #[])).run Try.prog w = .ok (.pointer (some ⟨w.heap.size, 0, none⟩)) (w.alloc (.cells z ty)) := by
    simp [Instr.alloc, newVar, newRow, Value.cells, go_sem, Result.andThen, ht.zeroVal]
  unfold Oper.wp
  simp [execOp, hop, hr, Result.andThen]
  exact hK' _ _ (hK _ ((Below.refl _ _).alloc (Nat.le_refl _) _) (Bx.new _ _ _))

/-- A variable is laid, a value in it. -/
theorem wpList_box (ty : TypeId) (x : Operand) (cs : Array Value) (hg : o.guard = none) (hop : o.op = Op.box ty x) (hx : a.eval x = .agg cs)
    (hK : ∀ W, Below w.heap.size w W → Bx W w.heap.size cs → wpList Try.prog ops Q rest (a.put o.dst (.pointer (some ⟨w.heap.size, 0, none⟩))) W) : wpList Try.prog ops Q (o :: rest) a w := by
  refine wpList_plain hg fun K' hK' => ?_
  have hr : (Instr.box ty (.agg cs)).run Try.prog w = .ok (.pointer (some ⟨w.heap.size, 0, none⟩)) (w.alloc (.cells cs ty)) := by
    simp [Instr.box, newVar, newRow, Value.cells, go_sem, Result.andThen]
  unfold Oper.wp
  simp [execOp, hop, hx, hr, Result.andThen]
  exact hK' _ _ (hK _ ((Below.refl _ _).alloc (Nat.le_refl _) _) (Bx.new _ _ _))

/-- A variable is read as a whole. -/
theorem wpList_get (ty : TypeId) (z : Array Value) (x : Operand) (b : Nat) (cs : Array Value) (hg : o.guard = none) (hop : o.op = Op.load ty x) (hx : a.eval x = .pointer (some ⟨b, 0, none⟩)) (h : Bx w b cs) (ht : Ty ty z) (hs : cs.size = z.size)
    (hK : wpList Try.prog ops Q rest (a.put o.dst (.agg cs)) w) : wpList Try.prog ops Q (o :: rest) a w := by
  have hr := h.load ht hs
  refine wpList_plain hg fun K' hK' => ?_
  unfold Oper.wp
  simp [execOp, hop, hx, hr, Result.andThen]
  exact hK' _ _ hK

/-- A variable is written as a whole. -/
theorem wpList_put (ty : TypeId) (z : Array Value) (x y : Operand) (b : Nat) (cs old : Array Value) (hg : o.guard = none) (hop : o.op = Op.store ty x y) (hx : a.eval x = .pointer (some ⟨b, 0, none⟩)) (hy : a.eval y = .agg cs) (h : Bx w b old) (ht : Ty ty z)
    (ho : old.size = cs.size) (hs : cs.size = z.size) (h1 : ∀ u ∈ cs.toList, u.oneCell' = true)
    (hK : ∀ W, But (· = b) w W → W.heap.size = w.heap.size → Bx W b cs → wpList Try.prog ops Q rest (a.put o.dst undef) W) : wpList Try.prog ops Q (o :: rest) a w := by
  have hr := h.store ht ho hs h1
  refine wpList_plain hg fun K' hK' => ?_
  unfold Oper.wp
  simp [execOp, hop, hx, hy, hr, Result.andThen]
  exact hK' _ _ (hK _ (setRow_but _ _ _) (by simp [World.setRow]) (h.set cs))
end

/-- What a result's variable tells. -/
theorem results_bx {fn : Func} {p : Tmp} {ty : TypeId} {z : Array Value} (h : fn.results = #[.cell p ty]) (tmps : Array Value) (w : World) (b : Nat) (cs : Array Value) (hp : tmps.getD p undef = .pointer (some ⟨b, 0, none⟩)) (hb : Bx w b cs) (ht : Ty ty z) (hs : cs.size = z.size) : (results fn tmps).run Try.prog w = .ok (.agg cs) w := by
  obtain ⟨t, hb⟩ := hb
  obtain ⟨d, hu, hd⟩ := ht.row
  exact results_cell_row h tmps w b t cs (0, 0) d hp hb hu (by cases d <;> simp_all) (by rw [ht.size, hs])
theorem Bx.ldVar {w : World} {b : Nat} {cs z : Array Value} {ty : TypeId} (h : Bx w b cs) (ht : Ty ty z) (hs : cs.size = z.size) : (loadVar ty ⟨b, 0, none⟩).run Try.prog w = .ok (.agg cs) w := by
  have := h.load ht hs
  simpa [Instr.loadAt, Instr.sureAddr, Sem.run_bind, Sem.run_pure, Result.andThen_ok] using this

theorem results2_bx {fn : Func} {p q : Tmp} {ty : TypeId} {z : Array Value} (h : fn.results = #[.cell p ty, .tmp q]) (tmps : Array Value) (w : World) (b : Nat) (cs : Array Value) (u : Value) (hp : tmps.getD p undef = .pointer (some ⟨b, 0, none⟩)) (hq : tmps.getD q undef = u) (hb : Bx w b cs) (ht : Ty ty z) (hs : cs.size = z.size) : (results fn tmps).run Try.prog w = .ok (.tuple #[.agg cs, u]) w := by
  have hp' : tmps[p]?.getD undef = .pointer (some ⟨b, 0, none⟩) := by simpa using hp
  have hq' : tmps[q]?.getD undef = u := by simpa using hq
  simp [results, h, hp', hq', asAddr, hb.ldVar ht hs]
theorem results3_bx {fn : Func} {p q r : Tmp} {ty : TypeId} {z : Array Value} (h : fn.results = #[.cell p ty, .tmp q, .tmp r]) (tmps : Array Value) (w : World) (b : Nat) (cs : Array Value) (u x : Value) (hp : tmps.getD p undef = .pointer (some ⟨b, 0, none⟩)) (hq : tmps.getD q undef = u) (hr : tmps.getD r undef = x) (hb : Bx w b cs) (ht : Ty ty z) (hs : cs.size = z.size) : (results fn tmps).run Try.prog w = .ok (.tuple #[.agg cs, u, x]) w := by
  have hp' : tmps[p]?.getD undef = .pointer (some ⟨b, 0, none⟩) := by simpa using hp
  have hq' : tmps[q]?.getD undef = u := by simpa using hq
  have hr' : tmps[r]?.getD undef = x := by simpa using hr
  simp [results, h, hp', hq', hr', asAddr, hb.ldVar ht hs]

/-- One cell of it is written. -/
theorem Bx.setCell {w : World} {b : Nat} {cs : Array Value} (h : Bx w b cs) (o : Nat) (v : Value) : Bx (w.setCell ⟨b, o, none⟩ v) b (cs.setIfInBounds o v) := by
  obtain ⟨t, h⟩ := h
  exact ⟨t, by simp [World.setCell, Array.getElem?_modify, h]⟩
theorem setCell_but (w : World) (b o : Nat) (v : Value) : But (· = b) w (w.setCell ⟨b, o, none⟩ v) := But.setCell (S := (· = b)) (p := ⟨b, o, none⟩) (But.refl _ _) (.inl rfl) v
theorem setCell_size (w : World) (p : Addr) (v : Value) : (w.setCell p v).heap.size = w.heap.size := by simp [World.setCell]
theorem Bx.store1 {w : World} {b o : Nat} {cs : Array Value} {ty : TypeId} {v : Value} (h : Bx w b cs) (ho : o < cs.size) (hi : (Try.prog.info? ty).map (·.size) = some 1) (hv : v.cells = #[v]) (hr : ∀ a W, (Go.store a v).run Try.prog W = stored Try.prog W a v .plain) :
    (Instr.storeAt ty (.pointer (some ⟨b, o, none⟩)) v).run Try.prog w = .ok () (w.setCell ⟨b, o, none⟩ v) := by
  have hc : w.cell? ⟨b, o, none⟩ = some cs[o] := h.cell (Array.getElem?_eq_getElem ho)
  have hf := h.frozen o
  cases hq : Try.prog.info? ty with
  | none => simp [hq] at hi
  | some i =>
    have hs : i.size = 1 := by simpa [hq] using hi
    simp [Instr.storeAt, Instr.sureAddr, storeVar, sizeOf, typeInfo, hq, hs, hv, storeCells, hr, stored, hc, hf, add_plain]

section
variable {w : World} {ops : Array Oper} {rest : List Oper} {o : Oper} {a : Act} {Q : Exit → Act → World → Prop}

/-- 'c.Key = s', 'c.Txn = t'. -/
theorem wpList_put1 (ty : TypeId) (x y : Operand) (b k : Nat) (v : Value) (cs : Array Value) (hg : o.guard = none) (hop : o.op = Op.store ty x y) (hx : a.eval x = .pointer (some ⟨b, k, none⟩)) (hy : a.eval y = v) (h : Bx w b cs) (hk : k < cs.size)
    (hi : (Try.prog.info? ty).map (·.size) = some 1) (hv : v.cells = #[v]) (hr : ∀ a W, (Go.store a v).run Try.prog W = stored Try.prog W a v .plain)
    (hK : ∀ W, But (· = b) w W → W.heap.size = w.heap.size → Bx W b (cs.setIfInBounds k v) → wpList Try.prog ops Q rest (a.put o.dst undef) W) : wpList Try.prog ops Q (o :: rest) a w := by
  have hr := h.store1 hk hi hv hr
  refine wpList_plain hg fun K' hK' => ?_
  unfold Oper.wp
  simp [execOp, hop, hx, hy, hr, Result.andThen]
  exact hK' _ _ (hK _ (setCell_but _ _ _ _) (setCell_size _ _ _) (h.setCell k v))

/-- 'c.Val = v', 'c.New = v'. -/
theorem wpList_putV (x y : Operand) (b k : Nat) (v : Va) (cs : Array Value) (hg : o.guard = none) (hop : o.op = Op.store 27 x y) (hx : a.eval x = .pointer (some ⟨b, k, none⟩)) (hy : a.eval y = .agg (va v)) (h : Bx w b cs) (hk : k + 3 ≤ cs.size)
    (hK : ∀ W, But (· = b) w W → W.heap.size = w.heap.size → Bx W b (((cs.setIfInBounds k (.int .i64 v.K)).setIfInBounds (k + 1) (.float .f64 v.X)).setIfInBounds (k + 1 + 1) (.string v.S)) → wpList Try.prog ops Q rest (a.put o.dst undef) W) : wpList Try.prog ops Q (o :: rest) a w := by
  refine wpList_store_mid hg _ x y hop b k (va v) hx hy ?_ tyV.size (Array.all_eq_true_iff_forall_mem.2 (fun u hu => va_one v u (by simpa using hu))) ?_
  · intro j hj
    have hj' : j < 3 := hj
    refine ⟨?_, h.frozen _⟩
    rw [h.cell (Array.getElem?_eq_getElem (show k + j < cs.size by omega))]
    rfl
  · show wpList Try.prog ops Q rest (a.put o.dst undef) (((w.setCell ⟨b, k, none⟩ (.int .i64 v.K)).setCell ⟨b, k + 1, none⟩ (.float .f64 v.X)).setCell ⟨b, k + 1 + 1, none⟩ (.string v.S))
    refine hK _ ?_ (by simp only [setCell_size]) (((h.setCell _ _).setCell _ _).setCell _ _)
    exact ((setCell_but _ _ _ _).trans ((setCell_but _ _ _ _).mono fun _ _ h => h)).trans ((setCell_but _ _ _ _).mono fun _ _ h => h)
end

section
variable {w : World} {o : Oper} {a : Act} {Q : Exit → Act → World → Prop} {K : Act → World → Prop}

/-- The same at one operation alone. -/
theorem wp_put (ty : TypeId) (z : Array Value) (x y : Operand) (b : Nat) (cs old : Array Value) (hop : o.op = Op.store ty x y) (hx : a.eval x = .pointer (some ⟨b, 0, none⟩)) (hy : a.eval y = .agg cs) (h : Bx w b old) (ht : Ty ty z)
    (ho : old.size = cs.size) (hs : cs.size = z.size) (h1 : ∀ u ∈ cs.toList, u.oneCell' = true)
    (hK : ∀ W, But (· = b) w W → W.heap.size = w.heap.size → Bx W b cs → K (a.put o.dst undef) W) : o.wp Try.prog a w K Q := by
  have hr := h.store ht ho hs h1
  unfold Oper.wp
  simp [execOp, hop, hx, hy, hr, Result.andThen]
  exact hK _ (setRow_but _ _ _) (by simp [World.setRow]) (h.set cs)
theorem wp_put1 (ty : TypeId) (x y : Operand) (b k : Nat) (v : Value) (cs : Array Value) (hop : o.op = Op.store ty x y) (hx : a.eval x = .pointer (some ⟨b, k, none⟩)) (hy : a.eval y = v) (h : Bx w b cs) (hk : k < cs.size)
    (hi : (Try.prog.info? ty).map (·.size) = some 1) (hv : v.cells = #[v]) (hr : ∀ a W, (Go.store a v).run Try.prog W = stored Try.prog W a v .plain)
    (hK : ∀ W, But (· = b) w W → W.heap.size = w.heap.size → Bx W b (cs.setIfInBounds k v) → K (a.put o.dst undef) W) : o.wp Try.prog a w K Q := by
  have hr := h.store1 hk hi hv hr
  unfold Oper.wp
  simp [execOp, hop, hx, hy, hr, Result.andThen]
  exact hK _ (setCell_but _ _ _ _) (setCell_size _ _ _) (h.setCell k v)
theorem wp_putV (x y : Operand) (b k : Nat) (v : Va) (cs : Array Value) (hop : o.op = Op.store 27 x y) (hx : a.eval x = .pointer (some ⟨b, k, none⟩)) (hy : a.eval y = .agg (va v)) (h : Bx w b cs) (hk : k + 3 ≤ cs.size)
    (hK : ∀ W, But (· = b) w W → W.heap.size = w.heap.size → Bx W b (((cs.setIfInBounds k (.int .i64 v.K)).setIfInBounds (k + 1) (.float .f64 v.X)).setIfInBounds (k + 1 + 1) (.string v.S)) → K (a.put o.dst undef) W) : o.wp Try.prog a w K Q := by
  refine wp_store_mid _ x y hop b k (va v) hx hy ?_ tyV.size (Array.all_eq_true_iff_forall_mem.2 (fun u hu => va_one v u (by simpa using hu))) ?_
  · intro j hj
    have hj' : j < 3 := hj
    refine ⟨?_, h.frozen _⟩
    rw [h.cell (Array.getElem?_eq_getElem (show k + j < cs.size by omega))]
    rfl
  · show K (a.put o.dst undef) (((w.setCell ⟨b, k, none⟩ (.int .i64 v.K)).setCell ⟨b, k + 1, none⟩ (.float .f64 v.X)).setCell ⟨b, k + 1 + 1, none⟩ (.string v.S))
    refine hK _ ?_ (by simp only [setCell_size]) (((h.setCell _ _).setCell _ _).setCell _ _)
    exact ((setCell_but _ _ _ _).trans ((setCell_but _ _ _ _).mono fun _ _ h => h)).trans ((setCell_but _ _ _ _).mono fun _ _ h => h)
theorem wp_new (ty : TypeId) (z : Array Value) (hop : o.op = Op.alloc ty) (ht : Ty ty z)
    (hK : ∀ W, Below w.heap.size w W → Bx W w.heap.size z → K (a.put o.dst (.pointer (some ⟨w.heap.size, 0, none⟩))) W) : o.wp Try.prog a w K Q := by
  have hr : (Instr.alloc ty true (.tuple #[])).run Try.prog w = .ok (.pointer (some ⟨w.heap.size, 0, none⟩)) (w.alloc (.cells z ty)) := by
    simp [Instr.alloc, newVar, newRow, Value.cells, go_sem, Result.andThen, ht.zeroVal]
  unfold Oper.wp
  simp [execOp, hop, hr, Result.andThen]
  exact hK _ ((Below.refl _ _).alloc (Nat.le_refl _) _) (Bx.new _ _ _)
end

/-- In a region that draws its order: read as a whole, it may be taken first. -/
theorem yields_bx {ops : Array Oper} {S : World → Prop} {op : Oper} {a : Act} (hw : Region.wanted op (yielded ops a.tmps) = true) (ty : TypeId) (z : Array Value) (x : Operand) (ho : op.op = .load ty x)
    (b : Nat) (hx : a.eval x = .pointer (some ⟨b, 0, none⟩)) (cs : Array Value) (hS : ∀ w, S w → Bx w b cs) (ht : Ty ty z) (hs : cs.size = z.size) : YieldsIf Try.prog ops S op (.agg cs) a := by
  obtain ⟨d, hu, hd⟩ := ht.row
  have := yieldsIf_load_mid (P := Try.prog) (S := S) hw ty x ho b 0 hx cs.toList d (fun w h => (hS w h).range (by intro j v hv; simpa using hv)) hu hd (by rw [ht.size, ← hs]; simp)
  simpa using this
end Go.Proofs.Ytlefhhmggaaiiab
