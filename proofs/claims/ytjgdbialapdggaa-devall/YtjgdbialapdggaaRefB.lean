/-
  The law's own device, built sector by sector: three rows that grow, whoever comes first.
-/
import Derived.Test.YtjgdbialapdggaaRefM
import Derived.Test.YtjgdbialapdggaaInf
import Derived.Maps.AppendAt
import Derived.Great.BuildSlice
namespace Go.Proofs.Ytjgdbialapdggaa
open Go.RowKit Go.Maps

/-- 64 noughts in a block of bytes. -/
def Nw (w : World) (v : Value) : Prop := ∃ b cap, v = .slice (some ⟨b, 0, none⟩) 64 cap ∧ 64 ≤ cap ∧ cap ≤ maxLen ∧ w.rangeAt b 0 (bv nought) ∧ ∃ c, w.heap[b]? = some (.cells c 5 (0, 0))

theorem Nw.block {w w' : World} {v : Value} (h : Nw w v) (hb : ∀ b, v.ownBlock = some b → w'.heap[b]? = w.heap[b]?) : Nw w' v := by
  obtain ⟨b, cap, rfl, h1, h2, h3, c, hc⟩ := h
  have e := hb b rfl
  exact ⟨b, cap, rfl, h1, h2, fun j u hu => by rw [World.cell?_of_block (a := ⟨b, 0 + j, none⟩) e]; exact h3 j u hu, c, e.trans hc⟩

theorem Nw.lt {w : World} {v : Value} (h : Nw w v) : ∀ b, v.ownBlock = some b → b < w.heap.size := by
  obtain ⟨b, cap, rfl, h1, h2, h3, c, hc⟩ := h
  intro b' e
  cases e
  exact blk_lt hc

/-- A row that one element is being appended to: s = 0: as it was, 1: the element stands ready, 2: it is appended. -/
structure Gr (W0 B : Nat) (e : TypeId) (v : Value) (k : Nat) (l : List Value) (u : Value) (s : Nat) (x y : Value) (w : World) : Prop where
  old : s ≤ 1 → w.ownsRow B e 1 v k l
  one : 1 ≤ s → ∃ c, x = .slice (some ⟨c, 0, none⟩) 1 1 ∧ w.heap[c]? = some (.cells #[u] e (0, 0)) ∧ W0 ≤ c
  new : 2 ≤ s → w.ownsRow B e 1 y (k + 1) (l ++ [u]) ∧ (y.ownBlock = v.ownBlock ∨ ∃ b, y.ownBlock = some b ∧ W0 ≤ b)
  low : ∀ r, v.ownBlock = some r → B ≤ r ∧ r < W0

theorem Gr.kept {W0 B : Nat} {e : TypeId} {v : Value} {k : Nat} {l : List Value} {u : Value} {s : Nat} {x y : Value} {w w' : World} {row : Option Nat} (h : Gr W0 B e v k l u s x y w) (hg : w.grownBy w' row) (hr : ∀ r, row = some r → r < W0 ∧ v.ownBlock ≠ some r) : Gr W0 B e v k l u s x y w' := by
  have key : ∀ z : Value, (z.ownBlock = v.ownBlock ∨ ∃ b, z.ownBlock = some b ∧ W0 ≤ b) → z.ownBlock = none ∨ z.ownBlock ≠ row := fun z hz => by
    cases row with
    | none => cases hzo : z.ownBlock <;> simp
    | some r =>
      right
      intro e
      obtain ⟨h1, h2⟩ := hr r rfl
      rcases hz with hz | ⟨b, hz, hb⟩
      · exact h2 (hz ▸ e)
      · rw [hz] at e; cases e; omega
  refine ⟨fun hs => (h.old hs).kept hg (key v (.inl rfl)), fun hs => ?_, fun hs => ⟨(h.new hs).1.kept hg (key y (h.new hs).2), (h.new hs).2⟩, h.low⟩
  obtain ⟨c, e1, e2, e3⟩ := h.one hs
  exact ⟨c, e1, (hg.block c (blk_lt e2) (fun e => by obtain ⟨h1, -⟩ := hr c e.symm; omega)).trans e2, e3⟩

/-- A new sector that is made, then laid. -/
structure GrS (W0 B : Nat) (v : Value) (k : Nat) (l : List Value) (s : Nat) (u x y : Value) (w : World) : Prop where
  made : 1 ≤ s → Nw w u ∧ ∀ b, u.ownBlock = some b → W0 ≤ b
  row : Gr W0 B 31 v k l u (s - 1) x y w

theorem GrS.kept {W0 B : Nat} {v : Value} {k : Nat} {l : List Value} {s : Nat} {u x y : Value} {w w' : World} {row : Option Nat} (h : GrS W0 B v k l s u x y w) (hg : w.grownBy w' row) (hr : ∀ r, row = some r → r < W0 ∧ v.ownBlock ≠ some r) : GrS W0 B v k l s u x y w' := by
  refine ⟨fun hs => ?_, h.row.kept hg hr⟩
  obtain ⟨h1, h2⟩ := h.made hs
  exact ⟨h1.block fun b hb => hg.block b (h1.lt b hb) (fun e => by obtain ⟨h3, -⟩ := hr b e.symm; have := h2 b hb; omega), h2⟩

section
variable {o : Oper} {a : Act} {w : World} {K : Act → World → Prop} {Q : Exit → Act → World → Prop}

theorem wp_make64 (x : Operand) (hop : o.op = Op.makeSlice 31 x x) (hx : a.eval x = .int .i64 64)
    (h : ∀ w' v, Nw w' v → v.ownBlock = some w.heap.size → w.grownBy w' none → K (a.put o.dst v) w') : o.wp Try.prog a w K Q := by
  obtain ⟨i0, hi, hz0, hz1, hz2⟩ := info_parts Try.info5
  obtain ⟨w', hrun, r1, r2⟩ := run_make_full (P := Try.prog) w w.heap.size 31 5 i0 _ 1 Try.underlying31 hi hz0 hz1 .i64 .i64 64 (by rw [hz2]; omega) (by unfold maxLen; omega) (Nat.le_refl _)
  have hrun' : (Instr.makeSlice 31 (.int .i64 64) (.int .i64 64)).run Try.prog w = .ok (.slice (some ⟨w.heap.size, 0, none⟩) 64 64) w' := hrun
  unfold Oper.wp
  simp [execOp, hop, hx, hrun', Result.andThen, Oper.upon]
  have e : (madeCells (Value.int .u8 0).cells (64 * 1)).toList = bv nought := by
    rw [show (Value.int .u8 0).cells = #[.int .u8 0] from rfl, toList_madeCells_one]
    exact (List.map_replicate).symm
  rw [e] at r1
  have r1' := r1
  obtain ⟨-, r3⟩ := r1
  rcases r3 with ⟨hn, -⟩ | ⟨b, cap, cur, hv, hb, hh, h1, h2, h3, h4⟩
  · simp at hn
  · simp at hv
    obtain ⟨rfl, rfl⟩ := hv
    refine h w' _ ⟨_, 64, rfl, Nat.le_refl _, h2, fun j u hu => ?_, cur, hh⟩ rfl r2
    have hj : j < 64 := by have := (List.getElem?_eq_some_iff.1 hu).1; rw [bv_len, sec_nought.1] at this; exact this
    rw [Nat.zero_add, r1'.cellAt j (by omega), hu]

theorem infoB : (Try.prog.info? 4).map (fun i => (i.zero, i.size, i.bytes)) = some (some (.bool false), 1, 1) := by kernel_rfl
theorem infoS : (Try.prog.info? 31).map (fun i => (i.zero, i.size, i.bytes)) = some (some (.slice none 0 0), 1, 24) := by kernel_rfl

theorem wp_build1 (t e : TypeId) (z : Value) (by_ : Nat) (ht : Try.prog.underlying t = some (.slice e)) (hinfo : (Try.prog.info? e).map (fun i => (i.zero, i.size, i.bytes)) = some (some z, 1, by_)) (hz : z.oneCell' = true) (y : Operand) (hop : o.op = Op.buildSlice t 1 #[(0, y)]) (u : Value) (hu : a.eval y = u) (h1 : u.oneCell' = true)
    (h : K (a.put o.dst (.slice (some ⟨w.heap.size, 0, none⟩) 1 1)) (w.alloc (.cells #[u] e))) : o.wp Try.prog a w K Q := by
  obtain ⟨i0, hi, hz0, hz1, hz2⟩ := info_parts hinfo
  refine wp_buildSlice t e 1 #[(0, y)] hop #[u] i0 z ht hi hz0 (by rw [hz1]; decide) (by rw [hz1]; decide) ?_ h
  have hc : u.cells = #[u] := by cases u <;> simp_all [Value.cells, Value.oneCell']
  have hc2 : z.cells = #[z] := by cases z <;> simp_all [Value.cells, Value.oneCell']
  rw [hz1]
  simp [hu, hc2, Instr.fill, hc]
  apply Array.ext
  · simp
  · intro i g1 g2
    have e0 : i = 0 := by simpa using g2
    subst e0
    simp

theorem wp_app1 (t e : TypeId) (z : Value) (by_ : Nat) (ht : Try.prog.underlying t = some (.slice e)) (hinfo : (Try.prog.info? e).map (fun i => (i.zero, i.size, i.bytes)) = some (some z, 1, by_)) (hz : z.cells.size = 1) (hby : by_ ≤ 24) (s x : Operand)
    (hop : o.op = .call { callee := .builtin .append, args := #[s, x], argTypes := #[t, t] }) (B : Nat) (v : Value) (k : Nat) (l : List Value) (c : Nat) (u : Value) (hs : a.eval s = v) (hx : a.eval x = .slice (some ⟨c, 0, none⟩) 1 1) (hk : k ≤ 8) (hown : w.ownsRow B e 1 v k l) (hc : w.heap[c]? = some (.cells #[u] e (0, 0))) (h1 : u.oneCell' = true) (hB : B ≤ w.heap.size)
    (h : ∀ v' w', w'.ownsRow B e 1 v' (k + 1) (l ++ [u]) → w.grownBy w' v.ownBlock → (v'.ownBlock = v.ownBlock ∨ v'.ownBlock = some w.heap.size) → K (a.put o.dst v') w') : o.wp Try.prog a w K Q := by
  obtain ⟨i0, hi, hz0, hz1, hz2⟩ := info_parts hinfo
  obtain ⟨v', w', hr, r1, r2, -, r4⟩ := run_append_own_at (P := Try.prog) w B t o.type e i0 z 1 by_ ht hi hz0 hz1 hz2 hz (by omega) v k l hown ⟨c, 0, none⟩ 1 1 [u] rfl (fun j x hj => by
    cases j with
    | zero => simp at hj; subst hj; rw [add_plain]; exact cell_blk hc rfl
    | succ m => simp at hj) (fun x hx => by simp at hx; subst hx; exact h1) (by unfold maxLen; omega) (by have : (k + 1) * by_ ≤ 9 * 24 := Nat.mul_le_mul (by omega) hby; omega) hB
  unfold Oper.wp execOp
  simp only [hop, resolve, invoke, builtin, Sem.run_bind, Sem.run_pure, Result.andThen_ok, List.map_toArray, List.map_cons, List.map_nil, hs, hx, hr]
  exact h v' w' r1 r2 r4
end

theorem But.grow {S : Nat → Prop} {a w w' : World} {row : Option Nat} (h : But S a w) (hg : w.grownBy w' row) (hs : ∀ r, row = some r → S r) : But S a w' :=
  h.trans ⟨hg.os, hg.tape, hg.output, hg.size, fun k hk hn => hg.block k hk fun e => hn (hs k e.symm)⟩

theorem GrS.step1 {W0 B : Nat} {v : Value} {k : Nat} {l : List Value} {u x y u' : Value} {w w' : World} (h : GrS W0 B v k l 0 u x y w) (hg : w.grownBy w' none) (hn : Nw w' u') (ho : u'.ownBlock = some w.heap.size) (hw : W0 ≤ w.heap.size) : GrS W0 B v k l 1 u' x y w' := by
  have h' := h.kept hg (fun r e => by cases e)
  exact ⟨fun _ => ⟨hn, fun b hb => by rw [ho] at hb; cases hb; exact hw⟩, ⟨fun hs => h'.row.old hs, fun hs => by omega, fun hs => by omega, h'.row.low⟩⟩

theorem GrS.step2 {W0 B : Nat} {v : Value} {k : Nat} {l : List Value} {u x y : Value} {w : World} (h : GrS W0 B v k l 1 u x y w) (hw : W0 ≤ w.heap.size) : GrS W0 B v k l 2 u (.slice (some ⟨w.heap.size, 0, none⟩) 1 1) y (w.alloc (.cells #[u] 31)) := by
  have h' := h.kept (World.grownBy_alloc w (.cells #[u] 31) none) (fun r e => by cases e)
  exact ⟨fun _ => h'.made (by omega), ⟨fun _ => h'.row.old (by omega), fun _ => ⟨_, rfl, heap_alloc_last w _, hw⟩, fun hs => by omega, h'.row.low⟩⟩

theorem GrS.step3 {W0 B : Nat} {v : Value} {k : Nat} {l : List Value} {u x y y' : Value} {w w' : World} (h : GrS W0 B v k l 2 u x y w) (ho : w'.ownsRow B 31 1 y' (k + 1) (l ++ [u])) (hg : w.grownBy w' v.ownBlock) (hl : y'.ownBlock = v.ownBlock ∨ y'.ownBlock = some w.heap.size) (hw : W0 ≤ w.heap.size) : GrS W0 B v k l 3 u x y' w' := by
  obtain ⟨m1, m2⟩ := h.made (by omega)
  obtain ⟨c, e1, e2, e3⟩ := h.row.one (by omega)
  refine ⟨fun _ => ⟨m1.block fun b hb => hg.block b (m1.lt b hb) (fun e => by have := (h.row.low b e.symm).2; have := m2 b hb; omega), m2⟩, ⟨fun hs => by omega, fun _ => ⟨c, e1, (hg.block c (blk_lt e2) (fun e => by have := (h.row.low c e.symm).2; omega)).trans e2, e3⟩, fun _ => ⟨ho, hl.imp id fun e => ⟨_, e, hw⟩⟩, h.row.low⟩⟩

theorem Gr.step1 {W0 B : Nat} {e : TypeId} {v : Value} {k : Nat} {l : List Value} {u x y : Value} {w : World} (h : Gr W0 B e v k l u 0 x y w) (hw : W0 ≤ w.heap.size) : Gr W0 B e v k l u 1 (.slice (some ⟨w.heap.size, 0, none⟩) 1 1) y (w.alloc (.cells #[u] e)) := by
  have h' := h.kept (World.grownBy_alloc w (.cells #[u] e) none) (fun r e => by cases e)
  exact ⟨fun _ => h'.old (by omega), fun _ => ⟨_, rfl, heap_alloc_last w _, hw⟩, fun hs => by omega, h'.low⟩

theorem Gr.step2 {W0 B : Nat} {e : TypeId} {v : Value} {k : Nat} {l : List Value} {u x y y' : Value} {w w' : World} (h : Gr W0 B e v k l u 1 x y w) (ho : w'.ownsRow B e 1 y' (k + 1) (l ++ [u])) (hg : w.grownBy w' v.ownBlock) (hl : y'.ownBlock = v.ownBlock ∨ y'.ownBlock = some w.heap.size) (hw : W0 ≤ w.heap.size) : Gr W0 B e v k l u 2 x y' w' := by
  obtain ⟨c, e1, e2, e3⟩ := h.one (by omega)
  exact ⟨fun hs => by omega, fun _ => ⟨c, e1, (hg.block c (blk_lt e2) (fun e => by have := (h.low c e.symm).2; omega)).trans e2, e3⟩, fun _ => ⟨ho, hl.imp id fun e => ⟨_, e, hw⟩⟩, h.low⟩

theorem Nw.one {w : World} {v : Value} (h : Nw w v) : v.oneCell' = true := by
  obtain ⟨b, cap, rfl, -⟩ := h
  rfl

theorem own_shape {w : World} {B n : Nat} {e : TypeId} {v : Value} {l : List Value} (h : w.ownsRow B e 1 v (n + 1) l) : ∃ b cap, v = .slice (some ⟨b, 0, none⟩) (n + 1) cap := by
  rcases h.2 with ⟨-, h0⟩ | ⟨g, cap, cur, rfl, -⟩
  · omega
  · exact ⟨g, cap, rfl⟩

theorem set3 {w : World} {q : Nat} {v0 v1 v2 x y u0 u1 u2 : Value} {t : TypeId} (h : w.heap[q]? = some (.cells #[v0, v1, v2, x, y] t (0, 0))) : (((w.setCell ⟨q, 0, none⟩ u0).setCell ⟨q, 1, none⟩ u1).setCell ⟨q, 2, none⟩ u2).heap[q]? = some (.cells #[u0, u1, u2, x, y] t (0, 0)) := by
  have h1 := heap_setCell_same h (k := 0) u0
  have h2 := heap_setCell_same h1 (k := 1) u1
  exact heap_setCell_same h2 (k := 2) u2

/-- The law's device, k sectors of it built. -/
structure Bd (B : Nat) (w : World) (q k : Nat) (vn vs vo : Value) (ln ls : List Value) : Prop where
  me : w.heap[q]? = some (.cells #[vn, vs, vo, .int .i64 0, .int .i64 (-1)] 30 (0, 0))
  nn : w.ownsRow B 31 1 vn k ln
  ss : w.ownsRow B 31 1 vs k ls
  oo : w.ownsRow B 4 1 vo k (List.replicate k (.bool false))
  nN : ∀ v ∈ ln, Nw w v
  nS : ∀ v ∈ ls, Nw w v
  ap : ∀ b, vn.ownBlock = some b → vs.ownBlock ≠ some b
  qB : q < B

/-- The blocks of the rows. -/
def Rows3 (vn vs vo : Value) (b : Nat) : Prop := vn.ownBlock = some b ∨ vs.ownBlock = some b ∨ vo.ownBlock = some b

theorem own_type {w : World} {B n : Nat} {e : TypeId} {v : Value} {l : List Value} (h : w.ownsRow B e 1 v n l) {b : Nat} (hb : v.ownBlock = some b) : ∃ c, w.heap[b]? = some (.cells c e (0, 0)) := by
  rcases h.2 with ⟨rfl, -⟩ | ⟨g, cap, cur, rfl, -, hh, -⟩
  · cases hb
  · cases hb; exact ⟨cur, hh⟩

/-- What the region leaves is the law's device with a sector more. -/
theorem Bd.more {B : Nat} {w w' : World} {q k : Nat} {vn vs vo : Value} {ln ls : List Value} (h : Bd B w q k vn vs vo ln ls) (hb : But (Rows3 vn vs vo) w w') {u1 x1 y1 u2 x2 y2 x3 y3 : Value}
    (h1 : GrS w.heap.size B vn k ln 3 u1 x1 y1 w') (h2 : GrS w.heap.size B vs k ls 3 u2 x2 y2 w') (h3 : Gr w.heap.size B 4 vo k (List.replicate k (.bool false)) (.bool false) 2 x3 y3 w')
    (hy : ∀ b, y1.ownBlock = some b → y2.ownBlock ≠ some b) {w2 : World} (hw2 : But (· = q) w' w2) (hme : w2.heap[q]? = some (.cells #[y1, y2, y3, .int .i64 0, .int .i64 (-1)] 30 (0, 0))) :
    Bd B w2 q (k + 1) y1 y2 y3 (ln ++ [u1]) (ls ++ [u2]) := by
  have o1 := (h1.row.new (Nat.le_refl _)).1
  have o2 := (h2.row.new (Nat.le_refl _)).1
  have o3 := (h3.new (Nat.le_refl _)).1
  have hq := h.qB
  have up : ∀ {e : TypeId} {v : Value} {n : Nat} {l : List Value}, w'.ownsRow B e 1 v n l → w2.ownsRow B e 1 v n l := fun ho => own_but ho hw2 (fun b hb e => by omega)
  have hb0 : ∀ {b : Nat}, b < w.heap.size → ¬ Rows3 vn vs vo b → w'.heap[b]? = w.heap[b]? := fun h1 h2 => hb.block _ h1 h2
  have old : ∀ v, Nw w v → Nw w' v := fun v hv => hv.block fun b hbv => hb0 (hv.lt b hbv) (by
    obtain ⟨b', cap, rfl, _, _, _, c, hc⟩ := hv
    cases hbv
    rintro (e | e | e)
    · obtain ⟨c', hc'⟩ := own_type h.nn e; rw [hc] at hc'; simp at hc'
    · obtain ⟨c', hc'⟩ := own_type h.ss e; rw [hc] at hc'; simp at hc'
    · obtain ⟨c', hc'⟩ := own_type h.oo e; rw [hc] at hc'; simp at hc')
  have nwup : ∀ v, Nw w' v → Nw w2 v := fun v hv => hv.block fun b hb => hw2.block b (hv.lt b hb) (fun e => by
    obtain ⟨b', cap, rfl, _, _, _, c, hc⟩ := hv
    cases hb
    have e' : b' = q := e
    rw [e'] at hc
    have hql : q < w.heap.size := blk_lt h.me
    have hr : ¬ Rows3 vn vs vo q := by
      rintro (e | e | e)
      · have := (h1.row.low q e).1; omega
      · have := (h2.row.low q e).1; omega
      · have := (h3.low q e).1; omega
    rw [hb0 hql hr, h.me] at hc
    simp at hc)
  refine ⟨hme, up o1, up o2, ?_, fun v hv => ?_, fun v hv => ?_, hy, hq⟩
  · have := up o3
    rw [List.replicate_succ']
    exact this
  · rcases List.mem_append.1 hv with hv | hv
    · exact nwup v (old v (h.nN v hv))
    · simp at hv; subst hv; exact nwup _ (h1.made (by omega)).1
  · rcases List.mem_append.1 hv with hv | hv
    · exact nwup v (old v (h.nS v hv))
    · simp at hv; subst hv; exact nwup _ (h2.made (by omega)).1

end Go.Proofs.Ytjgdbialapdggaa
