/-
  A law's own variable in loops; bytes that are laid; more steps by the kernel.
-/
import Derived.Test.YtbddghdkmakjlaaKrx
import Derived.Test.YtbddghdkmakjlaaGe
import Derived.Test.YtbddghdkmakjlaaGc
import Derived.Test.YtbddghdkmakjlaaNodC
namespace Go.Proofs.Ytbddghdkmakjlaa
set_option maxRecDepth 100000
set_option linter.unusedVariables false
open Go.RowKit

/-- In the midst of a region that stores at its end one may go over to a stronger condition. -/
theorem heldP_mono {P : Program} {md : Region.Mode} {ops : Array Oper} {Q : Exit → Act → World → Prop} {p : Nat} {S S' : World → Prop} (hS : ∀ w, S' w → S w) :
    ∀ (f : Nat) (l : Array Bool) (a : Act) (w : World), wpAnyP P md ops Q p S' f l a w → wpAnyP P md ops Q p S f l a w
  | 0, _, _, _, h => h
  | f + 1, _, _, _, h => ⟨h.1, fun i hi => wpOp_mono (fun a' w' h' => ⟨fun hn => hS _ (h'.1 hn), heldP_mono hS f _ a' w' h'.2⟩) (h.2 i hi)⟩

/-- The variable x of a law: it and what was laid behind it. -/
structure Xst (w0 w : World) (B bx : Nat) (X : Array Value) : Prop where
  x : Bx w bx X
  b : B ≤ w.heap.size
  w : Below w0.heap.size w0 w
  l : bx < B
  o : w0.heap.size ≤ bx
theorem Xst.later {w0 w w' : World} {B bx : Nat} {X : Array Value} (h : Xst w0 w B bx X) (hb : Below w.heap.size w w') : Xst w0 w' B bx X := ⟨h.x.later hb, Nat.le_trans h.b hb.size, h.w.trans (hb.mono h.w.size), h.l, h.o⟩
theorem Xst.grown {w0 w w' : World} {B bx : Nat} {X : Array Value} (h : Xst w0 w B bx X) {e : TypeId} {s : Nat} {v : Value} {n : Nat} {xs : List Value} (ho : w.ownsRow B e s v n xs) (hg : w.grownBy w' v.ownBlock) : Xst w0 w' B bx X :=
  ⟨h.x.grown hg (own_ne ho h.l), Nat.le_trans h.b hg.size, h.w.grown hg h.w.size (fun j hj => by have := (ho.lt j hj).1; have := h.l; have := h.o; omega), h.l, h.o⟩
theorem Xst.put {w0 w w' : World} {B bx : Nat} {X X' : Array Value} (h : Xst w0 w B bx X) (hb : But (· = bx) w w') (hz : w'.heap.size = w.heap.size) (hx : Bx w' bx X') : Xst w0 w' B bx X' :=
  ⟨hx, by rw [hz]; exact h.b, Below.but h.w h.w.size hb (fun k e => by have := h.o; omega), h.l, h.o⟩

theorem ld_st {w : World} {p : Addr} {v : Value} (h : w.cell? p = some v) : (Instr.loadAt 9 (.pointer (some p))).run Try.prog w = .ok v w := by simp [Instr.loadAt, Instr.sureAddr, go_sem, loadVar, h]
theorem mul1 {w : World} {b off i : Nat} {v : Value} (h : w.cell? ⟨b, off + i, none⟩ = some v) : w.cell? ⟨b, off + i * 1, none⟩ = some v := by rw [Nat.mul_one]; exact h
theorem one_byte (w : World) (z : Int) (h0 : 0 ≤ z) (h1 : z ≤ 255) : Sl (w.alloc (.cells (Value.int .u8 z).cells 5)) (.slice (some ⟨w.heap.size, 0, none⟩) 1 1) [z] := by
  have := World.ownsRow_lit (base := 0) (e := 5) (size := 1) w (Value.int .u8 z).cells 1 (Nat.zero_le _) (by unfold maxLen; omega) rfl
  exact Sl.own (zs := [z]) this (by intro q hq; rw [List.mem_singleton] at hq; omega)

section
variable {w : World} {o : Oper} {a : Act} {Q : Exit → Act → World → Prop} {K : Act → World → Prop}
/-- '[]byte{x, y}'. -/
theorem wp_litB2 (x y : Operand) (u v : Int) (hu : 0 ≤ u ∧ u ≤ 255) (hv : 0 ≤ v ∧ v ≤ 255) (hop : o.op = Op.buildSlice 30 2 #[(0, x), (1, y)]) (hx : a.eval x = .int .u8 u) (hy : a.eval y = .int .u8 v)
    (h : ∀ W, Below w.heap.size w W → Sl W (.slice (some ⟨w.heap.size, 0, none⟩) 2 2) [u, v] → K (a.put o.dst (.slice (some ⟨w.heap.size, 0, none⟩) 2 2)) W) : o.wp Try.prog a w K Q := by
  obtain ⟨i0, hi, hz0, hz1, hz2⟩ := info_parts Try.info5
  refine wp_buildSlice 30 5 2 _ hop #[.int .u8 u, .int .u8 v] i0 (.int .u8 0) Try.underlying30 hi hz0 (by rw [hz1]; omega) (by rw [hz1]; omega) ?_ (h _ ((Below.refl _ _).alloc (Nat.le_refl _) _) ?_)
  · rw [hz1]
    have hf := Great.fill_whole (s := 1) (by omega) [.int .u8 u, .int .u8 v] ((Array.range (2 * 1)).map ((Value.int .u8 0).cells[· % (Value.int .u8 0).cells.size]!)) (by intro v hv; simp only [List.mem_cons, List.not_mem_nil, or_false] at hv; rcases hv with rfl | rfl <;> rfl) (by simp)
    simp only [List.map_toArray, List.map_cons, List.map_nil, hx, hy]
    exact hf
  · have := World.ownsRow_lit (base := 0) (e := 5) (size := 1) w #[.int .u8 u, .int .u8 v] 2 (Nat.zero_le _) (by unfold maxLen; omega) rfl
    exact Sl.own (zs := [u, v]) this (by intro q hq; simp only [List.mem_cons, List.not_mem_nil, or_false] at hq; rcases hq with rfl | rfl <;> assumption)
/-- 'make([]byte, t)'. -/
theorem wp_mkB (x y : Operand) (t : Nat) (ht : t ≤ 1000000) (hop : o.op = Op.makeSlice 30 x y) (hx : a.eval x = .int .i64 (t : Int)) (hy : a.eval y = .int .i64 (t : Int))
    (h : ∀ W, Below w.heap.size w W → W.ownsRow w.heap.size 5 1 (.slice (some ⟨w.heap.size, 0, none⟩) t t) t (bv (List.replicate t 0)) → K (a.put o.dst (.slice (some ⟨w.heap.size, 0, none⟩) t t)) W) : o.wp Try.prog a w K Q := by
  obtain ⟨i0, hi, hz0, hz1, hz2⟩ := info_parts Try.info5
  have hmk := run_make (P := Try.prog) w 30 5 i0 (.int .u8 0) Try.underlying30 hi hz0 .i64 .i64 (t : Int) (t : Int) (by omega) (by omega) (by rw [hz2]; omega) (by omega)
  have hm2 : (Instr.makeSlice 30 (.int .i64 (t : Int)) (.int .i64 (t : Int))).run Try.prog w = .ok (.slice (some ⟨w.heap.size, 0, none⟩) t t) (w.alloc (.cells (madeCells #[Value.int .u8 0] t) 5)) := by
    rw [hz1, Nat.mul_one] at hmk
    exact hmk
  unfold Oper.wp
  simp only [execOp, hop, hx, hy, Sem.run_bind, hm2, Result.andThen_ok]
  refine h _ ((Below.refl _ _).alloc (Nat.le_refl _) _) ?_
  have hc : (madeCells #[Value.int .u8 0] t).toList = bv (List.replicate t 0) := by rw [toList_madeCells_one]; simp [bv]
  have := World.ownsRow_lit (base := w.heap.size) (e := 5) (size := 1) w (madeCells #[Value.int .u8 0] t) t (Nat.le_refl _) (by unfold maxLen; omega) (by rw [← Array.length_toList, hc]; simp [bv])
  rw [hc] at this
  exact this
end

section
variable {ops : Array Oper} {Q : Exit → Act → World → Prop} {n : Nat} {x : Nat → Value} {D : List Deferred} {w : World}
theorem kl_mkB (i : Nat) (d : Option Tmp) (y z : Operand) (t : Nat) (ht : t ≤ 1000000) (ho : ops[i]?.isSome = true) (hd : (opAt ops i).dst = d) (hw : wanx ops n x (opAt ops i) = true) (hop : (opAt ops i).op = .makeSlice 30 y z) (hy : evx n x y = .int .i64 (t : Int)) (hz : evx n x z = .int .i64 (t : Int))
    (hK : ∀ W, Below w.heap.size w W → W.ownsRow w.heap.size 5 1 (.slice (some ⟨w.heap.size, 0, none⟩) t t) t (bv (List.replicate t 0)) → WL Try.prog ops Q (i + 1) n (dput x d (.slice (some ⟨w.heap.size, 0, none⟩) t t)) D W) : WL Try.prog ops Q i n x D w :=
  kl_op i d ho hd hw fun _ hK' => wp_mkB y z t ht hop (fr_evals y hy) (fr_evals z hz) fun W h1 h2 => hK' _ _ (hK W h1 h2)
/-- A cell that is there is written. -/
theorem kl_putO (i : Nat) (ty : TypeId) (p y : Operand) (b k : Nat) (v u : Value) (ho : ops[i]?.isSome = true) (hd : (opAt ops i).dst = none) (hw : wanx ops n x (opAt ops i) = true) (hop : (opAt ops i).op = .store ty p y) (hp : evx n x p = .pointer (some ⟨b, k, none⟩)) (hy : evx n x y = v)
    (hc : w.cell? ⟨b, k, none⟩ = some u) (hf : w.frozen? ⟨b, k, none⟩ = false) (hi : (Try.prog.info? ty).map (·.size) = some 1) (hv : v.cells = #[v]) (hr : ∀ a W, (Go.store a v).run Try.prog W = stored Try.prog W a v .plain)
    (hK : WL Try.prog ops Q (i + 1) n x D (w.setCell ⟨b, k, none⟩ v)) : WL Try.prog ops Q i n x D w :=
  kl_op i none ho hd hw fun K' hK' => by
    have hs : (Instr.storeAt ty (.pointer (some ⟨b, k, none⟩)) v).run Try.prog w = .ok () (w.setCell ⟨b, k, none⟩ v) := by
      cases hq : Try.prog.info? ty with
      | none => simp [hq] at hi
      | some q =>
        have hs : q.size = 1 := by simpa [hq] using hi
        simp [Instr.storeAt, Instr.sureAddr, storeVar, sizeOf, typeInfo, hq, hs, hv, storeCells, hr, stored, hc, hf, add_plain]
    have hp' := fr_evals (D := D) p hp
    have hy' := fr_evals (D := D) y hy
    unfold Oper.wp
    simp only [execOp, hop, hp', hy', Sem.run_bind, hs, Result.andThen_ok]
    exact hK' undef _ hK
/-- 'b[:h]'. -/
theorem kl_cuth (i : Nat) (d : Option Tmp) (y z : Operand) (v : Value) (zs : List Int) (l : Int) (ho : ops[i]?.isSome = true) (hd : (opAt ops i).dst = d) (hw : wanx ops n x (opAt ops i) = true) (hop : (opAt ops i).op = .slice 30 y none (some z) none) (hy : evx n x y = v) (hz : evx n x z = .int .i64 l)
    (h : Sl w v zs) (h0 : 0 ≤ l) (h1 : l ≤ zs.length) (hK : ∀ V, Sl w V (zs.take l.toNat) → WL Try.prog ops Q (i + 1) n (dput x d V) D w) : WL Try.prog ops Q i n x D w := by
  obtain ⟨V, hr, hV⟩ := h.cut_h h0 h1
  exact kl_take i d V ho hd hw (by simp [execOp, hop, hy, hz, hr, Result.andThen]) (hK V hV)
/-- 'append(nil, x...)' of bytes. -/
theorem kl_appn (i : Nat) (d : Option Tmp) (s y : Operand) (v : Value) (zs : List Int) (ho : ops[i]?.isSome = true) (hd : (opAt ops i).dst = d) (hw : wanx ops n x (opAt ops i) = true) (hop : (opAt ops i).op = .call { callee := .builtin .append, args := #[s, y], argTypes := #[30, 30] })
    (hs : evx n x s = .slice none 0 0) (hy : evx n x y = v) (h : Sl w v zs) (hl : zs.length ≤ 140737488355328)
    (hK : ∀ v' W, W.ownsRow w.heap.size 5 1 v' zs.length (bv zs) → Below w.heap.size w W → WL Try.prog ops Q (i + 1) n (dput x d v') D W) : WL Try.prog ops Q i n x D w :=
  kl_op i d ho hd hw fun _ hK' => wp_append_sl s y 30 hop w.heap.size 5 Try.underlying30 Try.info5 (.slice none 0 0) 0 [] (fr_evals s hs) (World.ownsRow_nil _ _ _ _) v zs (fr_evals y hy) h (by omega) (Nat.le_refl _) fun v' W h1 h2 => hK' _ _ (hK v' W (by simpa using h1) (below_new h2))
end
end Go.Proofs.Ytbddghdkmakjlaa
