/-
  The law's own array of pages; a sheet, a book and that array together; a variable of three cells; the document's EqImages.
-/
import Derived.Test.YthihldepedbppaaShtT
import Derived.Test.YthihldepedbppaaOrw
namespace Go.Proofs.Ythihldepedbppaa
set_option maxRecDepth 100000
set_option linter.unusedVariables false
open Go.RowKit
set_option linter.unusedVariables false

/-- The law's own array of slices: what was set last. -/
structure Now (w : World) (B ab : Nat) (m : Nat → Option (List Int)) (vs : List Value) : Prop where
  at_ : Tb w 26 ab vs
  len : vs.length = 96
  pages : ∀ i, i < 96 → (m i = none ∧ vs.getD i undef = .slice none 0 0) ∨ ∃ zs b c, m i = some zs ∧ Pg zs ∧ vs.getD i undef = .slice (some ⟨b, 0, none⟩) 256 c ∧ w.ownsRow B 5 1 (.slice (some ⟨b, 0, none⟩) 256 c) 256 (bv zs)

section
variable {w w' : World} {B ab : Nat} {m : Nat → Option (List Int)} {vs : List Value}
theorem Now.later (h : Now w B ab m vs) (hb : Below w.heap.size w w') : Now w' B ab m vs :=
  ⟨h.at_.later hb, h.len, fun i hi => by
    rcases h.pages i hi with h1 | ⟨zs, b, c, h1, h2, h3, h4⟩
    · exact .inl h1
    · exact .inr ⟨zs, b, c, h1, h2, h3, own_later h4 hb⟩⟩
theorem Now.but {k : Nat} {t : TypeId} {us : List Value} (h : Now w B ab m vs) (hb : But (· = k) w w') (hk : Tb w t k us) (h1 : t ≠ 26) (h2 : t ≠ 5) : Now w' B ab m vs :=
  ⟨h.at_.but hb (h.at_.apart hk (Ne.symm h1)), h.len, fun i hi => by
    rcases h.pages i hi with q1 | ⟨zs, b, c, q1, q2, q3, q4⟩
    · exact .inl q1
    · exact .inr ⟨zs, b, c, q1, q2, q3, own_else q4 hb hk h2⟩⟩
/-- It holds slices alone. -/
theorem Now.cells (h : Now w B ab m vs) {j : Nat} {v : Value} (hc : w.cell? ⟨ab, j, none⟩ = some v) : ∃ a n c, v = .slice a n c := by
  have hj : j < vs.length := by
    rcases Nat.lt_or_ge j vs.length with hx | hx
    · exact hx
    · have := h.at_
      unfold Tb at this
      simp [World.cell?, this] at hc
      rw [List.getElem?_eq_none hx] at hc
      cases hc
  rw [h.at_.cell hj] at hc
  simp only [Option.some.injEq] at hc
  subst hc
  rw [h.len] at hj
  rcases h.pages j hj with ⟨-, e⟩ | ⟨zs, b, c, -, -, e, -⟩
  · exact ⟨_, _, _, e⟩
  · exact ⟨_, _, _, e⟩
/-- Bytes stay where it alone turns. -/
theorem Now.bytes (h : Now w B ab m vs) (hb : But (· = ab) w w') {v : Value} {zs : List Int} (hv : Sl w v zs) : Sl w' v zs := by
  obtain ⟨a, cap, e, h1, h2, h3, h4⟩ := hv
  refine ⟨a, cap, e, h1, h2, h3, fun i hi => ?_⟩
  obtain ⟨b, off, ea, hc⟩ := h4 i hi
  refine ⟨b, off, ea, ?_⟩
  have hn : b ≠ ab := by
    rintro rfl
    obtain ⟨_, _, _, e⟩ := h.cells hc
    cases e
  rw [hb.cell (p := ⟨b, off + i, none⟩) (cell_lt hc) hn, hc]
/-- One page more. -/
theorem Now.put {k b c : Nat} {zs : List Int} (h : Now w B ab m vs) (hk : k < 96) (hz : Pg zs) (ho : w.ownsRow B 5 1 (.slice (some ⟨b, 0, none⟩) 256 c) 256 (bv zs)) :
    Now (w.setCell ⟨ab, k, none⟩ (.slice (some ⟨b, 0, none⟩) 256 c)) B ab (put1 m k zs) (vs.set k (.slice (some ⟨b, 0, none⟩) 256 c)) := by
  have hbt := but_set w ab k (.slice (some ⟨b, 0, none⟩) 256 c)
  refine ⟨h.at_.set _ _, by rw [List.length_set]; exact h.len, fun i hi => ?_⟩
  rw [getD_set _ _ _ _ (by rw [h.len]; omega)]
  by_cases e : i = k
  · subst e
    exact .inr ⟨zs, b, c, put1_same _ _ _, hz, if_pos rfl, own_else ho hbt h.at_ (by decide)⟩
  · rw [if_neg e, put1_other _ e]
    rcases h.pages i hi with q1 | ⟨ys, b', c', q1, q2, q3, q4⟩
    · exact .inl q1
    · exact .inr ⟨ys, b', c', q1, q2, q3, own_else q4 hbt h.at_ (by decide)⟩
end

theorem info96 : (Try.prog.info? 26).map (fun i => (i.zero, i.size)) = some (some (.agg (List.replicate 96 (.slice none 0 0)).toArray), 96) := by kernel_rfl

/-- 'var now [96][]byte'. -/
theorem wpList_alloc96 {w : World} {ops : Array Oper} {rest : List Oper} {o : Oper} {a : Act} {Q : Exit → Act → World → Prop} (B : Nat) (hg : o.guard = none) (hop : o.op = Op.alloc 26)
    (hK : ∀ W vs, Below w.heap.size w W → Now W B w.heap.size (fun _ => none) vs → wpList Try.prog ops Q rest (a.put o.dst (.pointer (some ⟨w.heap.size, 0, none⟩))) W) : wpList Try.prog ops Q (o :: rest) a w := by
  refine wpList_plain hg fun K' hK' => ?_
  have hz := (zero_of_info info96).1 w
  generalize hv : List.replicate 96 (Value.slice none 0 0) = vs at hz
  have hl : vs.length = 96 := by rw [← hv]; exact List.length_replicate
  have hS : ∀ i, i < 96 → vs.getD i undef = .slice none 0 0 := fun i hi => by rw [← hv]; exact rep_getD _ 96 i hi
  have hr : (Instr.alloc 26 true (.tuple #[])).run Try.prog w = .ok (.pointer (some ⟨w.heap.size, 0, none⟩)) (w.alloc (.cells vs.toArray 26)) := by
    simp [Instr.alloc, newVar, newRow, Value.cells, hz, Result.andThen]
  unfold Oper.wp
  simp [execOp, hop, hr, Result.andThen]
  exact hK' _ _ (hK _ vs (below_alloc _ _) ⟨Tb.new _ _ _, hl, fun i hi => .inl ⟨rfl, hS i hi⟩⟩)

/-- The whole of it: the sheet has m, the array n. -/
structure St (B : Nat) (w W : World) (gs gb ab : Nat) (bad : Int) (m n f : Nat → Option (List Int)) : Prop where
  duo : Duo B w W gs gb bad m f
  now : ∃ vs, Now W B ab n vs
  lo : B ≤ ab

section
variable {B : Nat} {w W W' : World} {gs gb ab : Nat} {bad : Int} {m n f : Nat → Option (List Int)}
theorem St.later (h : St B w W gs gb ab bad m n f) (hb : Below W.heap.size W W') : St B w W' gs gb ab bad m n f := by
  obtain ⟨vs, hn⟩ := h.now
  exact ⟨h.duo.later hb, ⟨vs, hn.later hb⟩, h.lo⟩
theorem St.set (h : St B w W gs gb ab bad m n f) {z : Int} {no : Nat} (hn : z = (no : Int)) (hno : no < 96) {v : Value} {zs : List Int} (hv : Sl W v zs) (hz : Pg zs) :
    Calls Try.prog 12 #[.pointer (some ⟨gs, 0, none⟩), .int .i64 z, v] W fun e W' => e = .returned (.int .i64 0) ∧ St B w W' gs gb ab bad (put1 m no zs) n f ∧ But (· = gs) W W' ∧ ∀ {x : Value} {ys : List Int}, Sl W x ys → Sl W' x ys := by
  obtain ⟨us, hg⟩ := h.duo.sheet
  obtain ⟨vs, hw⟩ := h.now
  refine (h.duo.set hn hno hv hz).mono ?_
  rintro e W' ⟨rfl, hd, hb, hs⟩
  exact ⟨rfl, ⟨hd, ⟨vs, hw.but hb hg.at_ (by decide) (by decide)⟩, h.lo⟩, hb, hs⟩
theorem St.put {k b c : Nat} {zs : List Int} (h : St B w W gs gb ab bad m n f) (hk : k < 96) (hz : Pg zs) (ho : W.ownsRow B 5 1 (.slice (some ⟨b, 0, none⟩) 256 c) 256 (bv zs)) :
    St B w (W.setCell ⟨ab, k, none⟩ (.slice (some ⟨b, 0, none⟩) 256 c)) gs gb ab bad m (put1 n k zs) f := by
  obtain ⟨us, hg⟩ := h.duo.sheet
  obtain ⟨ks, hk'⟩ := h.duo.book
  obtain ⟨vs, hw⟩ := h.now
  have hbt := but_set W ab k (.slice (some ⟨b, 0, none⟩) 256 c)
  refine ⟨⟨⟨us, ?_⟩, ⟨ks, ?_⟩, Below.but h.duo.bel h.duo.big hbt (fun i e => by have := h.lo; omega), Nat.le_trans h.duo.big hbt.size, h.duo.lo⟩, ⟨_, hw.put hk hz ho⟩, h.lo⟩
  · exact ⟨hg.at_.but hbt (hg.at_.apart hw.at_ (by decide)), hg.len, hg.under, hg.face, fun i hi => by
      rcases hg.pages i hi with q1 | ⟨ys, b', q1, q2, q3, q4⟩
      · exact .inl q1
      · exact .inr ⟨ys, b', q1, q2, q3, Tb.but q4 hbt (Tb.apart q4 hw.at_ (by decide))⟩⟩
  · exact ⟨hk'.at_.but hbt (hk'.at_.apart hw.at_ (by decide)), hk'.len, hk'.worse, fun i hi => by
      rcases hk'.pages i hi with q1 | ⟨ys, a', n', c', q1, q2, q3, q4⟩
      · exact .inl q1
      · exact .inr ⟨ys, a', n', c', q1, q2, q3, hw.bytes hbt q4⟩⟩
end

theorem infoOp : (Try.prog.info? 33).map (fun i => (i.zero, i.size)) = some (some (.agg #[.int .i64 0, .int .i64 0, .slice none 0 0]), 3) := by kernel_rfl

section
variable {w : World} {ops : Array Oper} {rest : List Oper} {o : Oper} {a : Act} {Q : Exit → Act → World → Prop}
/-- 'o := ops[i]': the variable is laid, what is read is laid into it. -/
theorem wpList_allocO (hg : o.guard = none) (hop : o.op = Op.alloc 33)
    (hK : ∀ W, Below w.heap.size w W → Tb W 33 w.heap.size [.int .i64 0, .int .i64 0, .slice none 0 0] → wpList Try.prog ops Q rest (a.put o.dst (.pointer (some ⟨w.heap.size, 0, none⟩))) W) : wpList Try.prog ops Q (o :: rest) a w := by
  refine wpList_plain hg fun K' hK' => ?_
  have hz := (zero_of_info infoOp).1 w
  have hr : (Instr.alloc 33 true (.tuple #[])).run Try.prog w = .ok (.pointer (some ⟨w.heap.size, 0, none⟩)) (w.alloc (.cells #[.int .i64 0, .int .i64 0, .slice none 0 0] 33)) := by
    simp [Instr.alloc, newVar, newRow, Value.cells, hz, Result.andThen]
  unfold Oper.wp
  simp [execOp, hop, hr, Result.andThen]
  exact hK' _ _ (hK _ (below_alloc _ _) (Tb.new w 33 [.int .i64 0, .int .i64 0, .slice none 0 0]))
theorem wpList_storeO (x y : Operand) (hg : o.guard = none) (hop : o.op = Op.store 33 x y) (b : Nat) (u1 u2 : Int) (p : Option Addr) (n c : Nat) (us : List Value) (hx : a.eval x = .pointer (some ⟨b, 0, none⟩)) (hy : a.eval y = .agg #[.int .i64 u1, .int .i64 u2, .slice p n c]) (hb : Tb w 33 b us) (hl : us.length = 3)
    (hK : ∀ W, But (· = b) w W → Tb W 33 b [.int .i64 u1, .int .i64 u2, .slice p n c] → wpList Try.prog ops Q rest (a.put o.dst undef) W) : wpList Try.prog ops Q (o :: rest) a w := by
  have hr : (Instr.storeAt 33 (.pointer (some ⟨b, 0, none⟩)) (.agg #[.int .i64 u1, .int .i64 u2, .slice p n c])).run Try.prog w = .ok () (w.setRow b #[.int .i64 u1, .int .i64 u2, .slice p n c]) := by
    simp only [Instr.storeAt, Instr.sureAddr, Sem.run_bind, Sem.run_pure, Result.andThen_ok]
    exact run_storeVar_row w b _ _ us.toArray #[.int .i64 u1, .int .i64 u2, .slice p n c] hb (by rw [(zero_of_info infoOp).2]; rfl) (by rw [List.size_toArray, hl]; rfl) (Array.all_eq_true_iff_forall_mem.2 (by intro v hv; simp at hv; rcases hv with rfl | rfl | rfl <;> rfl))
  have hbox : Tb (w.setRow b #[.int .i64 u1, .int .i64 u2, .slice p n c]) 33 b [.int .i64 u1, .int .i64 u2, .slice p n c] := by
    unfold Tb at hb ⊢
    simp [World.setRow, Array.getElem?_modify, hb]
  refine wpList_plain hg fun K' hK' => ?_
  unfold Oper.wp
  simp [execOp, hop, hx, hy, hr, Result.andThen]
  refine hK' _ _ (hK _ ⟨rfl, rfl, rfl, by simp [World.setRow], fun k _ hk => ?_⟩ hbox)
  simp [World.setRow, Array.getElem?_modify, show ¬ b = k from fun e => hk e.symm]
theorem wpList_loadO (x : Operand) (hg : o.guard = none) (hop : o.op = Op.load 33 x) (b k : Nat) (u1 u2 : Int) (p : Option Addr) (n c : Nat) (hx : a.eval x = .pointer (some ⟨b, k, none⟩))
    (h0 : w.cell? ⟨b, k, none⟩ = some (.int .i64 u1)) (h1 : w.cell? ⟨b, k + 1, none⟩ = some (.int .i64 u2)) (h2 : w.cell? ⟨b, k + 2, none⟩ = some (.slice p n c))
    (hK : wpList Try.prog ops Q rest (a.put o.dst (.agg #[.int .i64 u1, .int .i64 u2, .slice p n c])) w) : wpList Try.prog ops Q (o :: rest) a w := by
  refine wpList_load_mid hg _ x hop b k hx [.int .i64 u1, .int .i64 u2, .slice p n c] _ (fun j v hv => ?_) Try.underlying33 rfl (by rw [(zero_of_info infoOp).2]; rfl) hK
  match j, hv with
  | 0, hv => simp at hv; subst hv; exact h0
  | 1, hv => simp at hv; subst hv; exact h1
  | 2, hv => simp at hv; subst hv; exact h2
  | j + 3, hv => simp at hv
end

set_option maxRecDepth 100000 in
set_option maxHeartbeats 4000000 in
/-- Images that say the same. -/
theorem eqIm_any {w : World} {b1 b2 : Nat} {v1 v2 : Value} {L1 L2 : List Im} (h1 : Igs w b1 v1 L1) (h2 : Igs w b2 v2 L2) (he : say L1 = say L2) :
    Calls Try.prog 15 #[v1, v2] w fun e w' => e = .returned (.bool true) ∧ Below w.heap.size w w' := by
  have hl : L1.length = L2.length := by
    have := congrArg List.length he
    simpa [say] using this
  obtain ⟨p1, n1, c1, rfl, hn1, hm1, Hn1, HL1⟩ := h1.opens
  obtain ⟨p2, n2, c2, rfl, hn2, hm2, Hn2, HL2⟩ := h2.opens
  obtain rfl : n1 = n2 := by rw [Hn1.out, Hn2.out, hl]
  have HE := hide he
  clear h1 h2 he hl
  go_enter Try.func15, Try.ntmps15
  go_wp2_with fail
  go_loopw [5] (fun i wr => ∃ k : Nat, k ≤ n1 ∧ i = .int .i64 k ∧ Hid (Below w.heap.size w wr)) (fun i _ => n1 - (RowKit.intOf i).toNat)
  case atStart => exact ⟨0, by omega, rfl, Below.refl _ _⟩
  case round =>
    obtain ⟨k, hk, rfl, HB⟩ := hrel
    by_cases hlt : k < n1
    · obtain ⟨g, x, rfl, hx, -, -, hpx, -, -⟩ := HL1.out.at_ hlt
      obtain ⟨g2, y, rfl, hy, -, -, hpy, -, -⟩ := HL2.out.at_ hlt
      have hxy : x.n = y.n ∧ x.z = y.z := by
        have h1 : (say L1)[k]? = some (x.n, x.z) := by rw [say, List.getElem?_map, hx]; rfl
        have h2 : (say L2)[k]? = some (y.n, y.z) := by rw [say, List.getElem?_map, hy]; rfl
        rw [HE.out, h2] at h1
        simp at h1
        exact ⟨h1.1.symm, h1.2.symm⟩
      have HQ : Hid (∀ W, Below w.heap.size w W → W.cell? ⟨g, k * 2, none⟩ = some (.int .i64 y.n) ∧ W.cell? ⟨g, k * 2 + 1, none⟩ = some (.slice (some ⟨x.b, 0, none⟩) 256 x.c) ∧ Sl W (.slice (some ⟨x.b, 0, none⟩) 256 x.c) y.z ∧
          W.cell? ⟨g2, k * 2, none⟩ = some (.int .i64 y.n) ∧ W.cell? ⟨g2, k * 2 + 1, none⟩ = some (.slice (some ⟨y.b, 0, none⟩) 256 y.c) ∧ Sl W (.slice (some ⟨y.b, 0, none⟩) 256 y.c) y.z) := fun W hW => by
        obtain ⟨g', x', e1, e2, e3, e4, e5, -, e6⟩ := (HL1.out.later hW).at_ hlt
        rw [hx] at e2
        simp only [Option.some.injEq, Addr.mk.injEq, and_true] at e1 e2
        obtain rfl := e1
        obtain rfl := e2
        obtain ⟨g', y', d1, d2, d3, d4, d5, -, d6⟩ := (HL2.out.later hW).at_ hlt
        rw [hy] at d2
        simp only [Option.some.injEq, Addr.mk.injEq, and_true] at d1 d2
        obtain rfl := d1
        obtain rfl := d2
        rw [← hxy.1, ← hxy.2]
        exact ⟨e3, e4, Sl.own e6 e5.2, by rw [hxy.1]; exact d3, d4, by rw [hxy.2]; exact Sl.own d6 d5.2⟩
      have HS1 : Hid (Sl wr (.slice (some ⟨x.b, 0, none⟩) 256 x.c) y.z) := (HQ.out wr HB.out).2.2.1
      have HS2 : Hid (Sl wr (.slice (some ⟨y.b, 0, none⟩) 256 y.c) y.z) := (HQ.out wr HB.out).2.2.2.2.2
      clear hx hy hpx hpy hxy
      generalize x.b = xb at *
      generalize x.c = xc0 at *
      generalize y.b = yb at *
      generalize y.c = yc at *
      generalize y.z = yz at *
      generalize y.n = yn at *
      go_upto_region 6 with fail
      refine wp_region_noPanic ?_
      refine wp_region_held_drew (S := fun W => Below wr.heap.size wr W) (by kernel_rfl) ?_ (fun hHeld => ?_)
      · exact (Below.refl _ _).drew
      have hs1 := HS1.out
      have hs2 := HS2.out
      refine wpAnyH_take (i := 0) (v := ?_) rfl (by kernel_rfl) (by kernel_rfl) (by kernel_rfl) (fun _ _ _ h => h) (Or.inl ⟨by kernel_rfl, ?_⟩) hHeld ?_
      rotate_left
      · intro W hW; go_simp; first | done | with_reducible rfl | rfl
      try simp only [Act.put, List.getElem_toArray, List.getElem_cons_zero, List.setIfInBounds_toArray, List.set_cons_succ, List.set_cons_zero]
      refine wpAnyH_take (i := 1) (v := ?_) rfl (by kernel_rfl) (by kernel_rfl) (by kernel_rfl) (fun _ _ _ h => h) (Or.inl ⟨by kernel_rfl, ?_⟩) hHeld ?_
      rotate_left
      · intro W hW; go_simp; first | done | with_reducible rfl | rfl
      try simp only [Act.put, List.getElem_toArray, List.getElem_cons_zero, List.getElem_cons_succ, List.setIfInBounds_toArray, List.set_cons_succ, List.set_cons_zero]
      refine wpAnyH_take (i := 2) (v := (.pointer (some ⟨g, k * 2, none⟩))) rfl (by kernel_rfl) (by kernel_rfl) (by kernel_rfl) (fun _ _ _ h => h) (Or.inl ⟨by kernel_rfl, ?_⟩) hHeld ?_
      · intro W hW; go_simp; first | done | with_reducible rfl | rfl
      try simp only [Act.put, List.getElem_toArray, List.getElem_cons_zero, List.getElem_cons_succ, List.setIfInBounds_toArray, List.set_cons_succ, List.set_cons_zero]
      refine wpAnyH_take (i := 3) (v := ?_) rfl (by kernel_rfl) (by kernel_rfl) (by kernel_rfl) (fun _ _ _ h => h) (Or.inl ⟨by kernel_rfl, ?_⟩) hHeld ?_
      rotate_left
      · intro W hW; go_simp; first | done | with_reducible rfl | rfl
      try simp only [Act.put, List.getElem_toArray, List.getElem_cons_zero, List.getElem_cons_succ, List.setIfInBounds_toArray, List.set_cons_succ, List.set_cons_zero]
      refine wpAnyH_take (i := 4) (v := .int .i64 (yn : Int)) rfl (by kernel_rfl) (by kernel_rfl) (by kernel_rfl) (fun _ _ _ h => h) (Or.inl ⟨by kernel_rfl, ?_⟩) hHeld ?_
      · intro W hW; have cc := (HQ.out W (HB.out.trans (hW.mono HB.out.size))).1; clear hW; go_simp; first | done | with_reducible rfl | rfl
      try simp only [Act.put, List.getElem_toArray, List.getElem_cons_zero, List.getElem_cons_succ, List.setIfInBounds_toArray, List.set_cons_succ, List.set_cons_zero]
      refine wpAnyH_take (i := 5) (v := ?_) rfl (by kernel_rfl) (by kernel_rfl) (by kernel_rfl) (fun _ _ _ h => h) (Or.inl ⟨by kernel_rfl, ?_⟩) hHeld ?_
      rotate_left
      · intro W hW; go_simp; first | done | with_reducible rfl | rfl
      try simp only [Act.put, List.getElem_toArray, List.getElem_cons_zero, List.getElem_cons_succ, List.setIfInBounds_toArray, List.set_cons_succ, List.set_cons_zero]
      refine wpAnyH_take (i := 6) (v := ?_) rfl (by kernel_rfl) (by kernel_rfl) (by kernel_rfl) (fun _ _ _ h => h) (Or.inl ⟨by kernel_rfl, ?_⟩) hHeld ?_
      rotate_left
      · intro W hW; go_simp; first | done | with_reducible rfl | rfl
      try simp only [Act.put, List.getElem_toArray, List.getElem_cons_zero, List.getElem_cons_succ, List.setIfInBounds_toArray, List.set_cons_succ, List.set_cons_zero]
      refine wpAnyH_take (i := 7) (v := (.pointer (some ⟨g2, k * 2, none⟩))) rfl (by kernel_rfl) (by kernel_rfl) (by kernel_rfl) (fun _ _ _ h => h) (Or.inl ⟨by kernel_rfl, ?_⟩) hHeld ?_
      · intro W hW; go_simp; first | done | with_reducible rfl | rfl
      try simp only [Act.put, List.getElem_toArray, List.getElem_cons_zero, List.getElem_cons_succ, List.setIfInBounds_toArray, List.set_cons_succ, List.set_cons_zero]
      refine wpAnyH_take (i := 8) (v := ?_) rfl (by kernel_rfl) (by kernel_rfl) (by kernel_rfl) (fun _ _ _ h => h) (Or.inl ⟨by kernel_rfl, ?_⟩) hHeld ?_
      rotate_left
      · intro W hW; go_simp; first | done | with_reducible rfl | rfl
      try simp only [Act.put, List.getElem_toArray, List.getElem_cons_zero, List.getElem_cons_succ, List.setIfInBounds_toArray, List.set_cons_succ, List.set_cons_zero]
      refine wpAnyH_take (i := 9) (v := .int .i64 (yn : Int)) rfl (by kernel_rfl) (by kernel_rfl) (by kernel_rfl) (fun _ _ _ h => h) (Or.inl ⟨by kernel_rfl, ?_⟩) hHeld ?_
      · intro W hW; have cc := (HQ.out W (HB.out.trans (hW.mono HB.out.size))).2.2.2.1; clear hW; go_simp; first | done | with_reducible rfl | rfl
      try simp only [Act.put, List.getElem_toArray, List.getElem_cons_zero, List.getElem_cons_succ, List.setIfInBounds_toArray, List.set_cons_succ, List.set_cons_zero]
      refine wpAnyH_take (i := 10) (v := (.bool false)) rfl (by kernel_rfl) (by kernel_rfl) (by kernel_rfl) (fun _ _ _ h => h) (Or.inl ⟨by kernel_rfl, ?_⟩) hHeld ?_
      · intro W hW; go_simp; first | done | with_reducible rfl | rfl
      try simp only [Act.put, List.getElem_toArray, List.getElem_cons_zero, List.getElem_cons_succ, List.setIfInBounds_toArray, List.set_cons_succ, List.set_cons_zero]
      refine wpAnyH_take (i := 11) (v := ?_) rfl (by kernel_rfl) (by kernel_rfl) (by kernel_rfl) (fun _ _ _ h => h) (Or.inl ⟨by kernel_rfl, ?_⟩) hHeld ?_
      rotate_left
      · intro W hW; go_simp; first | done | with_reducible rfl | rfl
      try simp only [Act.put, List.getElem_toArray, List.getElem_cons_zero, List.getElem_cons_succ, List.setIfInBounds_toArray, List.set_cons_succ, List.set_cons_zero]
      refine wpAnyH_take (i := 12) (v := ?_) rfl (by kernel_rfl) (by kernel_rfl) (by kernel_rfl) (fun _ _ _ h => h) (Or.inl ⟨by kernel_rfl, ?_⟩) hHeld ?_
      rotate_left
      · intro W hW; go_simp; first | done | with_reducible rfl | rfl
      try simp only [Act.put, List.getElem_toArray, List.getElem_cons_zero, List.getElem_cons_succ, List.setIfInBounds_toArray, List.set_cons_succ, List.set_cons_zero]
      refine wpAnyH_take (i := 13) (v := ?_) rfl (by kernel_rfl) (by kernel_rfl) (by kernel_rfl) (fun _ _ _ h => h) (Or.inl ⟨by kernel_rfl, ?_⟩) hHeld ?_
      rotate_left
      · intro W hW; go_simp; first | done | with_reducible rfl | rfl
      try simp only [Act.put, List.getElem_toArray, List.getElem_cons_zero, List.getElem_cons_succ, List.setIfInBounds_toArray, List.set_cons_succ, List.set_cons_zero]
      refine wpAnyH_take (i := 14) (v := (.pointer (some ⟨g, k * 2, none⟩))) rfl (by kernel_rfl) (by kernel_rfl) (by kernel_rfl) (fun _ _ _ h => h) (Or.inl ⟨by kernel_rfl, ?_⟩) hHeld ?_
      · intro W hW; go_simp; first | done | with_reducible rfl | rfl
      try simp only [Act.put, List.getElem_toArray, List.getElem_cons_zero, List.getElem_cons_succ, List.setIfInBounds_toArray, List.set_cons_succ, List.set_cons_zero]
      refine wpAnyH_take (i := 15) (v := ?_) rfl (by kernel_rfl) (by kernel_rfl) (by kernel_rfl) (fun _ _ _ h => h) (Or.inl ⟨by kernel_rfl, ?_⟩) hHeld ?_
      rotate_left
      · intro W hW; go_simp; first | done | with_reducible rfl | rfl
      try simp only [Act.put, List.getElem_toArray, List.getElem_cons_zero, List.getElem_cons_succ, List.setIfInBounds_toArray, List.set_cons_succ, List.set_cons_zero]
      refine wpAnyH_take (i := 16) (v := .slice (some ⟨xb, 0, none⟩) 256 xc0) rfl (by kernel_rfl) (by kernel_rfl) (by kernel_rfl) (fun _ _ _ h => h) (Or.inl ⟨by kernel_rfl, ?_⟩) hHeld ?_
      · intro W hW; have cc := (HQ.out W (HB.out.trans (hW.mono HB.out.size))).2.1; clear hW; go_simp; first | done | with_reducible rfl | rfl
      try simp only [Act.put, List.getElem_toArray, List.getElem_cons_zero, List.getElem_cons_succ, List.setIfInBounds_toArray, List.set_cons_succ, List.set_cons_zero]
      refine wpAnyH_take (i := 17) (v := .string (strOfNums (yz))) rfl (by kernel_rfl) (by kernel_rfl) (by kernel_rfl) (fun _ _ _ h => h) (Or.inl ⟨by kernel_rfl, ?_⟩) hHeld ?_
      · intro W hW; have hcv := (hs1.later hW).conv (P := Try.prog) 22 9 5 Try.underlying22 Try.underlying5 Try.underlying9; go_simp
      try simp only [Act.put, List.getElem_toArray, List.getElem_cons_zero, List.getElem_cons_succ, List.setIfInBounds_toArray, List.set_cons_succ, List.set_cons_zero]
      refine wpAnyH_take (i := 18) (v := ?_) rfl (by kernel_rfl) (by kernel_rfl) (by kernel_rfl) (fun _ _ _ h => h) (Or.inl ⟨by kernel_rfl, ?_⟩) hHeld ?_
      rotate_left
      · intro W hW; go_simp; first | done | with_reducible rfl | rfl
      try simp only [Act.put, List.getElem_toArray, List.getElem_cons_zero, List.getElem_cons_succ, List.setIfInBounds_toArray, List.set_cons_succ, List.set_cons_zero]
      refine wpAnyH_take (i := 19) (v := ?_) rfl (by kernel_rfl) (by kernel_rfl) (by kernel_rfl) (fun _ _ _ h => h) (Or.inl ⟨by kernel_rfl, ?_⟩) hHeld ?_
      rotate_left
      · intro W hW; go_simp; first | done | with_reducible rfl | rfl
      try simp only [Act.put, List.getElem_toArray, List.getElem_cons_zero, List.getElem_cons_succ, List.setIfInBounds_toArray, List.set_cons_succ, List.set_cons_zero]
      refine wpAnyH_take (i := 20) (v := (.pointer (some ⟨g2, k * 2, none⟩))) rfl (by kernel_rfl) (by kernel_rfl) (by kernel_rfl) (fun _ _ _ h => h) (Or.inl ⟨by kernel_rfl, ?_⟩) hHeld ?_
      · intro W hW; go_simp; first | done | with_reducible rfl | rfl
      try simp only [Act.put, List.getElem_toArray, List.getElem_cons_zero, List.getElem_cons_succ, List.setIfInBounds_toArray, List.set_cons_succ, List.set_cons_zero]
      refine wpAnyH_take (i := 21) (v := ?_) rfl (by kernel_rfl) (by kernel_rfl) (by kernel_rfl) (fun _ _ _ h => h) (Or.inl ⟨by kernel_rfl, ?_⟩) hHeld ?_
      rotate_left
      · intro W hW; go_simp; first | done | with_reducible rfl | rfl
      try simp only [Act.put, List.getElem_toArray, List.getElem_cons_zero, List.getElem_cons_succ, List.setIfInBounds_toArray, List.set_cons_succ, List.set_cons_zero]
      refine wpAnyH_take (i := 22) (v := .slice (some ⟨yb, 0, none⟩) 256 yc) rfl (by kernel_rfl) (by kernel_rfl) (by kernel_rfl) (fun _ _ _ h => h) (Or.inl ⟨by kernel_rfl, ?_⟩) hHeld ?_
      · intro W hW; have cc := (HQ.out W (HB.out.trans (hW.mono HB.out.size))).2.2.2.2.1; clear hW; go_simp; first | done | with_reducible rfl | rfl
      try simp only [Act.put, List.getElem_toArray, List.getElem_cons_zero, List.getElem_cons_succ, List.setIfInBounds_toArray, List.set_cons_succ, List.set_cons_zero]
      refine wpAnyH_take (i := 23) (v := .string (strOfNums (yz))) rfl (by kernel_rfl) (by kernel_rfl) (by kernel_rfl) (fun _ _ _ h => h) (Or.inl ⟨by kernel_rfl, ?_⟩) hHeld ?_
      · intro W hW; have hcv := (hs2.later hW).conv (P := Try.prog) 22 9 5 Try.underlying22 Try.underlying5 Try.underlying9; go_simp
      try simp only [Act.put, List.getElem_toArray, List.getElem_cons_zero, List.getElem_cons_succ, List.setIfInBounds_toArray, List.set_cons_succ, List.set_cons_zero]
      refine wpAnyH_take (i := 24) (v := (.bool false)) rfl (by kernel_rfl) (by kernel_rfl) (by kernel_rfl) (fun _ _ _ h => h) (Or.inl ⟨by kernel_rfl, ?_⟩) hHeld ?_
      · intro W hW; go_simp; first | done | with_reducible rfl | rfl
      try simp only [Act.put, List.getElem_toArray, List.getElem_cons_zero, List.getElem_cons_succ, List.setIfInBounds_toArray, List.set_cons_succ, List.set_cons_zero]
      refine wpAnyH_take (i := 25) (v := (.bool false)) rfl (by kernel_rfl) (by kernel_rfl) (by kernel_rfl) (fun _ _ _ h => h) (Or.inl ⟨by kernel_rfl, ?_⟩) hHeld ?_
      · intro W hW; go_simp; first | done | with_reducible rfl | rfl
      try simp only [Act.put, List.getElem_toArray, List.getElem_cons_zero, List.getElem_cons_succ, List.setIfInBounds_toArray, List.set_cons_succ, List.set_cons_zero]
      refine wpAnyH_done (by kernel_rfl) ?_ _
      refine NoPanic.normal ?_
      go_simp
      have HB2 := hide HB.out.drew
      clear hHeld HQ HB HS1 HS2 hs1 hs2
      go_wp2_with fail
      go_roundw
      case rel => exact ⟨k + 1, by omega, by go_num, HB2⟩
      case measure => simp [RowKit.intOf]; omega
    · obtain rfl : k = n1 := by omega
      go_wp2_with fail
      go_ret
      exact ⟨rfl, HB.out⟩

/-- A book all of whose pages can be read from here on. -/
theorem Book.bad0 {w : World} {g : Nat} {bad : Int} {vs : List Value} (h : Book w g bad (fun _ => none) vs) : Book (w.setCell ⟨g, 96, none⟩ (.int .i64 0)) g 0 (fun _ => none) (vs.set 96 (.int .i64 0)) := by
  refine ⟨h.at_.set _ _, by rw [List.length_set]; exact h.len, ?_, fun i hi => ?_⟩
  · rw [getD_set _ _ _ _ (by rw [h.len]; omega), if_pos rfl]
  · rw [getD_set _ _ _ _ (by rw [h.len]; omega), if_neg (by omega)]
    rcases h.pages i hi with h1 | ⟨_, _, _, _, h1, _⟩
    · exact .inl h1
    · cases h1

/-- No such page: whatever is set, it isn't. -/
theorem set_bad {w : World} {g : Nat} {z : Int} {v : Value} {zs : List Int} (hv : Sl w v zs) (hz : ¬ (0 ≤ z ∧ z < 96)) :
    Calls Try.prog 12 #[.pointer (some ⟨g, 0, none⟩), .int .i64 z, v] w fun e w' => ∃ er : Int, e = .returned (.int .i64 er) ∧ (er == 0) = false ∧ w' = w := by
  by_cases hl : zs.length = 256
  · refine (set_out hv hl hz).mono ?_
    rintro e w' ⟨rfl, rfl⟩
    exact ⟨3, rfl, rfl, rfl⟩
  · refine (set_form hv hl).mono ?_
    rintro e w' ⟨rfl, rfl⟩
    exact ⟨1, rfl, rfl, rfl⟩

/-- What stands in the array: none; a page. -/
theorem St.nowNone {B : Nat} {w W : World} {gs gb ab : Nat} {bad : Int} {m n f : Nat → Option (List Int)} (h : St B w W gs gb ab bad m n f) {k : Nat} (hk : k < 96) (hm : n k = none) : W.cell? ⟨ab, k, none⟩ = some (.slice none 0 0) := by
  obtain ⟨vs, hn⟩ := h.now
  rw [hn.at_.cell (by rw [hn.len]; exact hk)]
  rcases hn.pages k hk with ⟨-, e⟩ | ⟨zs, b, c, h1, -⟩
  · rw [e]
  · rw [hm] at h1; cases h1
theorem St.nowPage {B : Nat} {w W : World} {gs gb ab : Nat} {bad : Int} {m n f : Nat → Option (List Int)} (h : St B w W gs gb ab bad m n f) {k : Nat} (hk : k < 96) {zs : List Int} (hm : n k = some zs) : ∃ b c, Pg zs ∧ W.ownsRow B 5 1 (.slice (some ⟨b, 0, none⟩) 256 c) 256 (bv zs) ∧ W.cell? ⟨ab, k, none⟩ = some (.slice (some ⟨b, 0, none⟩) 256 c) := by
  obtain ⟨vs, hn⟩ := h.now
  rcases hn.pages k hk with ⟨e, -⟩ | ⟨ys, b, c, h1, h2, h3, h4⟩
  · rw [hm] at e; cases e
  · rw [hm] at h1
    obtain rfl := Option.some.inj h1
    exact ⟨b, c, h2, h4, by rw [hn.at_.cell (by rw [hn.len]; exact hk), h3]⟩
theorem St.nowSome {B : Nat} {w W : World} {gs gb ab : Nat} {bad : Int} {m n f : Nat → Option (List Int)} (h : St B w W gs gb ab bad m n f) {k : Nat} (hk : k < 96) {zs : List Int} (hm : n k = some zs) : ∃ b c, (convert 22 9 (.slice (some ⟨b, 0, none⟩) 256 c)).run Try.prog W = .ok (.string (strOfNums zs)) W ∧ W.cell? ⟨ab, k, none⟩ = some (.slice (some ⟨b, 0, none⟩) 256 c) := by
  obtain ⟨b, c, h1, h2, h3⟩ := h.nowPage hk hm
  exact ⟨b, c, (Sl.own h2 h1.2).conv (P := Try.prog) 22 9 5 Try.underlying22 Try.underlying5 Try.underlying9, h3⟩
end Go.Proofs.Ythihldepedbppaa
