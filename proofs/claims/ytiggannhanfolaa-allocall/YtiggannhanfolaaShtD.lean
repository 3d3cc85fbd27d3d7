/-
  Contracts of sheet.New, Set; a page as an array of its own.
-/
import Derived.Test.YtiggannhanfolaaShtC
import Derived.Deep.WholeRow
namespace Go.Proofs.Ytiggannhanfolaa
set_option maxRecDepth 100000
set_option linter.unusedVariables false
open Go.RowKit
set_option linter.unusedVariables false

/-- A new sheet's cells. -/
def shz (u : Value) : List Value := u :: List.replicate 96 (.pointer none)
theorem shz_len (u : Value) : (shz u).length = 97 := by simp [shz]
theorem rep_getD (v : Value) (N i : Nat) (h : i < N) : (List.replicate N v).getD i undef = v := by simp [List.getD, h]
theorem shz_at (u : Value) {i : Nat} (h : i < 96) : (shz u).getD (i + 1) undef = .pointer none := rep_getD _ 96 i h

theorem run_buildS (T : TypeId) (p : Value) (W : World) : (Instr.build 57 #[(0, .iface T p)]).run Try.prog W = .ok (.agg (shz (.iface T p)).toArray) W := by kernel_rfl
theorem run_buildN (W : World) : (Instr.build 57 #[(0, .nilIface)]).run Try.prog W = .ok (.agg (shz .nilIface).toArray) W := by kernel_rfl

theorem Sheet.new (w : World) {u : Value} (hu : u = .nilIface ∨ ∃ T p, u = .iface T p) : Sheet (w.alloc (.cells (shz u).toArray 57)) w.heap.size u (fun _ => none) (shz u) :=
  ⟨Tb.new _ _ _, shz_len u, rfl, hu, fun i hi => .inl ⟨rfl, shz_at u hi⟩⟩

/-- A value of many cells is built. -/
theorem wpList_buildT {w : World} {ops : Array Oper} {rest : List Oper} {o : Oper} {a : Act} {Q : Exit → Act → World → Prop} (ty : TypeId) (i : Nat) (x : Operand) (vs : List Value) (hg : o.guard = none) (hop : o.op = Op.build ty #[(i, x)]) (u : Value) (hx : a.eval x = u)
    (hr : (Instr.build ty #[(i, u)]).run Try.prog w = .ok (.agg vs.toArray) w)
    (hK : wpList Try.prog ops Q rest (a.put o.dst (.agg vs.toArray)) w) : wpList Try.prog ops Q (o :: rest) a w := by
  refine wpList_plain hg fun K' hK' => ?_
  have he : (execOp a.eval o).run Try.prog w = .ok (.value (.agg vs.toArray)) w := by
    simp only [execOp, hop, Sem.run_bind, List.map_toArray, List.map_cons, List.map_nil, hx, hr, Result.andThen_ok]
    rfl
  unfold Oper.wp
  rw [he]
  exact hK' _ _ hK

/-- A variable is laid, a value of many cells in it. -/
theorem wpList_boxT {w : World} {ops : Array Oper} {rest : List Oper} {o : Oper} {a : Act} {Q : Exit → Act → World → Prop} (ty : TypeId) (x : Operand) (vs : List Value) (hg : o.guard = none) (hop : o.op = Op.box ty x) (hx : a.eval x = .agg vs.toArray)
    (hK : wpList Try.prog ops Q rest (a.put o.dst (.pointer (some ⟨w.heap.size, 0, none⟩))) (w.alloc (.cells vs.toArray ty))) : wpList Try.prog ops Q (o :: rest) a w := by
  refine wpList_plain hg fun K' hK' => ?_
  have hr : (Instr.box ty (.agg vs.toArray)).run Try.prog w = .ok (.pointer (some ⟨w.heap.size, 0, none⟩)) (w.alloc (.cells vs.toArray ty)) := by
    simp [Instr.box, newVar, newRow, Value.cells, go_sem, Result.andThen]
  unfold Oper.wp
  simp [execOp, hop, hx, hr, Result.andThen]
  exact hK' _ _ hK

set_option maxHeartbeats 1000000 in
theorem new_any (T : TypeId) (p : Value) (w : World) :
    Calls Try.prog 9 #[.iface T p] w fun e w' => e = .returned (.pointer (some ⟨w.heap.size, 0, none⟩)) ∧ Sheet w' w.heap.size (.iface T p) (fun _ => none) (shz (.iface T p)) ∧ Below w.heap.size w w' := by
  have HB0 := hide (run_buildS T p w)
  have HS := hide (Sheet.new w (u := .iface T p) (.inr ⟨T, p, rfl⟩))
  have HB : Hid (Below w.heap.size w (w.alloc (.cells (shz (.iface T p)).toArray 57))) := (Below.refl _ _).alloc (Nat.le_refl _) _
  generalize hq : shz (.iface T p) = q at *
  go_enter Try.func9, Try.ntmps9
  go_wp2_with (first
    | (refine wpList_buildT 57 0 (.tmp 3) q rfl rfl (.iface T p) rfl HB0.out ?_)
    | (refine wpList_boxT 57 _ q rfl rfl rfl ?_))
  go_ret
  exact ⟨rfl, HS.out, HB.out⟩

set_option maxHeartbeats 1000000 in
theorem new_none (w : World) :
    Calls Try.prog 9 #[.nilIface] w fun e w' => e = .returned (.pointer (some ⟨w.heap.size, 0, none⟩)) ∧ Sheet w' w.heap.size .nilIface (fun _ => none) (shz .nilIface) ∧ Below w.heap.size w w' := by
  have HB0 := hide (run_buildN w)
  have HS := hide (Sheet.new w (u := .nilIface) (.inl rfl))
  have HB : Hid (Below w.heap.size w (w.alloc (.cells (shz .nilIface).toArray 57))) := (Below.refl _ _).alloc (Nat.le_refl _) _
  generalize hq : shz .nilIface = q at *
  go_enter Try.func9, Try.ntmps9
  go_wp2_with (first
    | (refine wpList_buildT 57 0 (.tmp 3) q rfl rfl .nilIface rfl HB0.out ?_)
    | (refine wpList_boxT 57 _ q rfl rfl rfl ?_))
  go_ret
  exact ⟨rfl, HS.out, HB.out⟩

theorem infoP : (Try.prog.info? 63).map (fun i => (i.zero, i.size)) = some (some (.agg (bv zer).toArray), 256) := by kernel_rfl
theorem sizeP : (Try.prog.info? 63).map (·.size) = some 256 := (zero_of_info infoP).2
theorem zeroP (w : World) : (zeroValue 63).run Try.prog w = .ok (.agg (bv zer).toArray) w := (zero_of_info infoP).1 w
theorem arrayAt_P (W : World) (a : Option Addr) (cp : Nat) : (Instr.arrayAt 63 (.slice a 256 cp)).run Try.prog W = .ok (.pointer a) W := by kernel_rfl

section
variable {w : World} {ops : Array Oper} {rest : List Oper} {o : Oper} {a : Act} {Q : Exit → Act → World → Prop}

theorem wpList_allocP (hg : o.guard = none) (hop : o.op = Op.alloc 63)
    (hK : ∀ W, Below w.heap.size w W → Pk W w.heap.size zer → wpList Try.prog ops Q rest (a.put o.dst (.pointer (some ⟨w.heap.size, 0, none⟩))) W) : wpList Try.prog ops Q (o :: rest) a w := by
  refine wpList_plain hg fun K' hK' => ?_
  have hr : (Instr.alloc 63 true (.tuple #[])).run Try.prog w = .ok (.pointer (some ⟨w.heap.size, 0, none⟩)) (w.alloc (.cells (bv zer).toArray 63)) := by
    simp only [Instr.alloc, newVar, newRow, Value.cells, Sem.run_bind, zeroP, Result.andThen_ok]
    rfl
  unfold Oper.wp
  simp only [execOp, hop, Sem.run_bind, hr, Result.andThen_ok]
  exact hK' _ _ (hK _ ((Below.refl _ _).alloc (Nat.le_refl _) _) (Tb.new _ _ _))

theorem wpList_storeP (x y : Operand) (hg : o.guard = none) (hop : o.op = Op.store 63 x y) (b : Nat) (s t : List Int) (hx : a.eval x = .pointer (some ⟨b, 0, none⟩)) (hy : a.eval y = .agg (bv s).toArray) (hb : Pk w b t) (ht : t.length = 256) (hs : s.length = 256)
    (hK : ∀ W, But (· = b) w W → Pk W b s → wpList Try.prog ops Q rest (a.put o.dst undef) W) : wpList Try.prog ops Q (o :: rest) a w := by
  have hr : (Instr.storeAt 63 (.pointer (some ⟨b, 0, none⟩)) (.agg (bv s).toArray)).run Try.prog w = .ok () (w.setRow b (bv s).toArray) := by
    simp only [Instr.storeAt, Instr.sureAddr, Sem.run_bind, Sem.run_pure, Result.andThen_ok]
    exact run_storeVar_row w b _ _ (bv t).toArray (bv s).toArray hb (by rw [sizeP, List.size_toArray, bv_len, hs]) (by rw [List.size_toArray, List.size_toArray, bv_len, bv_len, hs, ht]) (Array.all_eq_true_iff_forall_mem.2 (fun v hv => bv_one s v (by simpa using hv)))
  have hbox : Pk (w.setRow b (bv s).toArray) b s := by
    unfold Pk Tb at hb ⊢
    simp [World.setRow, Array.getElem?_modify, hb]
  refine wpList_plain hg fun K' hK' => ?_
  unfold Oper.wp
  simp [execOp, hop, hx, hy, hr, Result.andThen]
  refine hK' _ _ (hK _ ⟨rfl, rfl, rfl, by simp [World.setRow], fun k _ hk => ?_⟩ hbox)
  simp [World.setRow, Array.getElem?_modify, show ¬ b = k from fun e => hk e.symm]

theorem wpList_loadP (x : Operand) (hg : o.guard = none) (hop : o.op = Op.load 63 x) (b k cp : Nat) (s : List Int) (hx : a.eval x = .pointer (some ⟨b, k, none⟩)) (hb : Sl w (.slice (some ⟨b, k, none⟩) 256 cp) s)
    (hK : wpList Try.prog ops Q rest (a.put o.dst (.agg (bv s).toArray)) w) : wpList Try.prog ops Q (o :: rest) a w := by
  have hl := hb.lens.1
  refine wpList_load_mid hg _ x hop b k hx (bv s) _ (fun j v hv => ?_) Try.underlying63 rfl (by rw [sizeP, bv_len, ← hl]) hK
  have hj : j < (bv s).length := (List.getElem?_eq_some_iff.1 hv).1
  rw [bv_len] at hj
  obtain ⟨b', off, e, hc, -, -⟩ := hb.cell (i := j) (by omega)
  simp only [Option.some.injEq, Addr.mk.injEq, and_true] at e
  obtain ⟨rfl, rfl⟩ := e
  rw [hc]
  rw [← hv]
  simp [bv, List.getD, List.getElem?_eq_getElem hj]
end

set_option maxHeartbeats 1000000 in
theorem set_any {w : World} {g : Nat} {u : Value} {m : Nat → Option (List Int)} {vs : List Value} (h : Sheet w g u m vs) (no : Nat) (hno : no < 96) {v : Value} {zs : List Int} (hv : Sl w v zs) (hz : Pg zs) :
    Calls Try.prog 12 #[.pointer (some ⟨g, 0, none⟩), .int .i64 (no : Int), v] w fun e w' => e = .returned (.int .i64 0) ∧ ∃ vs', Sheet w' g u (put1 m no zs) vs' ∧ But (· = g) w w' := by
  have hp1 : (decide (0 ≤ (no : Int)) && decide ((no : Int) < 96)) = true := by simp; omega
  have harr := arrayAt_P
  obtain ⟨p, n, cp, rfl, hnc, hcp, Hn, HV⟩ := hv.opens
  obtain rfl : n = 256 := by rw [Hn.out, hz.1]
  obtain ⟨b, off, rfl, -⟩ := HV.out.cell (i := 0) (by omega)
  have HZ := hide hz
  have HH := hide h
  have hgl := h.at_.lt
  clear hv hz h Hn
  go_enter Try.func12, Try.ntmps12
  go_wp2_with (first
    | (with_reducible refine (sis_any _ _).mono ?_; rintro e w ⟨rfl, rfl⟩; rw [hp1])
    | (refine wpList_loadP _ rfl rfl b off cp zs rfl HV.out ?_)
    | (refine wpList_allocP rfl rfl ?_; intro W1 hB1 hP1)
    | (refine wpList_storeP (.tmp 7) (.tmp 18) rfl rfl w.heap.size zs zer rfl rfl hP1 zer_len HZ.out.1 ?_; intro W2 hb2 hP2; have hB2 : Below w.heap.size w W2 := Below.but hB1 hB1.size hb2 (fun k e => by omega); have HS2 := hide (HH.out.later hB2); have hc2 := HS2.out.at_.cell (i := 1 + no) (by rw [HH.out.len]; omega); have hf2 := HS2.out.at_.frozen (1 + no)))
  go_ret
  have hp := HS2.out
  have hq := (HH.out.put hB2 hP2 HZ.out hno)
  rw [Nat.add_comm no 1] at hq
  exact ⟨rfl, _, hq, (But.of (S := (· = g)) hB2).setCell (p := ⟨g, 1 + no, none⟩) (.inl rfl) _⟩

set_option maxHeartbeats 1000000 in
theorem set_form {w : World} {g : Nat} {z : Int} {v : Value} {zs : List Int} (hv : Sl w v zs) (hz : zs.length ≠ 256) :
    Calls Try.prog 12 #[.pointer (some ⟨g, 0, none⟩), .int .i64 z, v] w fun e w' => e = .returned (.int .i64 1) ∧ w' = w := by
  obtain ⟨p, n, cp, rfl, hnc, hcp, Hn, HV⟩ := hv.opens
  have hn : ((n : Int) == 256) = false := by have := Hn.out; simp; omega
  clear hv hz Hn
  go_enter Try.func12, Try.ntmps12
  go_wp2_with fail
  go_ret
  exact ⟨rfl, rfl⟩

set_option maxHeartbeats 1000000 in
theorem set_out {w : World} {g : Nat} {z : Int} {v : Value} {zs : List Int} (hv : Sl w v zs) (hl : zs.length = 256) (hz : ¬ (0 ≤ z ∧ z < 96)) :
    Calls Try.prog 12 #[.pointer (some ⟨g, 0, none⟩), .int .i64 z, v] w fun e w' => e = .returned (.int .i64 3) ∧ w' = w := by
  have hp1 : (decide (0 ≤ z) && decide (z < 96)) = false := by simp; omega
  obtain ⟨p, n, cp, rfl, hnc, hcp, Hn, HV⟩ := hv.opens
  obtain rfl : n = 256 := by rw [Hn.out, hl]
  clear hv hz Hn hl
  go_enter Try.func12, Try.ntmps12
  go_wp2_with (first
    | (with_reducible refine (sis_any _ _).mono ?_; rintro e w ⟨rfl, rfl⟩; rw [hp1]))
  go_ret
  exact ⟨rfl, rfl⟩

set_option maxHeartbeats 1000000 in
theorem set_nil (w : World) (z : Int) (v : Value) :
    Calls Try.prog 12 #[.pointer none, .int .i64 z, v] w fun e w' => e = .returned (.int .i64 5) ∧ w' = w := by
  go_enter Try.func12, Try.ntmps12
  go_wp2_with fail
  go_ret
  exact ⟨rfl, rfl⟩
end Go.Proofs.Ytiggannhanfolaa
