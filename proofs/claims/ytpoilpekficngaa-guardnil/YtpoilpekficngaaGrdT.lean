/-
  What Try tells of a callee whose ending is known; the helper 'tries' of the laws: what Try tells, and what it panicked with, if it did; 'begun' is true and writes nothing that was there.
-/
import Derived.Test.YtpoilpekficngaaGrdW
import Derived.Test.YtpoilpekficngaaGrdF
namespace Go.Proofs.Ytpoilpekficngaa
open Go.RowKit

/-- The world in which Try calls its function. -/
abbrev tw (w : World) : World := w.alloc (.cells #[.int .i64 0] 23)

theorem tw_size (w : World) : (tw w).heap.size = w.heap.size + 1 := by simp [go_sem]

/-- What the result's variable holds. -/
theorem at0_but {S : Nat → Prop} {w w2 : World} (hS : ¬ S w.heap.size) (hb : But S (tw w) w2) : Var (at0 w) (.int .i64 0) w2 := (Var.new w (.int .i64 0) 23).but hb hS

theorem but_tw {S : Nat → Prop} {w w2 : World} (hb : But S (tw w) w2) : But S w w2 := .head ((Below.refl _ _).alloc (Nat.le_refl _) _) hb

theorem below_at0 {w w2 : World} (v : Value) : Below w.heap.size w2 (w2.setCell (at0 w) v) := (Below.refl w.heap.size w2).setCell (p := at0 w) (Nat.le_refl _) v

theorem below_at1 {w w2 : World} (h : w.heap.size ≤ w2.heap.size) (o : Obj) (v : Value) : Below w.heap.size w2 ((w2.alloc o).setCell (at0 w) v) := ((Below.refl _ _).alloc h o).setCell (Nat.le_refl _) v

/-- It comes back. -/
theorem try_back (K : FuncId) (cap : Array Value) (w : World) (S : Nat → Prop) (F : World → Prop)
    (hK : ∀ w : World, (callFunc K cap).run Try.prog w = .ok (.enter K cap) w) (hS : ¬ S w.heap.size) (hF : ∀ a b, Below w.heap.size a b → F a → F b)
    (h : Calls Try.prog K cap (tw w) fun e w2 => e = .returned (.tuple #[]) ∧ But S (tw w) w2 ∧ F w2) :
    Calls Try.prog 17 #[.func (.func K) #[] cap] w fun e w' => e = .returned (.int .i64 0) ∧ But S w w' ∧ F w' := by
  refine try_any K cap w _ hK (h.mono ?_)
  rintro e w2 ⟨rfl, hb, hf⟩
  obtain ⟨hc, hz⟩ := at0_but hS hb
  exact ⟨hc, hz, Or.inl ⟨rfl, rfl, (but_tw hb).setCell (Or.inr (Nat.le_refl _)) _, hF _ _ (below_at0 _) hf⟩⟩

/-- It breaks with a Fault. -/
theorem try_fault (x : Int) (K : FuncId) (cap : Array Value) (w : World) (S : Nat → Prop) (F : World → Prop)
    (hK : ∀ w : World, (callFunc K cap).run Try.prog w = .ok (.enter K cap) w) (hS : ¬ S w.heap.size) (hF : ∀ a b, Below w.heap.size a b → F a → F b)
    (h : Calls Try.prog K cap (tw w) fun e w2 => e = .panicked [pan (fault x)] ∧ But S (tw w) w2 ∧ F w2) :
    Calls Try.prog 17 #[.func (.func K) #[] cap] w fun e w' => e = .returned (.int .i64 x) ∧ But S w w' ∧ F w' := by
  refine try_any K cap w _ hK (h.mono ?_)
  rintro e w2 ⟨rfl, hb, hf⟩
  obtain ⟨hc, hz⟩ := at0_but hS hb
  exact ⟨hc, hz, Or.inr (Or.inl ⟨x, rfl, rfl, ((but_tw hb).alloc _).setCell (Or.inr (Nat.le_refl _)) _, hF _ _ (below_at1 (but_tw hb).size _ _) hf⟩)⟩

/-- Another panic. -/
theorem try_other (v : Value) (hv : Other v) (K : FuncId) (cap : Array Value) (w : World) (S : Nat → Prop) (F : World → Prop)
    (hK : ∀ w : World, (callFunc K cap).run Try.prog w = .ok (.enter K cap) w) (hS : ¬ S w.heap.size)
    (h : Calls Try.prog K cap (tw w) fun e w2 => e = .panicked [pan v] ∧ But S (tw w) w2 ∧ F w2) :
    Calls Try.prog 17 #[.func (.func K) #[] cap] w fun e w' => e = .panicked [pan v, gone v] ∧ But S w w' ∧ F w' := by
  refine try_any K cap w _ hK (h.mono ?_)
  rintro e w2 ⟨rfl, hb, hf⟩
  obtain ⟨hc, hz⟩ := at0_but hS hb
  exact ⟨hc, hz, Or.inr (Or.inr ⟨v, hv, rfl, rfl, but_tw hb, hf⟩)⟩

theorem told_back (p q : Addr) (u : FrameMode) (w : World) (hc : w.cell? p = some (.bool true)) :
    CallsD Try.prog 28 #[.pointer (some p), .pointer (some q)] u w fun e u' w' => u' = u ∧ (e = .returned (.tuple #[]) ∧ w' = w) := by
  go_enter_d Try.func28, Try.ntmps28
  go_wp2_with fail
  go_end0
  exact ⟨rfl, rfl⟩

theorem told_other (p q : Addr) (v y : Value) (hv : Other v) (older : List PanicEntry) (w : World) (hc : w.cell? p = some (.bool false)) (hq : w.cell? q = some y) (hz : w.frozen? q = false) :
    CallsD Try.prog 28 #[.pointer (some p), .pointer (some q)] (.panicking (pan v :: older)) w fun e u' w' =>
      e = .returned (.tuple #[]) ∧ u' = .panicking (gone v :: older) ∧ w' = w.setCell q v := by
  obtain ⟨_, T, u, rfl⟩ := hv
  refine callsD_of_wpS Try.func28 rfl fun c₀ cs hu => ?_
  apply wpS_seq
  apply wpS_region
  simp [wpOpsS, go_sem, hc, Try.ntmps28, Exit.thenS]
  refine wpS_cond (t := true) (by simp [Act.eval, Array.replicate]) ?_
  simp only [if_true]
  apply wpS_region
  simp [wpOpsS, go_sem, recoverD, hu, hq, hz, bodyPostS, results, Try.results28]

/-- The world in which 'tries' calls Try. -/
abbrev sw (w : World) : World := (w.alloc (.cells #[.nilIface] 20)).alloc (.cells #[.bool false] 4)

theorem sw_vars {S : Nat → Prop} {w w2 : World} (hS : ∀ k, w.heap.size ≤ k → ¬ S k) (hb : But S (sw w) w2) : Var ⟨w.heap.size, 0, none⟩ .nilIface w2 ∧ Var ⟨w.heap.size + 1, 0, none⟩ (.bool false) w2 := by
  refine ⟨((Var.new w .nilIface 20).alloc _).but hb (hS _ (Nat.le_refl _)), ?_⟩
  have := Var.new (w.alloc (.cells #[.nilIface] 20)) (.bool false) 4
  simp only [World.size_alloc] at this
  exact this.but hb (hS _ (Nat.le_succ _))

theorem but_sw {S : Nat → Prop} {w w2 : World} (hb : But S (sw w) w2) : But S w w2 := .head (((Below.refl _ _).alloc (Nat.le_refl _) _).alloc (by simp) _) hb

set_option maxHeartbeats 1000000 in
theorem tries_back (f : Value) (x : Int) (w : World) (S : Nat → Prop) (F : World → Prop)
    (hS : ∀ k, w.heap.size ≤ k → ¬ S k) (hF : ∀ a b, Below w.heap.size a b → F a → F b)
    (h : Calls Try.prog 17 #[f] (sw w) fun e w2 => e = .returned (.int .i64 x) ∧ But S (sw w) w2 ∧ F w2) :
    Calls Try.prog 13 #[f] w fun e w' => e = .returned (.tuple #[.int .i64 x, .nilIface, .bool true]) ∧ But S w w' ∧ F w' := by
  have hmf : ∀ (fn : Fn) (first cap : Array Value) (w : World), (Instr.makeFunc fn first cap).run Try.prog w = .ok (.func fn first cap) w := fun _ _ _ _ => rfl
  go_enter_defers Try.func13, Try.ntmps13
  go_wp2_with fail
  refine h.mono ?_
  rintro e w2 ⟨rfl, hb, hf⟩
  obtain ⟨hv0, hv1⟩ := sw_vars hS hb
  have HEnd : Hid (But S w (((w2.setCell ⟨w.heap.size + 1, 0, none⟩ (.bool true)).setCell ⟨w.heap.size, 0, none⟩ .nilIface).setCell ⟨w.heap.size + 1, 0, none⟩ (.bool true)) ∧
      F (((w2.setCell ⟨w.heap.size + 1, 0, none⟩ (.bool true)).setCell ⟨w.heap.size, 0, none⟩ .nilIface).setCell ⟨w.heap.size + 1, 0, none⟩ (.bool true))) :=
    ⟨(((but_sw hb).setCell (Or.inr (Nat.le_succ _)) _).setCell (Or.inr (Nat.le_refl _)) _).setCell (Or.inr (Nat.le_succ _)) _,
      hF _ _ ((((Below.refl w.heap.size w2).setCell (p := ⟨w.heap.size + 1, 0, none⟩) (Nat.le_succ _) _).setCell (p := ⟨w.heap.size, 0, none⟩) (Nat.le_refl _) _).setCell (p := ⟨w.heap.size + 1, 0, none⟩) (Nat.le_succ _) _) hf⟩
  clear h hb hf hF hS
  have hne : (⟨w.heap.size + 1, 0, none⟩ : Addr) ≠ ⟨w.heap.size, 0, none⟩ := by simp
  have hne' : (⟨w.heap.size, 0, none⟩ : Addr) ≠ ⟨w.heap.size + 1, 0, none⟩ := by simp
  generalize hp : (⟨w.heap.size + 1, 0, none⟩ : Addr) = p at *
  generalize hq : (⟨w.heap.size, 0, none⟩ : Addr) = q at *
  have h1 := hv1.set (.bool true)
  have h0 := (hv0.other hne (.bool true))
  have h2 := h1.other hne' .nilIface
  have h3 := h2.set (.bool true)
  have h4 := (h0.set .nilIface).other hne (.bool true)
  have e0 := hv1.1
  have e1 := hv1.2
  have e2 := h0.1
  have e3 := h0.2
  have e4 := h2.1
  have e5 := h2.2
  have e6 := h3.1
  have e7 := h4.1
  clear hv0 hv1 h0 h1 h2 h3 h4 hne hne' hp hq
  go_wp2_with fail
  refine leaves_cons (f := 28) (args := #[.pointer (some p), .pointer (some q)]) (by simp) (by simp [go_sem]) ?_
  refine (told_back p q .returning _ e6).mono ?_
  rintro e u' w'' ⟨rfl, rfl, rfl⟩
  simp [Leaves, settle, results, Try.results13, go_sem, e6, e7]
  exact HEnd.out

set_option maxHeartbeats 1000000 in
theorem tries_other (f : Value) (v : Value) (hv : Other v) (w : World) (S : Nat → Prop) (F : World → Prop)
    (hS : ∀ k, w.heap.size ≤ k → ¬ S k) (hF : ∀ a b, Below w.heap.size a b → F a → F b)
    (h : Calls Try.prog 17 #[f] (sw w) fun e w2 => e = .panicked [pan v, gone v] ∧ But S (sw w) w2 ∧ F w2) :
    Calls Try.prog 13 #[f] w fun e w' => e = .returned (.tuple #[.int .i64 0, v, .bool false]) ∧ But S w w' ∧ F w' := by
  have hmf : ∀ (fn : Fn) (first cap : Array Value) (w : World), (Instr.makeFunc fn first cap).run Try.prog w = .ok (.func fn first cap) w := fun _ _ _ _ => rfl
  go_enter_defers Try.func13, Try.ntmps13
  go_wp2_with fail
  refine h.mono ?_
  rintro e w2 ⟨rfl, hb, hf⟩
  obtain ⟨hv0, hv1⟩ := sw_vars hS hb
  have HEnd : Hid (But S w (w2.setCell ⟨w.heap.size, 0, none⟩ v) ∧ F (w2.setCell ⟨w.heap.size, 0, none⟩ v)) :=
    ⟨(but_sw hb).setCell (Or.inr (Nat.le_refl _)) _, hF _ _ ((Below.refl w.heap.size w2).setCell (p := ⟨w.heap.size, 0, none⟩) (Nat.le_refl _) _) hf⟩
  clear h hb hf hF hS
  have hne : (⟨w.heap.size, 0, none⟩ : Addr) ≠ ⟨w.heap.size + 1, 0, none⟩ := by simp
  generalize hp : (⟨w.heap.size + 1, 0, none⟩ : Addr) = p at *
  generalize hq : (⟨w.heap.size, 0, none⟩ : Addr) = q at *
  have h1 := hv1.other hne v
  have h0 := hv0.set v
  dsimp only
  refine leaves_cons (f := 28) (args := #[.pointer (some p), .pointer (some q)]) (by simp) (by simp [go_sem]) ?_
  refine (told_other p q v _ hv [gone v] _ hv1.1 hv0.1 hv0.2).mono ?_
  rintro e u' w'' ⟨rfl, rfl, rfl⟩
  simp [Leaves, settle, results, Try.results13, go_sem, h1.1, h0.1]
  exact HEnd.out

/-- The world in which the function that 'tries' tries is called. -/
abbrev uw (w : World) : World := tw (sw w)

theorem sw_size (w : World) : (sw w).heap.size = w.heap.size + 2 := by simp
theorem uw_size (w : World) : (uw w).heap.size = w.heap.size + 3 := by simp

theorem uw_below (w : World) : Below w.heap.size w (uw w) := (((Below.refl _ _).alloc (Nat.le_refl _) _).alloc (by simp) _).alloc (by simp; omega) _

theorem tt_back (K : FuncId) (cap : Array Value) (w : World) (S : Nat → Prop) (F : World → Prop)
    (hK : ∀ w : World, (callFunc K cap).run Try.prog w = .ok (.enter K cap) w) (hS : ∀ k, w.heap.size ≤ k → ¬ S k) (hF : ∀ a b, Below w.heap.size a b → F a → F b)
    (h : Calls Try.prog K cap (uw w) fun e w2 => e = .returned (.tuple #[]) ∧ But S (uw w) w2 ∧ F w2) :
    Calls Try.prog 13 #[.func (.func K) #[] cap] w fun e w' => e = .returned (.tuple #[.int .i64 0, .nilIface, .bool true]) ∧ But S w w' ∧ F w' :=
  tries_back _ 0 w S F hS hF (try_back K cap (sw w) S F hK (hS _ (by simp; omega)) (fun a b hb hf => hF a b (hb.mono (by simp; omega)) hf) h)

theorem tt_fault (x : Int) (K : FuncId) (cap : Array Value) (w : World) (S : Nat → Prop) (F : World → Prop)
    (hK : ∀ w : World, (callFunc K cap).run Try.prog w = .ok (.enter K cap) w) (hS : ∀ k, w.heap.size ≤ k → ¬ S k) (hF : ∀ a b, Below w.heap.size a b → F a → F b)
    (h : Calls Try.prog K cap (uw w) fun e w2 => e = .panicked [pan (fault x)] ∧ But S (uw w) w2 ∧ F w2) :
    Calls Try.prog 13 #[.func (.func K) #[] cap] w fun e w' => e = .returned (.tuple #[.int .i64 x, .nilIface, .bool true]) ∧ But S w w' ∧ F w' :=
  tries_back _ x w S F hS hF (try_fault x K cap (sw w) S F hK (hS _ (by simp; omega)) (fun a b hb hf => hF a b (hb.mono (by simp; omega)) hf) h)

theorem tt_other (v : Value) (hv : Other v) (K : FuncId) (cap : Array Value) (w : World) (S : Nat → Prop) (F : World → Prop)
    (hK : ∀ w : World, (callFunc K cap).run Try.prog w = .ok (.enter K cap) w) (hS : ∀ k, w.heap.size ≤ k → ¬ S k) (hF : ∀ a b, Below w.heap.size a b → F a → F b)
    (h : Calls Try.prog K cap (uw w) fun e w2 => e = .panicked [pan v] ∧ But S (uw w) w2 ∧ F w2) :
    Calls Try.prog 13 #[.func (.func K) #[] cap] w fun e w' => e = .returned (.tuple #[.int .i64 0, v, .bool false]) ∧ But S w w' ∧ F w' :=
  tries_other _ v hv w S F hS hF (try_other v hv K cap (sw w) S F hK (hS _ (by simp; omega)) h)
end Go.Proofs.Ytpoilpekficngaa
