/-
  For every slice of ints GuardAgain returns true: a Try that broke breaks nothing that comes behind it (the first 20). No condition.
-/
import Derived.Test.YtpoilpekficngaaRows
import Derived.WalkKit
import Derived.ProofKit
import Derived.OpenShut
import Derived.ShutString
import Derived.ChangeOld
import Derived.Below
import Derived.Test.YtpoilpekficngaaGrdB
namespace Go.Proofs.Ytpoilpekficngaa.guardAgain
open Go.ChangeShapes Go.WideShapes Go.ChangeAt Go.RowKit
open Go.ChangeMaps (open_string shut_string)
set_option linter.unusedVariables false

theorem own : ownKnob Try.prog.godebug = none := by kernel_rfl
theorem laidOut : laidOutB Try.prog = true := by kernel_rfl

/-- WHAT THE WALK IS TOLD OF A SLICE OF INTEGERS THAT CAME IN: it is nil; or it leads to a row of 'cap' cells, the numbers 'zs' (the first 'len' are its elements, the rest its spare room), each fitting its kind. -/
def IsRow (k : IntKind) (w : World) (a : Option Addr) (len cap : Nat) (zs : List Int) : Prop :=
  (a = none ∧ len = 0 ∧ cap = 0 ∧ zs = []) ∨
  ∃ x, a = some x ∧ len ≤ cap ∧ cap ≤ maxLen ∧ zs.length = cap ∧ (∀ i, i < zs.length → w.cell? (x.add i) = some (.int k (zs.getD i 0))) ∧ ∀ n ∈ zs, (Lit.int k n).wf = true

theorem enters23 (cap : Array Value) (w : World) : (callFunc 23 cap).run Try.prog w = .ok (.enter 23 cap) w := by kernel_rfl
theorem enters24 (cap : Array Value) (w : World) : (callFunc 24 cap).run Try.prog w = .ok (.enter 24 cap) w := by kernel_rfl

theorem again1_any (pe : Addr) (e : Int) (he : e ≠ 0) (w : World) (hv : Var pe (.int .i64 e) w) : Calls Try.prog 23 #[.pointer (some pe)] w fun r w' => r = .panicked [pan (fault e)] ∧ But (fun _ => False) w w' ∧ True := by
  obtain ⟨h0, _⟩ := hv
  go_enter Try.func23, Try.ntmps23
  go_wp2_with fail
  refine (break_any e _).mono ?_
  rintro r x ⟨rfl, rfl⟩
  have hk : brk e = e := by simp [brk, he]
  rw [hk]
  exact ⟨rfl, rfl, But.refl _ _, trivial⟩

theorem again2_any (w : World) : Calls Try.prog 24 #[] w fun r w' => r = .returned (.tuple #[]) ∧ But (fun _ => False) w w' ∧ True := by
  go_enter Try.func24, Try.ntmps24
  go_wp2_with fail
  go_end0
  exact ⟨rfl, But.refl _ _, trivial⟩

theorem again_fault (pe : Addr) (e : Int) (he : e ≠ 0) (w : World) (hv : w.cell? pe = some (.int .i64 e) ∧ w.frozen? pe = false) : Calls Try.prog 17 #[.func (.func 23) #[] #[.pointer (some pe)]] w fun r w' => r = .returned (.int .i64 e) ∧ Below w.heap.size w w' :=
  (try_fault e 23 _ w (fun _ => False) (fun _ => True) (enters23 _) (fun h => h) (fun _ _ _ _ => trivial) (again1_any pe e he _ (Var.alloc hv _))).mono fun _ _ h => ⟨h.1, but_none h.2.1⟩

theorem again_back (w : World) : Calls Try.prog 17 #[.func (.func 24) #[] #[]] w fun r w' => r = .returned (.int .i64 0) ∧ Below w.heap.size w w' :=
  (try_back 24 _ w (fun _ => False) (fun _ => True) (enters24 _) (fun h => h) (fun _ _ _ _ => trivial) (again2_any _)).mono fun _ _ h => ⟨h.1, but_none h.2.1⟩

/-- What three bits are left of: no more than seven. -/
theorem low3 (z : Int) : ∃ m : Nat, m < 8 ∧ bits .and .i64 z 7 = (m : Int) := by
  obtain ⟨q, hq⟩ : ∃ q : Nat, (BitVec.ofInt 64 z &&& BitVec.ofInt 64 7).toNat = q := ⟨_, rfl⟩
  have hle : q ≤ 7 := by
    rw [← hq, BitVec.toNat_and]
    exact Nat.and_le_right
  have hbits : bits .and .i64 z 7 = IntKind.i64.wrap (q : Int) := by rw [← hq]; rfl
  refine ⟨q, by omega, ?_⟩
  rw [hbits, IntKind.wrap_i64]
  omega

set_option maxRecDepth 100000 in
set_option maxHeartbeats 2000000 in
theorem walk (a0 : Option Addr) (len0 cap0 : Nat) (z0 : List Int) (w : World) (w0 : IsRow .i64 w a0 len0 cap0 z0) :
    Calls Try.prog 8 #[.slice a0 len0 cap0] w fun e w' => e = .returned (.bool true) ∧ Below w.heap.size w w' := by
  have hfacts : len0 ≤ cap0 ∧ cap0 ≤ 9223372036854775807 ∧
      ∀ i, i < len0 → ∃ b off, a0 = some ⟨b, off, none⟩ ∧ w.cell? ⟨b, off + i, none⟩ = some (.int .i64 (z0.getD i 0)) := by
    rcases w0 with ⟨rfl, rfl, rfl, rfl⟩ | ⟨x, rfl, hl, hm, hz, hcell, hwz⟩
    · exact ⟨by omega, by omega, fun i hi => by omega⟩
    · unfold maxLen at hm
      refine ⟨hl, by omega, fun i hi => ?_⟩
      have hc := hcell i (by omega)
      have hc0 := hcell 0 (by omega)
      obtain ⟨b, off, spot⟩ := x
      have hspot : spot = none := by simpa [Addr.add] using World.cell?_spot hc0
      subst hspot
      rw [add_plain] at hc
      exact ⟨b, off, rfl, hc⟩
  obtain ⟨hl, hm, hcell⟩ := hfacts
  have HC := hide hcell
  clear w0 hcell
  have hmf : ∀ (fn : Fn) (first cap : Array Value) (w : World), (Instr.makeFunc fn first cap).run Try.prog w = .ok (.func fn first cap) w := fun _ _ _ _ => rfl
  go_enter Try.func8, Try.ntmps8
  go_wp2_with fail
  refine (begun_any _).mono ?_
  rintro e x1 ⟨rfl, hb1⟩
  go_wp2_with fail
  go_loopw [4] (fun i wr => ∃ k : Nat, k ≤ len0 ∧ i = .int .i64 k ∧ Hid (Below w.heap.size w wr)) (fun i _ => len0 - (intOf i).toNat)
  case atStart => exact ⟨0, by omega, rfl, hide hb1⟩
  case round =>
    obtain ⟨k, hk, rfl, HBel⟩ := hrel
    clear hb1
    by_cases hlt : k < len0
    · by_cases h20 : k < 20
      · obtain ⟨b, off, rfl, hc⟩ := HC.out k hlt
        have hcell : wr.cell? ⟨b, off + k, none⟩ = some (.int .i64 (z0.getD k 0)) := by rw [HBel.out.cell (p := ⟨b, off + k, none⟩) (cell_lt hc)]; exact hc
        obtain ⟨m, hm8, hand⟩ := low3 (z0.getD k 0)
        clear hc
        generalize z0.getD k 0 = Z at *
        go_wp2_with fail
        have hv := Var.new wr (.int .i64 (1 + (m : Int))) 23
        have hBz := HBel.out.alloc HBel.out.size (.cells #[.int .i64 (1 + (m : Int))] 23)
        generalize wr.alloc (.cells #[.int .i64 (1 + (m : Int))] 23) = Z2 at *
        generalize (⟨wr.heap.size, 0, none⟩ : Addr) = pe at *
        have he : 1 + (m : Int) ≠ 0 := by omega
        generalize 1 + (m : Int) = E at *
        have HA : Hid (∀ w', Below Z2.heap.size Z2 w' → w'.cell? pe = some (.int .i64 E) ∧ w'.frozen? pe = false) := fun w' hb => hv.below hv.lt _ _ hb
        have hB : Below Z2.heap.size Z2 Z2 := Below.refl _ _
        clear hv hcell HC hand HBel
        refine wp_region_noPanic ?_
        refine wp_region_held_drew (S := fun W => Below Z2.heap.size Z2 W) (by kernel_rfl) ?_ (fun hHeld => ?_)
        · exact (Below.refl _ _).drew
        refine wpAnyH_take (i := 0) (v := ?_) rfl (by kernel_rfl) (by kernel_rfl) (by kernel_rfl) (fun _ _ _ h => h) (Or.inl ⟨by kernel_rfl, ?_⟩) hHeld ?_
        rotate_left
        · intro W hW; go_simp; first | done | with_reducible rfl
        try simp only [Act.put]
        refine wpAnyH_take (i := 2) (v := .int .i64 E) rfl (by kernel_rfl) (by kernel_rfl) (by kernel_rfl) (fun _ _ _ h => h) (Or.inl ⟨by kernel_rfl, ?_⟩) hHeld ?_
        · intro W hW; have hq := HA.out W (hB.trans (Below.mono hW hB.size)); obtain ⟨c0, c1⟩ := hq; clear hW; go_simp; first | done | with_reducible rfl
        try simp only [Act.put]
        refine wpAnyH_ready (rs := [1]) (by kernel_rfl) (by simp) ?_
        refine AllReadyH.cons (o := _) rfl (fun K hK => ?_) AllReadyH.nil
        go_simp
        refine (again_fault pe E he _ (HA.out _ hHeld)).mono ?_
        rintro e xc ⟨rfl, hb4⟩
        dsimp only
        refine hK.out _ _ ?_ (fun hHeld => ?_)
        · exact hHeld.trans (hb4.mono hHeld.size)
        clear hK K
        try simp only [Act.put]
        refine held_mono (S' := fun W => Below xc.heap.size xc W) (fun W h => hHeld.trans (h.mono hHeld.size)) _ _ _ _ ?_
        replace hB := hB.trans (hHeld.mono hB.size)
        clear hHeld hb4
        have hHeld : Below xc.heap.size xc xc := Below.refl _ _
        refine wpAnyH_take (i := 3) (v := .bool false) rfl (by kernel_rfl) (by kernel_rfl) (by kernel_rfl) (fun _ _ _ h => h) (Or.inl ⟨by kernel_rfl, ?_⟩) hHeld ?_
        · intro W hW; go_simp; first | done | with_reducible rfl
        try simp only [Act.put]
        refine wpAnyH_take (i := 4) (v := ?_) rfl (by kernel_rfl) (by kernel_rfl) (by kernel_rfl) (fun _ _ _ h => h) (Or.inl ⟨by kernel_rfl, ?_⟩) hHeld ?_
        rotate_left
        · intro W hW; go_simp; first | done | with_reducible rfl
        try simp only [Act.put]
        refine wpAnyH_ready (rs := [5]) (by kernel_rfl) (by simp) ?_
        refine AllReadyH.cons (o := _) rfl (fun K hK => ?_) AllReadyH.nil
        go_simp
        refine (again_back _).mono ?_
        rintro e xc ⟨rfl, hb4⟩
        dsimp only
        refine hK.out _ _ ?_ (fun hHeld => ?_)
        · exact hHeld.trans (hb4.mono hHeld.size)
        clear hK K
        try simp only [Act.put]
        refine held_mono (S' := fun W => Below xc.heap.size xc W) (fun W h => hHeld.trans (h.mono hHeld.size)) _ _ _ _ ?_
        replace hB := hB.trans (hHeld.mono hB.size)
        clear hHeld hb4
        have hHeld : Below xc.heap.size xc xc := Below.refl _ _
        refine wpAnyH_take (i := 6) (v := .bool false) rfl (by kernel_rfl) (by kernel_rfl) (by kernel_rfl) (fun _ _ _ h => h) (Or.inl ⟨by kernel_rfl, ?_⟩) hHeld ?_
        · intro W hW; go_simp; first | done | with_reducible rfl
        try simp only [Act.put]
        refine wpAnyH_take (i := 7) (v := .bool false) rfl (by kernel_rfl) (by kernel_rfl) (by kernel_rfl) (fun _ _ _ h => h) (Or.inl ⟨by kernel_rfl, ?_⟩) hHeld ?_
        · intro W hW; go_simp; first | done | with_reducible rfl
        try simp only [Act.put]
        refine wpAnyH_done (by kernel_rfl) ?_ _
        refine NoPanic.normal ?_
        clear hHeld
        go_simp
        have hBc := hBz.trans (hB.mono hBz.size)
        clear hB HA hBz
        go_wp2_with fail
        go_roundw
        case rel => exact ⟨k + 1, by omega, by go_num, hBc⟩
        case measure => simp [intOf]; omega
      · have hBw := HBel.out
        clear HBel
        go_wp2_with fail
        go_ret
        exact ⟨rfl, hBw⟩
    · have hBw := HBel.out
      clear HBel
      go_wp2_with fail
      go_ret
      exact ⟨rfl, hBw⟩

set_option maxRecDepth 100000 in
theorem lifted (os : Os) (started : os.Started) (H : Type) (enc : TypeId × Value → H) :
    ReturnsInHanded {} Try.checked os 8 .any (Rows.guardAgainSpec.pre6 enc Try.prog Try.f8 Rows.guardAgainRow.domain false) (Rows.guardAgainSpec.post enc Try.prog Try.f8 false true false false) := by
  refine returnsInHanded_of_change (C := Try.checked) own started (by kernel_rfl) Try.func8
    (ChangeSpec.witness6 (enc := enc) (C := Try.checked) false ⟨#[], #[.slice none 0 0], []⟩ 8 (by kernel_rfl) (by kernel_rfl) (by kernel_rfl) (by kernel_rfl)) ?_
  intro W base args ds gs before hval0 hW hcnd _
  have hval : ∀ (j : Nat) t v, Try.f8.params[j]? = some t → args[j]? = some v → Value.okWide Try.prog W .any base t v := hval0
  have hW' := hW
  obtain ⟨p, q, hA0, hV, rfl, hfz, hnd⟩ := hW
  have hA : DataW.TrodAll enc Try.prog W 0 (fun _ => true) true Try.f8.params.toList args.toList ds p := hA0
  rw [Try.params8] at hA hval
  obtain ⟨v0, vs0, d0, ds0, p0, q0, hargs, rfl, rfl, h0, r0⟩ := trodAll_cons hA
  obtain ⟨rfl, rfl, rfl⟩ := trodAll_nil r0
  obtain rfl : args = #[v0] := by cases args; simp_all
  obtain ⟨rfl, rfl⟩ := trodVars_none hV
  obtain ⟨a0, len0, cap0, rfl⟩ := okWide_slice Try.underlying41 (hval 0 41 v0 rfl rfl)
  have k0 := h0
  have lt0 : ∀ x ∈ p0, x.block < W.heap.size := by obtain ⟨m, hm⟩ := k0; exact DataW.trod_lt m _ _ _ hm
  obtain ⟨z0, w0⟩ : ∃ zs, IsRow .i64 W a0 len0 cap0 zs := by
    obtain ⟨fuel, hf⟩ := h0
    rcases open_ints Try.underlying41 Try.underlying3 (by kernel_rfl) hf with ⟨hcs, _⟩ | ⟨x, l, c, zs, hcs, _, hl, hm, hz, _, hcell, hwz⟩
    · simp [Value.cells] at hcs
      obtain ⟨rfl, rfl, rfl⟩ := hcs
      exact ⟨[], .inl ⟨rfl, rfl, rfl, rfl⟩⟩
    · simp [Value.cells] at hcs
      obtain ⟨rfl, rfl, rfl⟩ := hcs
      exact ⟨zs, .inr ⟨_, rfl, hl, hm, by simpa using hz, hcell, hwz⟩⟩
  clear hA0 hval0
  refine (walk a0 len0 cap0 z0 W w0).mono fun e W' ⟨he, bel⟩ => ?_
  subst he
  exact ⟨_, rfl, _, _, _, [], _, [], hW', trodAll_mk1 (shut_bool Try.underlying4 _), (trodAll_cons_mk (Below.trod laidOut (by kernel_rfl) (of_decide_eq_true (by kernel_rfl)) k0 bel lt0) trodAll_mk0), rfl, bel.frame _, fun h => by cases h⟩

theorem over : Rows.guardAgainRow.holds Try.pinned (OpenSpec.ofChange Rows.guardAgainSpec) :=
  OpenClaim.holds_of_wide 8 Try.f8 rfl rfl rfl rfl rfl rfl rfl ⟨rfl, rfl, rfl, rfl, rfl⟩ rfl rfl rfl rfl rfl (by kernel_rfl) Try.func8 (by kernel_rfl)
    (of_decide_eq_true (by kernel_rfl)) (by unfold Func.isWrapper; first | (rw [if_pos (by decide +kernel)]; kernel_rfl) | (rw [if_neg (by decide +kernel)]; exact ⟨rfl, rfl⟩))
    (fun os started H enc _ => lifted os started H enc)

theorem proved : Rows.GuardAgainSaid := over
#print axioms proved
end Go.Proofs.Ytpoilpekficngaa.guardAgain
