/-
  Contracts of alloc.Root, Used, Count.
-/
import Derived.Test.YtiggannhanfolaaAllA
namespace Go.Proofs.Ytiggannhanfolaa
set_option maxRecDepth 100000
set_option linter.unusedVariables false
open Go.RowKit
set_option linter.unusedVariables false

/-- What a call that tells a number comes back with. -/
def Two (e : Ending) (a b : Int) : Prop := e = .returned (.tuple #[.int .i64 a, .int .i64 b])

set_option maxHeartbeats 1000000 in
theorem root_any {w : World} {u : Value} {f : Nat → Option (List Int)} (hs : Src w u f) {zs : List Int} (hz : f 1 = some zs) {z : Int} (hz4 : zs.getD 4 0 = z) :
    Calls Try.prog 17 #[u] w fun e w' => e = .returned (.tuple #[.int .i64 (if mb z then z else 0), .int .i64 (if mb z then 0 else 3)]) ∧ Below w.heap.size w w' := by
  have HS := hide hs
  have Hz := hide hz
  have H4 := hide hz4
  clear hs hz hz4
  cases hm : mb z
  all_goals
    have HM := hide hm
    clear hm
    go_enter Try.func17, Try.ntmps17
    go_wp2_with fail
    refine (aread_any HS.out).mono ?_
    rw [Hz.out]
    rintro e W ⟨v, rfl, ho, hz, hb⟩
    have HB := hide hb
    obtain ⟨b, c, us, rfl, -, hc0, hc1, -, hc⟩ := own_row ho
    have c4 := hc 4 (by omega)
    have h4 := pg_at hz (i := 4) (by omega)
    rw [H4.out] at c4 h4
    clear ho hz hb hc HS Hz H4
    go_wp2_with fail
    refine (mayb_any _ _).mono ?_
    rw [HM.out]
    rintro e W' ⟨rfl, rfl⟩
    go_wp2_with fail
    go_ret2
    exact ⟨rfl, HB.out⟩

set_option maxHeartbeats 1000000 in
theorem root_down {w : World} {u : Value} {f : Nat → Option (List Int)} (hs : Src w u f) (hz : f 1 = none) :
    Calls Try.prog 17 #[u] w fun e w' => e = .returned (.tuple #[.int .i64 0, .int .i64 5]) ∧ Below w.heap.size w w' := by
  have HS := hide hs
  have Hz := hide hz
  clear hs hz
  go_enter Try.func17, Try.ntmps17
  go_wp2_with fail
  refine (aread_any HS.out).mono ?_
  rw [Hz.out]
  rintro e W ⟨rfl, hb⟩
  have HB := hide hb
  clear HS Hz hb
  go_wp2_with fail
  go_ret2
  exact ⟨rfl, HB.out⟩

set_option maxHeartbeats 1000000 in
theorem uused_any {w : World} {u : Value} {f : Nat → Option (List Int)} (hs : Src w u f) {zs : List Int} (hz : f 1 = some zs) (no : Nat) (hno : 2 ≤ no ∧ no < 32) :
    Calls Try.prog 15 #[u, .int .i64 (no : Int)] w fun e w' => e = .returned (.tuple #[.bool (us zs no), .int .i64 0]) ∧ Below w.heap.size w w' := by
  have HS := hide hs
  have Hz := hide hz
  have h0 : (decide (2 ≤ (no : Int)) && decide ((no : Int) < 32)) = true := by simp; omega
  have h1 : no < 2048 := by omega
  clear hs hz
  go_enter Try.func15, Try.ntmps15
  go_wp2_with fail
  refine (aread_any HS.out).mono ?_
  rw [Hz.out]
  rintro e W ⟨v, rfl, ho, hz, hb⟩
  have HB := hide hb
  have HV := hide (Sl.own ho hz.2)
  have HZ := hide hz
  clear ho hz hb HS Hz hno
  go_wp2_with fail
  refine (ais_any _ _).mono ?_
  rw [h0]
  rintro e W' ⟨rfl, rfl⟩
  go_wp2_with fail
  refine (used_any HV.out HZ.out.1 no h1).mono ?_
  rintro e W' ⟨rfl, n, rfl⟩
  go_wp2_with fail
  go_ret2
  exact ⟨rfl, below_dn HB.out _⟩

set_option maxHeartbeats 1000000 in
theorem uused_out {w : World} {u : Value} {f : Nat → Option (List Int)} (hs : Src w u f) {zs : List Int} (hz : f 1 = some zs) (z : Int) (hno : ¬ (2 ≤ z ∧ z < 32)) :
    Calls Try.prog 15 #[u, .int .i64 z] w fun e w' => e = .returned (.tuple #[.bool false, .int .i64 0]) ∧ Below w.heap.size w w' := by
  have HS := hide hs
  have Hz := hide hz
  have h0 : (decide (2 ≤ z) && decide (z < 32)) = false := by simp; omega
  clear hs hz hno
  go_enter Try.func15, Try.ntmps15
  go_wp2_with fail
  refine (aread_any HS.out).mono ?_
  rw [Hz.out]
  rintro e W ⟨v, rfl, ho, hz, hb⟩
  have HB := hide hb
  clear ho hz hb HS Hz
  go_wp2_with fail
  refine (ais_any _ _).mono ?_
  rw [h0]
  rintro e W' ⟨rfl, rfl⟩
  go_wp2_with fail
  go_ret2
  exact ⟨rfl, HB.out⟩

set_option maxHeartbeats 1000000 in
theorem uused_down {w : World} {u : Value} {f : Nat → Option (List Int)} (hs : Src w u f) (hz : f 1 = none) (z : Int) :
    Calls Try.prog 15 #[u, .int .i64 z] w fun e w' => e = .returned (.tuple #[.bool false, .int .i64 5]) ∧ Below w.heap.size w w' := by
  have HS := hide hs
  have Hz := hide hz
  clear hs hz
  go_enter Try.func15, Try.ntmps15
  go_wp2_with fail
  refine (aread_any HS.out).mono ?_
  rw [Hz.out]
  rintro e W ⟨rfl, hb⟩
  have HB := hide hb
  clear HS Hz hb
  go_wp2_with fail
  go_ret2
  exact ⟨rfl, HB.out⟩

set_option maxHeartbeats 1000000 in
theorem count_down {w : World} {u : Value} {f : Nat → Option (List Int)} (hs : Src w u f) (hz : f 1 = none) :
    Calls Try.prog 16 #[u] w fun e w' => e = .returned (.tuple #[.int .i64 0, .int .i64 5]) ∧ Below w.heap.size w w' := by
  have HS := hide hs
  have Hz := hide hz
  clear hs hz
  go_enter Try.func16, Try.ntmps16
  go_wp2_with fail
  refine (aread_any HS.out).mono ?_
  rw [Hz.out]
  rintro e W ⟨rfl, hb⟩
  have HB := hide hb
  clear HS Hz hb
  go_wp2_with fail
  go_ret2
  exact ⟨rfl, HB.out⟩

/-- How many are in use. -/
def nu (U : Nat → Bool) (k : Nat) : Nat := (List.range k).countP fun i => decide (2 ≤ i) && U i
theorem nu_succ (U : Nat → Bool) (k : Nat) : nu U (k + 1) = nu U k + (if decide (2 ≤ k) && U k then 1 else 0) := by
  unfold nu
  rw [List.range_succ, List.countP_append]
  simp [List.countP_cons]
theorem nu_le (U : Nat → Bool) (k : Nat) : nu U k ≤ k := by
  have := List.countP_le_length (p := fun i => decide (2 ≤ i) && U i) (l := List.range k)
  rw [List.length_range] at this
  exact this

theorem nu_eight {U : Nat → Bool} {n : Nat} (a : Nat) (h : ∀ j, j < 8 → U (a + j) = n.testBit j) (ha : 2 ≤ a) : nu U (a + 8) = nu U a + pc n := by
  have e : ∀ j, j ≤ 8 → nu U (a + j) = nu U a + (List.range j).countP fun k => n.testBit k := by
    intro j
    induction j with
    | zero => intro _; rfl
    | succ j ih =>
      intro hj
      rw [← Nat.add_assoc, nu_succ, ih (by omega), List.range_succ, List.countP_append, h j (by omega), show decide (2 ≤ a + j) = true by simp; omega]
      simp [List.countP_cons, Nat.add_assoc]
  exact e 8 (Nat.le_refl _)
theorem nu_first {U : Nat → Bool} {n : Nat} (hn : n < 256) (h : ∀ j, j < 8 → U j = n.testBit j) : nu U 8 = pc (n / 4) := by
  have : ∀ n : Fin 256, ((List.range 8).countP fun i => decide (2 ≤ i) && (n : Nat).testBit i) = pc ((n : Nat) / 4) := by decide +kernel
  rw [← this ⟨n, hn⟩]
  unfold nu
  exact List.countP_congr fun i hi => by rw [h i (by simpa using hi)]

/-- The bits of the first four bytes. -/
theorem nu_us {zs : List Int} : (zs.getD 0 0).toNat < 256 → nu (us zs) 32 = pc ((zs.getD 0 0).toNat / 4) + pc (zs.getD 1 0).toNat + pc (zs.getD 2 0).toNat + pc (zs.getD 3 0).toNat := by
  intro h
  have h0 : nu (us zs) 8 = _ := nu_first (U := us zs) h fun j hj => by unfold us; rw [show j / 8 = 0 by omega, show j % 8 = j by omega]
  have h1 := nu_eight (U := us zs) (n := (zs.getD 1 0).toNat) 8 (fun j hj => by unfold us; rw [show (8 + j) / 8 = 1 by omega, show (8 + j) % 8 = j by omega]) (by omega)
  have h2 := nu_eight (U := us zs) (n := (zs.getD 2 0).toNat) 16 (fun j hj => by unfold us; rw [show (16 + j) / 8 = 2 by omega, show (16 + j) % 8 = j by omega]) (by omega)
  have h3 := nu_eight (U := us zs) (n := (zs.getD 3 0).toNat) 24 (fun j hj => by unfold us; rw [show (24 + j) / 8 = 3 by omega, show (24 + j) % 8 = j by omega]) (by omega)
  rw [show 32 = 24 + 8 from rfl, h3, show 24 = 16 + 8 from rfl, h2, show 16 = 8 + 8 from rfl, h1, h0]

theorem pc_le (n : Nat) : pc n ≤ 8 := by
  have := List.countP_le_length (p := fun k => n.testBit k) (l := List.range 8)
  rw [List.length_range] at this
  exact this

set_option maxHeartbeats 1000000 in
theorem count_any {w : World} {u : Value} {f : Nat → Option (List Int)} (hs : Src w u f) {zs : List Int} (hz : f 1 = some zs) :
    Calls Try.prog 16 #[u] w fun e w' => e = .returned (.tuple #[.int .i64 (nu (us zs) 32 : Nat), .int .i64 0]) ∧ Below w.heap.size w w' := by
  have HS := hide hs
  have Hz := hide hz
  clear hs hz
  go_enter Try.func16, Try.ntmps16
  go_wp2_with fail
  refine (aread_any HS.out).mono ?_
  rw [Hz.out]
  rintro e W ⟨v, rfl, ho, hz, hb⟩
  have HB := hide hb
  obtain ⟨b, c, us, rfl, -, hc0, hc1, -, hc⟩ := own_row ho
  have hd : ∀ i, i < 4 → ∃ n : Nat, zs.getD i 0 = (n : Int) ∧ n < 256 ∧ (zs.getD i 0).toNat = n := fun i hi => by
    have h := pg_at hz (i := i) (by omega)
    exact ⟨(zs.getD i 0).toNat, by omega, by omega, rfl⟩
  have c0 := hc 0 (by omega)
  have c1 := hc 1 (by omega)
  have c2 := hc 2 (by omega)
  have c3 := hc 3 (by omega)
  obtain ⟨n0, e0, l0, t0⟩ := hd 0 (by omega)
  obtain ⟨n1, e1, l1, t1⟩ := hd 1 (by omega)
  obtain ⟨n2, e2, l2, t2⟩ := hd 2 (by omega)
  obtain ⟨n3, e3, l3, t3⟩ := hd 3 (by omega)
  have HN := hide (nu_us (zs := zs) (by omega))
  rw [t0, t1, t2, t3] at HN
  rw [e0] at c0
  rw [e1] at c1
  rw [e2] at c2
  rw [e3] at c3
  clear ho hz hb hc hd HS Hz e0 e1 e2 e3 t0 t1 t2 t3
  go_wp2_with fail
  refine (pops_any _ (n0 / 4) (by omega)).mono ?_
  rintro e W' ⟨rfl, rfl⟩
  clear c0
  go_wp2_with fail
  have p0 := pc_le (n0 / 4)
  have p1 := pc_le n1
  have p2 := pc_le n2
  have p3 := pc_le n3
  generalize pc (n0 / 4) = m0 at *
  obtain ⟨m1, hm1⟩ : ∃ m1, m1 = pc n1 := ⟨_, rfl⟩
  obtain ⟨m2, hm2⟩ : ∃ m2, m2 = pc n2 := ⟨_, rfl⟩
  obtain ⟨m3, hm3⟩ : ∃ m3, m3 = pc n3 := ⟨_, rfl⟩
  rw [← hm1] at p1
  rw [← hm2] at p2
  rw [← hm3] at p3
  rw [← hm1, ← hm2, ← hm3] at HN
  have HM1 := hide hm1
  have HM2 := hide hm2
  have HM3 := hide hm3
  clear hm1 hm2 hm3
  go_loopw [6, 25] (fun n i wr => wr = W' ∧ ((i = .int .i64 0 ∧ n = .int .i64 m0) ∨ (i = .int .i64 1 ∧ n = .int .i64 (m0 + m1 : Nat)) ∨ (i = .int .i64 2 ∧ n = .int .i64 (m0 + m1 + m2 : Nat)) ∨ (i = .int .i64 3 ∧ n = .int .i64 (m0 + m1 + m2 + m3 : Nat)))) (fun _ i _ => 3 - (RowKit.intOf i).toNat)
  case atStart => exact ⟨rfl, .inl ⟨rfl, rfl⟩⟩
  case round =>
    obtain ⟨rfl, hrel⟩ := hrel
    rcases hrel with ⟨rfl, rfl⟩ | ⟨rfl, rfl⟩ | ⟨rfl, rfl⟩ | ⟨rfl, rfl⟩
    · go_wp2_with fail
      refine (pops_any _ n1 l1).mono ?_
      rw [← HM1.out]
      rintro e W' ⟨rfl, rfl⟩
      clear c1
      go_wp2_with fail
      go_roundw
      case rel => exact ⟨trivial, .inr (.inl ⟨rfl, by go_num⟩)⟩
      case measure => simp [RowKit.intOf]
    · go_wp2_with fail
      refine (pops_any _ n2 l2).mono ?_
      rw [← HM2.out]
      rintro e W' ⟨rfl, rfl⟩
      clear c2
      go_wp2_with fail
      go_roundw
      case rel => exact ⟨trivial, .inr (.inr (.inl ⟨rfl, by go_num⟩))⟩
      case measure => simp [RowKit.intOf]
    · go_wp2_with fail
      refine (pops_any _ n3 l3).mono ?_
      rw [← HM3.out]
      rintro e W' ⟨rfl, rfl⟩
      clear c3
      go_wp2_with fail
      go_roundw
      case rel => exact ⟨trivial, .inr (.inr (.inr ⟨rfl, by go_num⟩))⟩
      case measure => simp [RowKit.intOf]
    · go_wp2_with fail
      go_ret2
      rw [HN.out]
      exact ⟨rfl, HB.out⟩
end Go.Proofs.Ytiggannhanfolaa
