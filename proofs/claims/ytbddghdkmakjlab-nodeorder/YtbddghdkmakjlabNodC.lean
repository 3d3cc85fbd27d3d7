/-
  The contract of the laws' helper Cut on nodes: exactly what it leaves, in memory of its own.
-/
import Derived.Test.YtbddghdkmakjlabNodO
import Derived.Test.YtbddghdkmakjlabGe
namespace Go.Proofs.Ytbddghdkmakjlab
set_option maxRecDepth 100000
set_option linter.unusedVariables false
open Go.RowKit

def cutS (n : Nat) (s : ByteArray) : ByteArray := if n < s.size then s.extract 0 n else s
theorem cutS_size (n : Nat) (s : ByteArray) : (cutS n s).size ≤ n := by
  unfold cutS
  split
  · simp
    omega
  · omega
theorem cutS_le (n : Nat) (s : ByteArray) : (cutS n s).size ≤ s.size := by
  unfold cutS
  split
  · simp; omega
  · omega
theorem cutS_same {n : Nat} {s : ByteArray} (h : s.size ≤ n) : cutS n s = s := by unfold cutS; rw [if_neg (by omega)]
def Ce.cut (c : Ce) : Ce := ⟨cutS 20 c.N, ⟨c.V.K, c.V.X, cutS 25 c.V.S⟩, c.T, ⟨c.W.K, c.W.X, cutS 25 c.W.S⟩⟩
/-- No text is longer than a cut one. -/
def Ce.Small (c : Ce) : Prop := c.N.size ≤ 20 ∧ c.V.S.size ≤ 25 ∧ c.W.S.size ≤ 25
theorem Ce.cut_small (c : Ce) : c.cut.Small := ⟨cutS_size _ _, cutS_size _ _, cutS_size _ _⟩
theorem Ce.cut_same {c : Ce} (h : c.Small) : c.cut = c := by unfold Ce.cut; rw [cutS_same h.1, cutS_same h.2.1, cutS_same h.2.2]
theorem Ce.cut_ok {c : Ce} (hc : c.Ok) : c.cut.Ok :=
  ⟨Nat.le_trans (cutS_le _ _) hc.n, ⟨hc.v.k0, hc.v.k1, hc.v.x, Nat.le_trans (cutS_le _ _) hc.v.s⟩, hc.t0, hc.t1, ⟨hc.w.k0, hc.w.k1, hc.w.x, Nat.le_trans (cutS_le _ _) hc.w.s⟩⟩

def No.cut (n : No) : No := ⟨n.L, (n.C.take 40).map Ce.cut, (n.K.take 40).map (cutS 20), n.I.take 40⟩
structure No.Small (n : No) : Prop where
  c : n.C.length ≤ 40
  k : n.K.length ≤ 40
  i : n.I.length ≤ 40
  cs : ∀ c ∈ n.C, c.Small
  ks : ∀ s ∈ n.K, s.size ≤ 20
theorem No.cut_small (n : No) : n.cut.Small := by
  refine ⟨by simp [No.cut]; omega, by simp [No.cut]; omega, by simp [No.cut]; omega, fun c hc => ?_, fun c hc => ?_⟩
  · obtain ⟨d, -, rfl⟩ := List.mem_map.1 hc
    exact d.cut_small
  · obtain ⟨d, -, rfl⟩ := List.mem_map.1 hc
    exact cutS_size _ _
theorem map_id_of {α : Type} {f : α → α} : ∀ {l : List α}, (∀ x ∈ l, f x = x) → l.map f = l
  | [], _ => rfl
  | a :: l, h => by rw [List.map_cons, h a (List.mem_cons_self ..), map_id_of (fun x hx => h x (List.mem_cons_of_mem _ hx))]
theorem No.cut_same {n : No} (h : n.Small) : n.cut = n := by
  obtain ⟨L, C, K, I⟩ := n
  obtain ⟨h1, h2, h3, h4, h5⟩ := h
  simp only at h1 h2 h3 h4 h5
  unfold No.cut
  simp only [List.take_of_length_le h1, List.take_of_length_le h2, List.take_of_length_le h3]
  rw [map_id_of (fun c hc => Ce.cut_same (h4 c hc)), map_id_of (fun s hs => cutS_same (h5 s hs))]
theorem No.cut_ok {n : No} (h : n.Ok) : n.cut.Ok := by
  refine ⟨fun c hc => ?_, fun c hc => ?_, fun z hz => h.i z (List.mem_of_mem_take hz)⟩
  · obtain ⟨d, hd, rfl⟩ := List.mem_map.1 hc
    exact Ce.cut_ok (h.c d (List.mem_of_mem_take hd))
  · obtain ⟨d, hd, rfl⟩ := List.mem_map.1 hc
    exact Nat.le_trans (cutS_le _ _) (h.k d (List.mem_of_mem_take hd))

set_option maxHeartbeats 400000 in
theorem cutx_any (s : ByteArray) (n : Nat) (w : World) (_h : s.size ≤ maxLen) :
    Calls Try.prog 16 #[.string s, .int .i64 n] w fun e w' => ∃ s', e = .returned (.string s') ∧ s' = cutS n s ∧ w' = w := by
  unfold maxLen at _h
  by_cases hn : n < s.size
  · have HE : Hid (cutS n s = s.extract 0 n) := hide (by unfold cutS; rw [if_pos hn])
    go_enter Try.func16, Try.ntmps16
    go_wp2_with fail
    go_ret
    exact ⟨_, rfl, by rw [HE.out], rfl⟩
  · have HE : Hid (cutS n s = s) := hide (by unfold cutS; rw [if_neg hn])
    go_enter Try.func16, Try.ntmps16
    go_wp2_with fail
    go_ret
    exact ⟨_, rfl, by rw [HE.out], rfl⟩
theorem cut25x_any (s : ByteArray) (w : World) (h : s.size ≤ maxLen) :
    Calls Try.prog 16 #[.string s, .int .i64 25] w fun e w' => ∃ s', e = .returned (.string s') ∧ s' = cutS 25 s ∧ w' = w := cutx_any s 25 w h
theorem cut20x_any (s : ByteArray) (w : World) (h : s.size ≤ maxLen) :
    Calls Try.prog 16 #[.string s, .int .i64 20] w fun e w' => ∃ s', e = .returned (.string s') ∧ s' = cutS 20 s ∧ w' = w := cutx_any s 20 w h

set_option maxHeartbeats 1000000 in
theorem valx_cell (v : Va) (w : World) (h : v.S.size ≤ maxLen) :
    Calls Try.prog 27 #[.agg (va v)] w fun e w' => ∃ s', e = .returned (.agg (va ⟨v.K, v.X, s'⟩)) ∧ s' = cutS 25 v.S ∧ Below w.heap.size w w' := by
  go_enter Try.func27, Try.ntmps27
  go_wp2_with (first
    | (refine wpList_box 32 (.tmp 0) (va v) rfl rfl rfl ?_; intro W1 hB hX)
    | (refine wpList_new 32 _ rfl rfl tyV ?_; intro W2 hB2 hY; have l01 := hB.size; have n01 := Nat.ne_of_lt hX.lt; replace hX := hX.later hB2; replace hB := hB.trans (hB2.mono hB.size); clear hB2; obtain ⟨v0, v1, v2⟩ := hX.vals))
  refine (cut25x_any v.S _ h).mono ?_
  rintro e W3 ⟨s', rfl, hs1, rfl⟩
  have HS1 := hide hs1
  clear hs1
  go_wp2_with (first
    | (refine wpList_put1 9 (.tmp 6) (.tmp 5) _ 2 (.string s') _ rfl rfl rfl rfl hX (show 2 < 3 by omega) (by kernel_rfl) rfl (fun a W => run_store Try.prog W a _ _ rfl) ?_; intro W4 hb4 hs4 hX4; replace hY := hY.but hb4 (fun e => n01 e.symm); have hB4 := Below.but hB hB.size hb4 (fun k e => by omega); clear hB hX hb4 hs4 v0 v1 v2; have hB := hB4; have hX : Bx W4 _ (va ⟨v.K, v.X, s'⟩) := hX4; clear hX4 hB4)
    | (refine wpList_get 32 _ (.tmp 1) _ (va ⟨v.K, v.X, s'⟩) rfl rfl rfl hX tyV rfl ?_)
    | (refine wpList_put 32 _ (.tmp 2) (.tmp 7) _ (va ⟨v.K, v.X, s'⟩) _ rfl rfl rfl rfl hY tyV rfl rfl (va_one _) ?_; intro W5 hb5 hs5 hY5))
  refine bodyPost_ret (v := .agg (va ⟨v.K, v.X, s'⟩)) (results_bx Try.results27 _ _ _ _ rfl hY5 tyV rfl) rfl ⟨s', rfl, HS1.out, ?_⟩
  exact Below.but hB hB.size hb5 (fun k e => by omega)

set_option maxRecDepth 100000 in
set_option maxHeartbeats 4000000 in
theorem cutx_cell (c : Ce) (w : World) (hc : c.Ok) :
    Calls Try.prog 15 #[.agg (cv c)] w fun e w' => e = .returned (.agg (cv c.cut)) ∧ Below w.heap.size w w' := by
  have HC := hide hc
  clear hc
  go_enter Try.func15, Try.ntmps15
  go_wp2_with (first
    | (refine wpList_box 34 (.tmp 0) (cv c) rfl rfl rfl ?_; intro W1 hB hX)
    | (refine wpList_new 34 _ rfl rfl tyR ?_; intro W2 hB2 hY; have l01 := hB.size; have n01 := Nat.ne_of_lt hX.lt; replace hX := hX.later hB2; replace hB := hB.trans (hB2.mono hB.size); clear hB2))
  have HA : Hid (∀ w', Below W2.heap.size W2 w' → _) := fun w' hb => (hX.later hb).cells
  refine wp_region_noPanic ?_
  refine wp_region_P 10 (fun W => Below W2.heap.size W2 W) (by kernel_rfl) (Below.refl _ _).drew (fun hHeld => ?_)
  refine wpAnyP_takeU (i := 0) (v := ?_) rfl (by kernel_rfl) (by kernel_rfl) (by kernel_rfl) (by decide) (fun _ _ _ h => h) (Or.inl ⟨by kernel_rfl, ?_⟩) hHeld ?_
  rotate_left
  · intro W hW; clear hW; go_simp; first | done | with_reducible rfl | rfl
  try simp only [Act.put]
  refine wpAnyP_take (i := 1) (v := .string c.N) rfl (by kernel_rfl) (by kernel_rfl) (by kernel_rfl) (by kernel_rfl) (by kernel_rfl) (by decide) (fun _ _ _ h => h) (Or.inl ⟨by kernel_rfl, ?_⟩) hHeld ?_
  · intro W hW; obtain ⟨c0, c1, c2, c3, c4, c5, c6, c7⟩ := HA.out W hW; go_simp; first | done | with_reducible rfl | rfl
  try simp only [Act.put]
  refine wpAnyP_takeU (i := 3) (v := ?_) rfl (by kernel_rfl) (by kernel_rfl) (by kernel_rfl) (by decide) (fun _ _ _ h => h) (Or.inl ⟨by kernel_rfl, ?_⟩) hHeld ?_
  rotate_left
  · intro W hW; clear hW; go_simp; first | done | with_reducible rfl | rfl
  try simp only [Act.put]
  refine wpAnyP_take (i := 4) (v := .agg (va c.V)) rfl (by kernel_rfl) (by kernel_rfl) (by kernel_rfl) (by kernel_rfl) (by kernel_rfl) (by decide) (fun _ _ _ h => h) (Or.inl ⟨by kernel_rfl, ?_⟩) hHeld ?_
  · intro W hW; obtain ⟨c0, c1, c2, c3, c4, c5, c6, c7⟩ := HA.out W hW; go_simp; first | done | with_reducible rfl | rfl
  try simp only [Act.put]
  refine wpAnyP_takeU (i := 6) (v := ?_) rfl (by kernel_rfl) (by kernel_rfl) (by kernel_rfl) (by decide) (fun _ _ _ h => h) (Or.inl ⟨by kernel_rfl, ?_⟩) hHeld ?_
  rotate_left
  · intro W hW; clear hW; go_simp; first | done | with_reducible rfl | rfl
  try simp only [Act.put]
  refine wpAnyP_take (i := 7) (v := .agg (va c.W)) rfl (by kernel_rfl) (by kernel_rfl) (by kernel_rfl) (by kernel_rfl) (by kernel_rfl) (by decide) (fun _ _ _ h => h) (Or.inl ⟨by kernel_rfl, ?_⟩) hHeld ?_
  · intro W hW; obtain ⟨c0, c1, c2, c3, c4, c5, c6, c7⟩ := HA.out W hW; go_simp; first | done | with_reducible rfl | rfl
  try simp only [Act.put]
  refine wpAnyP_ready (rs := [2]) (by kernel_rfl) (by simp) ?_
  refine AllReadyP.cons (o := _) rfl (fun K hK => ?_) AllReadyP.nil
  rw [if_pos (by kernel_rfl)]
  go_simp
  refine (cut20x_any c.N _ HC.out.n).mono ?_
  rintro e x2 ⟨s0, rfl, hs0, rfl⟩
  have HS0 := hide hs0
  clear hs0
  dsimp only
  refine hK.out _ _ hHeld ?_
  clear hK K
  try simp only [Act.put]
  refine wpAnyP_takeU (i := 9) (v := ?_) rfl (by kernel_rfl) (by kernel_rfl) (by kernel_rfl) (by decide) (fun _ _ _ h => h) (Or.inl ⟨by kernel_rfl, ?_⟩) hHeld ?_
  rotate_left
  · intro W hW; clear hW; go_simp; first | done | with_reducible rfl | rfl
  try simp only [Act.put]
  refine wpAnyP_ready (rs := [5]) (by kernel_rfl) (by simp) ?_
  refine AllReadyP.cons (o := _) rfl (fun K hK => ?_) AllReadyP.nil
  rw [if_pos (by kernel_rfl)]
  go_simp
  refine (valx_cell c.V _ HC.out.v.s).mono ?_
  rintro e x3 ⟨s1, rfl, hs1, hb3⟩
  have HS1 := hide hs1
  clear hs1
  dsimp only
  have hHeld3 := hHeld.trans (hb3.mono hHeld.size)
  refine hK.out _ _ hHeld3 ?_
  clear hK K hb3
  try simp only [Act.put]
  refine wpAnyP_ready (rs := [8]) (by kernel_rfl) (by simp) ?_
  refine AllReadyP.cons (o := _) rfl (fun K hK => ?_) AllReadyP.nil
  rw [if_pos (by kernel_rfl)]
  go_simp
  refine (valx_cell c.W _ HC.out.w.s).mono ?_
  rintro e x4 ⟨s2, rfl, hs2, hb4⟩
  have HS2 := hide hs2
  clear hs2
  dsimp only
  have hHeld4 := hHeld3.trans (hb4.mono hHeld3.size)
  refine hK.out _ _ hHeld4 ?_
  clear hK K hb4
  try simp only [Act.put]
  replace hX := hX.later hHeld4
  replace hY := hY.later hHeld4
  replace hB := hB.trans (hHeld4.mono hB.size)
  clear hHeld3 hHeld4 hHeld HA
  refine wpAnyP_ready (rs := [10]) (by kernel_rfl) (by simp) ?_
  refine AllReadyP.late (o := _) rfl (by kernel_rfl) (fun K hK => ?_)
  rw [if_pos (by kernel_rfl)]
  refine wp_put1 9 (.tmp 12) (.tmp 5) _ 0 (.string s0) _ rfl rfl rfl hX (show 0 < 8 by omega) (by kernel_rfl) rfl (fun a W => run_store Try.prog W a _ _ rfl) ?_
  intro W5 hb5 hz5 hX5
  refine hK.out _ _ ?_
  clear hK K
  try simp only [Act.put, List.getElem_toArray, List.getElem_cons_zero, List.getElem_cons_succ]
  replace hY := hY.but hb5 (fun e => n01 e.symm)
  replace hB := Below.but hB hB.size hb5 (fun k e => by omega)
  clear hX hb5 hz5
  have hX : Bx W5 _ (cv ⟨s0, c.V, c.T, c.W⟩) := hX5
  clear hX5
  refine wpAnyP_ready (rs := [11]) (by kernel_rfl) (by simp) ?_
  refine AllReadyP.late (o := _) rfl (by kernel_rfl) (fun K hK => ?_)
  rw [if_pos (by kernel_rfl)]
  go_simp
  refine hK.out _ _ ?_
  clear hK K
  try simp only [Act.put]
  refine wpAnyP_ready (rs := [12]) (by kernel_rfl) (by simp) ?_
  refine AllReadyP.late (o := _) rfl (by kernel_rfl) (fun K hK => ?_)
  rw [if_pos (by kernel_rfl)]
  refine wp_putV (.tmp 13) (.tmp 8) _ 1 ⟨c.V.K, c.V.X, s1⟩ _ rfl rfl rfl hX (show 1 + 3 ≤ 8 by omega) ?_
  intro W6 hb6 hz6 hX6
  refine hK.out _ _ ?_
  clear hK K
  try simp only [Act.put, List.getElem_toArray, List.getElem_cons_zero, List.getElem_cons_succ]
  replace hY := hY.but hb6 (fun e => n01 e.symm)
  replace hB := Below.but hB hB.size hb6 (fun k e => by omega)
  clear hX hb6 hz6
  have hX : Bx W6 _ (cv ⟨s0, ⟨c.V.K, c.V.X, s1⟩, c.T, c.W⟩) := hX6
  clear hX6
  refine wpAnyP_ready (rs := [13]) (by kernel_rfl) (by simp) ?_
  refine AllReadyP.late (o := _) rfl (by kernel_rfl) (fun K hK => ?_)
  rw [if_pos (by kernel_rfl)]
  go_simp
  refine hK.out _ _ ?_
  clear hK K
  try simp only [Act.put]
  refine wpAnyP_ready (rs := [14]) (by kernel_rfl) (by simp) ?_
  refine AllReadyP.late (o := _) rfl (by kernel_rfl) (fun K hK => ?_)
  rw [if_pos (by kernel_rfl)]
  refine wp_putV (.tmp 14) (.tmp 11) _ 5 ⟨c.W.K, c.W.X, s2⟩ _ rfl rfl rfl hX (show 5 + 3 ≤ 8 by omega) ?_
  intro W7 hb7 hz7 hX7
  refine hK.out _ _ ?_
  clear hK K
  try simp only [Act.put, List.getElem_toArray, List.getElem_cons_zero, List.getElem_cons_succ]
  replace hY := hY.but hb7 (fun e => n01 e.symm)
  replace hB := Below.but hB hB.size hb7 (fun k e => by omega)
  clear hX hb7 hz7
  have hX : Bx W7 _ (cv ⟨s0, ⟨c.V.K, c.V.X, s1⟩, c.T, ⟨c.W.K, c.W.X, s2⟩⟩) := hX7
  clear hX7
  refine wpAnyP_done (by kernel_rfl) ?_ _
  refine NoPanic.normal ?_
  go_simp
  go_wp2_with (first
    | (refine wpList_get 34 _ (.tmp 1) _ (cv ⟨s0, ⟨c.V.K, c.V.X, s1⟩, c.T, ⟨c.W.K, c.W.X, s2⟩⟩) rfl rfl rfl hX tyR rfl ?_)
    | (refine wpList_put 34 _ (.tmp 2) (.tmp 15) _ (cv ⟨s0, ⟨c.V.K, c.V.X, s1⟩, c.T, ⟨c.W.K, c.W.X, s2⟩⟩) _ rfl rfl rfl rfl hY tyR rfl rfl (cv_one _) ?_; intro W8 hb8 hz8 hY8))
  refine bodyPost_ret (v := .agg (cv ⟨s0, ⟨c.V.K, c.V.X, s1⟩, c.T, ⟨c.W.K, c.W.X, s2⟩⟩)) (results_bx Try.results15 _ _ _ _ rfl hY8 tyR rfl) rfl ⟨?_, ?_⟩
  · unfold Ce.cut; rw [← HS0.out, ← HS1.out, ← HS2.out]
  · exact Below.but hB hB.size hb8 (fun k e => by omega)

/-- A node's slices in memory of one's own. -/
structure Cu (w : World) (B : Nat) (vc vk vi : Value) (n : No) : Prop where
  c : w.ownsRow B 34 8 vc n.C.length (cc n.C)
  k : w.ownsRow B 9 1 vk n.K.length (n.K.map Value.string)
  i : w.ownsRow B 3 1 vi n.I.length (n.I.map (Value.int .i64))

theorem Cu.nb {w : World} {B : Nat} {vc vk vi : Value} {n : No} (h : Cu w B vc vk vi n) (hok : n.Ok) : Nb w vc vk vi n := ⟨Cs.own h.c hok.c, Ts.own h.k hok.k, Is.own h.i hok.i⟩

theorem Cu.below {w w' : World} {B : Nat} {vc vk vi : Value} {n : No} (h : Cu w B vc vk vi n) (hb : Below w.heap.size w w') : Cu w' B vc vk vi n := ⟨own_below h.c hb, own_below h.k hb, own_below h.i hb⟩

theorem Cu.mono {w : World} {B B' : Nat} {vc vk vi : Value} {n : No} (h : Cu w B vc vk vi n) (hb : B' ≤ B) : Cu w B' vc vk vi n := ⟨own_mono h.c hb, own_mono h.k hb, own_mono h.i hb⟩

theorem Cu.but {w w' : World} {B : Nat} {vc vk vi : Value} {n : No} {S : Nat → Prop} (h : Cu w B vc vk vi n) (hb : But S w w') (hs : ∀ k, B ≤ k → ¬ S k) : Cu w' B vc vk vi n := ⟨own_but' h.c hb hs, own_but' h.k hb hs, own_but' h.i hb hs⟩

/-- The variables of Cut. -/
structure Cst (w0 w : World) (B ba br bx : Nat) (A X : Array Value) : Prop where
  x : Bx w bx X
  a : Bx w ba A
  r : Bx w br nn0
  b : B ≤ w.heap.size
  w : Below w0.heap.size w0 w

structure Cpl (w0 : World) (B ba br bx : Nat) : Prop where
  a : w0.heap.size ≤ ba
  ar : ba < br
  rx : br < bx
  xB : bx < B

theorem Cst.later {w0 w w' : World} {B ba br bx : Nat} {A X : Array Value} (h : Cst w0 w B ba br bx A X) (hb : Below w.heap.size w w') : Cst w0 w' B ba br bx A X :=
  ⟨h.x.later hb, h.a.later hb, h.r.later hb, Nat.le_trans h.b hb.size, h.w.trans (hb.mono h.w.size)⟩

theorem Cst.grown {w0 w w' : World} {B ba br bx : Nat} {A X : Array Value} (h : Cst w0 w B ba br bx A X) (hp : Cpl w0 B ba br bx) {e : TypeId} {s : Nat} {v : Value} {n : Nat} {xs : List Value} (ho : w.ownsRow B e s v n xs) (hg : w.grownBy w' v.ownBlock) : Cst w0 w' B ba br bx A X := by
  have h1 := hp.a; have h2 := hp.ar; have h3 := hp.rx; have h4 := hp.xB
  exact ⟨h.x.grown hg (own_ne ho hp.xB), h.a.grown hg (own_ne ho (by omega)), h.r.grown hg (own_ne ho (by omega)), Nat.le_trans h.b hg.size, h.w.grown hg h.w.size (fun j hj => by have := (ho.lt j hj).1; omega)⟩

theorem Cst.put {w0 w w' : World} {B ba br bx : Nat} {A X X' : Array Value} (h : Cst w0 w B ba br bx A X) (hp : Cpl w0 B ba br bx) (hb : But (· = bx) w w') (hz : w'.heap.size = w.heap.size) (hx : Bx w' bx X') : Cst w0 w' B ba br bx A X' := by
  have h1 := hp.a; have h2 := hp.ar; have h3 := hp.rx; have h4 := hp.xB
  exact ⟨hx, h.a.but hb (by omega), h.r.but hb (by omega), by rw [hz]; exact h.b, Below.but h.w h.w.size hb (fun k e => by omega)⟩

theorem take_step {α : Type} {l : List α} {k : Nat} {d : α} (hk : k < l.length) : l.take (k + 1) = l.take k ++ [l.getD k d] := by
  rw [← List.take_append_getElem hk]
  simp [List.getD, List.getElem?_eq_getElem hk]

theorem take_40 {α : Type} {l : List α} {k : Nat} (h1 : k ≤ l.length) (h2 : k ≤ 40) (h3 : k = l.length ∨ k = 40) : l.take k = l.take 40 := by
  rcases h3 with rfl | rfl
  · rw [List.take_of_length_le (Nat.le_refl _), List.take_of_length_le h2]
  · rfl

theorem str_one' (s : ByteArray) : ∀ u ∈ (Value.string s).cells.toList, u.oneCell' = true := by
  intro u hu
  simp [Value.cells] at hu
  rw [hu]
  rfl

theorem int_one' (z : Int) : ∀ u ∈ (Value.int .i64 z).cells.toList, u.oneCell' = true := by
  intro u hu
  simp [Value.cells] at hu
  rw [hu]
  rfl

set_option maxRecDepth 100000 in
set_option maxHeartbeats 16000000 in
theorem ncut_any (vc vk vi : Value) (n : No) (w : World) (h : Nb w vc vk vi n) :
    Calls Try.prog 6 #[.agg (nv n.L vc vk vi)] w fun e w' => ∃ vc' vk' vi', e = .returned (.agg (nv n.L vc' vk' vi')) ∧ Cu w' w.heap.size vc' vk' vi' n.cut ∧ Below w.heap.size w w' := by
  obtain ⟨L, C, KK, I⟩ := n
  have HOKn := hide h.ok
  obtain ⟨hc, hk, hi⟩ := h
  simp only at hc hk hi
  obtain ⟨p0, n0, c0, rfl, ha0, hb0, HN0, HC⟩ := hc.opens
  obtain ⟨p1, n1, c1, rfl, ha1, hb1, HN1, HK⟩ := hk.opens
  obtain ⟨p2, n2, c2, rfl, ha2, hb2, HN2, HI⟩ := hi.opens
  have e0 := HN0.out
  have e1 := HN1.out
  have e2 := HN2.out
  subst e0 e1 e2
  clear hc hk hi HN0 HN1 HN2
  go_enter Try.func6, Try.ntmps6
  go_wp2_with (first
    | (refine wpList_box 26 (.tmp 0) (nv L _ _ _) rfl rfl rfl ?_; intro W1 hB hA; have lw := hA.lt)
    | (refine wpList_at 3 26 _ rfl rfl rfl tyM ?_; intro W3 hB3 hX; have lx := hR.lt; have lb := hX.lt; replace hR := hR.later hB3; replace hA := hA.later hB3; replace hB := hB.trans (hB3.mono hB.size); clear hB3; obtain ⟨g0, g1, g2, g3⟩ := hA.nodes)
    | (refine wpList_new 26 _ rfl rfl tyM ?_; intro W2 hB2 hR; replace hA := hA.later hB2; replace hB := hB.trans (hB2.mono hB.size); clear hB2; obtain ⟨g0, g1, g2, g3⟩ := hA.nodes)
    | (refine wpList_put 26 _ (.tmp 3) (.tmp 9) _ (nv L (.slice none 0 0) (.slice none 0 0) (.slice none 0 0)) _ rfl rfl rfl rfl hX tyM rfl rfl (nv3_one _ _ _ _ _ _ _ _ _) ?_; intro W4 hb4 hs4 hX4; replace hR := hR.but hb4 (Nat.ne_of_lt lx); replace hA := hA.but hb4 (Nat.ne_of_lt (Nat.lt_trans lw lx)); have hB4 := Below.but hB hB.size hb4 (fun k e => by omega); clear hB hX hb4 g0 g1 g2 g3))
  generalize W2.heap.size = bx at *
  generalize W1.heap.size = br at *
  generalize hB0 : W3.heap.size = B at *
  have HPL : Hid (Cpl w B w.heap.size br bx) := hide ⟨Nat.le_refl _, lw, lx, lb⟩
  have HS : Hid (Cst w W4 B w.heap.size br bx (nv L (.slice p0 C.length c0) (.slice p1 KK.length c1) (.slice p2 I.length c2)) (nv L (.slice none 0 0) (.slice none 0 0) (.slice none 0 0))) := hide ⟨hX4, hA, hR, by omega, hB4⟩
  clear hA hR hX4 hB4 hs4 lw lx lb hB0
  obtain ⟨Q0, HQ0⟩ : ∃ Q0 : Exit → Act → World → Prop, Hid (Q0 = fun e a' w' => e = Exit.exit 0 ∧ ∃ p5, ∃ m5, ∃ c5, ∃ x : Nat → Value, a' = ({ tmps := #[x 0, .pointer (some ⟨w.heap.size, 0, none⟩), .pointer (some ⟨br, 0, none⟩), .pointer (some ⟨bx, 0, none⟩), x 4, x 5, x 6, x 7, x 8, x 9, x 10, x 11, x 12, x 13, x 14, x 15, x 16, x 17, x 18, x 19, x 20, x 21, x 22, x 23, x 24, x 25, x 26, x 27, x 28, x 29, x 30, x 31, x 32, x 33, x 34, x 35, x 36, x 37, x 38, x 39, x 40, x 41, x 42, x 43, x 44, x 45, x 46, x 47, x 48, x 49, x 50, x 51, x 52, x 53, x 54, x 55, x 56, x 57, x 58, x 59, x 60, x 61, x 62, x 63, x 64, x 65, x 66, x 67, x 68, x 69, x 70, x 71, x 72, x 73, x 74, x 75], defers := [] } : Act) ∧ Hid (m5 = ((C.take 40).map Ce.cut).length) ∧ Hid (w'.ownsRow B 34 8 (.slice p5 m5 c5) m5 (cc ((C.take 40).map Ce.cut))) ∧ Hid (Cst w w' B w.heap.size br bx (nv L (.slice p0 C.length c0) (.slice p1 KK.length c1) (.slice p2 I.length c2)) (nv L (.slice p5 m5 c5) (.slice none 0 0) (.slice none 0 0)))) := ⟨_, rfl⟩
  refine Code.wp_mono (Q := Q0) ?cont1 ?_
  rotate_left
  · skip
    go_wp2_with fail
    go_loopw [4] (fun i wr => ∃ (k : Nat) (va : Value), k ≤ C.length ∧ k ≤ 40 ∧ i = .int .i64 k ∧ Hid (wr.ownsRow B 34 8 va k (cc ((C.take k).map Ce.cut))) ∧ Hid (Cst w wr B w.heap.size br bx (nv L (.slice p0 C.length c0) (.slice p1 KK.length c1) (.slice p2 I.length c2)) (nv L va (.slice none 0 0) (.slice none 0 0)))) (fun i _ => C.length - (intOf i).toNat)
    case atStart => exact ⟨0, .slice none 0 0, by omega, by omega, rfl, World.ownsRow_nil _ _ _ _, HS⟩
    case round =>
      obtain ⟨k, vr, hk0, hk40, rfl, HO, HT⟩ := hrel
      clear HS
      have hA := HT.out.a
      have hX := HT.out.x
      obtain ⟨g0, g1, g2, g3⟩ := hA.nodes
      by_cases hk : k < C.length
      · by_cases h4 : k < 40
        · skip
          obtain ⟨b, off, rfl, r0, hqo⟩ := Cs.at_ HC.out hk
          have HQ := hide hqo
          have HTS := hide (take_step (d := Ce.zero) hk)
          have HKL := hide hk
          generalize hq : C.getD k Ce.zero = q at *
          have HG : Hid (wr.rangeAt b (off + k * 8) (cv q).toList) := hide (rangeAt_later r0 HT.out.w (rangeAt_lt r0))
          have HGl : Hid (b < B) := hide (Nat.lt_of_lt_of_le (rangeAt_lt r0) (by have := HPL.out; have := this.a; have := HPL.out.ar; have := HPL.out.rx; have := HPL.out.xB; omega))
          have HS1 : Hid ((k + 1) * 88 ≤ 140737488355328) := hide (by omega)
          have HS2 : Hid (k + 1 ≤ 140737488355328) := hide (by omega)
          clear r0 hq hqo
          go_wp2_with fail
          clear g0 g1 g2 g3
          obtain ⟨pr, cr, rfl, hr1, hr2⟩ := own_opensN HO.out
          refine wp_region_noPanic ?_
          refine wp_region_P 11 (fun W => Below B wr W) (by kernel_rfl) (Below.refl _ _).drew (fun hHeld => ?_)
          refine wpAnyP_takeU (i := 0) (v := ?_) rfl (by kernel_rfl) (by kernel_rfl) (by kernel_rfl) (by decide) (fun _ _ _ h => h) (Or.inl ⟨by kernel_rfl, ?_⟩) hHeld ?_
          rotate_left
          · intro W hW; clear hW; go_simp; first | done | with_reducible rfl | rfl
          try simp only [Act.put, List.getElem_toArray, List.getElem_cons_zero, List.setIfInBounds_toArray, List.set_cons_succ, List.set_cons_zero]
          refine wpAnyP_take (i := 1) (v := .slice pr k cr) rfl (by kernel_rfl) (by kernel_rfl) (by kernel_rfl) (by kernel_rfl) (by kernel_rfl) (by decide) (fun _ _ _ h => h) (Or.inl ⟨by kernel_rfl, ?_⟩) hHeld ?_
          · intro W hW; obtain ⟨g0, g1, g2, g3⟩ := (hX.low HPL.out.xB hW).nodes; go_simp; first | done | with_reducible rfl | rfl
          try simp only [Act.put, List.getElem_toArray, List.getElem_cons_zero, List.getElem_cons_succ, List.setIfInBounds_toArray, List.set_cons_succ, List.set_cons_zero]
          refine wpAnyP_takeU (i := 2) (v := ?_) rfl (by kernel_rfl) (by kernel_rfl) (by kernel_rfl) (by decide) (fun _ _ _ h => h) (Or.inl ⟨by kernel_rfl, ?_⟩) hHeld ?_
          rotate_left
          · intro W hW; clear hW; go_simp; first | done | with_reducible rfl | rfl
          try simp only [Act.put, List.getElem_toArray, List.getElem_cons_zero, List.getElem_cons_succ, List.setIfInBounds_toArray, List.set_cons_succ, List.set_cons_zero]
          refine wpAnyP_take (i := 3) (v := .slice (some ⟨b, off, none⟩) C.length c0) rfl (by kernel_rfl) (by kernel_rfl) (by kernel_rfl) (by kernel_rfl) (by kernel_rfl) (by decide) (fun _ _ _ h => h) (Or.inl ⟨by kernel_rfl, ?_⟩) hHeld ?_
          · intro W hW; obtain ⟨g0, g1, g2, g3⟩ := (hA.low (Nat.lt_trans HPL.out.ar (Nat.lt_trans HPL.out.rx HPL.out.xB)) hW).nodes; go_simp; first | done | with_reducible rfl | rfl
          try simp only [Act.put, List.getElem_toArray, List.getElem_cons_zero, List.getElem_cons_succ, List.setIfInBounds_toArray, List.set_cons_succ, List.set_cons_zero]
          refine wpAnyP_takeU (i := 4) (v := ?_) rfl (by kernel_rfl) (by kernel_rfl) (by kernel_rfl) (by decide) (fun _ _ _ h => h) (Or.inl ⟨by kernel_rfl, ?_⟩) hHeld ?_
          rotate_left
          · intro W hW; clear hW; go_simp; first | done | with_reducible rfl | rfl
          try simp only [Act.put, List.getElem_toArray, List.getElem_cons_zero, List.getElem_cons_succ, List.setIfInBounds_toArray, List.set_cons_succ, List.set_cons_zero]
          refine wpAnyP_take (i := 5) (v := .pointer (some ⟨b, off + k * 8, none⟩)) rfl (by kernel_rfl) (by kernel_rfl) (by kernel_rfl) (by kernel_rfl) (by kernel_rfl) (by decide) (fun _ _ _ h => h) (Or.inl ⟨by kernel_rfl, ?_⟩) hHeld ?_
          · intro W hW; go_simp; first | done | with_reducible rfl | rfl
          try simp only [Act.put, List.getElem_toArray, List.getElem_cons_zero, List.getElem_cons_succ, List.setIfInBounds_toArray, List.set_cons_succ, List.set_cons_zero]
          refine wpAnyP_take (i := 6) (v := .agg (cv q)) rfl (by kernel_rfl) (by kernel_rfl) (by kernel_rfl) (by kernel_rfl) (by kernel_rfl) (by decide) (fun _ _ _ h => h) (yields_mid (by kernel_rfl) _ rfl _ _ rfl (fun W hW => rangeAt_later HG.out hW HGl.out)) hHeld ?_
          try simp only [Act.put, List.getElem_toArray, List.getElem_cons_zero, List.getElem_cons_succ, List.setIfInBounds_toArray, List.set_cons_succ, List.set_cons_zero]
          refine wpAnyP_ready (rs := [7]) (by kernel_rfl) (by simp) ?_
          refine AllReadyP.cons (o := _) rfl (fun K hK => ?_) AllReadyP.nil
          rw [if_pos (by kernel_rfl)]
          go_simp
          refine (cutx_cell q _ HQ.out).mono ?_
          rintro e x1 ⟨rfl, hb⟩
          dsimp only
          have ho := own_below HO.out (undrew hb)
          have hT := HT.out.later (undrew hb)
          have hH1 := hHeld.trans (hb.mono (Nat.le_trans HT.out.b hHeld.size))
          refine hK.out _ _ hH1 ?_
          clear hK K hb hHeld
          have hHeld := hH1
          clear hH1
          try simp only [Act.put, List.getElem_toArray, List.getElem_cons_zero, List.getElem_cons_succ, List.setIfInBounds_toArray, List.set_cons_succ, List.set_cons_zero]
          refine wpAnyP_ready (rs := [8]) (by kernel_rfl) (by simp) ?_
          refine AllReadyP.cons (o := _) rfl (fun K hK => ?_) AllReadyP.nil
          rw [if_pos (by kernel_rfl)]
          refine wp_buildN 22 34 (.agg (cv Ce.zero)) 8 88 Try.underlying22 infoC rfl (by decide) (by decide) (.tmp 28) rfl (.agg (cv q.cut)) rfl rfl ?_
          have hA5 : Below _ x1 (World.alloc x1 (.cells (cv q.cut) 34)) := (Below.refl _ _).alloc (Nat.le_refl _) _
          have hH2 := hHeld.trans (hA5.mono hT.b)
          refine hK.out _ _ hH2 ?_
          clear hK K hHeld
          try simp only [Act.put, List.getElem_toArray, List.getElem_cons_zero, List.getElem_cons_succ, List.setIfInBounds_toArray, List.set_cons_succ, List.set_cons_zero]
          refine wpAnyP_ready (rs := [9]) (by kernel_rfl) (by simp) ?_
          refine AllReadyP.cons (o := _) rfl (fun K hK => ?_) AllReadyP.nil
          rw [if_pos (by kernel_rfl)]
          refine wp_appN 22 34 (.agg (cv Ce.zero)) 8 88 Try.underlying22 infoC rfl (by decide) (.tmp 22) (.tmp 29) rfl B (.slice pr k cr) k (cc ((C.take k).map Ce.cut)) _ _ rfl rfl HS1.out HS2.out (ho.alloc _) (heap_alloc_new _ _) rfl (cv_one q.cut) (Nat.le_trans hT.b (alloc_le _ _)) ?_
          intro v5 W5 ho5 hg5
          have hT5 := (hT.later hA5).grown HPL.out (ho.alloc _) hg5
          have hHeld := hH2.grown hg5 (Nat.le_trans hT.b (alloc_le _ _)) (fun j hj => (ho.lt j hj).1)
          obtain ⟨p5, c5, rfl, hc5, hc6⟩ := own_opensN ho5
          refine hK.out _ _ hHeld ?_
          clear hK K hA5 hg5 hT ho hH2
          try simp only [Act.put, List.getElem_toArray, List.getElem_cons_zero, List.getElem_cons_succ, List.setIfInBounds_toArray, List.set_cons_succ, List.set_cons_zero]
          refine wpAnyP_takeU (i := 10) (v := ?_) rfl (by kernel_rfl) (by kernel_rfl) (by kernel_rfl) (by decide) (fun _ _ _ h => h) (Or.inl ⟨by kernel_rfl, ?_⟩) hHeld ?_
          rotate_left
          · intro W hW; clear hW; go_simp; first | done | with_reducible rfl | rfl
          try simp only [Act.put, List.getElem_toArray, List.getElem_cons_zero, List.getElem_cons_succ, List.setIfInBounds_toArray, List.set_cons_succ, List.set_cons_zero]
          refine wpAnyP_ready (rs := [11]) (by kernel_rfl) (by simp) ?_
          refine AllReadyP.late (o := _) rfl (by kernel_rfl) (fun K hK => ?_)
          rw [if_pos (by kernel_rfl)]
          refine wp_put1 22 (.tmp 31) (.tmp 30) _ 1 (.slice p5 (k + 1) c5) _ rfl rfl rfl hT5.x (show 1 < 4 by omega) (by kernel_rfl) rfl (fun a W => run_store Try.prog W a _ _ rfl) ?_
          intro W6 hb6 hs6 hX6
          refine hK.out _ _ ?_
          clear hK K hHeld
          try simp only [Act.put, List.getElem_toArray, List.getElem_cons_zero, List.getElem_cons_succ]
          refine wpAnyP_done (by kernel_rfl) ?_ _
          refine NoPanic.normal ?_
          go_simp
          go_wp2_with fail
          go_roundw
          case rel =>
            refine ⟨k + 1, .slice p5 (k + 1) c5, hk, h4, by go_num, ?_, hT5.put HPL.out hb6 hs6 hX6⟩
            have hnew : (C.take (k + 1)).map Ce.cut = (C.take k).map Ce.cut ++ [q.cut] := by rw [HTS.out]; simp
            rw [hnew, cc_snoc]
            exact own_but' ho5 hb6 (fun k hk e => by have := HPL.out.xB; omega)
          case measure => simp [intOf]; omega
        · skip
          have HE := hide (take_40 hk0 hk40 (Or.inr (by omega)))
          have HOE := HO.out
          rw [HE.out] at HOE
          have HM5 : Hid (k = ((C.take 40).map Ce.cut).length) := hide (by rw [← HE.out]; simp; omega)
          obtain ⟨p5, c5, rfl, hc5, hc6⟩ := own_opensN HOE
          have HOF := hide HOE
          clear HOE HO HE hc5 hc6
          go_wp2_with fail
          generalize hA0 : ({ tmps := _, defers := [] } : Act) = A0
          rw [HQ0.out]
          exact ⟨rfl, p5, k, c5, fun k => A0.tmps.getD k undef, (by subst hA0; kernel_rfl), HM5, HOF, HT⟩
      · skip
        have HE := hide (take_40 hk0 hk40 (Or.inl (by omega)))
        have HOE := HO.out
        rw [HE.out] at HOE
        have HM5 : Hid (k = ((C.take 40).map Ce.cut).length) := hide (by rw [← HE.out]; simp; omega)
        obtain ⟨p5, c5, rfl, hc5, hc6⟩ := own_opensN HOE
        have HOF := hide HOE
        clear HOE HO HE hc5 hc6
        go_wp2_with fail
        generalize hA0 : ({ tmps := _, defers := [] } : Act) = A0
        rw [HQ0.out]
        exact ⟨rfl, p5, k, c5, fun k => A0.tmps.getD k undef, (by subst hA0; kernel_rfl), HM5, HOF, HT⟩
  intro e a' y1 hq
  rw [HQ0.out] at hq
  obtain ⟨rfl, q1, m1, r1, x, rfl, HM1, HO1, HSn⟩ := hq
  clear HQ0 Q0 HS
  have HS := HSn
  clear HSn
  go_simp
  go_wp2_with fail
  obtain ⟨Q0, HQ0⟩ : ∃ Q0 : Exit → Act → World → Prop, Hid (Q0 = fun e a' w' => e = Exit.exit 2 ∧ ∃ p5, ∃ m5, ∃ c5, ∃ x : Nat → Value, a' = ({ tmps := #[x 0, .pointer (some ⟨w.heap.size, 0, none⟩), .pointer (some ⟨br, 0, none⟩), .pointer (some ⟨bx, 0, none⟩), x 4, x 5, x 6, x 7, x 8, x 9, x 10, x 11, x 12, x 13, x 14, x 15, x 16, x 17, x 18, x 19, x 20, x 21, x 22, x 23, x 24, x 25, x 26, x 27, x 28, x 29, x 30, x 31, x 32, x 33, x 34, x 35, x 36, x 37, x 38, x 39, x 40, x 41, x 42, x 43, x 44, x 45, x 46, x 47, x 48, x 49, x 50, x 51, x 52, x 53, x 54, x 55, x 56, x 57, x 58, x 59, x 60, x 61, x 62, x 63, x 64, x 65, x 66, x 67, x 68, x 69, x 70, x 71, x 72, x 73, x 74, x 75], defers := [] } : Act) ∧ Hid (m5 = ((KK.take 40).map (cutS 20)).length) ∧ Hid (w'.ownsRow B 9 1 (.slice p5 m5 c5) m5 (((KK.take 40).map (cutS 20)).map Value.string)) ∧ Hid (w'.ownsRow B 34 8 (.slice q1 m1 r1) m1 (cc ((C.take 40).map Ce.cut))) ∧ Hid (Cst w w' B w.heap.size br bx (nv L (.slice p0 C.length c0) (.slice p1 KK.length c1) (.slice p2 I.length c2)) (nv L (.slice q1 m1 r1) (.slice p5 m5 c5) (.slice none 0 0)))) := ⟨_, rfl⟩
  refine Code.wp_mono (Q := Q0) ?cont2 ?_
  rotate_left
  · skip
    go_wp2_with fail
    go_loopw [5] (fun i wr => ∃ (k : Nat) (va : Value), k ≤ KK.length ∧ k ≤ 40 ∧ i = .int .i64 k ∧ Hid (wr.ownsRow B 9 1 va k (((KK.take k).map (cutS 20)).map Value.string)) ∧ Hid (wr.ownsRow B 34 8 (.slice q1 m1 r1) m1 (cc ((C.take 40).map Ce.cut))) ∧ Hid (Cst w wr B w.heap.size br bx (nv L (.slice p0 C.length c0) (.slice p1 KK.length c1) (.slice p2 I.length c2)) (nv L (.slice q1 m1 r1) va (.slice none 0 0)))) (fun i _ => KK.length - (intOf i).toNat)
    case atStart => exact ⟨0, .slice none 0 0, by omega, by omega, rfl, World.ownsRow_nil _ _ _ _, HO1, HS⟩
    case round =>
      obtain ⟨k, vr, hk0, hk40, rfl, HO, HP1, HT⟩ := hrel
      clear HS HO1
      have hA := HT.out.a
      have hX := HT.out.x
      obtain ⟨g0, g1, g2, g3⟩ := hA.nodes
      by_cases hk : k < KK.length
      · by_cases h4 : k < 40
        · skip
          obtain ⟨b, off, rfl, r0, hqo⟩ := Ts.at_ HK.out hk
          have HQ := hide hqo
          have HTS := hide (take_step (d := No.bz) hk)
          have HKL := hide hk
          generalize hq : KK.getD k No.bz = q at *
          have HG : _ := hide ((HT.out.w.cell (p := ⟨b, off + k, none⟩) (cell_lt r0)).trans r0)
          have HGl : Hid (b < B) := hide (Nat.lt_of_lt_of_le (cell_lt r0) (by have := HPL.out.a; have := HPL.out.ar; have := HPL.out.rx; have := HPL.out.xB; omega))
          have HS1 : Hid ((k + 1) * 16 ≤ 140737488355328) := hide (by omega)
          have HS2 : Hid (k + 1 ≤ 140737488355328) := hide (by omega)
          clear r0 hq hqo
          go_wp2_with fail
          clear g0 g1 g2 g3
          obtain ⟨pr, cr, rfl, hr1, hr2⟩ := own_opensN HO.out
          refine wp_region_noPanic ?_
          refine wp_region_P 11 (fun W => Below B wr W) (by kernel_rfl) (Below.refl _ _).drew (fun hHeld => ?_)
          refine wpAnyP_takeU (i := 0) (v := ?_) rfl (by kernel_rfl) (by kernel_rfl) (by kernel_rfl) (by decide) (fun _ _ _ h => h) (Or.inl ⟨by kernel_rfl, ?_⟩) hHeld ?_
          rotate_left
          · intro W hW; clear hW; go_simp; first | done | with_reducible rfl | rfl
          try simp only [Act.put, List.getElem_toArray, List.getElem_cons_zero, List.setIfInBounds_toArray, List.set_cons_succ, List.set_cons_zero]
          refine wpAnyP_take (i := 1) (v := .slice pr k cr) rfl (by kernel_rfl) (by kernel_rfl) (by kernel_rfl) (by kernel_rfl) (by kernel_rfl) (by decide) (fun _ _ _ h => h) (Or.inl ⟨by kernel_rfl, ?_⟩) hHeld ?_
          · intro W hW; obtain ⟨g0, g1, g2, g3⟩ := (hX.low HPL.out.xB hW).nodes; go_simp; first | done | with_reducible rfl | rfl
          try simp only [Act.put, List.getElem_toArray, List.getElem_cons_zero, List.getElem_cons_succ, List.setIfInBounds_toArray, List.set_cons_succ, List.set_cons_zero]
          refine wpAnyP_takeU (i := 2) (v := ?_) rfl (by kernel_rfl) (by kernel_rfl) (by kernel_rfl) (by decide) (fun _ _ _ h => h) (Or.inl ⟨by kernel_rfl, ?_⟩) hHeld ?_
          rotate_left
          · intro W hW; clear hW; go_simp; first | done | with_reducible rfl | rfl
          try simp only [Act.put, List.getElem_toArray, List.getElem_cons_zero, List.getElem_cons_succ, List.setIfInBounds_toArray, List.set_cons_succ, List.set_cons_zero]
          refine wpAnyP_take (i := 3) (v := .slice (some ⟨b, off, none⟩) KK.length c1) rfl (by kernel_rfl) (by kernel_rfl) (by kernel_rfl) (by kernel_rfl) (by kernel_rfl) (by decide) (fun _ _ _ h => h) (Or.inl ⟨by kernel_rfl, ?_⟩) hHeld ?_
          · intro W hW; obtain ⟨g0, g1, g2, g3⟩ := (hA.low (Nat.lt_trans HPL.out.ar (Nat.lt_trans HPL.out.rx HPL.out.xB)) hW).nodes; go_simp; first | done | with_reducible rfl | rfl
          try simp only [Act.put, List.getElem_toArray, List.getElem_cons_zero, List.getElem_cons_succ, List.setIfInBounds_toArray, List.set_cons_succ, List.set_cons_zero]
          refine wpAnyP_takeU (i := 4) (v := ?_) rfl (by kernel_rfl) (by kernel_rfl) (by kernel_rfl) (by decide) (fun _ _ _ h => h) (Or.inl ⟨by kernel_rfl, ?_⟩) hHeld ?_
          rotate_left
          · intro W hW; clear hW; go_simp; first | done | with_reducible rfl | rfl
          try simp only [Act.put, List.getElem_toArray, List.getElem_cons_zero, List.getElem_cons_succ, List.setIfInBounds_toArray, List.set_cons_succ, List.set_cons_zero]
          refine wpAnyP_take (i := 5) (v := .pointer (some ⟨b, off + k, none⟩)) rfl (by kernel_rfl) (by kernel_rfl) (by kernel_rfl) (by kernel_rfl) (by kernel_rfl) (by decide) (fun _ _ _ h => h) (Or.inl ⟨by kernel_rfl, ?_⟩) hHeld ?_
          · intro W hW; go_simp; first | done | with_reducible rfl | rfl
          try simp only [Act.put, List.getElem_toArray, List.getElem_cons_zero, List.getElem_cons_succ, List.setIfInBounds_toArray, List.set_cons_succ, List.set_cons_zero]
          refine wpAnyP_take (i := 6) (v := .string q) rfl (by kernel_rfl) (by kernel_rfl) (by kernel_rfl) (by kernel_rfl) (by kernel_rfl) (by decide) (fun _ _ _ h => h) (Or.inl ⟨by kernel_rfl, ?_⟩) hHeld ?_
          · intro W hW; have e0 := (hW.cell (p := ⟨b, off + k, none⟩) HGl.out).trans HG.out; go_simp; first | done | with_reducible rfl | rfl
          try simp only [Act.put, List.getElem_toArray, List.getElem_cons_zero, List.getElem_cons_succ, List.setIfInBounds_toArray, List.set_cons_succ, List.set_cons_zero]
          refine wpAnyP_ready (rs := [7]) (by kernel_rfl) (by simp) ?_
          refine AllReadyP.cons (o := _) rfl (fun K hK => ?_) AllReadyP.nil
          rw [if_pos (by kernel_rfl)]
          go_simp
          refine (cut20x_any q _ HQ.out).mono ?_
          rintro e x1 ⟨q', rfl, hq', rfl⟩
          dsimp only
          have HQ' := hide hq'
          clear hq'
          have ho := own_below HO.out (undrew (Below.refl _ _))
          have hT := HT.out.later (undrew (Below.refl _ _))
          have hP1 := own_below HP1.out (undrew (Below.refl _ _))
          refine hK.out _ _ hHeld ?_
          clear hK K
          try simp only [Act.put, List.getElem_toArray, List.getElem_cons_zero, List.getElem_cons_succ, List.setIfInBounds_toArray, List.set_cons_succ, List.set_cons_zero]
          refine wpAnyP_ready (rs := [8]) (by kernel_rfl) (by simp) ?_
          refine AllReadyP.cons (o := _) rfl (fun K hK => ?_) AllReadyP.nil
          rw [if_pos (by kernel_rfl)]
          refine wp_buildN 23 9 (.string ⟨#[]⟩) 1 16 Try.underlying23 infoT rfl (by decide) (by decide) (.tmp 50) rfl (.string q') rfl rfl ?_
          have hA5 : Below _ wr.drew (World.alloc wr.drew (.cells (Value.string q').cells 9)) := (Below.refl _ _).alloc (Nat.le_refl _) _
          have hH2 := hHeld.trans (hA5.mono hT.b)
          refine hK.out _ _ hH2 ?_
          clear hK K hHeld
          try simp only [Act.put, List.getElem_toArray, List.getElem_cons_zero, List.getElem_cons_succ, List.setIfInBounds_toArray, List.set_cons_succ, List.set_cons_zero]
          refine wpAnyP_ready (rs := [9]) (by kernel_rfl) (by simp) ?_
          refine AllReadyP.cons (o := _) rfl (fun K hK => ?_) AllReadyP.nil
          rw [if_pos (by kernel_rfl)]
          refine wp_appN 23 9 (.string ⟨#[]⟩) 1 16 Try.underlying23 infoT rfl (by decide) (.tmp 44) (.tmp 51) rfl B (.slice pr k cr) k (((KK.take k).map (cutS 20)).map Value.string) _ _ rfl rfl HS1.out HS2.out (ho.alloc _) (heap_alloc_new _ _) rfl (str_one' q') (Nat.le_trans hT.b (alloc_le _ _)) ?_
          intro v5 W5 ho5 hg5
          have hT5 := (hT.later hA5).grown HPL.out (ho.alloc _) hg5
          have hP15 := (own_below hP1 hA5).kept hg5 (own_apart (own_below hP1 hA5) (ho.alloc _) (by decide))
          have hHeld := hH2.grown hg5 (Nat.le_trans hT.b (alloc_le _ _)) (fun j hj => (ho.lt j hj).1)
          obtain ⟨p5, c5, rfl, hc5, hc6⟩ := own_opensN ho5
          refine hK.out _ _ hHeld ?_
          clear hK K hA5 hg5 hT ho hH2 hP1
          try simp only [Act.put, List.getElem_toArray, List.getElem_cons_zero, List.getElem_cons_succ, List.setIfInBounds_toArray, List.set_cons_succ, List.set_cons_zero]
          refine wpAnyP_takeU (i := 10) (v := ?_) rfl (by kernel_rfl) (by kernel_rfl) (by kernel_rfl) (by decide) (fun _ _ _ h => h) (Or.inl ⟨by kernel_rfl, ?_⟩) hHeld ?_
          rotate_left
          · intro W hW; clear hW; go_simp; first | done | with_reducible rfl | rfl
          try simp only [Act.put, List.getElem_toArray, List.getElem_cons_zero, List.getElem_cons_succ, List.setIfInBounds_toArray, List.set_cons_succ, List.set_cons_zero]
          refine wpAnyP_ready (rs := [11]) (by kernel_rfl) (by simp) ?_
          refine AllReadyP.late (o := _) rfl (by kernel_rfl) (fun K hK => ?_)
          rw [if_pos (by kernel_rfl)]
          refine wp_put1 23 (.tmp 53) (.tmp 52) _ 2 (.slice p5 (k + 1) c5) _ rfl rfl rfl hT5.x (show 2 < 4 by omega) (by kernel_rfl) rfl (fun a W => run_store Try.prog W a _ _ rfl) ?_
          intro W6 hb6 hs6 hX6
          refine hK.out _ _ ?_
          clear hK K hHeld
          try simp only [Act.put, List.getElem_toArray, List.getElem_cons_zero, List.getElem_cons_succ]
          refine wpAnyP_done (by kernel_rfl) ?_ _
          refine NoPanic.normal ?_
          go_simp
          go_wp2_with fail
          go_roundw
          case rel =>
            refine ⟨k + 1, .slice p5 (k + 1) c5, hk, h4, by go_num, ?_, own_but' hP15 hb6 (fun k hk e => by have := HPL.out.xB; omega), hT5.put HPL.out hb6 hs6 hX6⟩
            have hnew : (KK.take (k + 1)).map (cutS 20) = (KK.take k).map (cutS 20) ++ [q'] := by rw [HTS.out, HQ'.out]; simp
            rw [hnew, List.map_append]
            exact own_but' ho5 hb6 (fun k hk e => by have := HPL.out.xB; omega)
          case measure => simp [intOf]; omega
        · skip
          have HE := hide (take_40 hk0 hk40 (Or.inr (by omega)))
          have HOE := HO.out
          rw [HE.out] at HOE
          have HM5 : Hid (k = ((KK.take 40).map (cutS 20)).length) := hide (by rw [← HE.out]; simp; omega)
          obtain ⟨p5, c5, rfl, hc5, hc6⟩ := own_opensN HOE
          have HOF := hide HOE
          clear HOE HO HE hc5 hc6
          go_wp2_with fail
          generalize hA0 : ({ tmps := _, defers := [] } : Act) = A0
          rw [HQ0.out]
          exact ⟨rfl, p5, k, c5, fun k => A0.tmps.getD k undef, (by subst hA0; kernel_rfl), HM5, HOF, HP1, HT⟩
      · skip
        have HE := hide (take_40 hk0 hk40 (Or.inl (by omega)))
        have HOE := HO.out
        rw [HE.out] at HOE
        have HM5 : Hid (k = ((KK.take 40).map (cutS 20)).length) := hide (by rw [← HE.out]; simp; omega)
        obtain ⟨p5, c5, rfl, hc5, hc6⟩ := own_opensN HOE
        have HOF := hide HOE
        clear HOE HO HE hc5 hc6
        go_wp2_with fail
        generalize hA0 : ({ tmps := _, defers := [] } : Act) = A0
        rw [HQ0.out]
        exact ⟨rfl, p5, k, c5, fun k => A0.tmps.getD k undef, (by subst hA0; kernel_rfl), HM5, HOF, HP1, HT⟩
  intro e a' y2 hq
  rw [HQ0.out] at hq
  obtain ⟨rfl, q2, m2, r2, x, rfl, HM2, HO2, HO1n, HSn⟩ := hq
  clear HQ0 Q0 HS HO1
  have HO1 := HO1n
  clear HO1n
  have HS := HSn
  clear HSn
  go_simp
  go_wp2_with fail
  obtain ⟨Q0, HQ0⟩ : ∃ Q0 : Exit → Act → World → Prop, Hid (Q0 = fun e a' w' => e = Exit.exit 4 ∧ ∃ p5, ∃ m5, ∃ c5, ∃ x : Nat → Value, a' = ({ tmps := #[x 0, .pointer (some ⟨w.heap.size, 0, none⟩), .pointer (some ⟨br, 0, none⟩), .pointer (some ⟨bx, 0, none⟩), x 4, x 5, x 6, x 7, x 8, x 9, x 10, x 11, x 12, x 13, x 14, x 15, x 16, x 17, x 18, x 19, x 20, x 21, x 22, x 23, x 24, x 25, x 26, x 27, x 28, x 29, x 30, x 31, x 32, x 33, x 34, x 35, x 36, x 37, x 38, x 39, x 40, x 41, x 42, x 43, x 44, x 45, x 46, x 47, x 48, x 49, x 50, x 51, x 52, x 53, x 54, x 55, x 56, x 57, x 58, x 59, x 60, x 61, x 62, x 63, x 64, x 65, x 66, x 67, x 68, x 69, x 70, x 71, x 72, x 73, x 74, x 75], defers := [] } : Act) ∧ Hid (m5 = (I.take 40).length) ∧ Hid (w'.ownsRow B 3 1 (.slice p5 m5 c5) m5 ((I.take 40).map (Value.int .i64))) ∧ Hid (w'.ownsRow B 34 8 (.slice q1 m1 r1) m1 (cc ((C.take 40).map Ce.cut))) ∧ Hid (w'.ownsRow B 9 1 (.slice q2 m2 r2) m2 (((KK.take 40).map (cutS 20)).map Value.string)) ∧ Hid (Cst w w' B w.heap.size br bx (nv L (.slice p0 C.length c0) (.slice p1 KK.length c1) (.slice p2 I.length c2)) (nv L (.slice q1 m1 r1) (.slice q2 m2 r2) (.slice p5 m5 c5)))) := ⟨_, rfl⟩
  refine Code.wp_mono (Q := Q0) ?cont3 ?_
  rotate_left
  · skip
    go_wp2_with fail
    go_loopw [6] (fun i wr => ∃ (k : Nat) (va : Value), k ≤ I.length ∧ k ≤ 40 ∧ i = .int .i64 k ∧ Hid (wr.ownsRow B 3 1 va k ((I.take k).map (Value.int .i64))) ∧ Hid (wr.ownsRow B 34 8 (.slice q1 m1 r1) m1 (cc ((C.take 40).map Ce.cut))) ∧ Hid (wr.ownsRow B 9 1 (.slice q2 m2 r2) m2 (((KK.take 40).map (cutS 20)).map Value.string)) ∧ Hid (Cst w wr B w.heap.size br bx (nv L (.slice p0 C.length c0) (.slice p1 KK.length c1) (.slice p2 I.length c2)) (nv L (.slice q1 m1 r1) (.slice q2 m2 r2) va))) (fun i _ => I.length - (intOf i).toNat)
    case atStart => exact ⟨0, .slice none 0 0, by omega, by omega, rfl, World.ownsRow_nil _ _ _ _, HO1, HO2, HS⟩
    case round =>
      obtain ⟨k, vr, hk0, hk40, rfl, HO, HP1, HP2, HT⟩ := hrel
      clear HS HO1 HO2
      have hA := HT.out.a
      have hX := HT.out.x
      obtain ⟨g0, g1, g2, g3⟩ := hA.nodes
      by_cases hk : k < I.length
      · by_cases h4 : k < 40
        · skip
          obtain ⟨b, off, rfl, r0, hqo, -⟩ := Is.at_ HI.out hk
          have HTS := hide (take_step (d := 0) hk)
          have HKL := hide hk
          generalize hq : I.getD k 0 = q at *
          have HG : _ := hide ((HT.out.w.cell (p := ⟨b, off + k, none⟩) (cell_lt r0)).trans r0)
          have HGl : Hid (b < B) := hide (Nat.lt_of_lt_of_le (cell_lt r0) (by have := HPL.out.a; have := HPL.out.ar; have := HPL.out.rx; have := HPL.out.xB; omega))
          have HS1 : Hid ((k + 1) * 8 ≤ 140737488355328) := hide (by omega)
          have HS2 : Hid (k + 1 ≤ 140737488355328) := hide (by omega)
          clear r0 hq hqo
          go_wp2_with fail
          clear g0 g1 g2 g3
          obtain ⟨pr, cr, rfl, hr1, hr2⟩ := own_opensN HO.out
          refine wp_region_noPanic ?_
          refine wp_region_P 10 (fun W => Below B wr W) (by kernel_rfl) (Below.refl _ _).drew (fun hHeld => ?_)
          refine wpAnyP_takeU (i := 0) (v := ?_) rfl (by kernel_rfl) (by kernel_rfl) (by kernel_rfl) (by decide) (fun _ _ _ h => h) (Or.inl ⟨by kernel_rfl, ?_⟩) hHeld ?_
          rotate_left
          · intro W hW; clear hW; go_simp; first | done | with_reducible rfl | rfl
          try simp only [Act.put, List.getElem_toArray, List.getElem_cons_zero, List.setIfInBounds_toArray, List.set_cons_succ, List.set_cons_zero]
          refine wpAnyP_take (i := 1) (v := .slice pr k cr) rfl (by kernel_rfl) (by kernel_rfl) (by kernel_rfl) (by kernel_rfl) (by kernel_rfl) (by decide) (fun _ _ _ h => h) (Or.inl ⟨by kernel_rfl, ?_⟩) hHeld ?_
          · intro W hW; obtain ⟨g0, g1, g2, g3⟩ := (hX.low HPL.out.xB hW).nodes; go_simp; first | done | with_reducible rfl | rfl
          try simp only [Act.put, List.getElem_toArray, List.getElem_cons_zero, List.getElem_cons_succ, List.setIfInBounds_toArray, List.set_cons_succ, List.set_cons_zero]
          refine wpAnyP_takeU (i := 2) (v := ?_) rfl (by kernel_rfl) (by kernel_rfl) (by kernel_rfl) (by decide) (fun _ _ _ h => h) (Or.inl ⟨by kernel_rfl, ?_⟩) hHeld ?_
          rotate_left
          · intro W hW; clear hW; go_simp; first | done | with_reducible rfl | rfl
          try simp only [Act.put, List.getElem_toArray, List.getElem_cons_zero, List.getElem_cons_succ, List.setIfInBounds_toArray, List.set_cons_succ, List.set_cons_zero]
          refine wpAnyP_take (i := 3) (v := .slice (some ⟨b, off, none⟩) I.length c2) rfl (by kernel_rfl) (by kernel_rfl) (by kernel_rfl) (by kernel_rfl) (by kernel_rfl) (by decide) (fun _ _ _ h => h) (Or.inl ⟨by kernel_rfl, ?_⟩) hHeld ?_
          · intro W hW; obtain ⟨g0, g1, g2, g3⟩ := (hA.low (Nat.lt_trans HPL.out.ar (Nat.lt_trans HPL.out.rx HPL.out.xB)) hW).nodes; go_simp; first | done | with_reducible rfl | rfl
          try simp only [Act.put, List.getElem_toArray, List.getElem_cons_zero, List.getElem_cons_succ, List.setIfInBounds_toArray, List.set_cons_succ, List.set_cons_zero]
          refine wpAnyP_takeU (i := 4) (v := ?_) rfl (by kernel_rfl) (by kernel_rfl) (by kernel_rfl) (by decide) (fun _ _ _ h => h) (Or.inl ⟨by kernel_rfl, ?_⟩) hHeld ?_
          rotate_left
          · intro W hW; clear hW; go_simp; first | done | with_reducible rfl | rfl
          try simp only [Act.put, List.getElem_toArray, List.getElem_cons_zero, List.getElem_cons_succ, List.setIfInBounds_toArray, List.set_cons_succ, List.set_cons_zero]
          refine wpAnyP_take (i := 5) (v := .pointer (some ⟨b, off + k, none⟩)) rfl (by kernel_rfl) (by kernel_rfl) (by kernel_rfl) (by kernel_rfl) (by kernel_rfl) (by decide) (fun _ _ _ h => h) (Or.inl ⟨by kernel_rfl, ?_⟩) hHeld ?_
          · intro W hW; go_simp; first | done | with_reducible rfl | rfl
          try simp only [Act.put, List.getElem_toArray, List.getElem_cons_zero, List.getElem_cons_succ, List.setIfInBounds_toArray, List.set_cons_succ, List.set_cons_zero]
          refine wpAnyP_take (i := 6) (v := .int .i64 q) rfl (by kernel_rfl) (by kernel_rfl) (by kernel_rfl) (by kernel_rfl) (by kernel_rfl) (by decide) (fun _ _ _ h => h) (Or.inl ⟨by kernel_rfl, ?_⟩) hHeld ?_
          · intro W hW; have e0 := (hW.cell (p := ⟨b, off + k, none⟩) HGl.out).trans HG.out; go_simp; first | done | with_reducible rfl | rfl
          try simp only [Act.put, List.getElem_toArray, List.getElem_cons_zero, List.getElem_cons_succ, List.setIfInBounds_toArray, List.set_cons_succ, List.set_cons_zero]
          have ho := own_below HO.out (undrew (Below.refl _ _))
          have hT := HT.out.later (undrew (Below.refl _ _))
          have hP1 := own_below HP1.out (undrew (Below.refl _ _))
          have hP2 := own_below HP2.out (undrew (Below.refl _ _))
          refine wpAnyP_ready (rs := [7]) (by kernel_rfl) (by simp) ?_
          refine AllReadyP.cons (o := _) rfl (fun K hK => ?_) AllReadyP.nil
          rw [if_pos (by kernel_rfl)]
          refine wp_buildN 24 3 (.int .i64 0) 1 8 Try.underlying24 infoI rfl (by decide) (by decide) (.tmp 71) rfl (.int .i64 q) rfl rfl ?_
          have hA5 : Below _ wr.drew (World.alloc wr.drew (.cells (Value.int .i64 q).cells 3)) := (Below.refl _ _).alloc (Nat.le_refl _) _
          have hH2 := hHeld.trans (hA5.mono hT.b)
          refine hK.out _ _ hH2 ?_
          clear hK K hHeld
          try simp only [Act.put, List.getElem_toArray, List.getElem_cons_zero, List.getElem_cons_succ, List.setIfInBounds_toArray, List.set_cons_succ, List.set_cons_zero]
          refine wpAnyP_ready (rs := [8]) (by kernel_rfl) (by simp) ?_
          refine AllReadyP.cons (o := _) rfl (fun K hK => ?_) AllReadyP.nil
          rw [if_pos (by kernel_rfl)]
          refine wp_appN 24 3 (.int .i64 0) 1 8 Try.underlying24 infoI rfl (by decide) (.tmp 66) (.tmp 72) rfl B (.slice pr k cr) k ((I.take k).map (Value.int .i64)) _ _ rfl rfl HS1.out HS2.out (ho.alloc _) (heap_alloc_new _ _) rfl (int_one' q) (Nat.le_trans hT.b (alloc_le _ _)) ?_
          intro v5 W5 ho5 hg5
          have hT5 := (hT.later hA5).grown HPL.out (ho.alloc _) hg5
          have hP15 := (own_below hP1 hA5).kept hg5 (own_apart (own_below hP1 hA5) (ho.alloc _) (by decide))
          have hP25 := (own_below hP2 hA5).kept hg5 (own_apart (own_below hP2 hA5) (ho.alloc _) (by decide))
          have hHeld := hH2.grown hg5 (Nat.le_trans hT.b (alloc_le _ _)) (fun j hj => (ho.lt j hj).1)
          obtain ⟨p5, c5, rfl, hc5, hc6⟩ := own_opensN ho5
          refine hK.out _ _ hHeld ?_
          clear hK K hA5 hg5 hT ho hH2 hP1 hP2
          try simp only [Act.put, List.getElem_toArray, List.getElem_cons_zero, List.getElem_cons_succ, List.setIfInBounds_toArray, List.set_cons_succ, List.set_cons_zero]
          refine wpAnyP_takeU (i := 9) (v := ?_) rfl (by kernel_rfl) (by kernel_rfl) (by kernel_rfl) (by decide) (fun _ _ _ h => h) (Or.inl ⟨by kernel_rfl, ?_⟩) hHeld ?_
          rotate_left
          · intro W hW; clear hW; go_simp; first | done | with_reducible rfl | rfl
          try simp only [Act.put, List.getElem_toArray, List.getElem_cons_zero, List.getElem_cons_succ, List.setIfInBounds_toArray, List.set_cons_succ, List.set_cons_zero]
          refine wpAnyP_ready (rs := [10]) (by kernel_rfl) (by simp) ?_
          refine AllReadyP.late (o := _) rfl (by kernel_rfl) (fun K hK => ?_)
          rw [if_pos (by kernel_rfl)]
          refine wp_put1 24 (.tmp 74) (.tmp 73) _ 3 (.slice p5 (k + 1) c5) _ rfl rfl rfl hT5.x (show 3 < 4 by omega) (by kernel_rfl) rfl (fun a W => run_store Try.prog W a _ _ rfl) ?_
          intro W6 hb6 hs6 hX6
          refine hK.out _ _ ?_
          clear hK K hHeld
          try simp only [Act.put, List.getElem_toArray, List.getElem_cons_zero, List.getElem_cons_succ]
          refine wpAnyP_done (by kernel_rfl) ?_ _
          refine NoPanic.normal ?_
          go_simp
          go_wp2_with fail
          go_roundw
          case rel =>
            refine ⟨k + 1, .slice p5 (k + 1) c5, hk, h4, by go_num, ?_, own_but' hP15 hb6 (fun k hk e => by have := HPL.out.xB; omega), own_but' hP25 hb6 (fun k hk e => by have := HPL.out.xB; omega), hT5.put HPL.out hb6 hs6 hX6⟩
            have hnew : I.take (k + 1) = I.take k ++ [q] := by rw [HTS.out]
            rw [hnew, List.map_append]
            exact own_but' ho5 hb6 (fun k hk e => by have := HPL.out.xB; omega)
          case measure => simp [intOf]; omega
        · skip
          have HE := hide (take_40 hk0 hk40 (Or.inr (by omega)))
          have HOE := HO.out
          rw [HE.out] at HOE
          have HM5 : Hid (k = (I.take 40).length) := hide (by rw [← HE.out]; simp; omega)
          obtain ⟨p5, c5, rfl, hc5, hc6⟩ := own_opensN HOE
          have HOF := hide HOE
          clear HOE HO HE hc5 hc6
          go_wp2_with fail
          generalize hA0 : ({ tmps := _, defers := [] } : Act) = A0
          rw [HQ0.out]
          exact ⟨rfl, p5, k, c5, fun k => A0.tmps.getD k undef, (by subst hA0; kernel_rfl), HM5, HOF, HP1, HP2, HT⟩
      · skip
        have HE := hide (take_40 hk0 hk40 (Or.inl (by omega)))
        have HOE := HO.out
        rw [HE.out] at HOE
        have HM5 : Hid (k = (I.take 40).length) := hide (by rw [← HE.out]; simp; omega)
        obtain ⟨p5, c5, rfl, hc5, hc6⟩ := own_opensN HOE
        have HOF := hide HOE
        clear HOE HO HE hc5 hc6
        go_wp2_with fail
        generalize hA0 : ({ tmps := _, defers := [] } : Act) = A0
        rw [HQ0.out]
        exact ⟨rfl, p5, k, c5, fun k => A0.tmps.getD k undef, (by subst hA0; kernel_rfl), HM5, HOF, HP1, HP2, HT⟩
  intro e a' y3 hq
  rw [HQ0.out] at hq
  obtain ⟨rfl, q3, m3, r3, x, rfl, HM3, HO3, HO1n, HO2n, HSn⟩ := hq
  clear HQ0 Q0 HS HO1 HO2
  have HO1 := HO1n
  clear HO1n
  have HO2 := HO2n
  clear HO2n
  have HS := HSn
  clear HSn
  go_simp
  have hX := HS.out.x
  have hR := HS.out.r
  go_wp2_with (first
    | (refine wpList_get 26 _ (.tmp 3) _ (nv L (.slice q1 m1 r1) (.slice q2 m2 r2) (.slice q3 m3 r3)) rfl rfl rfl hX tyM rfl ?_)
    | (refine wpList_put 26 _ (.tmp 2) (.tmp 75) _ (nv L (.slice q1 m1 r1) (.slice q2 m2 r2) (.slice q3 m3 r3)) _ rfl rfl rfl rfl hR tyM rfl rfl (nv3_one _ _ _ _ _ _ _ _ _) ?_; intro W9 hb9 hs9 hX9))
  have hP := HPL.out
  have hB9 := Below.but HS.out.w HS.out.w.size hb9 (fun k e => by have := hP.a; have := hP.ar; omega)
  refine bodyPost_ret (v := .agg (nv L (.slice q1 m1 r1) (.slice q2 m2 r2) (.slice q3 m3 r3))) (results_bx Try.results6 _ _ _ _ rfl hX9 tyM rfl) rfl ⟨_, _, _, rfl, Cu.mono (B := B) ⟨?_, ?_, ?_⟩ (by have := hP.a; have := hP.ar; have := hP.rx; have := hP.xB; omega), hB9⟩
  · rw [show (No.cut ⟨L, C, KK, I⟩).C.length = m1 from HM1.out.symm]; exact own_but' HO1.out hb9 (fun k hk e => by have := hP.rx; have := hP.xB; omega)
  · rw [show (No.cut ⟨L, C, KK, I⟩).K.length = m2 from HM2.out.symm]; exact own_but' HO2.out hb9 (fun k hk e => by have := hP.rx; have := hP.xB; omega)
  · rw [show (No.cut ⟨L, C, KK, I⟩).I.length = m3 from HM3.out.symm]; exact own_but' HO3.out hb9 (fun k hk e => by have := hP.rx; have := hP.xB; omega)
end Go.Proofs.Ytbddghdkmakjlab
