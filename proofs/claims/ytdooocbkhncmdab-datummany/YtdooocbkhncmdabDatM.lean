/-
  Values one behind the other: those that may be, their bytes together; the law's own slice of them.
-/
import Derived.Test.YtdooocbkhncmdabDatV
import Derived.Test.YtdooocbkhncmdabDatB
namespace Go.Proofs.Ytdooocbkhncmdab
open Go.RowKit

/-- Those that the law keeps. -/
def kp (q : Int × Nat × ByteArray) : Bool := Dt.may q.1 q.2.1 q.2.2
def kept (L : List (Int × Nat × ByteArray)) (k : Nat) : List (Int × Nat × ByteArray) := (L.take k).filter kp
/-- Their bytes. -/
def cat (F : List (Int × Nat × ByteArray)) : List Int := F.flatMap fun q => Dt.put q.1 q.2.1 q.2.2
/-- Their cells. -/
def vv (F : List (Int × Nat × ByteArray)) : List Value := F.flatMap vc

theorem kept_len (L : List (Int × Nat × ByteArray)) (k : Nat) : (kept L k).length ≤ k := by
  unfold kept
  exact Nat.le_trans (List.length_filter_le _ _) (List.length_take_le _ _)

theorem kept_yes {L : List (Int × Nat × ByteArray)} {k : Nat} {q : Int × Nat × ByteArray} (h : L[k]? = some q) (hm : kp q = true) : kept L (k + 1) = kept L k ++ [q] := by
  unfold kept
  rw [List.take_add_one, h]
  simp [List.filter_append, hm]
theorem kept_no {L : List (Int × Nat × ByteArray)} {k : Nat} {q : Int × Nat × ByteArray} (h : L[k]? = some q) (hm : kp q = false) : kept L (k + 1) = kept L k := by
  unfold kept
  rw [List.take_add_one, h]
  simp [List.filter_append, hm]

theorem kept_ok {L : List (Int × Nat × ByteArray)} (h : ∀ q ∈ L, okv q) (k : Nat) : ∀ q ∈ kept L k, okv q ∧ kp q = true := by
  intro q hq
  unfold kept at hq
  obtain ⟨h1, h2⟩ := List.mem_filter.1 hq
  exact ⟨h q (List.mem_of_mem_take h1), h2⟩

theorem may_small {q : Int × Nat × ByteArray} (h : kp q = true) : q.2.2.size ≤ 20 := by
  unfold kp at h
  obtain ⟨k, x, s⟩ := q
  simp only at h ⊢
  rcases Dt.may_kind h with rfl | rfl | rfl
  · rw [(Dt.may_none h).2]; decide
  · rw [(Dt.may_float h).2]; decide
  · exact (Dt.may_text h).2

theorem cat_app (A B : List (Int × Nat × ByteArray)) : cat (A ++ B) = cat A ++ cat B := by simp [cat]
theorem cat_one (q : Int × Nat × ByteArray) : cat [q] = Dt.put q.1 q.2.1 q.2.2 := by simp [cat]
theorem cat_cons (q : Int × Nat × ByteArray) (F : List (Int × Nat × ByteArray)) : cat (q :: F) = Dt.put q.1 q.2.1 q.2.2 ++ cat F := by simp [cat]

theorem cat_bd {F : List (Int × Nat × ByteArray)} (h : ∀ q ∈ F, okv q ∧ kp q = true) : ∀ z ∈ cat F, 0 ≤ z ∧ z ≤ 255 := by
  intro z hz
  obtain ⟨q, hq, hz⟩ := List.mem_flatMap.1 hz
  obtain ⟨⟨h0, h1, _, _⟩, h2⟩ := h q hq
  exact Dt.put_bd h0 h1 (by have := may_small h2; omega) z hz

theorem cat_len {F : List (Int × Nat × ByteArray)} (h : ∀ q ∈ F, okv q ∧ kp q = true) : (cat F).length ≤ 40 * F.length := by
  induction F with
  | nil => simp [cat]
  | cons q F ih =>
    rw [cat_cons, List.length_append, List.length_cons]
    have h1 := ih (fun r hr => h r (List.mem_cons_of_mem _ hr))
    have h2 := may_small (h q (List.mem_cons_self ..)).2
    have h3 := (Dt.put_len (k := q.1) (x := q.2.1) (s := q.2.2)).2
    omega

theorem vv_app (A B : List (Int × Nat × ByteArray)) : vv (A ++ B) = vv A ++ vv B := by simp [vv]
theorem vv_len (F : List (Int × Nat × ByteArray)) : (vv F).length = F.length * 3 := by
  induction F with
  | nil => rfl
  | cons q F ih =>
    show (vc q ++ vv F).length = _
    rw [List.length_append, ih, List.length_cons]
    show 3 + _ = _
    omega
theorem vv_at {F : List (Int × Nat × ByteArray)} : ∀ {i : Nat} {q : Int × Nat × ByteArray}, F[i]? = some q → (vv F)[i * 3]? = some (.int .i64 q.1) ∧ (vv F)[i * 3 + 1]? = some (.float .f64 q.2.1) ∧ (vv F)[i * 3 + 2]? = some (.string q.2.2) := by
  induction F with
  | nil => intro i q h; simp at h
  | cons p F ih =>
    intro i q h
    have e : vv (p :: F) = .int .i64 p.1 :: .float .f64 p.2.1 :: .string p.2.2 :: vv F := rfl
    rw [e]
    cases i with
    | zero =>
      simp at h
      subst h
      exact ⟨rfl, rfl, rfl⟩
    | succ i =>
      obtain ⟨h0, h1, h2⟩ := ih (by simpa using h)
      have e0 : (i + 1) * 3 = i * 3 + 3 := by omega
      have e1 : (i + 1) * 3 + 1 = i * 3 + 1 + 3 := by omega
      have e2 : (i + 1) * 3 + 2 = i * 3 + 2 + 3 := by omega
      rw [e2, e1, e0]
      exact ⟨h0, h1, h2⟩

theorem Try.info27 : (Try.prog.info? 27).map (fun i => (i.zero, i.size, i.bytes)) = some (some (.agg #[.int .i64 0, .float .f64 0, .string ⟨#[]⟩]), 3, 32) := by kernel_rfl

/-- Two rows of different types lie apart. -/
theorem own_ne {w : World} {b1 b2 : Nat} {e1 e2 : TypeId} {s1 s2 : Nat} {v1 v2 : Value} {n1 n2 : Nat} {xs1 xs2 : List Value} (h1 : w.ownsRow b1 e1 s1 v1 n1 xs1) (h2 : w.ownsRow b2 e2 s2 v2 n2 xs2) (he : e1 ≠ e2) : v1.ownBlock = none ∨ v1.ownBlock ≠ v2.ownBlock := by
  rcases h1.2 with ⟨rfl, _⟩ | ⟨g1, c1, cur1, rfl, _, k1, _⟩
  · exact .inl rfl
  · right
    rcases h2.2 with ⟨rfl, _⟩ | ⟨g2, c2, cur2, rfl, _, k2, _⟩
    · simp [Value.ownBlock]
    · simp only [Value.ownBlock, ne_eq, Option.some.injEq]
      rintro rfl
      rw [k1] at k2
      simp at k2
      exact he k2.2

/-- What the law has made and owns is there. -/
theorem Vs.own {w : World} {base : Nat} {e : TypeId} {v : Value} {n : Nat} {F : List (Int × Nat × ByteArray)} (h : w.ownsRow base e 3 v n (vv F)) (hF : ∀ q ∈ F, okv q) : Vs w v F := by
  have hl := h.1
  rw [vv_len] at hl
  obtain rfl : n = F.length := by omega
  rcases h.2 with ⟨rfl, h0⟩ | ⟨g, cap, cur, rfl, _, hg, h1, h2, _, _⟩
  · refine ⟨none, 0, by rw [h0], by omega, by unfold maxLen; omega, hF, fun i q hq => ?_⟩
    have := (List.getElem?_eq_some_iff.1 hq).1
    omega
  · refine ⟨_, cap, rfl, h1, h2, hF, fun i q hq => ⟨g, 0, rfl, ?_⟩⟩
    have hi := (List.getElem?_eq_some_iff.1 hq).1
    obtain ⟨c0, c1, c2⟩ := vv_at hq
    rw [← h.cellAt (i * 3) (by omega)] at c0
    rw [← h.cellAt (i * 3 + 1) (by omega)] at c1
    rw [← h.cellAt (i * 3 + 2) (by omega)] at c2
    simp only [Nat.zero_add]
    exact ⟨c0, c1, c2⟩

theorem new_vc (x : World) (q : Int × Nat × ByteArray) (t : TypeId) : ∀ j u, (vc q)[j]? = some u → (x.alloc (.cells #[.int .i64 q.1, .float .f64 q.2.1, .string q.2.2] t)).cell? ((⟨x.heap.size, 0, none⟩ : Addr).add j) = some u := by
  intro j u hj
  rw [add_plain, Nat.zero_add]
  match j with
  | 0 => simp [vc] at hj; subst hj; simp
  | 1 => simp [vc] at hj; subst hj; simp
  | 2 => simp [vc] at hj; subst hj; simp
  | n + 3 => simp [vc] at hj

theorem vc_one (q : Int × Nat × ByteArray) : ∀ u ∈ vc q, u.oneCell' = true := by
  intro u hu
  simp [vc] at hu
  rcases hu with rfl | rfl | rfl <;> rfl
end Go.Proofs.Ytdooocbkhncmdab
