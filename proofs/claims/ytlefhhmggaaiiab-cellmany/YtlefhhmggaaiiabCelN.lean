/-
  Cells one behind the other: as they came in, their bytes together, the law's own slice of them.
-/
import Derived.Test.YtlefhhmggaaiiabCelO
import Derived.Test.YtlefhhmggaaiiabCelL
import Derived.Test.YtlefhhmggaaiiabDatP
import Derived.Laws.OwnMore
namespace Go.Proofs.Ytlefhhmggaaiiab
open Go.RowKit

/-- A slice of cells that is there. -/
def Cs (w : World) (v : Value) (L : List Ce) : Prop :=
  ∃ a cap, v = .slice a L.length cap ∧ L.length ≤ cap ∧ cap ≤ maxLen ∧ (∀ c ∈ L, c.Ok) ∧ ∀ i c, L[i]? = some c → ∃ b off, a = some ⟨b, off, none⟩ ∧ w.rangeAt b (off + i * 8) (cv c).toList

theorem rangeAt_later {w w' : World} {b o : Nat} {cs : List Value} {B : Nat} (h : w.rangeAt b o cs) (hb : Below B w w') (hl : b < B) : w'.rangeAt b o cs := fun j v hv => by rw [hb.cell (p := ⟨b, o + j, none⟩) hl]; exact h j v hv
theorem rangeAt_lt {w : World} {b o : Nat} {c : Ce} (h : w.rangeAt b o (cv c).toList) : b < w.heap.size := cell_lt (h 0 (.string c.N) rfl)

theorem open_cells {H : Type} {enc : TypeId × Value → H} {w : World} {base : Nat} {spare : Nat → Bool} {held : Bool} {fuel : Nat} {cs : List Value} {x : DataW H × List MemPlace}
    (h : DataW.trod enc Try.prog w base spare held fuel 22 cs = some x) : ∃ a len cap L, cs = [.slice a len cap] ∧ Cs w (.slice a len cap) L := by
  rcases Deep.open_slice Try.underlying22 h with ⟨rfl, _⟩ | ⟨a, len, cap, m, n, D, Pl, rfl, hb, hl, hm, hmm, rfl, hx⟩
  · exact ⟨none, 0, 0, [], rfl, none, 0, rfl, Nat.le_refl _, Nat.zero_le _, by simp, by simp⟩
  have hlm : len ≤ m := by rw [hmm]; split <;> omega
  have each : ∀ i : Fin len, ∃ c : Ce, c.Ok ∧ ∀ j v, (cv c).toList[j]? = some v → w.cell? (a.add (i.1 * 8 + j)) = some v := by
    intro i
    obtain ⟨cs', h1, h2⟩ := hx i.1 (by omega)
    rw [show Try.prog.cellsOf 29 = 8 by kernel_rfl] at h1
    obtain ⟨_, hlen, hcell⟩ := World.cells?_some h1
    obtain ⟨c, rfl, ok⟩ := open_ce h2
    refine ⟨c, ok, fun j v hv => ?_⟩
    have hj : j < 8 := (List.getElem?_eq_some_iff.1 hv).1
    have e := hcell j hj
    rw [Deep.add_add, hv] at e
    exact e
  have ⟨Q, hQ⟩ := Classical.axiomOfChoice each
  refine ⟨some a, len, cap, List.ofFn Q, rfl, some a, cap, by simp, by simpa using hl, hm, ?_, ?_⟩
  · intro q hq
    obtain ⟨i, rfl⟩ := List.mem_ofFn.1 hq
    exact (hQ i).1
  · intro i q hq
    have hi : i < len := by
      have := (List.getElem?_eq_some_iff.1 hq).1
      simpa using this
    have hq' : Q ⟨i, hi⟩ = q := by simpa [List.getElem?_ofFn, hi] using hq
    have d := (hQ ⟨i, hi⟩).2
    rw [hq'] at d
    obtain ⟨b, off, spot⟩ := a
    have hspot : spot = none := by
      have := (hQ ⟨0, by omega⟩).2 0 _ rfl
      simpa [Addr.add] using World.cell?_spot this
    subst hspot
    refine ⟨b, off, rfl, fun j v hv => ?_⟩
    have := d j v hv
    rw [add_plain] at this
    rw [Nat.add_assoc]
    exact this

/-- Their bytes. -/
def Ce.cat (F : List Ce) : List Int := F.flatMap Ce.put
/-- Their cells. -/
def cc (F : List Ce) : List Value := F.flatMap fun c => (cv c).toList

theorem Ce.cat_snoc (A : List Ce) (c : Ce) : Ce.cat (A ++ [c]) = Ce.cat A ++ Ce.put c := by simp [Ce.cat]
theorem Ce.cat_cons (c : Ce) (F : List Ce) : Ce.cat (c :: F) = Ce.put c ++ Ce.cat F := by simp [Ce.cat]
theorem Ce.cat_bd {F : List Ce} (h : ∀ c ∈ F, c.Ok ∧ c.may = true) : ∀ z ∈ Ce.cat F, 0 ≤ z ∧ z ≤ 255 := by
  intro z hz
  obtain ⟨q, hq, hz⟩ := List.mem_flatMap.1 hz
  exact Ce.put_bd (h q hq).2 z hz
theorem Ce.put_small {c : Ce} (h : c.may = true) : 1 ≤ (Ce.put c).length ∧ (Ce.put c).length ≤ 120 ∧ c.N.size + c.V.S.size + c.W.S.size ≤ 60 := by
  obtain ⟨h1, h2, h3, -⟩ := Ce.may_parts h
  have k1 := Ce.km_size h1
  have k2 := Va.may_ok h2
  have k3 := Va.may_ok h3
  have hp := Ce.put_len c
  rw [if_pos k1.1] at hp
  omega
theorem Ce.cat_len {F : List Ce} (h : ∀ c ∈ F, c.Ok ∧ c.may = true) : (Ce.cat F).length ≤ 120 * F.length := by
  induction F with
  | nil => simp [Ce.cat]
  | cons q F ih =>
    rw [Ce.cat_cons, List.length_append, List.length_cons]
    have h1 := ih (fun r hr => h r (List.mem_cons_of_mem _ hr))
    have h2 := Ce.put_small (h q (List.mem_cons_self ..)).2
    omega

theorem cc_snoc (A : List Ce) (c : Ce) : cc (A ++ [c]) = cc A ++ (cv c).toList := by simp [cc]
theorem cc_len (F : List Ce) : (cc F).length = F.length * 8 := by
  induction F with
  | nil => rfl
  | cons q F ih =>
    show ((cv q).toList ++ cc F).length = _
    rw [List.length_append, ih, List.length_cons]
    show 8 + _ = _
    omega
theorem cc_at {F : List Ce} : ∀ {i : Nat} {c : Ce}, F[i]? = some c → ∀ j v, (cv c).toList[j]? = some v → (cc F)[i * 8 + j]? = some v := by
  induction F with
  | nil => intro i c h; simp at h
  | cons p F ih =>
    intro i c h j v hv
    have hj : j < 8 := (List.getElem?_eq_some_iff.1 hv).1
    show ((cv p).toList ++ cc F)[i * 8 + j]? = some v
    cases i with
    | zero =>
      simp at h
      subst h
      rw [Nat.zero_mul, Nat.zero_add, List.getElem?_append_left (show j < 8 from hj)]
      exact hv
    | succ i =>
      rw [List.getElem?_append_right (show 8 ≤ (i + 1) * 8 + j by omega)]
      have e : (i + 1) * 8 + j - (cv p).toList.length = i * 8 + j := by show (i + 1) * 8 + j - 8 = _; omega
      rw [e]
      exact ih (by simpa using h) j v hv

/-- What the law has made and owns is there. -/
theorem Cs.own {w : World} {base : Nat} {e : TypeId} {v : Value} {n : Nat} {F : List Ce} (h : w.ownsRow base e 8 v n (cc F)) (hF : ∀ q ∈ F, q.Ok) : Cs w v F := by
  have hl := h.1
  rw [cc_len] at hl
  obtain rfl : n = F.length := by omega
  rcases h.2 with ⟨rfl, h0⟩ | ⟨g, cap, cur, rfl, _, hg, h1, h2, _, _⟩
  · refine ⟨none, 0, by rw [h0], by omega, by unfold maxLen; omega, hF, fun i q hq => ?_⟩
    have := (List.getElem?_eq_some_iff.1 hq).1
    omega
  · refine ⟨_, cap, rfl, h1, h2, hF, fun i q hq => ⟨g, 0, rfl, fun j u hu => ?_⟩⟩
    have hi := (List.getElem?_eq_some_iff.1 hq).1
    have hj : j < 8 := (List.getElem?_eq_some_iff.1 hu).1
    rw [Nat.zero_add, h.cellAt (i * 8 + j) (by omega)]
    exact cc_at hq j u hu

/-- Two rows of different types lie apart. -/
theorem own_apart {w : World} {b1 b2 : Nat} {e1 e2 : TypeId} {s1 s2 : Nat} {v1 v2 : Value} {n1 n2 : Nat} {xs1 xs2 : List Value} (h1 : w.ownsRow b1 e1 s1 v1 n1 xs1) (h2 : w.ownsRow b2 e2 s2 v2 n2 xs2) (he : e1 ≠ e2) : v1.ownBlock = none ∨ v1.ownBlock ≠ v2.ownBlock := by
  rcases h1.2 with ⟨rfl, _⟩ | ⟨g1, c1, cur1, rfl, _, k1, _⟩
  · exact .inl rfl
  · right
    rcases h2.2 with ⟨rfl, _⟩ | ⟨g2, c2, cur2, rfl, _, k2, _⟩
    · simp [Value.ownBlock]
    · simp only [Value.ownBlock, ne_eq, Option.some.injEq]
      rintro rfl
      rw [k1] at k2
      simp at k2
      exact he k2.2

theorem Bx.grown {w w' : World} {b : Nat} {cs : Array Value} {row : Option Nat} (h : Bx w b cs) (hg : w.grownBy w' row) (hn : some b ≠ row) : Bx w' b cs := by
  have hl := h.lt
  obtain ⟨t, h⟩ := h
  exact ⟨t, (hg.block b hl hn).trans h⟩

theorem new_cells (x : World) (c : Ce) (t : TypeId) : ∀ j u, (cv c).toList[j]? = some u → (x.alloc (.cells (cv c) t)).cell? ((⟨x.heap.size, 0, none⟩ : Addr).add j) = some u := by
  intro j u hj
  rw [add_plain, Nat.zero_add]
  exact (Bx.new x (cv c) t).cell (by simpa using hj)

theorem infoC : (Try.prog.info? 29).map (fun i => (i.zero, i.size, i.bytes)) = some (some (.agg (cv Ce.zero)), 8, 88) := by kernel_rfl

/-- A cell out of a slice is read. -/
theorem wpList_getM {w : World} {ops : Array Oper} {rest : List Oper} {o : Oper} {a : Act} {Q : Exit → Act → World → Prop} (x : Operand) (b k : Nat) (c : Ce) (hg : o.guard = none) (hop : o.op = Op.load 29 x) (hx : a.eval x = .pointer (some ⟨b, k, none⟩)) (h : w.rangeAt b k (cv c).toList)
    (hK : wpList Try.prog ops Q rest (a.put o.dst (.agg (cv c))) w) : wpList Try.prog ops Q (o :: rest) a w := by
  obtain ⟨d, hu, hd⟩ := tyR.row
  exact wpList_load_mid hg _ x hop b k hx (cv c).toList d h hu hd tyR.size (by simpa using hK)
theorem yields_mid {ops : Array Oper} {S : World → Prop} {op : Oper} {a : Act} {c : Ce} (hw : Region.wanted op (yielded ops a.tmps) = true) (x : Operand) (ho : op.op = .load 29 x)
    (b k : Nat) (hx : a.eval x = .pointer (some ⟨b, k, none⟩)) (hS : ∀ w, S w → w.rangeAt b k (cv c).toList) : YieldsIf Try.prog ops S op (.agg (cv c)) a := by
  obtain ⟨d, hu, hd⟩ := tyR.row
  have := yieldsIf_load_mid (P := Try.prog) (S := S) hw _ x ho b k hx (cv c).toList d hS hu hd tyR.size
  simpa using this
end Go.Proofs.Ytlefhhmggaaiiab
