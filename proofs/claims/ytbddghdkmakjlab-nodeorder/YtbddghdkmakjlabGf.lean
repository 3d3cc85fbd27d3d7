/-
  The contract of the document's Bytes of a cell over the translated program.
  Slices that came in, opened: of bytes, of ints, of bools, of rows of cells; no program is named here.
  Cells one behind the other: as they came in, their bytes together, the law's own slice of them.
  Texts in the order of their bytes: what stands between two of them. No program is named here.
-/
import Derived.Test.YtbddghdkmakjlabGe
import Derived.Test.YtbddghdkmakjlabGc
import Derived.Deep.Slices
import Derived.ProofKit
import Derived.OpenShut
import Derived.Laws.OwnMore
import Derived.Test.YtbddghdkmakjlabGa
import Derived.Test.YtbddghdkmakjlabGb
namespace Go.Proofs.Ytbddghdkmakjlab
set_option maxRecDepth 100000
set_option linter.unusedVariables false
open Go.RowKit

end Go.Proofs.Ytbddghdkmakjlab

namespace Go.Proofs.Ytbddghdkmakjlab
set_option maxRecDepth 100000
set_option linter.unusedVariables false
open Go.RowKit Go.ChangeShapes Go.WideShapes Go.ChangeAt

section
variable {H : Type} {enc : TypeId × Value → H} {P : Program} {w : World} {base : Nat} {spare : Nat → Bool} {held : Bool} {fuel : Nat} {t : TypeId} {cs : List Value} {x : DataW H × List MemPlace} {e : TypeId}

/-- A slice whose elements have c cells each. -/
theorem open_rows (ht : P.underlying t = some (.slice e)) (c : Nat) (ce : P.cellsOf e = c) (hc : 0 < c) (h : DataW.trod enc P w base spare held fuel t cs = some x) :
    ∃ a len cap, ∃ F : Nat → List Value, cs = [.slice a len cap] ∧ len ≤ cap ∧ cap ≤ maxLen ∧ ∀ i, i < len → (∃ b off, a = some ⟨b, off, none⟩ ∧ ∀ j, j < c → w.cell? ⟨b, off + (i * c + j), none⟩ = (F i)[j]?) ∧ (F i).length = c ∧ ∃ n y, DataW.trod enc P w base spare held n e (F i) = some y := by
  rcases Deep.open_slice ht h with ⟨rfl, _⟩ | ⟨a, len, cap, m, n, D, Pl, rfl, hb, hl, hm, hmm, rfl, hx⟩
  · exact ⟨none, 0, 0, fun _ => [], rfl, Nat.le_refl _, Nat.zero_le _, fun i hi => by omega⟩
  have hlm : len ≤ m := by rw [hmm]; split <;> omega
  have each : ∀ i, ∃ cs', i < len → w.cells? base (a.add (i * P.cellsOf e)) (P.cellsOf e) = some cs' ∧ DataW.trod enc P w base spare held n e cs' = some (D i, Pl i) := fun i => by
    by_cases hi : i < len
    · obtain ⟨cs', h1⟩ := hx i (by omega)
      exact ⟨cs', fun _ => h1⟩
    · exact ⟨[], fun h => absurd h hi⟩
  have ⟨F, hF⟩ := Classical.axiomOfChoice each
  refine ⟨some a, len, cap, F, rfl, hl, hm, fun i hi => ?_⟩
  obtain ⟨h1, h2⟩ := hF i hi
  obtain ⟨_, hlen, hcell⟩ := World.cells?_some h1
  rw [ce] at hlen hcell
  obtain ⟨b, off, spot⟩ := a
  have hspot : spot = none := by
    obtain ⟨g1, -⟩ := hF 0 (by omega)
    obtain ⟨_, hl0, hc0⟩ := World.cells?_some g1
    rw [ce] at hl0 hc0
    have := hc0 0 (by omega)
    rw [List.getElem?_eq_getElem (by omega)] at this
    simpa [Addr.add] using World.cell?_spot this
  subst hspot
  refine ⟨⟨b, off, rfl, fun j hj => ?_⟩, hlen, n, _, h2⟩
  have := hcell j hj
  rw [add_plain, add_plain, Nat.add_assoc] at this
  exact this

theorem open_bools (ht : P.underlying t = some (.slice e)) (he : P.underlying e = some .bool) (ce : P.cellsOf e = 1) (h : DataW.trod enc P w base spare held fuel t cs = some x) :
    ∃ a len cap, ∃ ks : List Bool, cs = [.slice a len cap] ∧ Rw w (.slice a len cap) (bo ks) := by
  obtain ⟨a, len, cap, F, rfl, hl, hm, hF⟩ := open_rows ht 1 ce (by omega) h
  have hb : ∀ i, ∃ b, i < len → F i = [.bool b] := fun i => by
    by_cases hi : i < len
    · obtain ⟨_, _, n, y, hy⟩ := hF i hi
      obtain ⟨b, e, _⟩ := DataW.trod_bool he hy
      exact ⟨b, fun _ => e⟩
    · exact ⟨false, fun h => absurd h hi⟩
  have ⟨K, hK⟩ := Classical.axiomOfChoice hb
  refine ⟨a, len, cap, (List.range len).map K, rfl, a, cap, by simp [bo], by simpa [bo] using hl, hm, fun i hi => ?_⟩
  have hi' : i < len := by simpa [bo] using hi
  obtain ⟨⟨b, off, ea, hc⟩, _⟩ := hF i hi'
  refine ⟨b, off, ea, ?_⟩
  have := hc 0 (by omega)
  rw [hK i hi', Nat.mul_one, Nat.add_zero] at this
  rw [this]
  simp [bo]

/-- Each fits its kind. -/
theorem open_nums {k : IntKind} (ht : P.underlying t = some (.slice e)) (he : P.underlying e = some (.int k)) (ce : P.cellsOf e = 1) (h : DataW.trod enc P w base spare held fuel t cs = some x) :
    ∃ a len cap, ∃ zs : List Int, cs = [.slice a len cap] ∧ Rw w (.slice a len cap) (zs.map (Value.int k)) ∧ ∀ z ∈ zs, (Lit.int k z).wf = true := by
  obtain ⟨a, len, cap, F, rfl, hl, hm, hF⟩ := open_rows ht 1 ce (by omega) h
  have hb : ∀ i, ∃ z, i < len → F i = [.int k z] ∧ (Lit.int k z).wf = true := fun i => by
    by_cases hi : i < len
    · obtain ⟨_, _, n, y, hy⟩ := hF i hi
      obtain ⟨b, e, _, hw⟩ := DataW.trod_int he hy
      exact ⟨b, fun _ => ⟨e, hw⟩⟩
    · exact ⟨0, fun h => absurd h hi⟩
  have ⟨K, hK⟩ := Classical.axiomOfChoice hb
  refine ⟨a, len, cap, (List.range len).map K, rfl, ⟨a, cap, by simp, by simpa using hl, hm, fun i hi => ?_⟩, fun z hz => ?_⟩
  · have hi' : i < len := by simpa using hi
    obtain ⟨⟨b, off, ea, hc⟩, _⟩ := hF i hi'
    refine ⟨b, off, ea, ?_⟩
    have := hc 0 (by omega)
    rw [(hK i hi').1, Nat.mul_one, Nat.add_zero] at this
    rw [this]
    simp
  · obtain ⟨i, hi, rfl⟩ := List.mem_map.1 hz
    exact (hK i (List.mem_range.1 hi)).2

end

theorem Rw.bytes {w : World} {v : Value} {zs : List Int} (h : Rw w v (zs.map (Value.int .u8))) (hz : ∀ z ∈ zs, (Lit.int .u8 z).wf = true) : Sl w v zs := by
  obtain ⟨a, cap, rfl, h1, h2, h3⟩ := h
  simp only [List.length_map] at h1 h3 ⊢
  refine ⟨a, cap, rfl, h1, h2, fun z hm => bounds_u8 (hz z hm), fun i hi => ?_⟩
  obtain ⟨b, off, ea, hc⟩ := h3 i hi
  refine ⟨b, off, ea, ?_⟩
  rw [hc, getD_at hi]
  simp

theorem open_bytes {H : Type} {enc : TypeId × Value → H} {P : Program} {w : World} {base : Nat} {spare : Nat → Bool} {held : Bool} {fuel : Nat} {t : TypeId} {cs : List Value} {x : DataW H × List MemPlace} {e : TypeId} (ht : P.underlying t = some (.slice e)) (he : P.underlying e = some (.int .u8)) (ce : P.cellsOf e = 1) (h : DataW.trod enc P w base spare held fuel t cs = some x) :
    ∃ a len cap, ∃ zs : List Int, cs = [.slice a len cap] ∧ Sl w (.slice a len cap) zs := by
  obtain ⟨a, len, cap, zs, rfl, h1, h2⟩ := open_nums ht he ce h
  exact ⟨a, len, cap, zs, rfl, h1.bytes h2⟩

/-- Ints. -/
def Is (w : World) (v : Value) (zs : List Int) : Prop := Rw w v (zs.map (Value.int .i64)) ∧ ∀ z ∈ zs, -9223372036854775808 ≤ z ∧ z ≤ 9223372036854775807

theorem open_is {H : Type} {enc : TypeId × Value → H} {P : Program} {w : World} {base : Nat} {spare : Nat → Bool} {held : Bool} {fuel : Nat} {t : TypeId} {cs : List Value} {x : DataW H × List MemPlace} {e : TypeId} (ht : P.underlying t = some (.slice e)) (he : P.underlying e = some (.int .i64)) (ce : P.cellsOf e = 1) (h : DataW.trod enc P w base spare held fuel t cs = some x) :
    ∃ a len cap, ∃ zs : List Int, cs = [.slice a len cap] ∧ Is w (.slice a len cap) zs := by
  obtain ⟨a, len, cap, zs, rfl, h1, h2⟩ := open_nums ht he ce h
  exact ⟨a, len, cap, zs, rfl, h1, fun z hz => bounds_i64 (h2 z hz)⟩
end Go.Proofs.Ytbddghdkmakjlab

namespace Go.Proofs.Ytbddghdkmakjlab
set_option maxRecDepth 100000
set_option linter.unusedVariables false
open Go.RowKit

/-- A slice of cells that is there. -/
def Cs (w : World) (v : Value) (L : List Ce) : Prop :=
  ∃ a cap, v = .slice a L.length cap ∧ L.length ≤ cap ∧ cap ≤ maxLen ∧ (∀ c ∈ L, c.Ok) ∧ ∀ i c, L[i]? = some c → ∃ b off, a = some ⟨b, off, none⟩ ∧ w.rangeAt b (off + i * 8) (cv c).toList

theorem rangeAt_later {w w' : World} {b o : Nat} {cs : List Value} {B : Nat} (h : w.rangeAt b o cs) (hb : Below B w w') (hl : b < B) : w'.rangeAt b o cs := fun j v hv => by rw [hb.cell (p := ⟨b, o + j, none⟩) hl]; exact h j v hv
theorem rangeAt_lt {w : World} {b o : Nat} {c : Ce} (h : w.rangeAt b o (cv c).toList) : b < w.heap.size := cell_lt (h 0 (.string c.N) rfl)

theorem open_cells {H : Type} {enc : TypeId × Value → H} {w : World} {base : Nat} {spare : Nat → Bool} {held : Bool} {fuel : Nat} {cs : List Value} {x : DataW H × List MemPlace}
    (h : DataW.trod enc Try.prog w base spare held fuel 22 cs = some x) : ∃ a len cap L, cs = [.slice a len cap] ∧ Cs w (.slice a len cap) L := by
  rcases Deep.open_slice Try.underlying22 h with ⟨rfl, _⟩ | ⟨a, len, cap, m, n, D, Pl, rfl, hb, hl, hm, hmm, rfl, hx⟩
  · exact ⟨none, 0, 0, [], rfl, none, 0, rfl, Nat.le_refl _, Nat.zero_le _, by simp, by simp⟩
  have hlm : len ≤ m := by rw [hmm]; split <;> omega
  have each : ∀ i : Fin len, ∃ c : Ce, c.Ok ∧ ∀ j v, (cv c).toList[j]? = some v → w.cell? (a.add (i.1 * 8 + j)) = some v := by
    intro i
    obtain ⟨cs', h1, h2⟩ := hx i.1 (by omega)
    rw [show Try.prog.cellsOf 34 = 8 by kernel_rfl] at h1
    obtain ⟨_, hlen, hcell⟩ := World.cells?_some h1
    obtain ⟨c, rfl, ok⟩ := open_ce h2
    refine ⟨c, ok, fun j v hv => ?_⟩
    have hj : j < 8 := (List.getElem?_eq_some_iff.1 hv).1
    have e := hcell j hj
    rw [Deep.add_add, hv] at e
    exact e
  have ⟨Q, hQ⟩ := Classical.axiomOfChoice each
  refine ⟨some a, len, cap, List.ofFn Q, rfl, some a, cap, by simp, by simpa using hl, hm, ?_, ?_⟩
  · intro q hq
    obtain ⟨i, rfl⟩ := List.mem_ofFn.1 hq
    exact (hQ i).1
  · intro i q hq
    have hi : i < len := by
      have := (List.getElem?_eq_some_iff.1 hq).1
      simpa using this
    have hq' : Q ⟨i, hi⟩ = q := by simpa [List.getElem?_ofFn, hi] using hq
    have d := (hQ ⟨i, hi⟩).2
    rw [hq'] at d
    obtain ⟨b, off, spot⟩ := a
    have hspot : spot = none := by
      have := (hQ ⟨0, by omega⟩).2 0 _ rfl
      simpa [Addr.add] using World.cell?_spot this
    subst hspot
    refine ⟨b, off, rfl, fun j v hv => ?_⟩
    have := d j v hv
    rw [add_plain] at this
    rw [Nat.add_assoc]
    exact this

/-- Their bytes. -/
def Ce.cat (F : List Ce) : List Int := F.flatMap Ce.put
/-- Their cells. -/
def cc (F : List Ce) : List Value := F.flatMap fun c => (cv c).toList

theorem Ce.cat_snoc (A : List Ce) (c : Ce) : Ce.cat (A ++ [c]) = Ce.cat A ++ Ce.put c := by simp [Ce.cat]
theorem Ce.cat_cons (c : Ce) (F : List Ce) : Ce.cat (c :: F) = Ce.put c ++ Ce.cat F := by simp [Ce.cat]
theorem Ce.cat_bd {F : List Ce} (h : ∀ c ∈ F, c.Ok ∧ c.may = true) : ∀ z ∈ Ce.cat F, 0 ≤ z ∧ z ≤ 255 := by
  intro z hz
  obtain ⟨q, hq, hz⟩ := List.mem_flatMap.1 hz
  exact Ce.put_bd (h q hq).2 z hz
theorem Ce.put_small {c : Ce} (h : c.may = true) : 1 ≤ (Ce.put c).length ∧ (Ce.put c).length ≤ 120 ∧ c.N.size + c.V.S.size + c.W.S.size ≤ 60 := by
  obtain ⟨h1, h2, h3, -⟩ := Ce.may_parts h
  have k1 := Ce.km_size h1
  have k2 := Va.may_ok h2
  have k3 := Va.may_ok h3
  have hp := Ce.put_len c
  rw [if_pos k1.1] at hp
  omega
theorem Ce.cat_len {F : List Ce} (h : ∀ c ∈ F, c.Ok ∧ c.may = true) : (Ce.cat F).length ≤ 120 * F.length := by
  induction F with
  | nil => simp [Ce.cat]
  | cons q F ih =>
    rw [Ce.cat_cons, List.length_append, List.length_cons]
    have h1 := ih (fun r hr => h r (List.mem_cons_of_mem _ hr))
    have h2 := Ce.put_small (h q (List.mem_cons_self ..)).2
    omega

theorem cc_snoc (A : List Ce) (c : Ce) : cc (A ++ [c]) = cc A ++ (cv c).toList := by simp [cc]
theorem cc_len (F : List Ce) : (cc F).length = F.length * 8 := by
  induction F with
  | nil => rfl
  | cons q F ih =>
    show ((cv q).toList ++ cc F).length = _
    rw [List.length_append, ih, List.length_cons]
    show 8 + _ = _
    omega
theorem cc_at {F : List Ce} : ∀ {i : Nat} {c : Ce}, F[i]? = some c → ∀ j v, (cv c).toList[j]? = some v → (cc F)[i * 8 + j]? = some v := by
  induction F with
  | nil => intro i c h; simp at h
  | cons p F ih =>
    intro i c h j v hv
    have hj : j < 8 := (List.getElem?_eq_some_iff.1 hv).1
    show ((cv p).toList ++ cc F)[i * 8 + j]? = some v
    cases i with
    | zero =>
      simp at h
      subst h
      rw [Nat.zero_mul, Nat.zero_add, List.getElem?_append_left (show j < 8 from hj)]
      exact hv
    | succ i =>
      rw [List.getElem?_append_right (show 8 ≤ (i + 1) * 8 + j by omega)]
      have e : (i + 1) * 8 + j - (cv p).toList.length = i * 8 + j := by show (i + 1) * 8 + j - 8 = _; omega
      rw [e]
      exact ih (by simpa using h) j v hv

/-- What the law has made and owns is there. -/
theorem Cs.own {w : World} {base : Nat} {e : TypeId} {v : Value} {n : Nat} {F : List Ce} (h : w.ownsRow base e 8 v n (cc F)) (hF : ∀ q ∈ F, q.Ok) : Cs w v F := by
  have hl := h.1
  rw [cc_len] at hl
  obtain rfl : n = F.length := by omega
  rcases h.2 with ⟨rfl, h0⟩ | ⟨g, cap, cur, rfl, _, hg, h1, h2, _, _⟩
  · refine ⟨none, 0, by rw [h0], by omega, by unfold maxLen; omega, hF, fun i q hq => ?_⟩
    have := (List.getElem?_eq_some_iff.1 hq).1
    omega
  · refine ⟨_, cap, rfl, h1, h2, hF, fun i q hq => ⟨g, 0, rfl, fun j u hu => ?_⟩⟩
    have hi := (List.getElem?_eq_some_iff.1 hq).1
    have hj : j < 8 := (List.getElem?_eq_some_iff.1 hu).1
    rw [Nat.zero_add, h.cellAt (i * 8 + j) (by omega)]
    exact cc_at hq j u hu

/-- Two rows of different types lie apart. -/
theorem own_apart {w : World} {b1 b2 : Nat} {e1 e2 : TypeId} {s1 s2 : Nat} {v1 v2 : Value} {n1 n2 : Nat} {xs1 xs2 : List Value} (h1 : w.ownsRow b1 e1 s1 v1 n1 xs1) (h2 : w.ownsRow b2 e2 s2 v2 n2 xs2) (he : e1 ≠ e2) : v1.ownBlock = none ∨ v1.ownBlock ≠ v2.ownBlock := by
  rcases h1.2 with ⟨rfl, _⟩ | ⟨g1, c1, cur1, rfl, _, k1, _⟩
  · exact .inl rfl
  · right
    rcases h2.2 with ⟨rfl, _⟩ | ⟨g2, c2, cur2, rfl, _, k2, _⟩
    · simp [Value.ownBlock]
    · simp only [Value.ownBlock, ne_eq, Option.some.injEq]
      rintro rfl
      rw [k1] at k2
      simp at k2
      exact he k2.2

theorem Bx.grown {w w' : World} {b : Nat} {cs : Array Value} {row : Option Nat} (h : Bx w b cs) (hg : w.grownBy w' row) (hn : some b ≠ row) : Bx w' b cs := by
  have hl := h.lt
  obtain ⟨t, h⟩ := h
  exact ⟨t, (hg.block b hl hn).trans h⟩

theorem new_cells (x : World) (c : Ce) (t : TypeId) : ∀ j u, (cv c).toList[j]? = some u → (x.alloc (.cells (cv c) t)).cell? ((⟨x.heap.size, 0, none⟩ : Addr).add j) = some u := by
  intro j u hj
  rw [add_plain, Nat.zero_add]
  exact (Bx.new x (cv c) t).cell (by simpa using hj)

theorem infoC : (Try.prog.info? 34).map (fun i => (i.zero, i.size, i.bytes)) = some (some (.agg (cv Ce.zero)), 8, 88) := by kernel_rfl

/-- A cell out of a slice is read. -/
theorem wpList_getM {w : World} {ops : Array Oper} {rest : List Oper} {o : Oper} {a : Act} {Q : Exit → Act → World → Prop} (x : Operand) (b k : Nat) (c : Ce) (hg : o.guard = none) (hop : o.op = Op.load 34 x) (hx : a.eval x = .pointer (some ⟨b, k, none⟩)) (h : w.rangeAt b k (cv c).toList)
    (hK : wpList Try.prog ops Q rest (a.put o.dst (.agg (cv c))) w) : wpList Try.prog ops Q (o :: rest) a w := by
  obtain ⟨d, hu, hd⟩ := tyR.row
  exact wpList_load_mid hg _ x hop b k hx (cv c).toList d h hu hd tyR.size (by simpa using hK)
theorem yields_mid {ops : Array Oper} {S : World → Prop} {op : Oper} {a : Act} {c : Ce} (hw : Region.wanted op (yielded ops a.tmps) = true) (x : Operand) (ho : op.op = .load 34 x)
    (b k : Nat) (hx : a.eval x = .pointer (some ⟨b, k, none⟩)) (hS : ∀ w, S w → w.rangeAt b k (cv c).toList) : YieldsIf Try.prog ops S op (.agg (cv c)) a := by
  obtain ⟨d, hu, hd⟩ := tyR.row
  have := yieldsIf_load_mid (P := Try.prog) (S := S) hw _ x ho b k hx (cv c).toList d hS hu hd tyR.size
  simpa using this
end Go.Proofs.Ytbddghdkmakjlab

namespace Go.Proofs.Ytbddghdkmakjlab
set_option maxRecDepth 100000
set_option linter.unusedVariables false
namespace Ky

abbrev bl := Op.bytesLess

theorem bl_nil (x : List UInt8) : bl x [] = false := by cases x <;> rfl
theorem bl_cons (a b : UInt8) (x y : List UInt8) : bl (a :: x) (b :: y) = (decide (a < b) || (a == b && bl x y)) := rfl
theorem bl_first (b : UInt8) (y : List UInt8) : bl [] (b :: y) = true := rfl
theorem bl_irr (x : List UInt8) : bl x x = false := by
  induction x with
  | nil => rfl
  | cons a x ih => simp [bl_cons, ih]
theorem bl_trans {x y z : List UInt8} (h : bl x y = true) (g : bl y z = true) : bl x z = true := by
  induction x generalizing y z with
  | nil =>
    cases z with
    | nil => rw [bl_nil] at g; cases g
    | cons c z => rfl
  | cons a x ih =>
    cases y with
    | nil => rw [bl_nil] at h; cases h
    | cons b y =>
      cases z with
      | nil => rw [bl_nil] at g; cases g
      | cons c z =>
        rw [bl_cons] at h g ⊢
        simp only [Bool.or_eq_true, decide_eq_true_eq, Bool.and_eq_true, beq_iff_eq, UInt8.lt_iff_toNat_lt] at h g ⊢
        rcases h with h | ⟨rfl, h⟩
        · rcases g with g | ⟨rfl, g⟩
          · left; omega
          · left; exact h
        · rcases g with g | ⟨rfl, g⟩
          · left; exact g
          · right; exact ⟨rfl, ih h g⟩
theorem bl_tri {x y : List UInt8} (h : bl x y = false) (g : bl y x = false) : x = y := by
  induction x generalizing y with
  | nil =>
    cases y with
    | nil => rfl
    | cons b y => cases h
  | cons a x ih =>
    cases y with
    | nil => cases g
    | cons b y =>
      rw [bl_cons] at h g
      simp only [Bool.or_eq_false_iff, decide_eq_false_iff_not, Bool.and_eq_false_imp, beq_iff_eq, UInt8.lt_iff_toNat_lt] at h g
      have e : a = b := UInt8.toNat_inj.1 (by omega)
      subst e
      rw [ih (h.2 rfl) (g.2 rfl)]
/-- 'x <= y' is 'not y < x'. -/
theorem le_not (x y : List UInt8) : (bl x y || x == y) = !bl y x := by
  cases h : bl y x
  · cases g : bl x y
    · have := bl_tri g h
      simp [this]
    · rfl
  · cases g : bl x y
    · have : x ≠ y := by
        rintro rfl
        rw [bl_irr] at h
        cases h
      simp [this]
    · have := bl_trans h g
      rw [bl_irr] at this
      cases this
theorem bl_asym {x y : List UInt8} (h : bl x y = true) : bl y x = false := by
  cases g : bl y x
  · rfl
  · have := bl_trans h g
    rw [bl_irr] at this
    cases this
/-- 'not x < y, not y < z': 'not x < z'. -/
theorem ge_trans {x y z : List UInt8} (h : bl x y = false) (g : bl y z = false) : bl x z = false := by
  cases k : bl x z
  · rfl
  · cases j : bl y x
    · have := bl_tri h j
      subst this
      rw [g] at k
      cases k
    · rw [bl_trans j k] at g
      cases g

/-- How far two texts are one. -/
def cp : List UInt8 → List UInt8 → Nat
  | a :: x, b :: y => if a = b then cp x y + 1 else 0
  | _, _ => 0

theorem cp_lt {x y : List UInt8} (h : bl x y = true) : cp x y < y.length := by
  induction x generalizing y with
  | nil =>
    cases y with
    | nil => cases h
    | cons b y => simp [cp]
  | cons a x ih =>
    cases y with
    | nil => cases h
    | cons b y =>
      rw [bl_cons] at h
      simp only [cp, List.length_cons]
      split
      · rename_i e
        subst e
        simp only [Bool.or_eq_true, decide_eq_true_eq, Bool.and_eq_true, beq_iff_eq, UInt8.lt_iff_toNat_lt] at h
        rcases h with h | ⟨_, h⟩
        · omega
        · have := ih h
          omega
      · omega
theorem cp_le (x y : List UInt8) : cp x y ≤ x.length := by
  induction x generalizing y with
  | nil => simp [cp]
  | cons a x ih =>
    cases y with
    | nil => simp [cp]
    | cons b y =>
      have := ih y
      simp only [cp, List.length_cons]
      split <;> omega
/-- Up to there they are one. -/
theorem cp_same {x y : List UInt8} {k : Nat} (h : k < cp x y) : x.getD k 0 = y.getD k 0 := by
  induction x generalizing y k with
  | nil => simp [cp] at h
  | cons a x ih =>
    cases y with
    | nil => simp [cp] at h
    | cons b y =>
      simp only [cp] at h
      split at h
      · rename_i e
        subst e
        cases k with
        | zero => rfl
        | succ k => simpa using ih (y := y) (k := k) (by omega)
      · omega
/-- There they part. -/
theorem cp_other {x y : List UInt8} (h : cp x y < x.length) (g : cp x y < y.length) : x.getD (cp x y) 0 ≠ y.getD (cp x y) 0 := by
  induction x generalizing y with
  | nil => simp at h
  | cons a x ih =>
    cases y with
    | nil => simp at g
    | cons b y =>
      simp only [cp] at h g ⊢
      split at h
      · rename_i e
        rw [if_pos e] at g ⊢
        simp only [List.length_cons] at h g
        simpa using ih (y := y) (by omega) (by omega)
      · rename_i e
        rw [if_neg e]
        simpa using e
/-- Which beginnings of the greater one are above the other one. -/
theorem bl_take {x y : List UInt8} (h : bl x y = true) (n : Nat) : bl x (y.take n) = decide (cp x y < n) := by
  induction x generalizing y n with
  | nil =>
    cases y with
    | nil => cases h
    | cons b y =>
      cases n with
      | zero => rfl
      | succ n => simp [cp, bl_first]
  | cons a x ih =>
    cases y with
    | nil => cases h
    | cons b y =>
      cases n with
      | zero => simp [bl_nil]
      | succ n =>
        rw [bl_cons] at h
        rw [List.take_succ_cons, bl_cons]
        simp only [Bool.or_eq_true, decide_eq_true_eq, Bool.and_eq_true, beq_iff_eq] at h
        by_cases e : a = b
        · subst e
          have hi : ¬ a < a := by rw [UInt8.lt_iff_toNat_lt]; omega
          rcases h with h | ⟨_, h⟩
          · exact absurd h hi
          · rw [ih h n]
            simp [cp, hi]
        · rcases h with h | ⟨h, _⟩
          · simp [cp, e, h]
          · exact absurd h e
/-- A beginning is not above the whole. -/
theorem bl_head (y : List UInt8) (n : Nat) : bl y (y.take n) = false := by
  induction y generalizing n with
  | nil => simp [bl_nil]
  | cons b y ih =>
    cases n with
    | zero => rfl
    | succ n =>
      have hi : ¬ b < b := by rw [UInt8.lt_iff_toNat_lt]; omega
      rw [List.take_succ_cons, bl_cons, ih]
      simp [hi]

/-- A text's beginning, and what is left. -/
theorem ext_head (s : ByteArray) (n : Nat) : (s.extract 0 n).toList = s.toList.take n := by
  rw [ByteArray.toList_eq, ByteArray.toList_eq]
  simp
theorem ext_rest (s : ByteArray) (n : Nat) : (s.extract n s.size).toList = s.toList.drop n := by
  rw [ByteArray.toList_eq, ByteArray.toList_eq]
  simp
  exact List.take_of_length_le (by simp)
theorem list_len (s : ByteArray) : s.toList.length = s.size := by rw [ByteArray.toList_eq]; simp
theorem list_inj {s t : ByteArray} (h : s.toList = t.toList) : s = t := by
  rw [ByteArray.toList_eq, ByteArray.toList_eq] at h
  exact ByteArray.ext (Array.toList_inj.1 h)
theorem sb_list (s : ByteArray) : sb s = s.toList.map fun b => (b.toNat : Int) := by rw [ByteArray.toList_eq]; rfl

/-- The text between two. -/
def mid (s t : ByteArray) : ByteArray := if bl s.toList t.toList then t.extract 0 (cp s.toList t.toList + 1) else ⟨#[]⟩

/-- What a key of a float says. -/
def kf (zs : List Int) : Nat × Bool := if zs.head? = some 102 then Fl.fo zs.tail else (0, false)
def key (x : Nat) : List Int := 102 :: Fl.be (Fl.rk x)
theorem key_bd (x : Nat) : ∀ z ∈ key x, 0 ≤ z ∧ z ≤ 255 := by
  intro z hz
  simp only [key, List.mem_cons] at hz
  rcases hz with rfl | hz
  · decide
  · exact Fl.be_bd _ z hz
theorem key_len (x : Nat) : (key x).length = 9 := by simp [key, Fl.be_len]
theorem kf_key {x : Nat} (hx : x < 18446744073709551616) : kf (key x) = (Fl.cl x, true) := by
  unfold kf key
  simp [Fl.fo_be hx]
end Ky
end Go.Proofs.Ytbddghdkmakjlab
